/-
  cardexlaw03's walks: lives, CrcOn, CrcTells, CrcSide, CrcJoins.
-/
import Derived.Test.YtjlkhemdahahpaaDoorCrc
import Derived.Test.YtjlkhemdahahpaaDoorCrcRef
import Derived.Test.YtjlkhemdahahpaaDoorRef00
import Derived.Lib.SlBytesConst
namespace Go.Proofs.YtjlkhemdahahpaaDoor
open Go.RowKit

theorem of_digits : crc.of [49, 50, 51, 52, 53, 54, 55, 56, 57] = 3808858755#32 := by decide +kernel
theorem of_zeros : crc.of (List.replicate 32 0) = 2324772522#32 := by decide +kernel
theorem of_ones : crc.of (List.replicate 32 255) = 1655221059#32 := by decide +kernel
theorem of_both : crc.join (crc.of [49, 50, 51, 52]) (crc.of [53, 54, 55, 56, 57]) 5 = 3808858755#32 := by decide +kernel
theorem into_128 : crc.into 0#32 128 = 2197175160#32 := by decide +kernel

/-- bytes in a new block, with a mark -/
theorem BS.litM (w : World) (e : TypeId) (l : List UInt8) (cs : Array Value) (fr : Nat × Nat) (hcs : cs = (l.map bv).toArray) (n : Nat) (hn : n = l.length) (hs : n ≤ 281474976710656) : BS (w.alloc (.cells cs e fr)) (some ⟨w.heap.size, 0, none⟩) n n l := by
  subst hcs hn
  refine ⟨rfl, Nat.le_refl _, by omega, hs, fun _ => ⟨_, _, rfl, by simp, fun i hi => ?_⟩⟩
  rw [Nat.zero_add]
  rw [cell_of_row _ _ i (l.map bv).toArray e fr (heap_alloc_new w _)]
  simp [hi]

/-- Of, of bytes in a new block -/
theorem of_lit (w : World) (ht : Tab w) (l : List UInt8) (x : crc.W) (hx : Hid (crc.of l = x)) (cs : Array Value) (fr : Nat × Nat) (hcs : cs = (l.map bv).toArray) (n : Nat) (hn : n = l.length) (hs : n ≤ 281474976710656) :
    Calls Tryd.prog 16 #[.slice (some ⟨w.heap.size, 0, none⟩) n n] (w.alloc (.cells cs 5 fr)) fun e w' => e = .returned (wv x) ∧ Below w.heap.size w w' :=
  (of_any _ _ _ l _ (BS.litM w _ l cs fr hcs n hn hs) (ht.alloc _)).mono fun _ _ h => ⟨by rw [← hx.out]; exact h.1, h.2 ▸ (Below.refl _ _).alloc (Nat.le_refl _) _⟩

set_option maxHeartbeats 4000000 in
set_option maxRecDepth 100000 in
theorem lives_any (w : World) (ht : Tab w) : Calls Tryd.prog 19 #[] w fun e w' => e = .returned (.bool true) ∧ Below w.heap.size w w' := by
  obtain ⟨i0, hi, hz0, hz1, hz2⟩ := info_parts info_u8
  have hmk := fun W => run_make_bytes (P := Tryd.prog) 23 5 i0 Tryd.underlying23 hi hz0 hz1 hz2 .i64 .i64 32 (by omega) W
  simp only [show ((32 : Nat) : Int) = 32 from rfl] at hmk
  have kc := fun (w : World) (C : Array Value) (n c : Nat) => Lib.run_convert_bytes_const (P := Tryd.prog) w 23 5 C n c Tryd.underlying23 Tryd.underlying5
  have HD := Lib.hid of_digits
  have HZ := Lib.hid of_zeros
  have HO := Lib.hid of_ones
  have HB := Lib.hid of_both
  have HI := Lib.hid into_128
  go_enter Tryd.func19, Tryd.ntmps19
  go_wp2_with fail
  go_loopw [2] (fun i wr => ∃ j : Nat, j ≤ 32 ∧ i = .int .i64 j ∧ RowB 5 wr w.heap.size (List.replicate j 255 ++ List.replicate (32 - j) 0) ∧ Below w.heap.size w wr) (fun i _ => 32 - (intOf i).toNat)
  case atStart => exact ⟨0, by omega, rfl, zeroB_row w 5 32, (Below.refl _ _).alloc (Nat.le_refl _) _⟩
  case round =>
    obtain ⟨j, hj, rfl, hr, hb⟩ := hrel
    by_cases hlt : j < 32
    · have hc := hr.cell (i := j) (by simp; omega)
      have hf := hr.frozen j
      go_wp2
      go_roundw
      case rel =>
        refine ⟨j + 1, by omega, by go_num, ?_, hb.setCell (Nat.le_refl _) _⟩
        have h1 := hr.set_ j 255
        rw [List.set_append_right _ _ (by simp), List.length_replicate, Nat.sub_self, show 32 - j = (32 - (j + 1)) + 1 from by omega, List.replicate_succ, List.set_cons_zero] at h1
        rw [List.replicate_succ', List.append_assoc]
        exact h1
      case measure => simp [intOf]; omega
    · obtain rfl : j = 32 := by omega
      simp only [Nat.sub_self, List.replicate_zero, List.append_nil] at hr
      have ht0 := ht.below hb
      obtain ⟨s1, h1⟩ : ∃ s, crc.of [49, 50, 51, 52] = s := ⟨_, rfl⟩
      obtain ⟨s2, h2⟩ : ∃ s, crc.of [53, 54, 55, 56, 57] = s := ⟨_, rfl⟩
      have hB := HB.out
      rw [h1, h2] at hB
      have HB2 := Lib.hid hB
      have H1 := Lib.hid h1
      have H2 := Lib.hid h2
      clear h1 h2 hB HB
      go_wp2_with fail
      refine (of_lit _ ht0 _ s1 H1 _ _ rfl 4 rfl (by omega)).mono ?_
      rintro e w1 ⟨rfl, hb1⟩
      have ht1 := ht0.below hb1
      have hr1 := hr.below hb1 hr.lt
      have hb' := hb.trans (hb1.mono hb.size)
      go_wp2_with fail
      refine (of_lit _ ht1 _ s2 H2 _ _ rfl 5 rfl (by omega)).mono ?_
      rintro e w2 ⟨rfl, hb2⟩
      have ht2 := ht1.below hb2
      have hr2 := hr1.below hb2 hr1.lt
      have hb'' := hb'.trans (hb2.mono hb'.size)
      clear ht0 hb1 hr hb hr1 ht1 hb2 hb'
      go_wp2_with fail
      refine (of_any _ _ _ [] _ (BS.nil_ _) ht2).mono ?_
      rintro e w3 ⟨rfl, rfl⟩
      rw [crc.of_nil]
      go_wp2_with fail
      refine (of_lit _ ht2 _ _ HD _ _ rfl 9 rfl (by omega)).mono ?_
      rintro e w3 ⟨rfl, hb3⟩
      have ht3 := ht2.below hb3
      have hr3 := hr2.below hb3 hr2.lt
      have hb4 := hb''.trans (hb3.mono hb''.size)
      clear ht2 hr2 hb'' hb3
      go_wp2_with fail
      refine (of_lit _ ht3 _ _ HZ _ _ rfl 32 rfl (by omega)).mono ?_
      rintro e w4 ⟨rfl, hb5⟩
      have ht4 := ht3.below hb5
      have hr4 := hr3.below hb5 hr3.lt
      have hb6 := hb4.trans (hb5.mono hb4.size)
      clear ht3 hr3 hb4 hb5
      go_wp2_with fail
      have hbs := (hr4.own_all (base := w.heap.size) (Nat.le_refl _) (by simp)).bs
      rw [List.length_replicate] at hbs
      refine (of_any _ _ _ _ _ hbs ht4).mono ?_
      rintro e w5 ⟨rfl, rfl⟩
      rw [HO.out]
      clear hbs
      have HI1 := Lib.hid (into_any 0#32 128 _ ht4)
      rw [HI.out] at HI1
      have HJ := Lib.hid (join_any s1 s2 5 w4 (by omega))
      rw [show (5 : Int).toNat = 5 from rfl, HB2.out] at HJ
      go_wp2_with fail
      refine (on_any 1#32 0 _ (by omega)).mono ?_
      rintro e w5 ⟨rfl, rfl⟩
      rw [show crc.on (8 * (0 : Int).toNat) 1#32 = 1#32 from rfl]
      go_wp2_with fail
      refine HI1.out.mono ?_
      rintro e w5 ⟨rfl, rfl⟩
      go_wp2_with fail
      refine HJ.out.mono ?_
      rintro e w5 ⟨rfl, rfl⟩
      go_wp2_with fail
      go_ret
      exact ⟨rfl, hb6⟩

theorem u32_word {a : Int} (w : (Lit.int .u32 a).wf = true) : ∃ x : crc.W, a = (x.toNat : Int) := by
  obtain ⟨n, rfl, hn⟩ := u32_nat w
  refine ⟨BitVec.ofNat 32 n, ?_⟩
  rw [BitVec.toNat_ofNat]
  omega
theorem into_zero (x : crc.W) : crc.into x 0 = crc.on 8 x := by
  unfold crc.into
  rw [show crc.wb 0 = 0#32 from rfl, BitVec.xor_zero]
end Go.Proofs.YtjlkhemdahahpaaDoor
