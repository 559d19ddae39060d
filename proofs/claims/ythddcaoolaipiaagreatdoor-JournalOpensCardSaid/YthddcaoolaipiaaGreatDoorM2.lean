/-
  contracts of cardexref03's functions: bit, On, Into, turned, More, Of, Join.
-/
import Derived.Test.YthddcaoolaipiaaGreatDoorM1
import Derived.Deep.RegionHeldLaw
import Derived.StillTailTactics
import Derived.Deep.DeepCutAuto
namespace Go.Proofs.YthddcaoolaipiaaGreatDoor
open Go.RowKit

theorem wv_bit_eq (x : crc.W) : (bits .and .u32 (x.toNat : Int) 1 == 0) = !x.getLsbD 0 := by
  rw [wv_bit]
  cases x.getLsbD 0 <;> rfl
theorem rbit_any (x : crc.W) (w : World) : Calls Tryz.prog 125 #[wv x] w fun e w' => e = .returned (wv (crc.one x)) ∧ w = w' := by
  go_enter Tryz.func125, Tryz.ntmps125
  go_wp2
  all_goals go_ret
  · next h =>
    rw [wv_bit_eq] at h
    refine ⟨wv_ret ?_, rfl⟩
    rw [wv_half, crc.one_even x (by simpa using h)]
  · next h =>
    rw [wv_bit_eq] at h
    refine ⟨wv_ret ?_, rfl⟩
    rw [wv_half]
    refine (wv_xor _ 2197175160#32).trans ?_
    rw [crc.one, if_pos (by simpa using h)]

theorem ron_any (x : crc.W) (n : Int) (w : World) (hn : n ≤ 9223372036854775807) : Calls Tryz.prog 123 #[wv x, .int .i64 n] w fun e w' => e = .returned (wv (crc.on (8 * n.toNat) x)) ∧ w = w' := by
  go_enter Tryz.func123, Tryz.ntmps123
  go_wp2_with fail
  go_loop [0, 5] (fun r i => ∃ j : Nat, j ≤ n.toNat ∧ i = .int .i64 j ∧ r = wv (crc.on (8 * j) x)) (fun _ i => n.toNat - (intOf i).toNat)
  case atStart => exact ⟨0, by omega, rfl, rfl⟩
  case round =>
    obtain ⟨j, hj, rfl, rfl⟩ := hrel
    by_cases hlt : j < n.toNat
    · have hlt' : (j : Int) < n := by omega
      go_wp2_with fail
      go_loop [0, 6] (fun r i => ∃ k : Nat, k ≤ 8 ∧ i = .int .i64 k ∧ r = wv (crc.on (8 * j + k) x)) (fun _ i => 8 - (intOf i).toNat)
      case atStart => exact ⟨0, by omega, rfl, rfl⟩
      case round =>
        obtain ⟨k, hk, rfl, rfl⟩ := hrel
        by_cases hk8 : k < 8
        · go_wp2_with (go_at_call 125; refine (rbit_any _ _).mono ?_; rintro e w1 ⟨rfl, rfl⟩)
          go_roundw
          case rel => exact ⟨k + 1, by omega, by go_num, by rw [← crc.on_succ', Nat.add_assoc]⟩
          case measure => simp [intOf]; omega
        · obtain rfl : k = 8 := by omega
          go_wp2
          go_roundw
          case rel => exact ⟨j + 1, by omega, by go_num, rfl⟩
          case measure => simp [intOf]; omega
    · obtain rfl : j = n.toNat := by omega
      have hlt' : ¬ ((n.toNat : Nat) : Int) < n := by omega
      go_wp2
      go_ret
      exact ⟨rfl, rfl⟩

theorem rinto_any (x : crc.W) (c : UInt8) (w : World) : Calls Tryz.prog 120 #[wv x, bv c] w fun e w' => e = .returned (wv (crc.into x c)) ∧ w = w' := by
  have hc := c.toNat_lt
  obtain ⟨y, hy⟩ : ∃ y : crc.W, y = x ^^^ crc.wb c := ⟨_, rfl⟩
  have e1 : bits .xor .u32 (x.toNat : Int) (c.toNat : Int) = (y.toNat : Int) := by rw [u8_word, wv_xor, hy]
  have e2 : crc.into x c = crc.on 8 y := by rw [hy]; rfl
  have HY := Lib.hid e2
  have H4 := Lib.hid (ron_any y 1 w (by omega))
  clear hy e2
  go_enter Tryz.func120, Tryz.ntmps120
  go_wp2_with fail
  refine H4.out.mono ?_
  rintro e w1 ⟨rfl, rfl⟩
  go_wp2_with fail
  go_ret
  refine ⟨congrArg Ending.returned (congrArg wv ?_), rfl⟩
  rw [HY.out]

theorem rturned_any (x : crc.W) (w : World) : Calls Tryz.prog 110 #[wv x] w fun e w' => e = .returned (wv (~~~ x)) ∧ w = w' := by
  have hx := x.isLt
  have e1 : (4294967295 : Int) - (x.toNat : Int) = ((~~~ x).toNat : Int) := by rw [BitVec.toNat_not]; omega
  have E1 := Lib.hid e1
  clear e1
  go_enter Tryz.func110, Tryz.ntmps110
  go_wp2
  go_ret
  exact ⟨wv_ret E1.out, rfl⟩

theorem rmore_any (s : crc.W) (A : Option Addr) (n c : Nat) (l : List UInt8) (w : World) (hB : BS w A n c l) : Calls Tryz.prog 109 #[wv s, .slice A n c] w fun e w' => e = .returned (wv (crc.more s l)) ∧ w = w' := by
  obtain ⟨t, ht⟩ : ∃ t : crc.W, ~~~ s = t := ⟨_, rfl⟩
  have HT := Lib.hid ht
  have H1 := Lib.hid (rturned_any s w)
  rw [ht] at H1
  clear ht
  go_enter Tryz.func109, Tryz.ntmps109
  go_wp2_with fail
  refine H1.out.mono ?_
  rintro e w1 ⟨rfl, rfl⟩
  go_wp2_with fail
  go_loop [1, 5] (fun b r => ∃ (A' : Option Addr) (k c' : Nat) (m : List UInt8) (y : crc.W), b = .slice A' k c' ∧ r = wv y ∧ BS w A' k c' m ∧ Hid (crc.go t l = crc.go y m)) (fun b _ => lenV b)
  case atStart => exact ⟨A, n, c, l, t, rfl, rfl, hB, Lib.hid rfl⟩
  case round =>
    obtain ⟨A', k, c', m, y, rfl, rfl, hb, HG⟩ := hrel
    have hcap := hb.cap
    have hmax := hb.max
    by_cases h0 : 0 < k
    · obtain ⟨b, o, rfl, hbl, hcell⟩ := hb.has h0
      obtain ⟨x, m', rfl⟩ : ∃ x m', m = x :: m' := by
        cases m with
        | nil => have := hb.len; simp at this; omega
        | cons x m' => exact ⟨x, m', rfl⟩
      have hx := hcell 0 (by simp)
      rw [Nat.add_zero] at hx
      simp only [List.getElem_cons_zero] at hx
      clear hcell
      have hnext : BS w (some ⟨b, o + 1, none⟩) (k - 1) (c' - 1) m' := by
        rcases Nat.eq_or_lt_of_le h0 with h1 | h1
        · have hl := hb.len
          obtain rfl : m' = [] := List.eq_nil_of_length_eq_zero (by simp at hl; omega)
          rw [show k - 1 = 0 from by omega]
          exact BS.empty (by omega)
        · have := drop_bs hb (j := 1) (by omega)
          simpa [Addr.add_lit] using this
      have hnext0 : ∀ A2, k = 1 → BS w A2 0 (c' - 1) m' := fun A2 h1 => by
        have hl := hb.len
        obtain rfl : m' = [] := List.eq_nil_of_length_eq_zero (by simp at hl; omega)
        exact BS.empty (by omega)
      have HI := Lib.hid (rinto_any y x w)
      obtain ⟨z, hz⟩ : ∃ z : crc.W, crc.into y x = z := ⟨_, rfl⟩
      rw [hz] at HI
      have hgo : crc.go t l = crc.go z m' := by rw [HG.out, ← hz]; rfl
      have HG2 := Lib.hid hgo
      clear hz hgo HG
      go_wp2_with fail
      refine HI.out.mono ?_
      rintro e w1 ⟨rfl, rfl⟩
      go_wp2_with fail
      go_roundw
      case rel =>
        by_cases hc1 : c' = 1
        · have hk1 : k = 1 := by omega
          refine ⟨_, k - 1, c' - 1, m', z, rfl, rfl, ?_, HG2⟩
          rw [show k - 1 = 0 from by omega]
          exact hnext0 _ hk1
        · rw [if_neg hc1]
          exact ⟨_, _, _, m', z, rfl, rfl, hnext, HG2⟩
      case measure => simp [lenV]; omega
    · obtain rfl : k = 0 := by omega
      obtain rfl : m = [] := List.eq_nil_of_length_eq_zero hb.len
      go_wp2_with fail
      refine (rturned_any y _).mono ?_
      rintro e w1 ⟨rfl, rfl⟩
      go_wp2_with fail
      go_ret
      refine ⟨congrArg Ending.returned (congrArg wv ?_), rfl⟩
      rw [crc.more, HT.out, HG.out]
      rfl

theorem rof_any (A : Option Addr) (n c : Nat) (l : List UInt8) (w : World) (hB : BS w A n c l) : Calls Tryz.prog 93 #[.slice A n c] w fun e w' => e = .returned (wv (crc.of l)) ∧ w = w' := by
  have H1 := Lib.hid (rturned_any 4294967295#32 w)
  rw [show ~~~ (4294967295#32 : crc.W) = 0#32 from by decide] at H1
  go_enter Tryz.func93, Tryz.ntmps93
  go_wp2_with fail
  refine H1.out.mono ?_
  rintro e w1 ⟨rfl, rfl⟩
  go_wp2_with fail
  refine (rmore_any 0#32 _ _ _ l _ hB).mono ?_
  rintro e w1 ⟨rfl, rfl⟩
  go_wp2_with fail
  go_ret
  exact ⟨rfl, rfl⟩

end Go.Proofs.YthddcaoolaipiaaGreatDoor

/-
  contracts of cardexref05: ends, Put.
-/
namespace Go.Proofs.YthddcaoolaipiaaGreatDoor
open Go.RowKit

theorem put8 (n : Nat) (h : n < 18446744073709551616) : putOk n 8 = true := by
  simp [putOk, isSz]
  exact h
theorem put4 (n : Nat) (h : n < 4294967296) : putOk n 4 = true := by
  simp [putOk, isSz]
  exact h
theorem bs_of_block5 {W : World} {g : Nat} {e : TypeId} {p : List UInt8} {fr : Nat × Nat} (h : W.heap[g]? = some (.cells ((p.map bv).toArray) e fr)) (n : Nat) (hn : n = p.length) (hs : n ≤ 281474976710656) : BS W (some ⟨g, 0, none⟩) n n p :=
  ⟨hn.symm, Nat.le_refl _, by omega, hs, fun _ => ⟨g, 0, rfl, (Array.getElem?_eq_some_iff.1 h).1, fun i hi => by
    rw [Nat.zero_add, cell_of_row _ _ _ _ _ _ h]
    simp [hi]⟩⟩
set_option maxHeartbeats 1000000 in
theorem rends_any (n : Nat) (hn : n < 18446744073709551616) (w : World) : Calls Tryz.prog 92 #[.int .u64 n] w fun e w' =>
    ∃ A1 c1 A2 c2, e = .returned (.tuple #[.slice A1 8 c1, .slice A2 8 c2]) ∧ OwnB 5 w' w.heap.size (.slice A1 8 c1) (leBytes n 8) ∧ OwnB 5 w' w.heap.size (.slice A2 8 c2) (sl.last n) ∧ Below w.heap.size w w' := by
  have e1 : (18446744073709551615 : Int) - (n : Int) = ((18446744073709551615 - n : Nat) : Int) := by omega
  have p1 := put8 n hn
  have p2 := put8 (18446744073709551615 - n) (by omega)
  have h1 := rput_any n 8 w hn
  have h2 := fun W => rput_any (18446744073709551615 - n) 8 W (by omega)
  rw [p1] at h1
  rw [p2] at h2
  rw [← e1] at h2
  have H1 := Lib.hid h1
  have H2 := Lib.hid h2
  clear h1 h2 p1 p2 e1
  go_enter Tryz.func92, Tryz.ntmps92
  go_wp2_with fail
  refine H1.out.mono ?_
  rintro e w1 ⟨-, hr, hb1⟩
  obtain ⟨v1, rfl, ho1⟩ := hr rfl
  obtain ⟨A1, c1, rfl, hB1⟩ := ho1.form
  rw [show (leBytes n (Int.toNat 8)).length = 8 from leBytes_length _ _] at hB1 ho1 ⊢
  go_wp2_with fail
  refine (H2.out _).mono ?_
  rintro e w2 ⟨-, hr, hb2⟩
  obtain ⟨v2, rfl, ho2⟩ := hr rfl
  obtain ⟨A2, c2, rfl, hB2⟩ := ho2.form
  rw [show (leBytes (18446744073709551615 - n) (Int.toNat 8)).length = 8 from leBytes_length _ _] at hB2 ho2 ⊢
  go_wp2_with fail
  go_ret2
  exact ⟨A1, c1, A2, c2, rfl, ho1.below hb2 (Nat.le_refl _), ho2.mono hb1.size, hb1.trans (hb2.mono hb1.size)⟩

theorem bs_take_row {e : TypeId} {w : World} {g : Nat} {bl : List UInt8} (h : RowB e w g bl) (hl : bl.length = 128) {k : Nat} (hk : k ≤ 128) : BS w (some ⟨g, 0, none⟩) k 128 (bl.take k) :=
  ⟨by rw [List.length_take]; omega, hk, by omega, by omega, fun _ => ⟨g, 0, rfl, h.lt, fun i hi => by
    rw [Nat.zero_add, h.cell (i := i) (by rw [List.length_take] at hi; omega), List.getElem_take]⟩⟩
theorem bs_drop_row {e : TypeId} {w : World} {g : Nat} {bl : List UInt8} (h : RowB e w g bl) (hl : bl.length = 128) {k m : Nat} (hk : k + m = 128) : BS w (some ⟨g, k, none⟩) m m (bl.drop k) :=
  ⟨by rw [List.length_drop]; omega, Nat.le_refl _, by omega, by omega, fun _ => ⟨g, k, rfl, h.lt, fun i hi => by
    rw [h.cell (i := k + i) (by rw [List.length_drop] at hi; omega), List.getElem_drop]⟩⟩
set_option maxHeartbeats 4000000 in
set_option maxRecDepth 100000 in
theorem rput5_any (n : Nat) (hn : n < 18446744073709551616) (A : Option Addr) (k c : Nat) (body : List UInt8) (w : World) (h : BS w A k c body) : Calls Tryz.prog 68 #[.int .u64 n, .slice A k c] w fun e w' =>
    e = .returned (.tuple #[dk.val (sl.put n body).1, .int .i64 (sl.put n body).2]) ∧ Below w.heap.size w w' := by
  obtain ⟨hz, -⟩ := zero_of_info zero_blk
  have hk := h.len
  have hcap := h.cap
  have hmax := h.max
  have h1 := heap_alloc_new w (.cells (dk.cells dk.zero).toArray 43)
  have h1' := (Below.heap_alloc (w.alloc (.cells (dk.cells dk.zero).toArray 43)) (.cells (dk.cells dk.zero).toArray 43) w.heap.size (by simp)).trans h1
  have h2 := heap_alloc_new (w.alloc (.cells (dk.cells dk.zero).toArray 43)) (.cells (dk.cells dk.zero).toArray 43)
  rw [show (w.alloc (.cells (dk.cells dk.zero).toArray 43)).heap.size = w.heap.size + 1 from by simp] at h2
  have hb2 : Below w.heap.size w ((w.alloc (.cells (dk.cells dk.zero).toArray 43)).alloc (.cells (dk.cells dk.zero).toArray 43)) := ((Below.refl _ _).alloc (Nat.le_refl _) _).alloc (by simp) _
  clear h1
  by_cases h0 : n = 0
  · have hp : sl.put n body = (dk.zero, 2) := if_pos h0
    have HP := Lib.hid hp
    have h0' : ((n : Int) == 0) = true := by simp [h0]
    clear hp
    have hrg := blk_range h2
    go_enter Tryz.func68, Tryz.ntmps68
    go_wp2_with (first | refine wp_ld (.tmp 6) dk.zero hrg zero_len rfl rfl rfl ?_ | (refine wp_st0 (.tmp 4) (.tmp 16) dk.zero h1' zero_len zero_len rfl rfl rfl rfl ?_; intro W hW hc))
    refine bodyPost_ret (results_cell_tmp rfl rfl (blk_load (blk_range hW) zero_len)) rfl ⟨?_, (Chg.of_below hb2 [w.heap.size]).trans hc (Sub.refl _ _) |>.below (Nat.le_refl _) (fun k hk => by simp at hk; omega)⟩
    rw [HP.out]
    rfl
  · have h0' : ((n : Int) == 0) = false := by simp [h0]
    by_cases hlen : 108 < body.length
    · have hp : sl.put n body = (dk.zero, 3) := by rw [sl.put, if_neg h0, if_pos hlen]
      have HP := Lib.hid hp
      have hlen' : (108 : Int) < (k : Int) := by omega
      clear hp
      have hrg := blk_range h2
      go_enter Tryz.func68, Tryz.ntmps68
      go_wp2_with (first | refine wp_ld (.tmp 6) dk.zero hrg zero_len rfl rfl rfl ?_ | (refine wp_st0 (.tmp 4) (.tmp 20) dk.zero h1' zero_len zero_len rfl rfl rfl rfl ?_; intro W hW hc))
      refine bodyPost_ret (results_cell_tmp rfl rfl (blk_load (blk_range hW) zero_len)) rfl ⟨?_, (Chg.of_below hb2 [w.heap.size]).trans hc (Sub.refl _ _) |>.below (Nat.le_refl _) (fun k hk => by simp at hk; omega)⟩
      rw [HP.out]
      rfl
    · have hp : sl.put n body = (sl.sealB n body, 0) := by rw [sl.put, if_neg h0, if_neg hlen]
      have HP := Lib.hid hp
      have hlen' : ¬ (108 : Int) < (k : Int) := by omega
      have hbl : body.length ≤ 108 := by omega
      clear hp hlen
      go_enter Tryz.func68, Tryz.ntmps68
      go_wp2_with fail
      refine (rends_any n hn _).mono ?_
      rintro e w3 ⟨A1, c1, A2, c2, rfl, hF, hL, hb3⟩
      have hbb3 := hb2.trans (hb3.mono hb2.size)
      have z3 := (hb3.block w.heap.size (by simp; omega)).trans h1'
      have r3 : RowB 43 w3 (w.heap.size + 1) dk.zero := (hb3.block (w.heap.size + 1) (by simp)).trans h2
      obtain ⟨B, hB⟩ : ∃ B, w.heap.size + 1 = B := ⟨_, rfl⟩
      rw [hB] at r3
      have hoF : Value.ownBlock (.slice A1 8 c1) = none ∨ Value.ownBlock (.slice A1 8 c1) ≠ some B := .inr (fun e => by have := (hF.lt B e).1; simp at this; omega)
      have hoL : Value.ownBlock (.slice A2 8 c2) = none ∨ Value.ownBlock (.slice A2 8 c2) ≠ some B := .inr (fun e => by have := (hL.lt B e).1; simp at this; omega)
      have hBR : B ≠ w.heap.size := by omega
      have hBle : w.heap.size ≤ B := by omega
      have hR3 := (Array.getElem?_eq_some_iff.1 z3).1
      clear h1' h2 hb2 hb3
      go_wp2_with fail
      go_loopw [9] (fun t wr => ∃ (j : Nat) (bl : List UInt8), t = .int .i64 j ∧ j ≤ 8 ∧ RowB 43 wr B bl ∧ bl.length = 128 ∧ Hid (∀ p, p < 128 → bl.getD p 0 = sl.spot (leBytes n 8) body [] (sl.last n) j 0 0 p) ∧ w3.grownBy wr (some B)) (fun t _ => 8 - (intOf t).toNat)
      case atStart => exact ⟨0, dk.zero, rfl, by omega, r3, zero_len, fun p hp => sl.spot_zero _ _ _ _ p hp, World.grownBy.refl _ _⟩
      case round =>
        clear r3
        obtain ⟨j, bl, rfl, hj, hr, hbl128, hsp, hg⟩ := hrel
        by_cases hj8 : j < 8
        · have bF := (hF.kept hg hoF).bs
          have bL := (hL.kept hg hoL).bs
          obtain ⟨g1, o1, rfl, _, hc1⟩ := bF.has (by omega)
          obtain ⟨g2, o2, rfl, _, hc2⟩ := bL.has (by omega)
          have q1 := hc1 j (by rw [leBytes_length]; exact hj8)
          have q2 := hc2 j (by rw [sl.last_length]; exact hj8)
          have hf1 := hr.frozen j
          have hf2 := hr.frozen (120 + j)
          have hx1 := hr.cell (i := j) (by omega)
          have hx2 := hr.cell (i := 120 + j) (by omega)
          have st := sl.spot_one hbl128 hsp.out hj8
          have e1 : (leBytes n 8).getD j 0 = (leBytes n 8)[j]'(by rw [leBytes_length]; exact hj8) := by rw [List.getD_eq_getElem?_getD, List.getElem?_eq_getElem (by rw [leBytes_length]; exact hj8)]; rfl
          have e2 : (sl.last n).getD j 0 = (sl.last n)[j]'(by rw [sl.last_length]; exact hj8) := by rw [List.getD_eq_getElem?_getD, List.getElem?_eq_getElem (by rw [sl.last_length]; exact hj8)]; rfl
          rw [e1, e2] at st
          have hn1 : g1 ≠ B := fun e => by
            rcases hoF with h | h
            · simp [Value.ownBlock] at h
            · exact h (by rw [← e]; rfl)
          have hn2 : g2 ≠ B := fun e => by
            rcases hoL with h | h
            · simp [Value.ownBlock] at h
            · exact h (by rw [← e]; rfl)
          generalize (leBytes n 8)[j]'(by rw [leBytes_length]; exact hj8) = x1 at *
          generalize (sl.last n)[j]'(by rw [sl.last_length]; exact hj8) = x2 at *
          have ST := Lib.hid st
          clear st e1 e2 hc1 hc2 bF bL
          have r2 := (hr.set_ j x1).set_ (120 + j) x2
          have hx2' : (wr.setCell ⟨B, j, none⟩ (bv x1)).cell? ⟨B, 120 + j, none⟩ = some (bv bl[120 + j]) := by
            rw [World.cell?_setCell_other _ _ _ _ (fun e => by injection e with _ e; omega)]
            exact hx2
          have q2' : (wr.setCell ⟨B, j, none⟩ (bv x1)).cell? ⟨g2, o2 + j, none⟩ = some (bv x2) := by
            rw [World.cell?_setCell_other _ _ _ _ (fun e => by injection e with e _; exact hn2 e.symm)]
            exact q2
          have hf2' : (wr.setCell ⟨B, j, none⟩ (bv x1)).frozen? ⟨B, 120 + j, none⟩ = false := by rw [World.frozen?_setCell]; exact hf2
          go_wp2_with fail
          go_roundw
          case rel =>
            exact ⟨j + 1, _, by go_num, by omega, r2, by rw [List.length_set, List.length_set]; exact hbl128, ST.out, grown_setCell (grown_setCell hg _ _) _ _⟩
          case measure => simp [intOf]; omega
        · have hsp8 : ∀ p, p < 128 → bl.getD p 0 = sl.spot (leBytes n 8) body [] (sl.last n) 8 0 0 p := by
            have h1 := hsp.out
            rwa [show j = 8 from by omega] at h1
          have HS8 := Lib.hid hsp8
          clear hsp hsp8 hj
          go_wp2_with fail
          clear hj8
          go_loopw [10] (fun t wr => ∃ (j : Nat) (bl : List UInt8), t = .int .i64 j ∧ j ≤ k ∧ RowB 43 wr B bl ∧ bl.length = 128 ∧ Hid (∀ p, p < 128 → bl.getD p 0 = sl.spot (leBytes n 8) body [] (sl.last n) 8 j 0 p) ∧ w3.grownBy wr (some B)) (fun t _ => k - (intOf t).toNat)
          case atStart => exact ⟨0, bl, rfl, by omega, hr, hbl128, HS8.out, hg⟩
          case round =>
            clear hr hbl128 HS8 hg
            obtain ⟨j2, bl2, rfl, hj2, hr, hbl128, hsp, hg⟩ := hrel
            have hbw : Below w.heap.size w _ := hbb3.grown hg hbb3.size (fun k hk => by injection hk with hk; omega)
            by_cases hlt : j2 < k
            · have bB := h.below hbw
              obtain ⟨g1, o1, rfl, hgl, hc1⟩ := h.has (by omega)
              obtain ⟨g1', o1', e1, _, hc1'⟩ := bB.has (by omega)
              injection e1 with e1
              injection e1 with e1 e2
              subst e1 e2
              have q1 := hc1' j2 (by omega)
              have hf1 := hr.frozen (8 + j2)
              have hx1 := hr.cell (i := 8 + j2) (by omega)
              have st := sl.spot_two hbl128 hsp.out (j := j2) (by omega)
              have e1 : body.getD j2 0 = body[j2]'(by omega) := by rw [List.getD_eq_getElem?_getD, List.getElem?_eq_getElem (by omega)]; rfl
              rw [e1] at st
              generalize body[j2]'(by omega) = x1 at *
              have ST := Lib.hid st
              clear st e1 hc1 hc1'
              have r2 := hr.set_ (8 + j2) x1
              go_wp2_with fail
              go_roundw
              case rel => exact ⟨j2 + 1, _, by go_num, by omega, r2, by rw [List.length_set]; exact hbl128, ST.out, grown_setCell hg _ _⟩
              case measure => simp [intOf]; omega
            · have hspk : ∀ p, p < 128 → bl2.getD p 0 = sl.spot (leBytes n 8) body [] (sl.last n) 8 body.length 0 p := by
                have h1 := hsp.out
                rwa [show j2 = body.length from by omega] at h1
              have hhead := sl.take_head hbl hbl128 hspk
              have hBS := bs_take_row hr hbl128 (k := 116) (by omega)
              rw [hhead] at hBS
              have HOF := Lib.hid (rof_any _ 116 128 _ _ hBS)
              obtain ⟨s, hs⟩ : ∃ s, crc.of (sl.head n body) = s := ⟨_, rfl⟩
              rw [hs] at HOF
              have hslt := s.isLt
              have HSK := Lib.hid hspk
              have HSUM := Lib.hid hs
              clear hspk hhead hBS hs hsp
              go_wp2_with fail
              refine HOF.out.mono ?_
              rintro e w4 ⟨rfl, rfl⟩
              go_wp2_with fail
              have hp4 := rput_any s.toNat 4 wr (by omega)
              rw [put4 s.toNat (by omega)] at hp4
              refine hp4.mono ?_
              rintro e w4 ⟨-, hv, hb4⟩
              obtain ⟨v4, rfl, ho4⟩ := hv rfl
              obtain ⟨A4, c4, rfl, hB4⟩ := ho4.form
              rw [show (leBytes s.toNat (Int.toNat 4)).length = 4 from leBytes_length _ _] at ho4 ⊢
              rw [show Int.toNat 4 = 4 from rfl] at ho4
              have hr4 := hr.below hb4 hr.lt
              have hbw4 := hbw.trans (hb4.mono hbw.size)
              have z4 := (hb4.block w.heap.size (Nat.lt_of_lt_of_le hR3 hg.size)).trans ((hg.block w.heap.size hR3 (fun e => by injection e with e; omega)).trans z3)
              have hoS : Value.ownBlock (.slice A4 4 c4) = none ∨ Value.ownBlock (.slice A4 4 c4) ≠ some B := .inr (fun e => by have := (ho4.lt B e).1; have := hr.lt; omega)
              have hs4 : ∀ p, p < 128 → bl2.getD p 0 = sl.spot (leBytes n 8) body (leBytes s.toNat 4) (sl.last n) 8 body.length 0 p := fun p hp => (HSK.out p hp).trans sl.spot_sum
              have HS4 := Lib.hid hs4
              have hR4 := (Array.getElem?_eq_some_iff.1 z4).1
              clear hs4 HSK HOF hB4 hb4 hr hg hbw hF hL hoF hoL z3 hR3 hbb3 hp4
              go_wp2_with fail
              go_loopw [13] (fun t wr => ∃ (j : Nat) (bl : List UInt8), t = .int .i64 j ∧ j ≤ 4 ∧ RowB 43 wr B bl ∧ bl.length = 128 ∧ Hid (∀ p, p < 128 → bl.getD p 0 = sl.spot (leBytes n 8) body (leBytes s.toNat 4) (sl.last n) 8 body.length j p) ∧ w4.grownBy wr (some B)) (fun t _ => 4 - (intOf t).toNat)
              case atStart => exact ⟨0, bl2, rfl, by omega, hr4, hbl128, HS4.out, World.grownBy.refl _ _⟩
              case round =>
                clear hr4 hbl128 HS4
                obtain ⟨j3, bl3, rfl, hj3, hr, hbl128, hsp, hg⟩ := hrel
                by_cases hlt3 : j3 < 4
                · have bS := (ho4.kept hg hoS).bs
                  obtain ⟨g1, o1, rfl, _, hc1⟩ := bS.has (by omega)
                  have q1 := hc1 j3 (by rw [leBytes_length]; exact hlt3)
                  have hf1 := hr.frozen (116 + j3)
                  have hx1 := hr.cell (i := 116 + j3) (by omega)
                  have st := sl.spot_three hbl128 hsp.out hlt3
                  have e1 : (leBytes s.toNat 4).getD j3 0 = (leBytes s.toNat 4)[j3]'(by rw [leBytes_length]; exact hlt3) := by rw [List.getD_eq_getElem?_getD, List.getElem?_eq_getElem (by rw [leBytes_length]; exact hlt3)]; rfl
                  rw [e1] at st
                  generalize (leBytes s.toNat 4)[j3]'(by rw [leBytes_length]; exact hlt3) = x1 at *
                  have ST := Lib.hid st
                  clear st e1 hc1 bS
                  have r2 := hr.set_ (116 + j3) x1
                  go_wp2_with fail
                  go_roundw
                  case rel => exact ⟨j3 + 1, _, by go_num, by omega, r2, by rw [List.length_set]; exact hbl128, ST.out, grown_setCell hg _ _⟩
                  case measure => simp [intOf]; omega
                · have hfin : bl3 = sl.sealB n body := sl.getD_ext hbl128 (sl.seal_length n hbl) fun p hp => by
                    have h1 := hsp.out p hp
                    rw [show j3 = 4 from by omega] at h1
                    rw [h1, sl.seal_spot n hbl p hp, HSUM.out]
                  have hrg := blk_range hr
                  have z5 := (hg.block w.heap.size hR4 (fun e => by injection e with e; omega)).trans z4
                  have HFIN := Lib.hid hfin
                  have hb5 : Below w.heap.size w _ := hbw4.grown hg hbw4.size (fun k hk => by injection hk with hk; omega)
                  clear hfin hr hsp hg z4 ho4
                  go_wp2_with (first | refine wp_ld (.tmp 6) bl3 hrg hbl128 rfl rfl rfl ?_ | (refine wp_st0 (.tmp 4) (.tmp 74) bl3 z5 zero_len hbl128 rfl rfl rfl rfl ?_; intro W hW hc))
                  refine bodyPost_ret (results_cell_tmp rfl rfl (blk_load (blk_range hW) hbl128)) rfl ⟨?_, (Chg.of_below hb5 [w.heap.size]).trans hc (Sub.refl _ _) |>.below (Nat.le_refl _) (fun k hk => by simp at hk; omega)⟩
                  rw [HP.out, HFIN.out]
                  rfl
end Go.Proofs.YthddcaoolaipiaaGreatDoor

/-
  contracts of cardexref05: Get.
-/
namespace Go.Proofs.YthddcaoolaipiaaGreatDoor
open Go.RowKit

set_option maxHeartbeats 4000000 in
set_option maxRecDepth 100000 in
theorem rget5_any (b : dk.Blk) (hb : b.length = 128) (w : World) : Calls Tryz.prog 112 #[dk.val b] w fun e w' =>
    ∃ v, e = .returned (.tuple #[.int .u64 (sl.get b).1, v, .int .i64 (sl.get b).2.2]) ∧ OwnB 5 w' w.heap.size v (sl.get b).2.1 ∧ Below w.heap.size w w' := by
  have hr1 : RowB 43 (w.alloc (.cells (dk.cells b).toArray 43)) w.heap.size b := heap_alloc_new w _
  have hb1 : Below w.heap.size w (w.alloc (.cells (dk.cells b).toArray 43)) := (Below.refl _ _).alloc (Nat.le_refl _) _
  have hB1 : BS (w.alloc (.cells (dk.cells b).toArray 43)) (some ⟨w.heap.size, 0, none⟩) 128 128 b := bs_of_block5 hr1 128 hb.symm (by omega)
  obtain ⟨N, hN⟩ : ∃ N, sl.number b = N := ⟨_, rfl⟩
  have hNlt := sl.number_lt b
  rw [hN] at hNlt
  have g1 := rget_yes _ 128 128 b 0 8 _ hB1 rfl (by omega)
  rw [List.drop_zero, show leVal (b.take 8) = N from hN] at g1
  have G1 := Lib.hid g1
  clear g1
  go_enter Tryz.func112, Tryz.ntmps112
  go_wp2_with fail
  refine G1.out.mono ?_
  rintro e w1 ⟨rfl, rfl⟩
  go_wp2_with fail
  refine (rends_any N hNlt _).mono ?_
  rintro e w2 ⟨A1, c1, A2, c2, rfl, _, hL, hb2⟩
  have hbb2 := hb1.trans (hb2.mono hb1.size)
  have hr2 := hr1.below hb2 hr1.lt
  have k1 := run_convert_bs (P := Tryz.prog) (w := w2.drew) (BS.drew hL.bs) 36 5 9 Tryz.underlying36 Tryz.underlying5 Tryz.underlying9
  have k2 := run_convert_bs (P := Tryz.prog) (w := w2.drew) (bs_drop_row (k := 120) (m := 8) hr2.drew hb (by omega)) 36 5 9 Tryz.underlying36 Tryz.underlying5 Tryz.underlying9
  by_cases h0 : N = 0
  · have hget : sl.get b = (0, [], 5) := by unfold sl.get; rw [if_pos (.inl (hN.trans h0))]
    have HG := Lib.hid hget
    have h0' : ((N : Int) == 0) = true := by simp [h0]
    clear hget k1 k2
    go_wp2_with fail
    refine wp_region_still_tail 8 (by kernel_rfl) (by kernel_rfl) ?_
    simp only [List.take_succ_cons, List.take_zero, List.drop_succ_cons, List.drop_zero]
    iterate 8 still_step
    refine wpStill_nil ?_
    change wpList _ _ _ _ _ w2.drew
    go_wp2_with fail
    go_ret3
    exact ⟨_, by rw [HG.out]; rfl, by rw [HG.out]; exact OwnB.nil_ _ _ _, hbb2.drew⟩
  · have h0' : ((N : Int) == 0) = false := by simp [h0]
    by_cases hl : sl.last N = b.drop 120
    · rw [hl] at k1
      have hqe : ((b.drop 120) == b.drop 120) = true := by simp
      obtain ⟨V, hV⟩ : ∃ V, leVal ((b.drop 116).take 4) = V := ⟨_, rfl⟩
      have hVlt : V < 4294967296 := by
        have h1 := leVal_lt ((b.drop 116).take 4)
        rw [hV, show ((b.drop 116).take 4).length = 4 from by rw [List.length_take, List.length_drop]; omega] at h1
        exact h1
      have hB2 : BS w2.drew (some ⟨w.heap.size, 0, none⟩) 128 128 b := bs_of_block5 hr2.drew 128 hb.symm (by omega)
      have g2 := rget_yes _ 128 128 b 116 4 _ hB2 rfl (by omega)
      rw [hV] at g2
      have G2 := Lib.hid g2
      obtain ⟨s, hs⟩ : ∃ s, crc.of (b.take 116) = s := ⟨_, rfl⟩
      have hof := rof_any _ 116 128 _ _ (bs_take_row hr2.drew hb (k := 116) (by omega))
      rw [hs] at hof
      have HOF := Lib.hid hof
      have hslt := s.isLt
      clear g2 hof
      by_cases hsum : V = s.toNat
      · have hget : sl.get b = (N, (b.drop 8).take 108, 0) := by
          unfold sl.get
          rw [if_neg (by rw [hN, hl]; simpa using h0), if_neg (by rw [hV, hs]; simpa using hsum), hN]
        have HG := Lib.hid hget
        obtain ⟨i0, hi, hz0, hz1, hz2⟩ := info_parts info_u8
        have HV := Lib.hid hV
        have HS := Lib.hid hs
        clear hget hV hs
        subst hsum
        go_wp2_with fail
        refine wp_region_still_tail 8 (by kernel_rfl) (by kernel_rfl) ?_
        simp only [List.take_succ_cons, List.take_zero, List.drop_succ_cons, List.drop_zero]
        iterate 8 still_step
        refine wpStill_nil ?_
        change wpList _ _ _ _ _ w2.drew
        clear k1 k2
        go_wp2_with fail
        refine G2.out.mono ?_
        rintro e w3 ⟨rfl, rfl⟩
        go_wp2_with fail
        refine HOF.out.mono ?_
        rintro e w3 ⟨rfl, rfl⟩
        have hrd : RowB 43 w2.drew w.heap.size b := hr2.drew
        have hbd := hbb2.drew
        have hlen108 : ((b.drop 8).take 108).length = 108 := by rw [List.length_take, List.length_drop]; omega
        have HL8 := Lib.hid hlen108
        clear hr2 hbb2 G2 HOF hB2 hqe hl hr1 hb1 hB1 G1 hL hb2 hlen108
        go_wp2_with fail
        go_loopw [11, 12] (fun v t wr => ∃ (j : Nat) (A : Option Addr) (c : Nat), t = .int .i64 (8 + (j : Int)) ∧ j ≤ 108 ∧ v = .slice A j c ∧ OwnB 5 wr (w.heap.size + 1) v (((b.drop 8).take 108).take j) ∧ RowB 43 wr w.heap.size b ∧ Below w.heap.size w wr) (fun _ t _ => 116 - (intOf t).toNat)
        case atStart => exact ⟨0, none, 0, by go_num, by omega, rfl, OwnB.nil_ _ _ _, hrd, hbd⟩
        case round =>
          clear hrd hbd
          obtain ⟨j, A, c, rfl, hj, rfl, ho, hr, hbw⟩ := hrel
          have hsz := hr.lt
          by_cases hlt : j < 108
          · have hx := hr.cell (i := 8 + j) (by omega)
            have hst : ((b.drop 8).take 108).take (j + 1) = ((b.drop 8).take 108).take j ++ [b[8 + j]'(by omega)] := by
              rw [List.take_succ_eq_append_getElem (by rw [HL8.out]; exact hlt)]
              congr 2
              simp
            have hcast : ((8 + j : Nat) : Int) = 8 + (j : Int) := by omega
            have hlj : (((b.drop 8).take 108).take j).length = j := by rw [List.length_take, HL8.out]; omega
            generalize b[8 + j]'(by omega) = x at *
            have HST := Lib.hid hst
            have HLJ := Lib.hid hlj
            clear hst hlj
            generalize ((b.drop 8).take 108).take j = l at *
            go_wp2_with (at_builtin; refine wpList_append_bytes _ rfl (.tmp 46) (.tmp 50) 36 rfl 5 i0 Tryz.underlying36 hi hz0 hz1 hz2 (w.heap.size + 1) _ _ rfl (ho.alloc _) _ 1 1 [x] rfl (BS.one' _ _ _ (by simp)) (by rw [HLJ.out]; simp; omega) (by simp; omega) ?_; intro v1 w1 ho1 hg1 _ _)
            go_roundw
            case rel =>
              obtain ⟨A1, c1, rfl, hb1⟩ := ho1.form
              rw [show (l ++ [x]).length = j + 1 from by rw [List.length_append, HLJ.out]; rfl] at ho1 ⊢
              refine ⟨j + 1, A1, c1, by go_num, by omega, rfl, by rw [HST.out]; exact ho1, ?_, ?_⟩
              · exact (hg1.block w.heap.size (by simp; omega) (fun e => by have := (ho.lt _ e.symm).1; omega)).trans (hr.alloc _)
              · exact OwnB.step (hbw.alloc hbw.size _) ((ho.alloc _).mono (by omega)) hg1 (by simp; omega)
            case measure => simp [intOf]; omega
          · have hl' : ((b.drop 8).take 108).take j = (b.drop 8).take 108 := List.take_of_length_le (by rw [HL8.out]; omega)
            rw [hl'] at ho
            go_wp2_with fail
            go_ret3
            exact ⟨_, by rw [HG.out]; rfl, by rw [HG.out]; exact ho.mono (by omega), hbw⟩
      · have hget : sl.get b = (0, [], 6) := by
          unfold sl.get
          rw [if_neg (by rw [hN, hl]; simpa using h0), if_pos (by rw [hV, hs]; simpa using hsum)]
        have HG := Lib.hid hget
        have hq2 : ((V : Int) == (s.toNat : Int)) = false := by simpa using (fun e : (V : Int) = (s.toNat : Int) => hsum (by omega))
        have HV := Lib.hid hV
        have HS := Lib.hid hs
        clear hget hV hs
        go_wp2_with fail
        refine wp_region_still_tail 8 (by kernel_rfl) (by kernel_rfl) ?_
        simp only [List.take_succ_cons, List.take_zero, List.drop_succ_cons, List.drop_zero]
        iterate 8 still_step
        refine wpStill_nil ?_
        change wpList _ _ _ _ _ w2.drew
        clear k1 k2
        go_wp2_with fail
        refine G2.out.mono ?_
        rintro e w3 ⟨rfl, rfl⟩
        go_wp2_with fail
        refine HOF.out.mono ?_
        rintro e w3 ⟨rfl, rfl⟩
        go_wp2_with fail
        go_ret3
        exact ⟨_, by rw [HG.out]; rfl, by rw [HG.out]; exact OwnB.nil_ _ _ _, hbb2.drew⟩
    · have hget : sl.get b = (0, [], 5) := by unfold sl.get; rw [if_pos (.inr (by rw [hN]; exact fun e => hl e.symm))]
      have HG := Lib.hid hget
      have hqe : (sl.last N == b.drop 120) = false := by simpa using hl
      clear hget
      go_wp2_with fail
      refine wp_region_still_tail 8 (by kernel_rfl) (by kernel_rfl) ?_
      simp only [List.take_succ_cons, List.take_zero, List.drop_succ_cons, List.drop_zero]
      iterate 8 still_step
      refine wpStill_nil ?_
      change wpList _ _ _ _ _ w2.drew
      clear k1 k2
      go_wp2_with fail
      go_ret3
      exact ⟨_, by rw [HG.out]; rfl, by rw [HG.out]; exact OwnB.nil_ _ _ _, hbb2.drew⟩
end Go.Proofs.YthddcaoolaipiaaGreatDoor

/-
  contracts of cardexref05: worth, Newest, Next.
-/
namespace Go.Proofs.YthddcaoolaipiaaGreatDoor
open Go.RowKit

namespace sl
theorem worth_lt (b : Blk) : worth b < 18446744073709551616 := by
  unfold worth get
  split
  · exact (by omega : 0 < 18446744073709551616)
  split
  · exact (by omega : 0 < 18446744073709551616)
  · exact number_lt b
end sl
set_option maxHeartbeats 4000000 in
set_option maxRecDepth 100000 in
theorem rworth_any (b : dk.Blk) (hb : b.length = 128) (w : World) : Calls Tryz.prog 98 #[dk.val b] w fun e w' => e = .returned (.int .u64 (sl.worth b)) ∧ Below w.heap.size w w' := by
  have hr1 := heap_alloc_new w (.cells (dk.cells b).toArray 43)
  have hb1 : Below w.heap.size w (w.alloc (.cells (dk.cells b).toArray 43)) := (Below.refl _ _).alloc (Nat.le_refl _) _
  have hrg := blk_range hr1
  go_enter Tryz.func98, Tryz.ntmps98
  go_wp2_with (refine wp_ld (.tmp 1) b hrg hb rfl rfl rfl ?_)
  refine (rget5_any b hb _).mono ?_
  rintro e w2 ⟨v, rfl, _, hb2⟩
  go_wp2_with fail
  go_ret
  exact ⟨rfl, hb1.trans (hb2.mono hb1.size)⟩
set_option maxHeartbeats 4000000 in
set_option maxRecDepth 100000 in
theorem rnext_any (a b : dk.Blk) (ha : a.length = 128) (hb : b.length = 128) (w : World) : Calls Tryz.prog 77 #[dk.val a, dk.val b] w fun e w' => e = .returned (.int .i64 (sl.next a b)) ∧ Below w.heap.size w w' := by
  have uB := Tryz.underlying43
  have iA := info_blk' ha
  have iB := info_blk' hb
  obtain ⟨x, hx⟩ : ∃ x, sl.worth a = x := ⟨_, rfl⟩
  obtain ⟨y, hy⟩ : ∃ y, sl.worth b = y := ⟨_, rfl⟩
  have hxl := sl.worth_lt a
  have hyl := sl.worth_lt b
  rw [hx] at hxl
  rw [hy] at hyl
  have hca := fun W => rworth_any a ha W
  have hcb := fun W => rworth_any b hb W
  simp only [hx] at hca
  simp only [hy] at hcb
  have HA := Lib.hid hca
  have HB := Lib.hid hcb
  clear hca hcb
  have h1 := heap_alloc_new w (.cells (dk.cells a).toArray 43)
  have h1' := (Below.heap_alloc (w.alloc (.cells (dk.cells a).toArray 43)) (.cells (dk.cells b).toArray 43) w.heap.size (by simp)).trans h1
  have h2 := heap_alloc_new (w.alloc (.cells (dk.cells a).toArray 43)) (.cells (dk.cells b).toArray 43)
  rw [show (w.alloc (.cells (dk.cells a).toArray 43)).heap.size = w.heap.size + 1 from by simp] at h2
  have hb2 : Below w.heap.size w ((w.alloc (.cells (dk.cells a).toArray 43)).alloc (.cells (dk.cells b).toArray 43)) := ((Below.refl _ _).alloc (Nat.le_refl _) _).alloc (by simp) _
  have hnew : sl.next a b = if 0 < x ∧ y ≤ x then 1 else 0 := by rw [sl.next, hx, hy]
  have HN := Lib.hid hnew
  have hsz2 : w.heap.size + 1 < ((w.alloc (.cells (dk.cells a).toArray 43)).alloc (.cells (dk.cells b).toArray 43)).heap.size := by simp
  obtain ⟨W2, hW2⟩ : ∃ W2, (w.alloc (.cells (dk.cells a).toArray 43)).alloc (.cells (dk.cells b).toArray 43) = W2 := ⟨_, rfl⟩
  clear hnew hx hy h1
  go_enter Tryz.func77, Tryz.ntmps77
  go_wp2_with fail
  rw [hW2] at h1' h2 hb2 hsz2
  clear hW2
  have hbb_W2 := hb2
  have hS_W2 := And.intro h1' h2
  clear hb2 h1' h2
  refine wp_region_held_drew (S := fun w' => w'.heap[w.heap.size]? = some (.cells (dk.cells a).toArray 43 (0, 0)) ∧ w'.heap[w.heap.size + 1]? = some (.cells (dk.cells b).toArray 43 (0, 0))) (by kernel_rfl) hS_W2 (fun hHeld => ?_)
  refine wpAnyH_take (i := 0) (v := dk.val a) rfl (by kernel_rfl) (by kernel_rfl) (by kernel_rfl) (fun _ _ _ h => h) (yieldsIf_load_mid (by rfl) 43 (.tmp 2) rfl w.heap.size 0 rfl (dk.cells a) _ (fun w h => blk_range h.1) uB rfl iA) hHeld ?_
  simp only [List.getElem_toArray, List.getElem_cons_zero, Act.put, List.setIfInBounds_toArray, List.set_cons_zero, List.set_cons_succ]
  refine wpAnyH_ready (rs := [1]) (by kernel_rfl) (by simp) ?_
  refine AllReadyH.cons rfl (fun K hK => ?_) AllReadyH.nil
  rw [if_pos (by rfl)]
  go_simp
  refine (HA.out _).mono ?_
  rintro e w3 ⟨rfl, hb_w3⟩
  have hsz_w3 : W2.heap.size ≤ w3.heap.size := hb_w3.size
  have hS_w3 : w3.heap[w.heap.size]? = some (.cells (dk.cells a).toArray 43 (0, 0)) ∧ w3.heap[w.heap.size + 1]? = some (.cells (dk.cells b).toArray 43 (0, 0)) := ⟨(hb_w3.block _ (by show w.heap.size < W2.heap.size; omega)).trans hHeld.1, (hb_w3.block _ (by show w.heap.size + 1 < W2.heap.size; omega)).trans hHeld.2⟩
  have hbb_w3 := hbb_W2.drew.trans (hb_w3.mono hbb_W2.size)
  refine hK.out _ _ hS_w3 (fun hHeld => ?_)
  clear hK K
  by_cases hx0 : x = 0
  · have HX : Hid (sl.next a b = 0) := by show _ = _; rw [HN.out, if_neg (by omega)]
    have hxq : ¬ (0 : Int) < (x : Int) := by omega
    refine wpAnyH_take (i := 2) (v := ?_) rfl (by kernel_rfl) (by kernel_rfl) (by kernel_rfl) (fun _ _ _ h => h) (Or.inl ⟨by rfl, ?_⟩) hHeld ?_
    rotate_left
    · intro w hSw; clear hSw; go_simp; try rfl
    simp only [List.getElem_toArray, List.getElem_cons_zero, List.getElem_cons_succ, Act.put, List.setIfInBounds_toArray, List.set_cons_zero, List.set_cons_succ]
    refine wpAnyH_take (i := 3) (v := ?_) rfl (by kernel_rfl) (by kernel_rfl) (by kernel_rfl) (fun _ _ _ h => h) (Or.inl ⟨by rfl, ?_⟩) hHeld ?_
    rotate_left
    · intro w hSw; clear hSw; go_simp; try rfl
    simp only [List.getElem_toArray, List.getElem_cons_zero, List.getElem_cons_succ, Act.put, List.setIfInBounds_toArray, List.set_cons_zero, List.set_cons_succ]
    refine wpAnyH_take (i := 4) (v := undef) rfl (by kernel_rfl) (by kernel_rfl) (by kernel_rfl) (fun _ _ _ h => h) (Or.inr ⟨by rfl, rfl⟩) hHeld ?_
    simp only [List.getElem_toArray, List.getElem_cons_zero, List.getElem_cons_succ, Act.put, List.setIfInBounds_toArray, List.set_cons_zero, List.set_cons_succ]
    refine wpAnyH_take (i := 5) (v := undef) rfl (by kernel_rfl) (by kernel_rfl) (by kernel_rfl) (fun _ _ _ h => h) (Or.inr ⟨by rfl, rfl⟩) hHeld ?_
    simp only [List.getElem_toArray, List.getElem_cons_zero, List.getElem_cons_succ, Act.put, List.setIfInBounds_toArray, List.set_cons_zero, List.set_cons_succ]
    refine wpAnyH_take (i := 6) (v := undef) rfl (by kernel_rfl) (by kernel_rfl) (by kernel_rfl) (fun _ _ _ h => h) (Or.inr ⟨by rfl, rfl⟩) hHeld ?_
    simp only [List.getElem_toArray, List.getElem_cons_zero, List.getElem_cons_succ, Act.put, List.setIfInBounds_toArray, List.set_cons_zero, List.set_cons_succ]
    refine wpAnyH_take (i := 7) (v := undef) rfl (by kernel_rfl) (by kernel_rfl) (by kernel_rfl) (fun _ _ _ h => h) (Or.inr ⟨by rfl, rfl⟩) hHeld ?_
    simp only [List.getElem_toArray, List.getElem_cons_zero, List.getElem_cons_succ, Act.put, List.setIfInBounds_toArray, List.set_cons_zero, List.set_cons_succ]
    refine wpAnyH_take (i := 8) (v := undef) rfl (by kernel_rfl) (by kernel_rfl) (by kernel_rfl) (fun _ _ _ h => h) (Or.inr ⟨by rfl, rfl⟩) hHeld ?_
    simp only [List.getElem_toArray, List.getElem_cons_zero, List.getElem_cons_succ, Act.put, List.setIfInBounds_toArray, List.set_cons_zero, List.set_cons_succ]
    refine wpAnyH_take (i := 9) (v := ?_) rfl (by kernel_rfl) (by kernel_rfl) (by kernel_rfl) (fun _ _ _ h => h) (Or.inl ⟨by rfl, ?_⟩) hHeld ?_
    rotate_left
    · intro w hSw; clear hSw; go_simp; try rfl
    simp only [List.getElem_toArray, List.getElem_cons_zero, List.getElem_cons_succ, Act.put, List.setIfInBounds_toArray, List.set_cons_zero, List.set_cons_succ]
    refine wpAnyH_done (by kernel_rfl) ?_ _
    go_wp2_with fail
    go_ret
    exact ⟨by rw [HX.out]; rfl, hbb_w3⟩
  · have hxq : 0 < x := by omega
    have hxq2 : (0 : Int) < (x : Int) := by omega
    refine wpAnyH_take (i := 2) (v := ?_) rfl (by kernel_rfl) (by kernel_rfl) (by kernel_rfl) (fun _ _ _ h => h) (Or.inl ⟨by rfl, ?_⟩) hHeld ?_
    rotate_left
    · intro w hSw; clear hSw; go_simp; try rfl
    simp only [List.getElem_toArray, List.getElem_cons_zero, List.getElem_cons_succ, Act.put, List.setIfInBounds_toArray, List.set_cons_zero, List.set_cons_succ]
    refine wpAnyH_take (i := 3) (v := ?_) rfl (by kernel_rfl) (by kernel_rfl) (by kernel_rfl) (fun _ _ _ h => h) (Or.inl ⟨by rfl, ?_⟩) hHeld ?_
    rotate_left
    · intro w hSw; clear hSw; go_simp; try rfl
    simp only [List.getElem_toArray, List.getElem_cons_zero, List.getElem_cons_succ, Act.put, List.setIfInBounds_toArray, List.set_cons_zero, List.set_cons_succ]
    refine wpAnyH_take (i := 4) (v := dk.val a) rfl (by kernel_rfl) (by kernel_rfl) (by kernel_rfl) (fun _ _ _ h => h) (yieldsIf_load_mid (by rfl) 43 (.tmp 2) rfl w.heap.size 0 rfl (dk.cells a) _ (fun w h => blk_range h.1) uB rfl iA) hHeld ?_
    simp only [List.getElem_toArray, List.getElem_cons_zero, List.getElem_cons_succ, Act.put, List.setIfInBounds_toArray, List.set_cons_zero, List.set_cons_succ]
    refine wpAnyH_take (i := 6) (v := dk.val b) rfl (by kernel_rfl) (by kernel_rfl) (by kernel_rfl) (fun _ _ _ h => h) (yieldsIf_load_mid (by rfl) 43 (.tmp 3) rfl (w.heap.size + 1) 0 rfl (dk.cells b) _ (fun w h => blk_range h.2) uB rfl iB) hHeld ?_
    simp only [List.getElem_toArray, List.getElem_cons_zero, List.getElem_cons_succ, Act.put, List.setIfInBounds_toArray, List.set_cons_zero, List.set_cons_succ]
    refine wpAnyH_ready (rs := [5]) (by kernel_rfl) (by simp) ?_
    refine AllReadyH.cons rfl (fun K hK => ?_) AllReadyH.nil
    rw [if_pos (by rfl)]
    go_simp
    refine (HA.out _).mono ?_
    rintro e w4 ⟨rfl, hb_w4⟩
    have hsz_w4 : w3.heap.size ≤ w4.heap.size := hb_w4.size
    have hS_w4 : w4.heap[w.heap.size]? = some (.cells (dk.cells a).toArray 43 (0, 0)) ∧ w4.heap[w.heap.size + 1]? = some (.cells (dk.cells b).toArray 43 (0, 0)) := ⟨(hb_w4.block _ (by show w.heap.size < w3.heap.size; omega)).trans hHeld.1, (hb_w4.block _ (by show w.heap.size + 1 < w3.heap.size; omega)).trans hHeld.2⟩
    have hbb_w4 := hbb_w3.trans (hb_w4.mono hbb_w3.size)
    refine hK.out _ _ hS_w4 (fun hHeld => ?_)
    clear hK K
    refine wpAnyH_ready (rs := [7]) (by kernel_rfl) (by simp) ?_
    refine AllReadyH.cons rfl (fun K hK => ?_) AllReadyH.nil
    rw [if_pos (by rfl)]
    go_simp
    refine (HB.out _).mono ?_
    rintro e w5 ⟨rfl, hb_w5⟩
    have hsz_w5 : w4.heap.size ≤ w5.heap.size := hb_w5.size
    have hS_w5 : w5.heap[w.heap.size]? = some (.cells (dk.cells a).toArray 43 (0, 0)) ∧ w5.heap[w.heap.size + 1]? = some (.cells (dk.cells b).toArray 43 (0, 0)) := ⟨(hb_w5.block _ (by show w.heap.size < w4.heap.size; omega)).trans hHeld.1, (hb_w5.block _ (by show w.heap.size + 1 < w4.heap.size; omega)).trans hHeld.2⟩
    have hbb_w5 := hbb_w4.trans (hb_w5.mono hbb_w4.size)
    refine hK.out _ _ hS_w5 (fun hHeld => ?_)
    clear hK K
    by_cases hlt : y ≤ x
    · have HX : Hid (sl.next a b = 1) := by show _ = _; rw [HN.out, if_pos ⟨by omega, hlt⟩]
      have hlt' : (y : Int) ≤ (x : Int) := by omega
      refine wpAnyH_take (i := 8) (v := ?_) rfl (by kernel_rfl) (by kernel_rfl) (by kernel_rfl) (fun _ _ _ h => h) (Or.inl ⟨by rfl, ?_⟩) hHeld ?_
      rotate_left
      · intro w hSw; clear hSw; go_simp; try rfl
      simp only [List.getElem_toArray, List.getElem_cons_zero, List.getElem_cons_succ, Act.put, List.setIfInBounds_toArray, List.set_cons_zero, List.set_cons_succ]
      refine wpAnyH_take (i := 9) (v := ?_) rfl (by kernel_rfl) (by kernel_rfl) (by kernel_rfl) (fun _ _ _ h => h) (Or.inl ⟨by rfl, ?_⟩) hHeld ?_
      rotate_left
      · intro w hSw; clear hSw; go_simp; try rfl
      simp only [List.getElem_toArray, List.getElem_cons_zero, List.getElem_cons_succ, Act.put, List.setIfInBounds_toArray, List.set_cons_zero, List.set_cons_succ]
      refine wpAnyH_done (by kernel_rfl) ?_ _
      go_wp2_with fail
      go_ret
      exact ⟨by rw [HX.out]; rfl, hbb_w5⟩
    · have HX : Hid (sl.next a b = 0) := by show _ = _; rw [HN.out, if_neg (fun e => hlt e.2)]
      have hlt' : ¬ (y : Int) ≤ (x : Int) := by omega
      refine wpAnyH_take (i := 8) (v := ?_) rfl (by kernel_rfl) (by kernel_rfl) (by kernel_rfl) (fun _ _ _ h => h) (Or.inl ⟨by rfl, ?_⟩) hHeld ?_
      rotate_left
      · intro w hSw; clear hSw; go_simp; try rfl
      simp only [List.getElem_toArray, List.getElem_cons_zero, List.getElem_cons_succ, Act.put, List.setIfInBounds_toArray, List.set_cons_zero, List.set_cons_succ]
      refine wpAnyH_take (i := 9) (v := ?_) rfl (by kernel_rfl) (by kernel_rfl) (by kernel_rfl) (fun _ _ _ h => h) (Or.inl ⟨by rfl, ?_⟩) hHeld ?_
      rotate_left
      · intro w hSw; clear hSw; go_simp; try rfl
      simp only [List.getElem_toArray, List.getElem_cons_zero, List.getElem_cons_succ, Act.put, List.setIfInBounds_toArray, List.set_cons_zero, List.set_cons_succ]
      refine wpAnyH_done (by kernel_rfl) ?_ _
      go_wp2_with fail
      go_ret
      exact ⟨by rw [HX.out]; rfl, hbb_w5⟩
end Go.Proofs.YthddcaoolaipiaaGreatDoor

/-
  contracts of cardexref06: May, number, Put.
-/
namespace Go.Proofs.YthddcaoolaipiaaGreatDoor
open Go.RowKit

/-- A HEAD IN MEMORY -/
def HM (E : TypeId) (w : World) (g : Nat) (h : hd.H) : Prop := w.heap[g]? = some (.cells #[bv h.bank, .int .u32 h.blocks, .int .u32 h.batches] E (0, 0))
namespace HM
variable {E : TypeId} {w w' : World} {g : Nat} {h : hd.H}
theorem lt (m : HM E w g h) : g < w.heap.size := (Array.getElem?_eq_some_iff.1 m).1
theorem c0 (m : HM E w g h) : w.cell? ⟨g, 0, none⟩ = some (bv h.bank) := by rw [cell_of_row _ _ 0 _ _ _ m]; rfl
theorem c1 (m : HM E w g h) : w.cell? ⟨g, 1, none⟩ = some (.int .u32 h.blocks) := by rw [cell_of_row _ _ 1 _ _ _ m]; rfl
theorem c2 (m : HM E w g h) : w.cell? ⟨g, 2, none⟩ = some (.int .u32 h.batches) := by rw [cell_of_row _ _ 2 _ _ _ m]; rfl
set_option maxRecDepth 100000 in
theorem fz (m : HM E w g h) (i : Nat) : w.frozen? ⟨g, i, none⟩ = false := by
  unfold HM at m
  simp [World.frozen?, m]
theorem drew (m : HM E w g h) : HM E w.drew g h := m
theorem below {B : Nat} (m : HM E w g h) (hb : Below B w w') (hB : g < B) : HM E w' g h := (hb.block g hB).trans m
theorem alloc (m : HM E w g h) (o : Obj) : HM E (w.alloc o) g h := (Below.heap_alloc w o g m.lt).trans m
theorem new (w : World) (E : TypeId) (h : hd.H) : HM E (w.alloc (.cells #[bv h.bank, .int .u32 h.blocks, .int .u32 h.batches] E)) w.heap.size h := heap_alloc_new w _
theorem chg {F : List Nat} (m : HM E w g h) (hc : Chg w w' F) (hF : g ∉ F) : HM E w' g h := (hc.block g m.lt hF).trans m
theorem range (m : HM E w g h) : w.rangeAt g 0 (hd.cells h) := range_of m 0 _ fun j v hj => by rw [Nat.zero_add]; exact hj
end HM
theorem info_head : (Tryz.prog.info? 53).map (fun i => (i.zero, i.size)) = some (some (hd.val hd.zero), 3) := by kernel_rfl

set_option maxRecDepth 100000 in
set_option maxHeartbeats 1000000 in
theorem rmay_any (h : hd.H) (w : World) : Calls Tryz.prog 66 #[hd.val h] w fun e w' => e = .returned (.bool (hd.may h)) ∧ Below w.heap.size w w' := by
  have m := HM.new w 53 h
  have hb : Below w.heap.size w (w.alloc (.cells #[bv h.bank, .int .u32 h.blocks, .int .u32 h.batches] 53)) := (Below.refl _ _).alloc (Nat.le_refl _) _
  have q0 := m.c0
  have q1 := m.c1
  have q2 := m.c2
  by_cases h1 : h.bank.toNat ≤ 1
  · by_cases h2 : h.blocks ≤ 4096
    · by_cases h3 : h.batches ≤ h.blocks
      · have hm : hd.may h = true := by simp [hd.may, h1, h2, h3]
        have HM' := Lib.hid hm
        have i1 : (h.bank.toNat : Int) ≤ 1 := by omega
        have i2 : (h.blocks : Int) ≤ 4096 := by omega
        have i3 : (h.batches : Int) ≤ (h.blocks : Int) := by omega
        clear hm
        go_enter Tryz.func66, Tryz.ntmps66
        go_wp2_with fail
        go_ret
        exact ⟨by rw [HM'.out]; rfl, hb⟩
      · have hm : hd.may h = false := by simp [hd.may, h3]
        have HM' := Lib.hid hm
        have i1 : (h.bank.toNat : Int) ≤ 1 := by omega
        have i2 : (h.blocks : Int) ≤ 4096 := by omega
        have i3 : ¬ (h.batches : Int) ≤ (h.blocks : Int) := by omega
        clear hm
        go_enter Tryz.func66, Tryz.ntmps66
        go_wp2_with fail
        go_ret
        exact ⟨by rw [HM'.out]; rfl, hb⟩
    · have hm : hd.may h = false := by simp [hd.may, h2]
      have HM' := Lib.hid hm
      have i1 : (h.bank.toNat : Int) ≤ 1 := by omega
      have i2 : ¬ (h.blocks : Int) ≤ 4096 := by omega
      clear hm
      go_enter Tryz.func66, Tryz.ntmps66
      go_wp2_with fail
      go_ret
      exact ⟨by rw [HM'.out]; rfl, hb⟩
  · have hm : hd.may h = false := by simp [hd.may, h1]
    have HM' := Lib.hid hm
    have i1 : ¬ (h.bank.toNat : Int) ≤ 1 := by omega
    clear hm
    go_enter Tryz.func66, Tryz.ntmps66
    go_wp2_with fail
    go_ret
    exact ⟨by rw [HM'.out]; rfl, hb⟩

set_option maxRecDepth 100000 in
theorem rnumber_any (n : Nat) (w : World) : Calls Tryz.prog 65 #[.int .u64 n] w fun e w' => e = .returned (.bool (hd.num n)) ∧ w = w' := by
  by_cases h1 : 1 ≤ n
  · by_cases h2 : n ≤ 4611686018427387904
    · have hm : hd.num n = true := by simp [hd.num, h1, h2]
      have i1 : (1 : Int) ≤ (n : Int) := by omega
      have i2 : (n : Int) ≤ 4611686018427387904 := by omega
      rw [hm]
      clear hm h1 h2
      go_enter Tryz.func65, Tryz.ntmps65
      go_wp2_with fail
      go_ret
      exact ⟨rfl, rfl⟩
    · have hm : hd.num n = false := by simp [hd.num, h2]
      have i1 : (1 : Int) ≤ (n : Int) := by omega
      have i2 : ¬ (n : Int) ≤ 4611686018427387904 := by omega
      rw [hm]
      clear hm h1 h2
      go_enter Tryz.func65, Tryz.ntmps65
      go_wp2_with fail
      go_ret
      exact ⟨rfl, rfl⟩
  · have hm : hd.num n = false := by simp [hd.num, h1]
    have i1 : ¬ (1 : Int) ≤ (n : Int) := by omega
    rw [hm]
    clear hm h1
    go_enter Tryz.func65, Tryz.ntmps65
    go_wp2_with fail
    go_ret
    exact ⟨rfl, rfl⟩

set_option maxRecDepth 100000 in
theorem own_one (w : World) (e : TypeId) (x : UInt8) (B : Nat) (hB : B ≤ w.heap.size) : OwnB e (w.alloc (.cells #[bv x] e)) B (.slice (some ⟨w.heap.size, 0, none⟩) 1 1) [x] :=
  .inr ⟨w.heap.size, [], rfl, hB, heap_alloc_new w _, by simp, by simp⟩
set_option maxHeartbeats 4000000 in
set_option maxRecDepth 100000 in
theorem rput6_any (n : Nat) (hn : n < 18446744073709551616) (h : hd.H) (hok : h.Ok) (w : World) : Calls Tryz.prog 47 #[.int .u64 n, hd.val h] w fun e w' =>
    e = .returned (.tuple #[dk.val (hd.put n h).1, .int .i64 (hd.put n h).2]) ∧ Below w.heap.size w w' := by
  obtain ⟨hz, -⟩ := zero_of_info zero_blk
  obtain ⟨i0, hi, hz0, hz1, hz2⟩ := info_parts info_u8
  have m1 := HM.new w 53 h
  have m2 := m1.alloc (.cells (dk.cells dk.zero).toArray 43)
  have b1 : Below w.heap.size w (w.alloc (.cells #[bv h.bank, .int .u32 h.blocks, .int .u32 h.batches] 53)) := (Below.refl _ _).alloc (Nat.le_refl _) _
  have b2 := b1.alloc b1.size (.cells (dk.cells dk.zero).toArray 43)
  have r2 := heap_alloc_new (w.alloc (.cells #[bv h.bank, .int .u32 h.blocks, .int .u32 h.batches] 53)) (.cells (dk.cells dk.zero).toArray 43)
  rw [show (w.alloc (.cells #[bv h.bank, .int .u32 h.blocks, .int .u32 h.batches] 53)).heap.size = w.heap.size + 1 from by simp] at r2
  obtain ⟨W2, hW2⟩ : ∃ W2, (w.alloc (.cells #[bv h.bank, .int .u32 h.blocks, .int .u32 h.batches] 53)).alloc (.cells (dk.cells dk.zero).toArray 43) = W2 := ⟨_, rfl⟩
  rw [hW2] at m2 b2 r2
  have hlR : w.heap.size + 1 < W2.heap.size := (Array.getElem?_eq_some_iff.1 r2).1
  have hnum := rnumber_any n W2
  obtain ⟨q1, hq1⟩ : ∃ q, hd.num n = q := ⟨_, rfl⟩
  obtain ⟨q2, hq2⟩ : ∃ q, hd.may h = q := ⟨_, rfl⟩
  rw [hq1] at hnum
  have HNUM := Lib.hid hnum
  have hmay := fun W => rmay_any h W
  simp only [hq2] at hmay
  have HMAY := Lib.hid hmay
  have c0 := m2.c0
  have c1 := m2.c1
  have c2 := m2.c2
  have HQ1 := Lib.hid hq1
  have HQ2 := Lib.hid hq2
  clear hnum hmay m1 b1 hq1 hq2
  cases q1 with
  | false =>
    have hp := hd.put_no (n := n) (h := h) (by rw [HQ1.out, Bool.false_and])
    have HP := Lib.hid hp
    clear hp
    go_enter Tryz.func47, Tryz.ntmps47
    go_wp2_with fail
    refine HNUM.out.mono ?_
    rintro e w3 ⟨rfl, rfl⟩
    go_wp2_with (refine wp_st0 (.tmp 4) (.tmp 19) dk.zero r2 zero_len zero_len rfl rfl rfl rfl ?_; intro W hW hc)
    refine bodyPost_ret (results_cell_tmp rfl rfl (blk_load (blk_range hW) zero_len)) rfl ⟨?_, (Chg.of_below b2 [w.heap.size + 1]).trans hc (Sub.refl _ _) |>.below (Nat.le_refl _) (fun k hk => by simp at hk; omega)⟩
    rw [HP.out]
    rfl
  | true =>
    cases q2 with
    | false =>
      have hp := hd.put_no (n := n) (h := h) (by rw [HQ2.out, Bool.and_false])
      have HP := Lib.hid hp
      clear hp
      go_enter Tryz.func47, Tryz.ntmps47
      go_wp2_with fail
      refine HNUM.out.mono ?_
      rintro e w3 ⟨rfl, rfl⟩
      go_wp2_with fail
      refine (HMAY.out _).mono ?_
      rintro e w4 ⟨rfl, b4⟩
      have b24 := b2.trans (b4.mono b2.size)
      have r4 := (b4.block _ hlR).trans r2
      clear r2
      go_wp2_with (refine wp_st0 (.tmp 4) (.tmp 19) dk.zero r4 zero_len zero_len rfl rfl rfl rfl ?_; intro W hW hc)
      refine bodyPost_ret (results_cell_tmp rfl rfl (blk_load (blk_range hW) zero_len)) rfl ⟨?_, (Chg.of_below b24 [w.heap.size + 1]).trans hc (Sub.refl _ _) |>.below (Nat.le_refl _) (fun k hk => by simp at hk; omega)⟩
      rw [HP.out]
      rfl
    | true =>
      have hp := hd.put_yes HQ1.out HQ2.out
      have hnn := hd.num_ok HQ1.out
      have HP := Lib.hid hp
      have hbl := hd.bodyOf_length h
      have hk1 := hok.blocks
      have hk2 := hok.batches
      have p1 := fun W => rput_any h.blocks 4 W (by omega)
      have p2 := fun W => rput_any h.batches 4 W (by omega)
      simp only [put4 _ hk1, show Int.toNat 4 = 4 from rfl] at p1
      simp only [put4 _ hk2, show Int.toNat 4 = 4 from rfl] at p2
      have P1 := Lib.hid p1
      have P2 := Lib.hid p2
      have hl1 := leBytes_length h.blocks 4
      have hl2 := leBytes_length h.batches 4
      have hs : sl.put n (hd.bodyOf h) = (sl.sealB n (hd.bodyOf h), 0) := by rw [sl.put, if_neg (by omega), if_neg (by rw [hbl]; omega)]
      have p5 := fun W A c (hB : BS W A 9 c (hd.bodyOf h)) => rput5_any n hn A 9 c (hd.bodyOf h) W hB
      simp only [hs] at p5
      have P5 := Lib.hid p5
      have hsl := sl.seal_length n (body := hd.bodyOf h) (by rw [hbl]; omega)
      obtain ⟨L1, hL1⟩ : ∃ L, leBytes h.blocks 4 = L := ⟨_, rfl⟩
      obtain ⟨L2, hL2⟩ : ∃ L, leBytes h.batches 4 = L := ⟨_, rfl⟩
      have hbo : [h.bank] ++ L1 ++ L2 = hd.bodyOf h := by rw [← hL1, ← hL2, hd.bodyOf]
      rw [hL1] at P1 hl1
      rw [hL2] at P2 hl2
      have HBO := Lib.hid hbo
      have HL1 := Lib.hid hl1
      have HL2 := Lib.hid hl2
      have hw1 : IntKind.u64.wrap (h.blocks : Int) = (h.blocks : Int) := IntWalk.u64_in _ ⟨by omega, by omega⟩
      have hw2 : IntKind.u64.wrap (h.batches : Int) = (h.batches : Int) := IntWalk.u64_in _ ⟨by omega, by omega⟩
      clear hp hs p1 p2 p5 hbl hL1 hL2 hbo hl1 hl2 hk1 hk2
      generalize sl.sealB n (hd.bodyOf h) = S at *
      go_enter Tryz.func47, Tryz.ntmps47
      go_wp2_with fail
      refine HNUM.out.mono ?_
      rintro e w3 ⟨rfl, rfl⟩
      go_wp2_with fail
      refine (HMAY.out _).mono ?_
      rintro e w4 ⟨rfl, b4⟩
      have b24 := b2.trans (b4.mono b2.size)
      have hl4 := b4.size
      have r4 := (b4.block _ hlR).trans r2
      have m4 := m2.below b4 m2.lt
      have c01 := m4.c1
      clear r2 m2 c0 c1 c2 b2
      go_wp2_with fail
      refine (P1.out _).mono ?_
      rintro e w5 ⟨-, hv, b5⟩
      obtain ⟨v5, rfl, o5⟩ := hv rfl
      obtain ⟨A5, c5, rfl, hB5⟩ := o5.form
      rw [HL1.out] at o5 hB5 ⊢
      have b25 := b24.trans (b5.mono b24.size)
      have r5 := (b5.block _ (by omega)).trans r4
      have m5 := m4.below b5 m4.lt
      have c12 := m5.c2
      have hl5 := b5.size
      clear r4 m4 c01 b24 b4 b5
      go_wp2_with fail
      refine (P2.out _).mono ?_
      rintro e w6 ⟨-, hv, b6⟩
      obtain ⟨v6, rfl, o6⟩ := hv rfl
      obtain ⟨A6, c6, rfl, hB6⟩ := o6.form
      rw [HL2.out] at o6 hB6 ⊢
      have b26 := b25.trans (b6.mono b25.size)
      have r6 := (b6.block _ (by omega)).trans r5
      have m6 := m5.below b6 m5.lt
      have o56 := o5.below b6 (Nat.le_refl _)
      have c23 := m6.c0
      have hl6 := b6.size
      have n6 := own_one w6 5 h.bank w6.heap.size (Nat.le_refl _)
      have a6 := fun (o : Obj) => o56.bs.alloc o
      have a7 := fun (o : Obj) => o6.bs.alloc o
      clear r5 m5 c12 b25 b6 o5 hB5 hB6
      have hA6 : ∀ k, (Value.slice A6 4 c6).ownBlock = some k → k < w6.heap.size := fun k hk => (o6.lt k hk).2
      go_wp2_with (first
        | (refine wpList_append_bytes _ rfl (.tmp 37) (.tmp 38) 36 rfl 5 i0 Tryz.underlying36 hi hz0 hz1 hz2 w6.heap.size _ _ rfl n6 _ 4 c5 _ rfl (a6 _) (by simp) (by simp) ?_; intro v7 w7 o7 hg7 _ _; have hg7' : (w6.alloc (.cells #[bv h.bank] 5)).grownBy w7 (some w6.heap.size) := hg7; clear hg7; obtain ⟨A7, c7, rfl, hB7⟩ := o7.form; have hl7 := hg7'.size; have o67 := (o6.alloc (.cells #[bv h.bank] 5)).kept hg7' (by cases hq : (Value.slice A6 4 c6).ownBlock with | none => exact .inl rfl | some q => exact .inr (fun e => by injection e with e; have := hA6 q hq; omega)))
        | (refine wpList_append_bytes _ rfl (.tmp 40) (.tmp 41) 36 rfl 5 i0 Tryz.underlying36 hi hz0 hz1 hz2 w6.heap.size _ _ rfl o7 _ 4 c6 _ rfl o67.bs (by rw [List.length_append, HL1.out]; simp) (by simp at hl7; omega) ?_; intro v8 w8 o8 hg8 _ _; obtain ⟨A8, c8, rfl, hB8⟩ := o8.form))
      have r6a := (Below.heap_alloc w6 (.cells #[bv h.bank] 5) (w.heap.size + 1) (by omega)).trans r6
      have r7 := (hg7'.block (w.heap.size + 1) (by simp; omega) (fun e => by injection e with e; omega)).trans r6a
      have hs7 : w6.heap.size + 1 ≤ w7.heap.size := by simpa using hl7
      have r8 := (hg8.block (w.heap.size + 1) (by omega) (fun e => by have := (o7.lt _ e.symm).1; omega)).trans r7
      have b27 := OwnB.step (b26.alloc b26.size (.cells #[bv h.bank] 5)) ((own_one w6 5 h.bank w6.heap.size (Nat.le_refl _)).mono b26.size) hg7' (by simp; have := b26.size; omega)
      have b28 := OwnB.step b27 (o7.mono b26.size) hg8 (by have := b26.size; omega)
      have hlen : ([h.bank] ++ L1 ++ L2).length = 9 := by rw [List.length_append, List.length_append, HL1.out, HL2.out]; rfl
      rw [hlen, HBO.out] at hB8
      rw [HL1.out, HL2.out]
      refine (P5.out _ _ _ hB8).mono ?_
      rintro e w9 ⟨rfl, b9⟩
      have b29 := b28.trans (b9.mono b28.size)
      have r9 := (b9.block (w.heap.size + 1) (by have := hg8.size; omega)).trans r8
      clear r6a r7 r8 r6 hg8 hg7' o7 o67 hB7 hB8 o8 n6 a6 a7 m6 c23 b26 b27 b28 b9
      go_wp2_with (refine wp_st0 (.tmp 4) (.tmp 46) S r9 zero_len hsl rfl rfl rfl rfl ?_; intro W hW hc)
      refine bodyPost_ret (results_cell_tmp rfl rfl (blk_load (blk_range hW) hsl)) rfl ⟨?_, (Chg.of_below b29 [w.heap.size + 1]).trans hc (Sub.refl _ _) |>.below (Nat.le_refl _) (fun k hk => by simp at hk; omega)⟩
      rw [HP.out]
      rfl
end Go.Proofs.YthddcaoolaipiaaGreatDoor

/-
  contracts of cardexref06: Get, Newest.
-/
namespace Go.Proofs.YthddcaoolaipiaaGreatDoor
open Go.RowKit

theorem head_size : (Tryz.prog.info? 53).map (·.size) = some 3 := by kernel_rfl
set_option maxRecDepth 100000 in
theorem head_load {w : World} {g : Nat} {h : hd.H} {E : TypeId} (m : HM E w g h) : (loadVar 53 ⟨g, 0, none⟩).run Tryz.prog w = .ok (hd.val h) w :=
  run_loadVar_mid w g 0 _ _ _ m.range Tryz.underlying53 rfl head_size
set_option maxRecDepth 100000 in
theorem results_tct {fn : Func} {s t u : Tmp} {T : TypeId} (h : fn.results = #[.tmp s, .cell t T, .tmp u]) {tmps : Array Value} {P : Program} {w : World} {a : Addr} {x : Value} (ht : tmps.getD t undef = .pointer (some a)) (hl : (loadVar T a).run P w = .ok x w) :
    (results fn tmps).run P w = .ok (.tuple #[tmps.getD s undef, x, tmps.getD u undef]) w := by
  have ht' : tmps[t]?.getD undef = .pointer (some a) := by simpa using ht
  simp [results, h, ht', asAddr, hl]
set_option maxRecDepth 100000 in
/-- a head's cells are stored one by one -/
theorem HM.set3 {E : TypeId} {w : World} {g : Nat} {old : hd.H} (m : HM E w g old) (h : hd.H) :
    HM E (((w.setCell ⟨g, 0, none⟩ (bv h.bank)).setCell ⟨g, 1, none⟩ (.int .u32 h.blocks)).setCell ⟨g, 2, none⟩ (.int .u32 h.batches)) g h ∧
      Chg w (((w.setCell ⟨g, 0, none⟩ (bv h.bank)).setCell ⟨g, 1, none⟩ (.int .u32 h.blocks)).setCell ⟨g, 2, none⟩ (.int .u32 h.batches)) [g] := by
  refine ⟨?_, ((Chg.setCell _ _ _ _).trans (Chg.setCell _ _ _ _) (Sub.refl _ _)).trans (Chg.setCell _ _ _ _) (Sub.refl _ _)⟩
  have h1 := block_set (i := 0) m (bv h.bank)
  have h2 := block_set (i := 1) h1 (.int .u32 h.blocks)
  have h3 := block_set (i := 2) h2 (.int .u32 h.batches)
  exact h3.trans (by simp)
section
variable {ops : Array Oper} {rest : List Oper} {o : Oper} {a : Act} {w : World} {Q : Exit → Act → World → Prop}
set_option maxRecDepth 100000 in
/-- a head is loaded -/
theorem wp_ldh (x : Operand) (h : hd.H) {E : TypeId} {g : Nat} (m : HM E w g h) (hgd : o.guard = none) (ho : o.op = .load 53 x) (hx : a.eval x = .pointer (some ⟨g, 0, none⟩))
    (hk : wpList Tryz.prog ops Q rest (a.put o.dst (hd.val h)) w) : wpList Tryz.prog ops Q (o :: rest) a w :=
  wpList_load_mid hgd _ x ho g 0 hx _ _ m.range Tryz.underlying53 rfl head_size hk
set_option maxRecDepth 100000 in
/-- a head is stored -/
theorem wp_sth (x y : Operand) (h old : hd.H) {E : TypeId} {g : Nat} (m : HM E w g old) (hgd : o.guard = none) (ho : o.op = .store 53 x y) (hx : a.eval x = .pointer (some ⟨g, 0, none⟩)) (hy : a.eval y = hd.val h)
    (hk : ∀ W, HM E W g h → Chg w W [g] → wpList Tryz.prog ops Q rest (a.put o.dst undef) W) : wpList Tryz.prog ops Q (o :: rest) a w := by
  have h2 := block_sets (hd.cells h) 0 (hd.cells old) w m (by simp)
  refine wpList_store_mid hgd _ x y ho g 0 (hd.cells h).toArray hx hy ?_ (by simpa using head_size) (by simp [Value.oneCell']) ?_
  · have := there_of (cs := hd.cells old) m 0 3 (by simp)
    simpa using this
  · exact hk _ (show _ = _ by simpa using h2) (Chg.setCells g _ _ _)
end

theorem cells_head : Tryz.prog.cellsOf 53 = 3 := by kernel_rfl
theorem cells_u32' : Tryz.prog.cellsOf 51 = 1 := by kernel_rfl
set_option maxRecDepth 100000 in
theorem wf_u32' {n : Nat} (h : n < 4294967296) : (Lit.int .u32 (n : Int)).wf = true := by
  simp [Lit.wf, IntKind.min, IntKind.max, IntKind.signed, IntKind.bits]
  omega
set_option maxRecDepth 100000 in
theorem lits_head (h : hd.H) (hok : h.Ok) : Tryz.prog.keyLits 2 53 (hd.val h).cells.toList = some [.int .u8 (h.bank.toNat : Int), .int .u32 (h.blocks : Int), .int .u32 (h.batches : Int)] := by
  have hc : (hd.val h).cells.toList = hd.cells h := rfl
  rw [hc]
  have k0 : Tryz.prog.keyLits 1 5 [bv h.bank] = some [.int .u8 (h.bank.toNat : Int)] := by
    unfold Program.keyLits
    rw [Tryz.underlying5]
    simp [wf_u8']
  have k1 : ∀ n : Nat, n < 4294967296 → Tryz.prog.keyLits 1 51 [.int .u32 (n : Int)] = some [.int .u32 (n : Int)] := fun n hn => by
    unfold Program.keyLits
    rw [Tryz.underlying51]
    simp [wf_u32' hn]
  have k2 := k1 h.blocks hok.blocks
  have k3 := k1 h.batches hok.batches
  unfold Program.keyLits
  rw [Tryz.underlying53]
  simp only [cells_head]
  rw [if_pos ⟨rfl, by kernel_rfl⟩]
  simp [List.mapM_cons, cells_u8', cells_u32', k0, k2, k3]
set_option maxRecDepth 100000 in
/-- heads compared -/
theorem eq_head (h k : hd.H) (hh : h.Ok) (hk : k.Ok) (W : World) : (Op.equalIn 10000 53 (hd.val h) (hd.val k)).run Tryz.prog W = .ok (decide (h = k)) W := by
  obtain ⟨r, hr, hiff⟩ := run_equalIn_deep (P := Tryz.prog) 9998 2 53 (by kernel_rfl) W 2 2 _ _ _ _ (by simp [Value.formed, Tryz.underlying53, cells_head]) (by simp [Value.formed, Tryz.underlying53, cells_head]) (lits_head h hh) (lits_head k hk)
  refine hr.trans ?_
  congr 1
  rw [Bool.eq_iff_iff, hiff, decide_eq_true_iff]
  obtain ⟨a0, a1, a2⟩ := h
  obtain ⟨b0, b1, b2⟩ := k
  simp only [List.cons.injEq, Lit.int.injEq, true_and, and_true, hd.H.mk.injEq]
  constructor
  · rintro ⟨e0, e1, e2⟩
    exact ⟨UInt8.toNat_inj.1 (by omega), by omega, by omega⟩
  · rintro ⟨rfl, rfl, rfl⟩
    exact ⟨rfl, rfl, rfl⟩

set_option maxRecDepth 100000 in
theorem hd.headOf_Ok (l : List UInt8) : (hd.headOf l).Ok := by
  refine ⟨?_, ?_⟩
  · have h1 := leVal_lt ((l.drop 1).take 4)
    refine Nat.lt_of_lt_of_le h1 ?_
    exact Nat.pow_le_pow_right (by omega) (show 8 * ((l.drop 1).take 4).length ≤ 32 by rw [List.length_take]; omega)
  · have h1 := leVal_lt ((l.drop 5).take 4)
    refine Nat.lt_of_lt_of_le h1 ?_
    exact Nat.pow_le_pow_right (by omega) (show 8 * ((l.drop 5).take 4).length ≤ 32 by rw [List.length_take]; omega)
set_option maxRecDepth 100000 in
theorem sl.get_len {b : dk.Blk} (hb : b.length = 128) (h : (sl.get b).2.2 = 0) : (sl.get b).2.1.length = 108 := by
  obtain ⟨_, _, _, h4⟩ := sl.get_ok h
  rw [h4, List.length_take, List.length_drop]
  omega
set_option maxHeartbeats 4000000 in
set_option maxRecDepth 100000 in
theorem rget6_any (b : dk.Blk) (hb : b.length = 128) (w : World) : Calls Tryz.prog 96 #[dk.val b] w fun e w' =>
    e = .returned (.tuple #[.int .u64 (hd.get b).1, hd.val (hd.get b).2.1, .int .i64 (hd.get b).2.2]) ∧ Below w.heap.size w w' := by
  obtain ⟨hz, -⟩ := zero_of_info zero_blk
  obtain ⟨hzh, -⟩ := zero_of_info info_head
  have r1 := heap_alloc_new w (.cells (dk.cells b).toArray 43)
  have b1 : Below w.heap.size w (w.alloc (.cells (dk.cells b).toArray 43)) := (Below.refl _ _).alloc (Nat.le_refl _) _
  have r2 := (Below.heap_alloc (w.alloc (.cells (dk.cells b).toArray 43)) (.cells #[bv hd.zero.bank, .int .u32 hd.zero.blocks, .int .u32 hd.zero.batches] 53) w.heap.size (by simp)).trans r1
  have m2 := HM.new (w.alloc (.cells (dk.cells b).toArray 43)) 53 hd.zero
  rw [show (w.alloc (.cells (dk.cells b).toArray 43)).heap.size = w.heap.size + 1 from by simp] at m2
  have b2 := b1.alloc b1.size (.cells #[bv hd.zero.bank, .int .u32 hd.zero.blocks, .int .u32 hd.zero.batches] 53)
  have hlen2 : w.heap.size + 1 < ((w.alloc (.cells (dk.cells b).toArray 43)).alloc (.cells #[bv hd.zero.bank, .int .u32 hd.zero.blocks, .int .u32 hd.zero.batches] 53)).heap.size := by simp
  obtain ⟨W2, hW2⟩ : ∃ W2, (w.alloc (.cells (dk.cells b).toArray 43)).alloc (.cells #[bv hd.zero.bank, .int .u32 hd.zero.blocks, .int .u32 hd.zero.batches] 53) = W2 := ⟨_, rfl⟩
  have m2' : HM 53 W2 (w.heap.size + 1) hd.zero := by rw [← hW2]; exact m2
  rw [hW2] at r2 b2 hlen2
  obtain ⟨N, hN⟩ : ∃ e, (sl.get b).1 = e := ⟨_, rfl⟩
  obtain ⟨l, hl⟩ : ∃ e, (sl.get b).2.1 = e := ⟨_, rfl⟩
  obtain ⟨e0, he⟩ : ∃ e, (sl.get b).2.2 = e := ⟨_, rfl⟩
  have hg := rget5_any b hb W2
  rw [hN, hl, he] at hg
  have HG := Lib.hid hg
  have rg := blk_range r2
  have hdef : hd.get b = if e0 = 0 then (if (hd.put N (hd.headOf l)).2 = 0 ∧ (hd.put N (hd.headOf l)).1 = b then (N, hd.headOf l, 0) else (0, hd.zero, 5)) else (0, hd.zero, e0) := by rw [← hN, ← hl, ← he]; rfl
  have HDEF := Lib.hid hdef
  have hlen : e0 = 0 → l.length = 108 := fun h => by rw [← hl]; exact sl.get_len hb (he.trans h)
  have HLEN := Lib.hid hlen
  have hNlt : N < 18446744073709551616 := by rw [← hN]; exact sl.worth_lt b
  clear hg r1 b1 m2 hdef hN hl he hlen
  go_enter Tryz.func96, Tryz.ntmps96
  go_wp2_with (refine wp_ld (.tmp 1) b rg hb rfl rfl rfl ?_)
  refine HG.out.mono ?_
  rintro e w3 ⟨v3, rfl, o3, b3⟩
  have b23 := b2.trans (b3.mono b2.size)
  have m3 := m2'.below b3 hlen2
  have r3 := (b3.block w.heap.size (by omega)).trans r2
  have hl3 := b3.size
  clear HG rg hW2 m2' r2 b2
  by_cases he0 : e0 = 0
  · have he0' : (e0 != 0) = false := by simp [he0]
    have hll := HLEN.out he0
    obtain ⟨A3, c3, rfl, hB3⟩ := o3.form
    rw [hll] at hB3 ⊢
    have hcap := hB3.cap
    have hmax := hB3.max
    have hk1 := rget_yes A3 108 c3 l 1 4 w3 hB3 rfl (by omega)
    have hk2 := rget_yes A3 108 c3 l 5 4 w3 hB3 rfl (by omega)
    obtain ⟨x1, hx1⟩ : ∃ x, leVal ((l.drop 1).take 4) = x := ⟨_, rfl⟩
    obtain ⟨x2, hx2⟩ : ∃ x, leVal ((l.drop 5).take 4) = x := ⟨_, rfl⟩
    obtain ⟨x0, hx0⟩ : ∃ x, l.getD 0 0 = x := ⟨_, rfl⟩
    have hho : hd.headOf l = ⟨x0, x1, x2⟩ := by rw [hd.headOf, hx1, hx2, hx0]
    have hOk := hd.headOf_Ok l
    rw [hho] at hOk
    have k1 := hOk.blocks
    have k2 := hOk.batches
    simp only at k1 k2
    have hput := fun W => rput6_any N hNlt ⟨x0, x1, x2⟩ hOk W
    obtain ⟨S, hS⟩ : ∃ e, (hd.put N ⟨x0, x1, x2⟩).1 = e := ⟨_, rfl⟩
    obtain ⟨f, hf⟩ : ∃ e, (hd.put N ⟨x0, x1, x2⟩).2 = e := ⟨_, rfl⟩
    have hSl : S.length = 128 := by rw [← hS]; exact hd.put_len _ _
    simp only [hS, hf] at hput
    have hdef := HDEF.out
    rw [if_pos he0, hho, hS, hf] at hdef
    have HD := Lib.hid hdef
    have HPUT := Lib.hid hput
    rw [hx1] at hk1
    rw [hx2] at hk2
    have HK1 := Lib.hid hk1
    have HK2 := Lib.hid hk2
    obtain ⟨gb, go, rfl, hgl, hcell⟩ := hB3.has (by omega)
    have c00 := hcell 0 (by omega)
    have e00 : l[0]'(by omega) = x0 := by rw [← hx0, List.getD_eq_getElem?_getD, List.getElem?_eq_getElem (by omega)]; rfl
    rw [e00, Nat.add_zero] at c00
    have hw1 : IntKind.u32.wrap (x1 : Int) = (x1 : Int) := IntWalk.u32_in _ ⟨by omega, by omega⟩
    have hw2 : IntKind.u32.wrap (x2 : Int) = (x2 : Int) := IntWalk.u32_in _ ⟨by omega, by omega⟩
    clear hput hdef hk1 hk2 hx1 hx2 hx0 hho hS hf hcell e00 HDEF HLEN hB3
    go_wp2_with fail
    refine HK1.out.mono ?_
    rintro e w4 ⟨rfl, rfl⟩
    go_wp2_with fail
    refine HK2.out.mono ?_
    rintro e w4 ⟨rfl, rfl⟩
    have n3 := HM.new w3 53 hd.zero
    obtain ⟨X1, hX1⟩ : ∃ X, w3.heap.size = X := ⟨_, rfl⟩
    rw [hX1] at n3
    clear HK1 HK2
    go_wp2_with (first
      | (refine wp_sth (.tmp 12) (.tmp 42) ⟨x0, x1, x2⟩ hd.zero n3 rfl rfl rfl rfl ?_; intro w4 m4 hc4; rw [← hX1] at hc4; have b4 := new_chg hc4)
      | refine wp_ldh (.tmp 12) ⟨x0, x1, x2⟩ m4 rfl rfl rfl ?_)
    have b24 := b23.trans (b4.mono b23.size)
    have m34 := m3.below b4 m3.lt
    have r4 := (b4.block w.heap.size (by omega)).trans r3
    have hl4 := b4.size
    clear hc4 n3 m3 r3 c00 o3
    refine (HPUT.out w4).mono ?_
    rintro e w5 ⟨rfl, b5⟩
    have b25 := b24.trans (b5.mono b24.size)
    have m35 := m34.below b5 m34.lt
    have m5 := m4.below b5 m4.lt
    have r5 := (b5.block w.heap.size (by omega)).trans r4
    have hl5 := b5.size
    have n5 := heap_alloc_new w5 (.cells (dk.cells dk.zero).toArray 43)
    have hX1l := m4.lt
    obtain ⟨X2, hX2⟩ : ∃ X, w5.heap.size = X := ⟨_, rfl⟩
    rw [hX2] at n5
    have hE := eq_blk S b hSl hb
    clear m34 m4 r4 b24 b4 b5 HPUT
    by_cases hf0 : f = 0
    · have hf0' : (f != 0) = false := by simp [hf0]
      by_cases hSb : S = b
      · rw [decide_eq_true hSb] at hE
        have hd := HD.out
        rw [if_pos ⟨hf0, hSb⟩] at hd
        have HD' := Lib.hid hd
        clear hd HD hSb
        go_wp2_with (first
          | (refine wp_st0 (.tmp 13) (.tmp 47) S n5 zero_len hSl rfl rfl rfl rfl ?_; intro w6 hW6 hc6; rw [← hX2] at hc6; have b6 := new_chg hc6; have g6 := blk_range hW6; have g7 := blk_range ((b6.block w.heap.size (by omega)).trans r5))
          | refine wp_ldw (.tmp 13) S g6 hSl rfl rfl (by rfl) ?_
          | refine wp_ldw (.tmp 1) b g7 hb rfl rfl (by rfl) ?_)
        have m6 := m5.below b6 (by omega)
        have m36 := m35.below b6 m35.lt
        have b26 := b25.trans (b6.mono b25.size)
        have c0 := m6.c0
        have c1 := m6.c1
        have c2 := m6.c2
        have d0 := m36.c0
        have d1 := m36.c1
        have d2 := m36.c2
        have f0 := m36.fz 0
        have f1 := m36.fz 1
        have f2 := m36.fz 2
        have hne : X1 ≠ w.heap.size + 1 := by omega
        clear hW6 hc6 b6 g6 g7 m6 m5 hE n5 r5 b3
        have hset := m36.set3 ⟨x0, x1, x2⟩
        have HSET := Lib.hid hset
        clear hset
        go_region
        have hset := HSET.out
        clear c0 c1 c2 d0 d1 d2 f0 f1 f2 m35 m36 HSET
        obtain ⟨hs1, hs2⟩ := hset
        have hs3 := hs1.drew
        have hs4 := (hs2.trans (Chg.drew _ _) (Sub.refl _ _))
        generalize ((((w6.setCell ⟨w.heap.size + 1, 0, none⟩ (bv x0)).setCell ⟨w.heap.size + 1, 1, none⟩ (.int .u32 x1)).setCell ⟨w.heap.size + 1, 2, none⟩ (.int .u32 x2)).drew) = w7 at *
        go_wp2_with fail
        refine bodyPost_ret (results_tct rfl rfl (head_load hs3)) rfl ⟨?_, (Chg.of_below b26 [w.heap.size + 1]).trans hs4 (Sub.refl _ _) |>.below (Nat.le_refl _) (fun k hk => by simp at hk; omega)⟩
        rw [HD'.out]
        rfl
      · rw [decide_eq_false hSb] at hE
        have hd := HD.out
        rw [if_neg (fun h => hSb h.2)] at hd
        have HD' := Lib.hid hd
        clear hd HD hSb
        go_wp2_with (first
          | (refine wp_st0 (.tmp 13) (.tmp 47) S n5 zero_len hSl rfl rfl rfl rfl ?_; intro w6 hW6 hc6; rw [← hX2] at hc6; have b6 := new_chg hc6; have g6 := blk_range hW6; have g7 := blk_range ((b6.block w.heap.size (by omega)).trans r5); have m36 := m35.below b6 m35.lt; have b26 := b25.trans (b6.mono b25.size))
          | refine wp_ldw (.tmp 13) S g6 hSl rfl rfl (by rfl) ?_
          | refine wp_ldw (.tmp 1) b g7 hb rfl rfl (by rfl) ?_
          | (refine wp_sth (.tmp 3) (.tmp 56) hd.zero hd.zero m36 rfl rfl rfl rfl ?_; intro w7 m7 hc7))
        refine bodyPost_ret (results_tct rfl rfl (head_load m7)) rfl ⟨?_, (Chg.of_below b26 [w.heap.size + 1]).trans hc7 (Sub.refl _ _) |>.below (Nat.le_refl _) (fun k hk => by simp at hk; omega)⟩
        rw [HD'.out]
        rfl
    · have hf0' : (f != 0) = true := by simp [hf0]
      have hd := HD.out
      rw [if_neg (fun h => hf0 h.1)] at hd
      have HD' := Lib.hid hd
      clear hd HD hE
      go_wp2_with (first
        | (refine wp_st0 (.tmp 13) (.tmp 47) S n5 zero_len hSl rfl rfl rfl rfl ?_; intro w6 hW6 hc6; rw [← hX2] at hc6; have b6 := new_chg hc6; have m36 := m35.below b6 m35.lt; have b26 := b25.trans (b6.mono b25.size))
        | (refine wp_sth (.tmp 3) (.tmp 56) hd.zero hd.zero m36 rfl rfl rfl rfl ?_; intro w7 m7 hc7))
      refine bodyPost_ret (results_tct rfl rfl (head_load m7)) rfl ⟨?_, (Chg.of_below b26 [w.heap.size + 1]).trans hc7 (Sub.refl _ _) |>.below (Nat.le_refl _) (fun k hk => by simp at hk; omega)⟩
      rw [HD'.out]
      rfl
  · have he0' : (e0 != 0) = true := by simp [he0]
    have hdef := HDEF.out
    rw [if_neg he0] at hdef
    have HD := Lib.hid hdef
    clear hdef
    go_wp2_with (refine wp_sth (.tmp 3) (.tmp 23) hd.zero hd.zero m3 rfl rfl rfl rfl ?_; intro w4 m4 hc4)
    refine bodyPost_ret (results_tct rfl rfl (head_load m4)) rfl ⟨?_, (Chg.of_below b23 [w.heap.size + 1]).trans hc4 (Sub.refl _ _) |>.below (Nat.le_refl _) (fun k hk => by simp at hk; omega)⟩
    rw [HD.out]
    rfl
set_option maxHeartbeats 4000000 in
set_option maxRecDepth 100000 in
theorem rnewest6_any (a b : dk.Blk) (ha : a.length = 128) (hb : b.length = 128) (w : World) : Calls Tryz.prog 73 #[dk.val a, dk.val b] w fun e w' =>
    e = .returned (.tuple #[.int .u64 (hd.newest a b).1, hd.val (hd.newest a b).2.1, .int .i64 (hd.newest a b).2.2]) ∧ Below w.heap.size w w' := by
  obtain ⟨hzh, -⟩ := zero_of_info info_head
  obtain ⟨N1, hN1⟩ : ∃ e, (hd.get a).1 = e := ⟨_, rfl⟩
  obtain ⟨h1, hh1⟩ : ∃ e, (hd.get a).2.1 = e := ⟨_, rfl⟩
  obtain ⟨e1, he1⟩ : ∃ e, (hd.get a).2.2 = e := ⟨_, rfl⟩
  obtain ⟨N2, hN2⟩ : ∃ e, (hd.get b).1 = e := ⟨_, rfl⟩
  obtain ⟨h2, hh2⟩ : ∃ e, (hd.get b).2.1 = e := ⟨_, rfl⟩
  obtain ⟨e2, he2⟩ : ∃ e, (hd.get b).2.2 = e := ⟨_, rfl⟩
  have HA := Lib.hid (fun W => rget6_any a ha W)
  have HB := Lib.hid (fun W => rget6_any b hb W)
  have hdef : hd.newest a b = if ¬ e1 = 0 ∧ ¬ e2 = 0 then (0, hd.zero, 7) else if N1 < N2 then (N2, h2, 0) else (N1, h1, 0) := by rw [← hN1, ← hN2, ← hh1, ← hh2, ← he1, ← he2]; rfl
  rw [hN1, hh1, he1] at HA
  rw [hN2, hh2, he2] at HB
  have HDEF := Lib.hid hdef
  have r1 := heap_alloc_new w (.cells (dk.cells a).toArray 43)
  have b1 : Below w.heap.size w (w.alloc (.cells (dk.cells a).toArray 43)) := (Below.refl _ _).alloc (Nat.le_refl _) _
  obtain ⟨Wa, hWa⟩ : ∃ Wa, w.alloc (.cells (dk.cells a).toArray 43) = Wa := ⟨_, rfl⟩
  have hsa : Wa.heap.size = w.heap.size + 1 := by rw [← hWa]; simp
  rw [hWa] at r1 b1
  have r2 := (Below.heap_alloc Wa (.cells (dk.cells b).toArray 43) w.heap.size (by omega)).trans r1
  have s2 := heap_alloc_new Wa (.cells (dk.cells b).toArray 43)
  have b2 := b1.alloc b1.size (.cells (dk.cells b).toArray 43)
  obtain ⟨Wb, hWb⟩ : ∃ Wb, Wa.alloc (.cells (dk.cells b).toArray 43) = Wb := ⟨_, rfl⟩
  have hsb : Wb.heap.size = w.heap.size + 2 := by rw [← hWb]; simp; omega
  rw [hWb] at r2 s2 b2
  rw [hsa] at s2
  have r3 := (Below.heap_alloc Wb (.cells #[bv hd.zero.bank, .int .u32 hd.zero.blocks, .int .u32 hd.zero.batches] 53) w.heap.size (by omega)).trans r2
  have s3 := (Below.heap_alloc Wb (.cells #[bv hd.zero.bank, .int .u32 hd.zero.blocks, .int .u32 hd.zero.batches] 53) (w.heap.size + 1) (by omega)).trans s2
  have m3 := HM.new Wb 53 hd.zero
  have b3 := b2.alloc b2.size (.cells #[bv hd.zero.bank, .int .u32 hd.zero.blocks, .int .u32 hd.zero.batches] 53)
  rw [hsb] at m3
  obtain ⟨W3, hW3⟩ : ∃ W3, Wb.alloc (.cells #[bv hd.zero.bank, .int .u32 hd.zero.blocks, .int .u32 hd.zero.batches] 53) = W3 := ⟨_, rfl⟩
  rw [hW3] at r3 s3 m3 b3
  have m3' : HM 53 W3 (w.heap.size + 1 + 1) hd.zero := m3
  have hl3 : w.heap.size + 1 + 1 < W3.heap.size := m3.lt
  have g3 := blk_range r3
  have hj : W3 = ((w.alloc (.cells (dk.cells a).toArray 43)).alloc (.cells (dk.cells b).toArray 43)).alloc (.cells #[bv hd.zero.bank, .int .u32 hd.zero.blocks, .int .u32 hd.zero.batches] 53) := by rw [← hW3, ← hWb, ← hWa]
  have HJ := Lib.hid hj
  clear hdef hN1 hN2 hh1 hh2 he1 he2 r1 b1 r2 s2 b2 hWb hWa hW3 hsa hsb hj
  go_enter Tryz.func73, Tryz.ntmps73
  go_wp2_with (first | (rw [← HJ.out]; refine wp_ld (.tmp 2) a g3 ha rfl rfl rfl ?_) | refine wp_ld (.tmp 2) a g3 ha rfl rfl rfl ?_)
  refine (HA.out _).mono ?_
  rintro e w4 ⟨rfl, b4⟩
  have b34 := b3.trans (b4.mono b3.size)
  have m4 := m3'.below b4 hl3
  have s4 := (b4.block (w.heap.size + 1) (by omega)).trans s3
  have hl4 := b4.size
  have n4 := HM.new w4 53 hd.zero
  obtain ⟨X1, hX1⟩ : ∃ X, w4.heap.size = X := ⟨_, rfl⟩
  rw [hX1] at n4
  clear g3 r3 s3 m3 m3' b3 b4 HA HJ
  go_wp2_with (first
    | (refine wp_sth (.tmp 8) (.tmp 17) h1 hd.zero n4 rfl rfl rfl rfl ?_; intro w5 n5 hc5; rw [← hX1] at hc5; have b5 := new_chg hc5; have g5 := blk_range ((b5.block (w.heap.size + 1) (by omega)).trans s4))
    | refine wp_ld (.tmp 3) b g5 hb rfl rfl rfl ?_)
  have b35 := b34.trans (b5.mono b34.size)
  have m5 := m4.below b5 (by omega)
  have hl5 := b5.size
  have hX1l := n5.lt
  clear g5 s4 m4 n4 hc5 b34 b5
  refine (HB.out _).mono ?_
  rintro e w6 ⟨rfl, b6⟩
  have b36 := b35.trans (b6.mono b35.size)
  have m6 := m5.below b6 m5.lt
  have n56 := n5.below b6 n5.lt
  have hl6 := b6.size
  have n6 := HM.new w6 53 hd.zero
  obtain ⟨X2, hX2⟩ : ∃ X, w6.heap.size = X := ⟨_, rfl⟩
  rw [hX2] at n6
  clear m5 n5 b35 b6 HB
  have hcs : (¬ e1 = 0 ∧ ¬ e2 = 0) ∨ e1 = 0 ∨ (¬ e1 = 0 ∧ e2 = 0) := by omega
  have hstep : ∀ w7, HM 53 w7 X2 h2 → Chg (w6.alloc (.cells #[bv hd.zero.bank, .int .u32 hd.zero.blocks, .int .u32 hd.zero.batches] 53)) w7 [X2] → HM 53 w7 (w.heap.size + 1 + 1) hd.zero ∧ HM 53 w7 X1 h1 ∧ Below w.heap.size w w7 := fun w7 n7 hc7 => by
    rw [← hX2] at hc7
    have b7 := new_chg hc7
    exact ⟨m6.below b7 m6.lt, n56.below b7 n56.lt, b36.trans (b7.mono b36.size)⟩
  have HSTEP := Lib.hid hstep
  have hne1 : X1 ≠ w.heap.size + 1 + 1 := by omega
  have hne2 : X2 ≠ w.heap.size + 1 + 1 := by omega
  clear hstep m6 n56 b36
  rcases hcs with ⟨he1, he2⟩ | hcs
  · have he1' : (e1 != 0) = true := by simp [he1]
    have he2' : (e2 != 0) = true := by simp [he2]
    have hd := HDEF.out
    rw [if_pos ⟨he1, he2⟩] at hd
    have HD := Lib.hid hd
    clear hd HDEF
    go_wp2_with (first
      | (refine wp_sth (.tmp 11) (.tmp 23) h2 hd.zero n6 rfl rfl rfl rfl ?_; intro w7 n8 hc7; obtain ⟨m7, n7, b7⟩ := HSTEP.out w7 n8 hc7)
      | (refine wp_sth (.tmp 5) (.tmp 31) hd.zero hd.zero m7 rfl rfl rfl rfl ?_; intro w8 m8 hc8))
    refine bodyPost_ret (results_tct rfl rfl (head_load m8)) rfl ⟨?_, (Chg.of_below b7 [w.heap.size + 1 + 1]).trans hc8 (Sub.refl _ _) |>.below (Nat.le_refl _) (fun k hk => by simp at hk; omega)⟩
    rw [HD.out]
    rfl
  · have hd := HDEF.out
    rw [if_neg (fun h => by omega)] at hd
    have HD0 := Lib.hid hd
    clear hd HDEF
    by_cases hlt : N1 < N2
    · have hlt' : (N1 : Int) < (N2 : Int) := by omega
      have hd := HD0.out
      rw [if_pos hlt] at hd
      have HD := Lib.hid hd
      clear hd HD0
      rcases hcs with he1 | ⟨he1, he2⟩
      case' inl => have he1' : (e1 != 0) = false := by simp [he1]
      case' inr => have he1' : (e1 != 0) = true := by simp [he1]
      case' inr => have he2' : (e2 != 0) = false := by simp [he2]
      all_goals
        go_wp2_with (refine wp_sth (.tmp 11) (.tmp 23) h2 hd.zero n6 rfl rfl rfl rfl ?_; intro w7 n8 hc7; obtain ⟨m7, n7, b7⟩ := HSTEP.out w7 n8 hc7)
        have c0 := n8.c0
        have c1 := n8.c1
        have c2 := n8.c2
        have d0 := m7.c0
        have d1 := m7.c1
        have d2 := m7.c2
        have f0 := m7.fz 0
        have f1 := m7.fz 1
        have f2 := m7.fz 2
        have HSET := Lib.hid (m7.set3 h2)
        clear m7 n7 n8
        go_wp2_with fail
        go_region
        obtain ⟨hs1, hs2⟩ := HSET.out
        have hs3 := hs1.drew
        have hs4 := (hs2.trans (Chg.drew _ _) (Sub.refl _ _))
        clear c0 c1 c2 d0 d1 d2 f0 f1 f2 HSET hs1 hs2
        generalize ((((w7.setCell ⟨w.heap.size + 1 + 1, 0, none⟩ (bv h2.bank)).setCell ⟨w.heap.size + 1 + 1, 1, none⟩ (.int .u32 h2.blocks)).setCell ⟨w.heap.size + 1 + 1, 2, none⟩ (.int .u32 h2.batches)).drew) = w8 at *
        go_wp2_with fail
        refine bodyPost_ret (results_tct rfl rfl (head_load hs3)) rfl ⟨?_, (Chg.of_below b7 [w.heap.size + 1 + 1]).trans hs4 (Sub.refl _ _) |>.below (Nat.le_refl _) (fun k hk => by simp at hk; omega)⟩
        rw [HD.out]
        rfl
    · have hlt' : ¬ (N1 : Int) < (N2 : Int) := by omega
      have hd := HD0.out
      rw [if_neg hlt] at hd
      have HD := Lib.hid hd
      clear hd HD0
      rcases hcs with he1 | ⟨he1, he2⟩
      case' inl => have he1' : (e1 != 0) = false := by simp [he1]
      case' inr => have he1' : (e1 != 0) = true := by simp [he1]
      case' inr => have he2' : (e2 != 0) = false := by simp [he2]
      all_goals
        go_wp2_with (refine wp_sth (.tmp 11) (.tmp 23) h2 hd.zero n6 rfl rfl rfl rfl ?_; intro w7 n8 hc7; obtain ⟨m7, n7, b7⟩ := HSTEP.out w7 n8 hc7)
        have c0 := n7.c0
        have c1 := n7.c1
        have c2 := n7.c2
        have d0 := m7.c0
        have d1 := m7.c1
        have d2 := m7.c2
        have f0 := m7.fz 0
        have f1 := m7.fz 1
        have f2 := m7.fz 2
        have HSET := Lib.hid (m7.set3 h1)
        clear m7 n7 n8
        go_wp2_with fail
        go_region
        obtain ⟨hs1, hs2⟩ := HSET.out
        have hs3 := hs1.drew
        have hs4 := (hs2.trans (Chg.drew _ _) (Sub.refl _ _))
        clear c0 c1 c2 d0 d1 d2 f0 f1 f2 HSET hs1 hs2
        generalize ((((w7.setCell ⟨w.heap.size + 1 + 1, 0, none⟩ (bv h1.bank)).setCell ⟨w.heap.size + 1 + 1, 1, none⟩ (.int .u32 h1.blocks)).setCell ⟨w.heap.size + 1 + 1, 2, none⟩ (.int .u32 h1.batches)).drew) = w8 at *
        go_wp2_with fail
        refine bodyPost_ret (results_tct rfl rfl (head_load hs3)) rfl ⟨?_, (Chg.of_below b7 [w.heap.size + 1 + 1]).trans hs4 (Sub.refl _ _) |>.below (Nat.le_refl _) (fun k hk => by simp at hk; omega)⟩
        rw [HD.out]
        rfl
end Go.Proofs.YthddcaoolaipiaaGreatDoor

/-
  ARGUMENTS OPENED: a head by value.
-/
namespace Go.Proofs.YthddcaoolaipiaaGreatDoor
open Go.ChangeShapes Go.WideShapes Go.ChangeAt Go.RowKit

set_option maxRecDepth 100000 in
theorem open_head {H : Type} {enc : TypeId × Value → H} {W : World} {sp : Nat → Bool} {held : Bool} {fuel : Nat} {cs : List Value} {x : DataW H × List MemPlace} (h : DataW.trod enc Tryz.prog W 0 sp held fuel 53 cs = some x) : ∃ a : hd.H, cs = hd.cells a ∧ a.Ok := by
  obtain ⟨xs, n', _, _, hcl, hxl, hfx⟩ := DataW.trod_struct Tryz.underlying53 h
  rw [cells_head] at hcl
  have f0 : DataW.trod enc Tryz.prog W 0 sp held n' 5 ((cs.drop 0).take (Tryz.prog.cellsOf 5)) = xs[0]? := hfx 0 _ rfl
  have f1 : DataW.trod enc Tryz.prog W 0 sp held n' 51 ((cs.drop 1).take (Tryz.prog.cellsOf 51)) = xs[1]? := hfx 1 _ rfl
  have f2 : DataW.trod enc Tryz.prog W 0 sp held n' 51 ((cs.drop 2).take (Tryz.prog.cellsOf 51)) = xs[2]? := hfx 2 _ rfl
  have hx2 : xs.length = 3 := hxl
  rw [cells_u8', List.getElem?_eq_getElem (by omega)] at f0
  rw [cells_u32', List.getElem?_eq_getElem (by omega)] at f1 f2
  obtain ⟨z0, h0, _, w0⟩ := DataW.trod_int Tryz.underlying5 f0
  obtain ⟨z1, h1, _, w1⟩ := DataW.trod_int Tryz.underlying51 f1
  obtain ⟨z2, h2, _, w2⟩ := DataW.trod_int Tryz.underlying51 f2
  obtain ⟨y, hy⟩ := byte_of_wf' w0
  obtain ⟨n1, rfl, k1⟩ := u32_nat w1
  obtain ⟨n2, rfl, k2⟩ := u32_nat w2
  refine ⟨⟨y, n1, n2⟩, ?_, k1, k2⟩
  match cs, hcl with
  | [c0, c1, c2], _ =>
    simp only [List.drop_zero, List.take_succ_cons, List.take_zero, List.cons.injEq, and_true] at h0
    simp only [List.drop_succ_cons, List.drop_zero, List.take_succ_cons, List.take_zero, List.cons.injEq, and_true] at h1 h2
    rw [h0, h1, h2, hy]
set_option maxRecDepth 100000 in
theorem open_head_val {H : Type} {enc : TypeId × Value → H} {W : World} {base : Nat} {v : Value} {d : DataW H} {ps : List MemPlace}
    (hval : Value.okWide Tryz.prog W .any base 53 v) (h : DataW.Trod enc Tryz.prog W 0 (fun _ => true) true 53 v d ps) : ∃ a : hd.H, v = hd.val a ∧ a.Ok := by
  obtain ⟨cs, rfl, hsz, _⟩ : ∃ cs, v = .agg cs ∧ cs.size = Tryz.prog.cellsOf 53 ∧ Row.okWide Tryz.prog W .any base 53 cs := by
    simpa [Value.okWide, Tryz.underlying53] using hval
  obtain ⟨fuel, hf⟩ := h
  obtain ⟨a, ha, hok⟩ := open_head hf
  refine ⟨a, ?_, hok⟩
  obtain ⟨l⟩ := cs
  simp only [Value.cells] at ha
  rw [show l = hd.cells a from ha]
end Go.Proofs.YthddcaoolaipiaaGreatDoor

/-
  PURE: a sealed block that is begun over another one, again and again, with the same number: it is the new one, the old one, or refused. No program is named here.
-/
namespace Go.Proofs.YthddcaoolaipiaaGreatDoor
namespace sl
/-- the first k bytes of a number, the others of what stood there -/
def mixb (M k : Nat) (l : List UInt8) : List UInt8 := (leBytes M 8).take k ++ l.drop k
theorem mixb_length {M k : Nat} {l : List UInt8} (hl : l.length = 8) (hk : k ≤ 8) : (mixb M k l).length = 8 := by
  rw [mixb, List.length_append, List.length_take, List.length_drop, leBytes_length]
  omega
theorem mixb_mixb (M k j : Nat) (l : List UInt8) (_ : k ≤ 8) (hj : j ≤ 8) : mixb M k (mixb M j l) = mixb M (max k j) l := by
  unfold mixb
  have hl : ((leBytes M 8).take j).length = j := by rw [List.length_take, leBytes_length]; omega
  rcases Nat.le_total k j with h | h
  · rw [Nat.max_eq_right h, List.drop_append, hl, show k - j = 0 from by omega, List.drop_zero, ← List.append_assoc]
    congr 1
    obtain ⟨d, rfl⟩ : ∃ d, j = k + d := ⟨j - k, by omega⟩
    rw [List.drop_take, List.take_add, Nat.add_sub_cancel_left]
  · rw [Nat.max_eq_left h, List.drop_append, List.drop_of_length_le (by rw [hl]; exact h), List.nil_append, hl, List.drop_drop]
    congr 2
    omega
theorem take_leBytes (n k : Nat) (hk : k ≤ 8) : (leBytes n 8).take k = leBytes n k := by
  apply List.ext_getElem?
  intro i
  by_cases hi : i < k
  · rw [List.getElem?_take_of_lt hi, leBytes_get n 8 i (by omega), leBytes_get n k i hi]
  · rw [List.getElem?_eq_none (by rw [List.length_take, leBytes_length]; omega), List.getElem?_eq_none (by rw [leBytes_length]; omega)]
/-- the block is away from number M: no beginning of a block of number M over it makes its ends agree -/
def Away (X : Blk) (M : Nat) : Prop := ∀ k, 1 ≤ k → k ≤ 8 → X.drop 120 ≠ last (leVal (mixb M k (X.take 8)))
theorem last_inj {n m : Nat} (hn : n < 18446744073709551616) (hm : m < 18446744073709551616) (e : last n = last m) : n = m := by
  have := congrArg leVal e
  rw [last, last, leVal_bytes, leVal_bytes, Nat.mod_eq_of_lt (by omega), Nat.mod_eq_of_lt (by omega)] at this
  omega
theorem leVal_lt8 {l : List UInt8} (h : l.length = 8) : leVal l < 18446744073709551616 := by
  have := leVal_lt l
  rwa [h] at this
/-- 0s are away from every number that is not the greatest -/
theorem away_zero {M : Nat} (hM : M < 18446744073709551615) : Away dk.zero M := by
  intro k h1 h8 e
  have hl : (mixb M k (dk.zero.take 8)).length = 8 := mixb_length (by simp [dk.zero]) h8
  have hlt := leVal_lt8 hl
  have e2 : leVal (dk.zero.drop 120) = 0 := by decide +kernel
  have e3 := congrArg leVal e
  rw [e2, last, leVal_bytes, Nat.mod_eq_of_lt (by omega)] at e3
  have e4 : leVal (mixb M k (dk.zero.take 8)) = 18446744073709551615 := by omega
  have e5 := leBytes_val _ 8 hl
  rw [e4] at e5
  by_cases hk : k = 8
  · subst hk
    have : mixb M 8 (dk.zero.take 8) = leBytes M 8 := by
      rw [mixb, List.take_of_length_le (by rw [leBytes_length]; omega), List.drop_of_length_le (by simp [dk.zero]), List.append_nil]
    rw [this, leVal_bytes, Nat.mod_eq_of_lt (by omega)] at e4
    omega
  · have e6 := congrArg (fun l => l.getD 7 0) e5
    have e7 : (leBytes 18446744073709551615 8).getD 7 0 = 255 := by decide +kernel
    have e8 : (mixb M k (dk.zero.take 8)).getD 7 0 = 0 := by
      rw [mixb, List.getD_eq_getElem?_getD, List.getElem?_append_right (by rw [List.length_take, leBytes_length]; omega), List.getElem?_drop, List.length_take, leBytes_length, show k + (7 - min k 8) = 7 from by omega]
      rfl
    simp only [e7, e8] at e6
    exact absurd e6 (by decide)
/-- a sealed block is away from the numbers that follow it -/
theorem away_seal {n M : Nat} {body : List UInt8} (hb : body.length ≤ 108) (h1 : n < M) (h2 : M < n + 256) (hn : n < 18446744073709551616) : Away (sealB n body) M := by
  intro k hk1 hk8 e
  rw [seal_drop120 n hb, seal_take8 n hb] at e
  have hl : (mixb M k (leBytes n 8)).length = 8 := mixb_length (leBytes_length _ _) hk8
  have e1 := last_inj hn (leVal_lt8 hl) e
  have e2 := leBytes_val _ 8 hl
  rw [← e1] at e2
  have e3 := congrArg (fun l => l.getD 0 0) e2
  have e4 : (mixb M k (leBytes n 8)).getD 0 0 = UInt8.ofNat M := by
    rw [mixb, List.getD_eq_getElem?_getD, List.getElem?_append_left (by rw [List.length_take, leBytes_length]; omega), List.getElem?_take_of_lt (by omega), leBytes_get M 8 0 (by omega)]
    simp
  have e5 : (leBytes n 8).getD 0 0 = UInt8.ofNat n := by
    rw [List.getD_eq_getElem?_getD, leBytes_get n 8 0 (by omega)]
    simp
  simp only [e4, e5] at e3
  have e6 := congrArg UInt8.toNat e3
  rw [UInt8.toNat_ofNat', UInt8.toNat_ofNat'] at e6
  omega
/-- WHAT IS BEGUN IS THE OLD ONE, THE NEW ONE, OR REFUSED, AND THEN IT CAN BE BEGUN AGAIN -/
theorem torn_away {X : Blk} (hX : X.length = 128) {M : Nat} (hM : M < 18446744073709551616) {body : List UInt8} (hb : body.length ≤ 108) (hA : Away X M) (t : Int) :
    dk.torn X (sealB M body) t = X ∨ dk.torn X (sealB M body) t = sealB M body ∨ (¬ (get (dk.torn X (sealB M body) t)).2.2 = 0 ∧ Away (dk.torn X (sealB M body) t) M) := by
  have hY := seal_length M hb
  have hY8 := seal_take8 M hb
  have hYl := seal_drop120 M hb
  generalize sealB M body = Y at *
  obtain ⟨T, hT⟩ : ∃ T, t.toNat = T := ⟨_, rfl⟩
  have htorn : dk.torn X Y t = Y.take T ++ X.drop T := by rw [dk.torn, hT]
  rw [htorn]
  clear htorn hT
  by_cases h0 : T = 0
  · subst h0
    exact .inl (by simp)
  by_cases h128 : 128 ≤ T
  · refine .inr (.inl ?_)
    rw [List.take_of_length_le (by omega), List.drop_of_length_le (by omega), List.append_nil]
  refine .inr ?_
  obtain ⟨X', hX'⟩ : ∃ X', Y.take T ++ X.drop T = X' := ⟨_, rfl⟩
  rw [hX']
  have hYT : (Y.take T).length = T := by rw [List.length_take]; omega
  by_cases h120 : T ≤ 120
  · refine .inr ?_
    have hd : X'.drop 120 = X.drop 120 := by
      rw [← hX', List.drop_append, hYT, List.drop_of_length_le (by omega), List.nil_append, List.drop_drop]
      congr 1
      omega
    have ht : X'.take 8 = mixb M (min T 8) (X.take 8) := by
      rw [← hX', List.take_append, hYT, mixb, List.take_take]
      congr 1
      · rw [← hY8, List.take_take]
        congr 1
        omega
      · rw [List.drop_take]
        by_cases h8 : T ≤ 8
        · rw [Nat.min_eq_left h8]
        · rw [show 8 - T = 0 from by omega, Nat.min_eq_right (by omega), Nat.sub_self, List.take_zero, List.take_zero]
    refine ⟨fun hok => ?_, fun k hk1 hk8 e => ?_⟩
    · obtain ⟨_, h1, _, _⟩ := get_ok hok
      rw [hd, number, ht] at h1
      exact hA (min T 8) (by omega) (by omega) h1
    · rw [hd, ht, mixb_mixb M k (min T 8) _ hk8 (by omega)] at e
      exact hA (max k (min T 8)) (by omega) (by omega) e
  · have hn : X'.take 8 = leBytes M 8 := by
      rw [← hX', List.take_append_of_le_length (by omega), List.take_take, Nat.min_eq_left (by omega), hY8]
    have ht : X'.take 120 = Y.take 120 := by
      rw [← hX', List.take_append_of_le_length (by omega), List.take_take, Nat.min_eq_left (by omega)]
    by_cases he : X'.drop 120 = last M
    · refine .inl ?_
      rw [← List.take_append_drop 120 X', ht, he, ← hYl, List.take_append_drop]
    · refine .inr ⟨fun hok => ?_, fun k hk1 hk8 e => ?_⟩
      · obtain ⟨_, h1, _, _⟩ := get_ok hok
        rw [number, hn, leVal_bytes, Nat.mod_eq_of_lt hM] at h1
        exact he h1
      · have hm : mixb M k (leBytes M 8) = leBytes M 8 := by rw [mixb, List.take_append_drop]
        rw [hn, hm, leVal_bytes, Nat.mod_eq_of_lt hM] at e
        exact he e
end sl
end Go.Proofs.YthddcaoolaipiaaGreatDoor

/-
  contracts of bytes.Clone, cardexref00.Copy, Wide, Left, Spoil.
-/
namespace Go.Proofs.YthddcaoolaipiaaGreatDoor
open Go.RowKit

theorem clone_any (A : Option Addr) (n c : Nat) (l : List UInt8) (w : World) (h : BS w A n c l) (hn : n ≤ 140737488355320) :
    Calls Tryz.prog 106 #[.slice A n c] w (OwnEnd 5 l w) := by
  obtain ⟨i0, hi, hz0, hz1, hz2⟩ := info_parts info_u8
  have k1 := fun W => Lib.run_eql_slice_nil (P := Tryz.prog) W 36 5 A n c 0 0 Tryz.underlying36
  cases A with
  | none =>
    obtain ⟨rfl, rfl⟩ := bs_none h
    go_enter Tryz.func106, Tryz.ntmps106
    go_wp2_with fail
    go_ret
    exact ⟨_, rfl, OwnB.nil_ _ _ _, Below.refl _ _⟩
  | some a =>
    go_enter Tryz.func106, Tryz.ntmps106
    go_wp2_with (at_builtin; refine wpList_append_bytes _ rfl (.tmp 5) (.tmp 6) 36 rfl 5 i0 Tryz.underlying36 hi hz0 hz1 hz2 w.heap.size _ _ rfl (own_empty w _) (some a) n c l rfl (h.alloc _) (by simp; omega) (by simp) ?_; intro v1 w1 ho1 hg1 _ _)
    go_ret
    exact ⟨_, rfl, ho1, OwnB.step ((Below.refl _ _).alloc (Nat.le_refl _) _) (own_empty w _) hg1 (by simp)⟩


theorem wide_step (l : List UInt8) (n j : Nat) (hl : l.length = n) (hj : j < n + 3) (x : UInt8) (hx : (l ++ [7, 7, 7])[j]? = some x) :
    ((l ++ [7, 7, 7]).take j ++ List.replicate (n + 3 - j) 0).set j x = (l ++ [7, 7, 7]).take (j + 1) ++ List.replicate (n + 3 - (j + 1)) 0 := by
  have hj' : j < (l ++ [7, 7, 7]).length := by simp; omega
  rw [List.set_append_right _ _ (by simp; omega), show j - (List.take j (l ++ [7, 7, 7])).length = 0 from by simp; omega, show n + 3 - j = (n + 3 - (j + 1)) + 1 from by omega, List.replicate_succ, List.set_cons_zero,
    List.take_succ_eq_append_getElem hj']
  rw [List.getElem?_eq_getElem hj'] at hx
  rw [Option.some.inj hx]
  simp




end Go.Proofs.YthddcaoolaipiaaGreatDoor

/-
  ROWS: contracts of num.Row, GetRow, cardexref01's.
-/
namespace Go.Proofs.YthddcaoolaipiaaGreatDoor
open Go.RowKit

set_option maxRecDepth 100000 in
theorem row_any (A : Option Addr) (n c : Nat) (l : List UInt8) (w : World) (h : BS w A n c l) (hn : n ≤ 140737488355320) :
    Calls Tryz.prog 70 #[.slice A n c] w (OwnEnd 5 (leBytes n 4 ++ l) w) := by
  obtain ⟨i0, hi, hz0, hz1, hz2⟩ := info_parts info_u8
  go_enter Tryz.func70, Tryz.ntmps70
  go_wp2_with (first
    | (go_at_call 95; refine (lowestFirst_any n 4 _ (by omega)).mono ?_; rintro e w' ⟨v, rfl, ho, hb⟩)
    | (at_builtin; refine wpList_append_bytes _ rfl (.tmp 6) (.tmp 7) 36 rfl 5 i0 Tryz.underlying36 hi hz0 hz1 hz2 w.heap.size _ _ rfl ho A n c l rfl (h.below hb) (by rw [leBytes_length]; omega) hb.size ?_; intro v1 w1 ho1 hg1 _ _))
  go_ret
  exact ⟨_, rfl, ho1, OwnB.step hb ho hg1 hb.size⟩

set_option maxRecDepth 100000 in
theorem rrow_any (A : Option Addr) (n c : Nat) (l : List UInt8) (w : World) (h : BS w A n c l) (hn : n < 4294967296) :
    Calls Tryz.prog 72 #[.slice A n c] w (OwnEnd 5 (leBytes n 4 ++ l) w) := by
  obtain ⟨i0, hi, hz0, hz1, hz2⟩ := info_parts info_u8
  have hp : putOk n 4 = true := by simp [putOk, isSz]; omega
  have cP : ∀ W, Calls Tryz.prog 67 #[.int .u64 n, .int .i64 4] W fun e w' => ∃ v, e = .returned (.tuple #[v, .int .i64 0]) ∧ OwnB 5 w' W.heap.size v (leBytes n 4) ∧ Below W.heap.size W w' :=
    fun W => (rput_any n 4 W (by omega)).mono fun e w' h => by
      obtain ⟨v, h1, h2⟩ := h.2.1 hp
      exact ⟨v, h1, h2, h.2.2⟩
  clear hp
  go_enter Tryz.func72, Tryz.ntmps72
  go_wp2_with (first
    | (go_at_call 67; refine (cP _).mono ?_; rintro e w' ⟨v, rfl, ho, hb⟩)
    | (at_builtin; refine wpList_append_bytes _ rfl (.tmp 12) (.tmp 13) 36 rfl 5 i0 Tryz.underlying36 hi hz0 hz1 hz2 w.heap.size _ _ rfl ho A n c l rfl (h.below hb) (by rw [leBytes_length]; omega) hb.size ?_; intro v1 w1 ho1 hg1 _ _))
  go_ret
  exact ⟨_, rfl, ho1, OwnB.step hb ho hg1 hb.size⟩

/-- what GetRow answers -/
def getRowR (l : List UInt8) (at_ most : Int) : List UInt8 × Int × Int :=
  let g := getR l at_ 4
  if g.2 ≠ 0 then ([], 0, g.2) else if most < g.1 then ([], 0, 3) else if (l.length : Int) < at_ + 4 + g.1 then ([], 0, 4) else ((l.drop (at_.toNat + 4)).take g.1, at_ + 4 + g.1, 0)
def RowEnd (E : TypeId) (r : List UInt8 × Int × Int) (w : World) (e : Ending) (w' : World) : Prop := ∃ v, e = .returned (.tuple #[v, .int .i64 r.2.1, .int .i64 r.2.2]) ∧ OwnB E w' w.heap.size v r.1 ∧ Below w.heap.size w w'

set_option maxRecDepth 100000 in
theorem getR_ok {l : List UInt8} {at_ s : Int} {q : Nat} (h : getR l at_ s = (q, 0)) : isSz s = true ∧ 0 ≤ at_ ∧ at_ + s ≤ l.length ∧ q = leVal ((l.drop at_.toNat).take s.toNat) := by
  unfold getR at h
  split at h
  · rename_i hc
    simp at hc
    split at h
    · rename_i h2
      injection h with h3 _
      exact ⟨hc.1, hc.2.1, h2, h3.symm⟩
    · injection h with _ h3
      cases h3
  · injection h with _ h3
    cases h3
set_option maxRecDepth 100000 in
theorem getR_ok4 {l : List UInt8} {at_ : Int} {q : Nat} (h : getR l at_ 4 = (q, 0)) : 0 ≤ at_ ∧ at_ + 4 ≤ l.length ∧ q < 4294967296 := by
  obtain ⟨_, h1, h2, h3⟩ := getR_ok h
  refine ⟨h1, h2, ?_⟩
  have := leVal_lt ((l.drop at_.toNat).take (4 : Int).toNat)
  rw [← h3] at this
  refine Nat.lt_of_lt_of_le this (Nat.le_trans (Nat.pow_le_pow_right (by omega) (show _ ≤ 32 from ?_)) (Nat.le_refl _))
  have : (List.take (4 : Int).toNat (l.drop at_.toNat)).length ≤ 4 := List.length_take_le _ _
  omega
set_option maxRecDepth 100000 in
theorem row_end_nil {E : TypeId} {x y : Int} {w : World} {e : Ending} (h : e = .returned (.tuple #[.slice none 0 0, .int .i64 x, .int .i64 y])) : RowEnd E ([], x, y) w e w :=
  ⟨_, h, OwnB.nil_ _ _ _, Below.refl _ _⟩

set_option maxRecDepth 100000 in
theorem getRow_any (A : Option Addr) (n c : Nat) (l : List UInt8) (at_ most : Int) (w : World) (h : BS w A n c l) (hn : n ≤ 140737488355320) (hmo : most ≤ 9223372036854775807) :
    Calls Tryz.prog 86 #[.slice A n c, .int .i64 at_, .int .i64 most] w (RowEnd 5 (getRowR l at_ most) w) := by
  have hl := h.len
  have cG := fun W hW => get_any A n c l at_ 4 W hW
  obtain ⟨⟨q, e0⟩, hg⟩ : ∃ g, getR l at_ 4 = g := ⟨_, rfl⟩
  rw [hg] at cG
  simp only at cG
  by_cases h0 : e0 = 0
  · subst h0
    obtain ⟨hat, hat4, hq⟩ := getR_ok4 hg
    obtain ⟨at_, rfl⟩ := Int.eq_ofNat_of_zero_le hat
    rw [hl] at hat4
    by_cases h1 : most < q
    · have hr : getRowR l at_ most = ([], 0, 3) := by simp [getRowR, hg, h1]
      rw [hr]
      clear hr hg hl
      by_cases hneg : most < 0
      · go_enter Tryz.func86, Tryz.ntmps86
        go_wp2_with (go_at_call 104; refine (cG _ h).mono ?_; rintro e w' ⟨rfl, rfl⟩)
        go_ret3
        exact row_end_nil rfl
      · have h1' : (q : Int) > most := h1
        go_enter Tryz.func86, Tryz.ntmps86
        go_wp2_with (go_at_call 104; refine (cG _ h).mono ?_; rintro e w' ⟨rfl, rfl⟩)
        go_ret3
        exact row_end_nil rfl
    · have hpos : ¬ most < 0 := by omega
      have h1' : (q : Int) ≤ most := by omega
      by_cases h2 : n < at_ + 4 + q
      · have hr : getRowR l at_ most = ([], 0, 4) := by simp [getRowR, hg, h1]; omega
        rw [hr]
        clear hr hg hl
        have h2' : (n : Int) - (at_ + 4) < q := by omega
        go_enter Tryz.func86, Tryz.ntmps86
        go_wp2_with (go_at_call 104; refine (cG _ h).mono ?_; rintro e w' ⟨rfl, rfl⟩)
        go_ret3
        exact row_end_nil rfl
      · have hr : getRowR l at_ most = ((l.drop (at_ + 4)).take q, (at_ : Int) + 4 + q, 0) := by
          have : ¬ (n : Int) < at_ + 4 + q := by omega
          simp only [getRowR, hg, hl, if_neg h1, if_neg this]
          simp
        rw [hr]
        clear hr hg hl
        have h2' : (q : Int) ≤ (n : Int) - (at_ + 4) := by omega
        go_enter Tryz.func86, Tryz.ntmps86
        go_wp2_with (first
          | (go_at_call 104; refine (cG _ h).mono ?_; rintro e w' ⟨rfl, rfl⟩)
          | (go_at_call 105; refine (cut_any A n c l (at_ + 4) q _ h (by omega)).mono ?_; rintro e w' ⟨A', rfl, hcut, rfl⟩)
          | (go_at_call 106; refine (clone_any A' q q _ _ hcut (by omega)).mono ?_; rintro e w' ⟨v, rfl, ho, hb⟩))
        go_ret3

        exact ⟨_, rfl, ho, hb⟩
  · have hr : getRowR l at_ most = ([], 0, e0) := by simp [getRowR, hg, h0]
    rw [hr]
    clear hr hg hl
    have hne : (e0 != 0) = true := by rw [bne_iff_ne]; exact h0
    go_enter Tryz.func86, Tryz.ntmps86
    go_wp2_with (go_at_call 104; refine (cG _ h).mono ?_; rintro e w' ⟨rfl, rfl⟩)
    go_ret3
    exact row_end_nil rfl

set_option maxRecDepth 100000 in
theorem rgetRow_any (A : Option Addr) (n c : Nat) (l : List UInt8) (at_ most : Int) (w : World) (h : BS w A n c l) (hn : n ≤ 140737488355320) :
    Calls Tryz.prog 90 #[.slice A n c, .int .i64 at_, .int .i64 most] w (RowEnd 5 (getRowR l at_ most) w) := by
  obtain ⟨i0, hi, hz0, hz1, hz2⟩ := info_parts info_u8
  have hl := h.len
  have hcap := h.cap
  have hmax := h.max
  have cG := fun W hW => rget_any A n c l at_ 4 W hW
  obtain ⟨⟨q, e0⟩, hg⟩ : ∃ g, getR l at_ 4 = g := ⟨_, rfl⟩
  rw [hg] at cG
  simp only at cG
  by_cases h0 : e0 = 0
  · subst h0
    obtain ⟨hat, hat4, hq⟩ := getR_ok4 hg
    obtain ⟨at_, rfl⟩ := Int.eq_ofNat_of_zero_le hat
    rw [hl] at hat4
    by_cases h1 : most < q
    · have hr : getRowR l at_ most = ([], 0, 3) := by simp [getRowR, hg, h1]
      rw [hr]
      clear hr hg hl
      go_enter Tryz.func90, Tryz.ntmps90
      go_wp2_with (go_at_call 108; refine (cG _ h).mono ?_; rintro e w' ⟨rfl, rfl⟩)
      go_ret3
      exact row_end_nil rfl
    · have h1' : (q : Int) ≤ most := by omega
      by_cases h2 : n < at_ + 4 + q
      · have hr : getRowR l at_ most = ([], 0, 4) := by simp [getRowR, hg, h1]; omega
        rw [hr]
        clear hr hg hl
        have h2' : ¬ (at_ : Int) + 4 + q ≤ n := by omega
        go_enter Tryz.func90, Tryz.ntmps90
        go_wp2_with (go_at_call 108; refine (cG _ h).mono ?_; rintro e w' ⟨rfl, rfl⟩)
        go_ret3
        exact row_end_nil rfl
      · have hr : getRowR l at_ most = ((l.drop (at_ + 4)).take q, (at_ : Int) + 4 + q, 0) := by
          have : ¬ (n : Int) < at_ + 4 + q := by omega
          simp only [getRowR, hg, hl, if_neg h1, if_neg this]
          simp
        rw [hr]
        have h2' : (at_ : Int) + 4 + q ≤ n := by omega
        clear hr hg hl
        by_cases hcf : c = at_ + 4
        · obtain rfl : q = 0 := by omega
          subst hcf
          go_enter Tryz.func90, Tryz.ntmps90
          go_wp2_with (first
            | (go_at_call 108; refine (cG _ h).mono ?_; rintro e w' ⟨rfl, rfl⟩)
            | (at_builtin; refine wpList_append_bytes _ rfl (.tmp 35) (.tmp 42) 36 rfl 5 i0 Tryz.underlying36 hi hz0 hz1 hz2 w.heap.size _ _ rfl (OwnB.nil_ _ _ _) A 0 0 [] (by first | rfl | (simp [Act.eval]; done) | (simp [Act.eval]; omega)) (BS.empty (by omega)) (by simp) (Nat.le_refl _) ?_; intro v1 w1 ho1 hg1 _ _))
          go_ret3
          exact ⟨_, rfl, ho1, OwnB.step (Below.refl _ _) (OwnB.nil_ 5 _ w.heap.size) hg1 (Nat.le_refl _)⟩
        · have hB : BS w (A.map fun x => x.add (at_ + 4)) q (c - (at_ + 4)) ((l.drop (at_ + 4)).take q) := by
            rcases Nat.eq_zero_or_pos q with hq0 | hq0
            · subst hq0
              rw [List.take_zero]
              exact BS.empty (by omega)
            · exact h.cut (by omega) (by omega) (by omega) hq0
          go_enter Tryz.func90, Tryz.ntmps90
          go_wp2_with (first
            | (go_at_call 108; refine (cG _ h).mono ?_; rintro e w' ⟨rfl, rfl⟩)
            | (at_builtin; refine wpList_append_bytes _ rfl (.tmp 35) (.tmp 42) 36 rfl 5 i0 Tryz.underlying36 hi hz0 hz1 hz2 w.heap.size _ _ rfl (OwnB.nil_ _ _ _) _ q _ _ (by first | rfl | (simp [Act.eval]; done) | (simp [Act.eval]; omega)) hB (by first | (simp; done) | (simp; omega)) (Nat.le_refl _) ?_; intro v1 w1 ho1 hg1 _ _))
          go_ret3
          exact ⟨_, rfl, ho1, OwnB.step (Below.refl _ _) (OwnB.nil_ 5 _ w.heap.size) hg1 (Nat.le_refl _)⟩
  · have hr : getRowR l at_ most = ([], 0, e0) := by simp [getRowR, hg, h0]
    rw [hr]
    clear hr hg hl
    have hne : (e0 != 0) = true := by rw [bne_iff_ne]; exact h0
    go_enter Tryz.func90, Tryz.ntmps90
    go_wp2_with (go_at_call 108; refine (cG _ h).mono ?_; rintro e w' ⟨rfl, rfl⟩)
    go_ret3
    exact row_end_nil rfl

end Go.Proofs.YthddcaoolaipiaaGreatDoor

/-
  PURE: batches as rows, with 0s behind each up to a whole block; what is read of them. No program is named here.
-/
namespace Go.Proofs.YthddcaoolaipiaaGreatDoor
namespace jn
abbrev Blk := dk.Blk
def rowOf (b : List UInt8) : List UInt8 := leBytes b.length 4 ++ b
/-- how many 0s stand behind so many bytes -/
def pad (n : Nat) : Nat := (128 - n % 128) % 128
def filled (l : List UInt8) : List UInt8 := l ++ List.replicate (pad l.length) 0
/-- how many blocks so many bytes take -/
def count (n : Nat) : Nat := (n + 127) / 128
/-- the block i of a row -/
def blk (row : List UInt8) (i : Nat) : Blk := (row.drop (i * 128)).take 128 ++ List.replicate (128 - ((row.drop (i * 128)).take 128).length) 0
def blocks (b : List UInt8) : List Blk := (List.range (count (rowOf b).length)).map (blk (rowOf b))
theorem rowOf_length (b : List UInt8) : (rowOf b).length = b.length + 4 := by
  rw [rowOf, List.length_append, leBytes_length]; omega
theorem pad_fill (n : Nat) : n + pad n = count n * 128 := by unfold pad count; omega
theorem filled_length (l : List UInt8) : (filled l).length = count l.length * 128 := by
  rw [filled, List.length_append, List.length_replicate, pad_fill]
theorem blk_length (row : List UInt8) (i : Nat) : (blk row i).length = 128 := by
  rw [blk, List.length_append, List.length_replicate, List.length_take]
  omega
theorem blocks_length (b : List UInt8) : (blocks b).length = count (b.length + 4) := by rw [blocks, List.length_map, List.length_range, rowOf_length]
theorem blocks_len (b : List UInt8) : ∀ x ∈ blocks b, x.length = 128 := fun x hx => by
  obtain ⟨i, _, rfl⟩ := List.mem_map.1 hx
  exact blk_length _ i
/-- the blocks, side by side, are the row with its 0s -/
theorem blk_filled (row : List UInt8) (i : Nat) (hi : i < count row.length) : blk row i = ((filled row).drop (i * 128)).take 128 := by
  have hle : i * 128 < row.length := by unfold count at hi; omega
  unfold blk filled
  rw [List.drop_append, show i * 128 - row.length = 0 from by omega, List.drop_zero, List.take_append]
  congr 1
  rw [List.take_replicate, List.length_take, List.length_drop]
  congr 1
  have hp := pad_fill row.length
  by_cases h : 128 ≤ row.length - i * 128
  · omega
  · have : count row.length = i + 1 := by unfold count at hi ⊢; omega
    rw [this] at hp
    omega
theorem flatten_range (l : List UInt8) : ∀ k, k * 128 ≤ l.length → ((List.range k).map fun i => (l.drop (i * 128)).take 128).flatten = l.take (k * 128)
  | 0, _ => by simp
  | k + 1, h => by
    rw [List.range_succ, List.map_append, List.flatten_append, flatten_range l k (by omega)]
    simp only [List.map_cons, List.map_nil, List.flatten_cons, List.flatten_nil, List.append_nil]
    rw [show (k + 1) * 128 = k * 128 + 128 from by omega, List.take_add]
theorem blocks_flatten (b : List UInt8) : (blocks b).flatten = filled (rowOf b) := by
  have h : blocks b = (List.range (count (rowOf b).length)).map fun i => ((filled (rowOf b)).drop (i * 128)).take 128 := by
    unfold blocks
    apply List.map_congr_left
    intro i hi
    exact blk_filled _ i (List.mem_range.1 hi)
  rw [h, flatten_range _ _ (by rw [filled_length]; exact Nat.le_refl _), List.take_of_length_le (by rw [filled_length]; exact Nat.le_refl _)]
/-- one batch is read: it, and what stands behind its 0s -/
def one (all : List UInt8) : Option (List UInt8 × List UInt8) :=
  if (getRowR all 0 1048576).2.2 = 0 then
    (if (all.drop (getRowR all 0 1048576).2.1.toNat).take (pad (getRowR all 0 1048576).2.1.toNat) = List.replicate (pad (getRowR all 0 1048576).2.1.toNat) 0 then some ((getRowR all 0 1048576).1, all.drop ((getRowR all 0 1048576).2.1.toNat + pad (getRowR all 0 1048576).2.1.toNat)) else none)
  else none
/-- so many batches are read -/
def parse : Nat → List UInt8 → Option (List (List UInt8) × List UInt8)
  | 0, all => some ([], all)
  | k + 1, all => (parse k all).bind fun x => (one x.2).map fun y => (x.1 ++ [y.1], y.2)
/-- a row, laid, is read -/
theorem getRow_row (b rest : List UInt8) (hb : b.length ≤ 1048576) : getRowR (filled (rowOf b) ++ rest) 0 1048576 = (b, (b.length : Int) + 4, 0) := by
  have hl : (filled (rowOf b) ++ rest).length = count (b.length + 4) * 128 + rest.length := by rw [List.length_append, filled_length, rowOf_length]
  have hc : b.length + 4 ≤ count (b.length + 4) * 128 := by unfold count; omega
  have e0 : filled (rowOf b) ++ rest = leBytes b.length 4 ++ (b ++ (List.replicate (pad (rowOf b).length) 0 ++ rest)) := by rw [filled, rowOf, List.append_assoc, List.append_assoc]
  have ht : (filled (rowOf b) ++ rest).take 4 = leBytes b.length 4 := by
    rw [e0]
    exact List.take_left' (leBytes_length _ _)
  have hg : getR (filled (rowOf b) ++ rest) 0 4 = (b.length, 0) := by
    unfold getR
    rw [hl, if_pos (by simp [isSz]; omega), if_pos (by omega)]
    congr 1
    have e1 : (0 : Int).toNat = 0 := rfl
    have e2 : (4 : Int).toNat = 4 := rfl
    rw [e1, e2, List.drop_zero, ht, leVal_bytes]
    omega
  unfold getRowR
  simp only [hg]
  rw [if_neg (by simp), if_neg (by omega), if_neg (by rw [hl]; omega)]
  refine Prod.ext ?_ (Prod.ext (by simp only; omega) rfl)
  simp only
  have e3 : ((0 : Int).toNat + 4) = 4 := rfl
  rw [e3, e0, List.drop_left' (leBytes_length _ _)]
  exact List.take_left' rfl
theorem one_row (b rest : List UInt8) (hb : b.length ≤ 1048576) : one (filled (rowOf b) ++ rest) = some (b, rest) := by
  have hg := getRow_row b rest hb
  unfold one
  rw [hg]
  simp only
  have e1 : ((b.length : Int) + 4).toNat = (rowOf b).length := by rw [rowOf_length]; omega
  have hd : (filled (rowOf b) ++ rest).drop (rowOf b).length = List.replicate (pad (rowOf b).length) 0 ++ rest := by
    rw [filled, List.append_assoc]
    exact List.drop_left' rfl
  rw [e1, if_pos trivial, hd, List.take_left' List.length_replicate, if_pos rfl, ← List.drop_drop, hd, List.drop_left' List.length_replicate]
/-- what is read of bytes is read of them where others stand behind -/
theorem getRow_app {all : List UInt8} (h : (getRowR all 0 1048576).2.2 = 0) (r : List UInt8) : getRowR (all ++ r) 0 1048576 = getRowR all 0 1048576 ∧ (getRowR all 0 1048576).2.1.toNat ≤ all.length := by
  unfold getRowR at h ⊢
  have e1 : (0 : Int).toNat = 0 := rfl
  have e2 : (4 : Int).toNat = 4 := rfl
  by_cases h4 : (4 : Int) ≤ all.length
  · have ga : getR all 0 4 = (leVal (all.take 4), 0) := by
      unfold getR
      rw [if_pos (by simp [isSz]), if_pos (by omega), e1, e2, List.drop_zero]
    have gb : getR (all ++ r) 0 4 = (leVal (all.take 4), 0) := by
      unfold getR
      rw [if_pos (by simp [isSz]; omega), if_pos (by simp; omega), e1, e2, List.drop_zero, List.take_append_of_le_length (by omega)]
    simp only [ga, ne_eq, not_true_eq_false, if_false] at h ⊢
    simp only [gb, not_true_eq_false, if_false]
    by_cases hm : (1048576 : Int) < (leVal (all.take 4) : Nat)
    · rw [if_pos hm] at h
      cases h
    · simp only [if_neg hm] at h ⊢
      by_cases hs : (all.length : Int) < 0 + 4 + (leVal (all.take 4) : Nat)
      · rw [if_pos hs] at h
        cases h
      · have hs2 : ¬ ((all ++ r).length : Int) < 0 + 4 + (leVal (all.take 4) : Nat) := by rw [List.length_append]; omega
        simp only [if_neg hs, if_neg hs2]
        refine ⟨?_, by omega⟩
        congr 1
        rw [e1, List.drop_append_of_le_length (by omega), List.take_append_of_le_length (by rw [List.length_drop]; omega)]
  · have ga : getR all 0 4 = (0, 4) := by
      unfold getR
      rw [if_pos (by simp [isSz]), if_neg (by omega)]
    simp only [ga] at h
    rw [if_pos (by simp)] at h
    cases h
theorem one_app {all : List UInt8} {x : List UInt8 × List UInt8} (h : one all = some x) (hm : all.length % 128 = 0) (r : List UInt8) : one (all ++ r) = some (x.1, x.2 ++ r) ∧ x.2.length % 128 = 0 := by
  unfold one at h ⊢
  by_cases h0 : (getRowR all 0 1048576).2.2 = 0
  · obtain ⟨e1, e2⟩ := getRow_app h0 r
    rw [if_pos h0] at h
    rw [e1, if_pos h0]
    generalize (getRowR all 0 1048576).2.1.toNat = n at *
    have hle : n + pad n ≤ all.length := by have := pad_fill n; unfold count at this; omega
    have ht : ((all ++ r).drop n).take (pad n) = (all.drop n).take (pad n) := by
      rw [List.drop_append_of_le_length e2, List.take_append_of_le_length (by rw [List.length_drop]; omega)]
    split at h
    · next hz =>
      rw [ht, if_pos hz]
      injection h with h
      rw [← h]
      simp only
      refine ⟨by rw [List.drop_append_of_le_length hle], ?_⟩
      rw [List.length_drop, pad_fill]
      omega
    · cases h
  · rw [if_neg h0] at h
    cases h
theorem parse_app : ∀ (k : Nat) {all : List UInt8} {x : List (List UInt8) × List UInt8}, parse k all = some x → all.length % 128 = 0 → ∀ r, parse k (all ++ r) = some (x.1, x.2 ++ r) ∧ x.2.length % 128 = 0
  | 0, all, x, h, hm, r => by
    simp only [parse, Option.some.injEq] at h ⊢
    subst h
    exact ⟨rfl, hm⟩
  | k + 1, all, x, h, hm, r => by
    simp only [parse] at h ⊢
    cases hp : parse k all with
    | none => rw [hp] at h; cases h
    | some y =>
      obtain ⟨e1, e2⟩ := parse_app k hp hm r
      rw [hp] at h
      simp only [Option.bind_some] at h
      rw [e1]
      simp only [Option.bind_some]
      cases ho : one y.2 with
      | none => rw [ho] at h; cases h
      | some z =>
        obtain ⟨e3, e4⟩ := one_app ho e2 r
        rw [ho] at h
        simp only [Option.map_some, Option.some.injEq] at h
        subst h
        rw [e3]
        exact ⟨rfl, e4⟩
/-- one more batch behind all -/
theorem parse_more {k : Nat} {all : List UInt8} {l : List (List UInt8)} (h : parse k all = some (l, [])) (hm : all.length % 128 = 0) (b : List UInt8) (hb : b.length ≤ 1048576) : parse (k + 1) (all ++ filled (rowOf b)) = some (l ++ [b], []) := by
  obtain ⟨e1, _⟩ := parse_app k h hm (filled (rowOf b))
  simp only [parse, e1, Option.bind_some, List.nil_append]
  have := one_row b [] hb
  rw [List.append_nil] at this
  rw [this]
  rfl
theorem parse_only (b : List UInt8) (hb : b.length ≤ 1048576) : parse 1 (filled (rowOf b)) = some ([b], []) := parse_more (k := 0) (all := []) rfl rfl b hb
end jn
end Go.Proofs.YthddcaoolaipiaaGreatDoor

/-
  PURE: a journal on a disk: what is laid; what is there, wherever the power is cut. No program is named here.
-/
namespace Go.Proofs.YthddcaoolaipiaaGreatDoor
namespace jn
abbrev St := dk.St
def half (s : St) : Nat := (s.S.length - 2) / 2
def first (s : St) (bank : UInt8) : Nat := 2 + bank.toNat * half s
def rd (s : St) (n : Int) : Blk := (dk.read s n).1
def newest (s : St) : Nat × hd.H × Int := hd.newest (rd s 0) (rd s 1)
/-- blocks are written, one behind the other, to the first error -/
def writes (s : St) (at_ : Nat) : List Blk → Int × St
  | [] => (0, s)
  | b :: r => if (dk.write s at_ b).1 = 0 then writes (dk.write s at_ b).2 (at_ + 1) r else dk.write s at_ b
/-- a head is laid -/
def layH (t : St) (h : hd.H) : Int × St :=
  if (dk.write t (sl.next (rd t 0) (rd t 1)) (hd.put ((newest t).1 + 1) h).1).1 = 0 then dk.flush (dk.write t (sl.next (rd t 0) (rd t 1)) (hd.put ((newest t).1 + 1) h).1).2
  else dk.write t (sl.next (rd t 0) (rd t 1)) (hd.put ((newest t).1 + 1) h).1
def lay (s : St) (at_ : Nat) (l : List Blk) (h : hd.H) : Int × St :=
  if (writes s at_ l).1 = 0 then
    (if (dk.flush (writes s at_ l).2).1 = 0 then layH (dk.flush (writes s at_ l).2).2 h else dk.flush (writes s at_ l).2)
  else writes s at_ l
def make (s : St) : Int × St := if s.black then (9, s) else lay s 0 [dk.zero, dk.zero] hd.zero
def bytes (s : St) (at_ k : Nat) : List UInt8 := ((List.range k).map fun i => rd s ((at_ + i : Nat) : Int)).flatten
def batches (s : St) (h : hd.H) : List (List UInt8) × Bool :=
  if half s < h.blocks then ([], false)
  else match parse h.batches (bytes s (first s h.bank) h.blocks) with
    | none => ([], false)
    | some x => (x.1, x.2.isEmpty)
def opens (s : St) : Int :=
  if s.black then 9 else if ¬ (newest s).2.2 = 0 ∨ 2305843009213693952 < (newest s).1 then 5 else if (batches s (newest s).2.1).2 then 0 else 5
def appendH (h : hd.H) (b : List UInt8) : hd.H := ⟨h.bank, h.blocks + (blocks b).length, h.batches + 1⟩
def replaceH (h : hd.H) (b : List UInt8) : hd.H := ⟨1 - h.bank, (blocks b).length, 1⟩
def append (s : St) (h : hd.H) (b : List UInt8) : Int × St :=
  if 1048576 < b.length then (3, s) else if s.black then (9, s) else if half s < h.blocks + (blocks b).length then (10, s) else lay s (first s h.bank + h.blocks) (blocks b) (appendH h b)
def replace (s : St) (h : hd.H) (b : List UInt8) : Int × St :=
  if 1048576 < b.length then (3, s) else if s.black then (9, s) else if half s < (blocks b).length then (10, s) else lay s (first s (1 - h.bank)) (blocks b) (replaceH h b)

/-! ### Steps -/
theorem step_cases (s : St) : ((dk.step s).1 = 0 ∧ (dk.step s).2.black = s.black ∧ (dk.step s).2.many = s.many + 1) ∨ ((dk.step s).1 = 9 ∧ (dk.step s).2.black = true ∧ (dk.step s).2.many = s.many) := by
  unfold dk.step
  split
  · exact .inr ⟨rfl, rfl, rfl⟩
  · exact .inl ⟨rfl, rfl, rfl⟩
/-- a write in the light, to a block that is there: done, or the power is cut -/
theorem write_cases {s : St} (hb : s.black = false) {n : Nat} (hn : n < s.S.length) (b : Blk) :
    ((dk.write s n b).1 = 0 ∧ (dk.write s n b).2.black = false ∧ (dk.write s n b).2.S = s.S ∧ (dk.write s n b).2.L = s.L ++ [((n : Int), b)] ∧ (dk.write s n b).2.many = s.many + 1) ∨
    ((dk.write s n b).1 = 9 ∧ (dk.write s n b).2.black = true ∧ (dk.write s n b).2.S = s.S ∧ (dk.write s n b).2.L = s.L ∧ (dk.write s n b).2.many = s.many) := by
  have ha : dk.asks s n = 0 := by
    unfold dk.asks
    rw [if_neg (by rw [hb]; simp), if_neg (by omega)]
  unfold dk.write
  rw [if_pos ha]
  rcases step_cases s with ⟨h1, h2, h3⟩ | ⟨h1, h2, h3⟩
  · rw [if_pos h1]
    exact .inl ⟨rfl, h2.trans hb, dk.step_S s, rfl, h3⟩
  · rw [if_neg (by rw [h1]; decide)]
    exact .inr ⟨rfl, h2, dk.step_S s, dk.step_L s, h3⟩
theorem flush_cases {s : St} (hb : s.black = false) :
    ((dk.flush s).1 = 0 ∧ (dk.flush s).2.black = false ∧ (dk.flush s).2.S = dk.lay s.S s.L ∧ (dk.flush s).2.L = [] ∧ (dk.flush s).2.many = s.many + 1) ∨
    ((dk.flush s).1 = 9 ∧ (dk.flush s).2.black = true ∧ (dk.flush s).2.S = s.S ∧ (dk.flush s).2.L = s.L ∧ (dk.flush s).2.many = s.many) := by
  unfold dk.flush
  rw [if_neg (by rw [hb]; simp)]
  rcases step_cases s with ⟨h1, h2, h3⟩ | ⟨h1, h2, h3⟩
  · rw [if_pos h1]
    exact .inl ⟨rfl, h2.trans hb, rfl, rfl, h3⟩
  · rw [if_neg (by rw [h1]; decide)]
    exact .inr ⟨rfl, h2, dk.step_S s, dk.step_L s, h3⟩
def zipAt (at_ : Nat) : List Blk → List (Int × Blk)
  | [] => []
  | b :: r => ((at_ : Int), b) :: zipAt (at_ + 1) r
/-- all of these are writes of the blocks from at_ on, less than hi -/
def InR (lo hi : Nat) (M : List (Int × Blk)) : Prop := ∀ x ∈ M, (lo : Int) ≤ x.1 ∧ x.1 < (hi : Int) ∧ x.2.length = 128
theorem zipAt_in : ∀ (l : List Blk) (at_ : Nat), (∀ b ∈ l, b.length = 128) → InR at_ (at_ + l.length) (zipAt at_ l)
  | [], _, _, x, hx => by cases hx
  | b :: r, at_, h, x, hx => by
    rcases List.mem_cons.1 hx with rfl | hx
    · exact ⟨Int.le_refl _, by simp only [List.length_cons]; omega, h _ (List.mem_cons_self ..)⟩
    · have := zipAt_in r (at_ + 1) (fun b hb => h b (List.mem_cons_of_mem _ hb)) x hx
      simp only [List.length_cons]
      exact ⟨by omega, by omega, this.2.2⟩
theorem writes_cases : ∀ (l : List Blk) (s : St) (at_ : Nat), s.black = false → at_ + l.length ≤ s.S.length → (∀ b ∈ l, b.length = 128) →
    ((writes s at_ l).1 = 0 ∧ (writes s at_ l).2.black = false ∧ (writes s at_ l).2.S = s.S ∧ (writes s at_ l).2.L = s.L ++ zipAt at_ l ∧ (writes s at_ l).2.many = s.many + l.length) ∨
    ((writes s at_ l).1 = 9 ∧ (writes s at_ l).2.black = true ∧ (writes s at_ l).2.S = s.S ∧ (∃ M, (writes s at_ l).2.L = s.L ++ M ∧ InR at_ (at_ + l.length) M ∧ M.length ≤ l.length) ∧ (writes s at_ l).2.many ≤ s.many + l.length)
  | [], s, at_, hb, _, _ => .inl ⟨rfl, hb, rfl, by simp [writes, zipAt], by simp [writes]⟩
  | b :: r, s, at_, hb, hl, h => by
    simp only [List.length_cons] at hl ⊢
    simp only [writes]
    rcases write_cases hb (n := at_) (by omega) b with ⟨w1, w2, w3, w4, w5⟩ | ⟨w1, w2, w3, w4, w5⟩
    · rw [if_pos w1]
      rcases writes_cases r (dk.write s at_ b).2 (at_ + 1) w2 (by rw [w3]; omega) (fun x hx => h x (List.mem_cons_of_mem _ hx)) with ⟨v1, v2, v3, v4, v5⟩ | ⟨v1, v2, v3, ⟨M, v4, v5, v7⟩, v6⟩
      · refine .inl ⟨v1, v2, by rw [v3, w3], ?_, by rw [v5, w5]; omega⟩
        rw [v4, w4, List.append_assoc]
        rfl
      · refine .inr ⟨v1, v2, by rw [v3, w3], ⟨((at_ : Int), b) :: M, ?_, ?_, by simp only [List.length_cons]; omega⟩, by omega⟩
        · rw [v4, w4, List.append_assoc]
          rfl
        · intro x hx
          rcases List.mem_cons.1 hx with rfl | hx
          · exact ⟨Int.le_refl _, by simp only; omega, h _ (List.mem_cons_self ..)⟩
          · have := v5 x hx
            exact ⟨by omega, by omega, this.2.2⟩
    · rw [if_neg (by rw [w1]; decide)]
      exact .inr ⟨w1, w2, w3, ⟨[], by rw [w4, List.append_nil], (fun x hx => by cases hx), by simp⟩, by omega⟩
/-! ### What other blocks have -/
/-- S' has what S has but between lo and hi -/
structure Agree (lo hi : Nat) (S S' : List Blk) : Prop where
  len : S'.length = S.length
  get : ∀ k, (k < lo ∨ hi ≤ k) → S'.getD k dk.zero = S.getD k dk.zero
theorem Agree.refl (lo hi : Nat) (S : List Blk) : Agree lo hi S S := ⟨rfl, fun _ _ => rfl⟩
theorem Agree.trans {lo hi : Nat} {S S1 S2 : List Blk} (h : Agree lo hi S S1) (h2 : Agree lo hi S1 S2) : Agree lo hi S S2 := ⟨h2.len.trans h.len, fun k hk => (h2.get k hk).trans (h.get k hk)⟩
theorem getD_set_ne {S : List Blk} {i k : Nat} (h : i ≠ k) (b : Blk) : (S.set i b).getD k dk.zero = S.getD k dk.zero := by
  simp only [List.getD_eq_getElem?_getD]
  rw [List.getElem?_set_ne h]
theorem getD_set_eq {S : List Blk} {i : Nat} (h : i < S.length) (b : Blk) : (S.set i b).getD i dk.zero = b := by
  rw [List.getD_eq_getElem?_getD, List.getElem?_set, if_pos rfl, if_pos h]
  rfl
theorem agree_set {lo hi : Nat} (S : List Blk) {i : Nat} (h1 : lo ≤ i) (h2 : i < hi) (b : Blk) : Agree lo hi S (S.set i b) :=
  ⟨List.length_set, fun k hk => getD_set_ne (by omega) b⟩
theorem agree_tear {lo hi : Nat} : ∀ (M : List (Int × Blk)) (S : List Blk) (p : List Int), InR lo hi M → Agree lo hi S (dk.tear S M p)
  | [], S, _, _ => Agree.refl _ _ _
  | x :: r, S, p, h => by
    have hx := h x (List.mem_cons_self ..)
    exact (agree_set S (i := x.1.toNat) (by omega) (by omega) _).trans (agree_tear r _ _ (fun y hy => h y (List.mem_cons_of_mem _ hy)))
theorem agree_lay {lo hi : Nat} : ∀ (M : List (Int × Blk)) (S : List Blk), InR lo hi M → Agree lo hi S (dk.lay S M)
  | [], S, _ => Agree.refl _ _ _
  | x :: r, S, h => by
    have hx := h x (List.mem_cons_self ..)
    exact (agree_set S (i := x.1.toNat) (by omega) (by omega) _).trans (agree_lay r _ (fun y hy => h y (List.mem_cons_of_mem _ hy)))
/-- what was written is there -/
theorem lay_zip : ∀ (l : List Blk) (at_ : Nat) (S : List Blk), at_ + l.length ≤ S.length → ∀ i, i < l.length → (dk.lay S (zipAt at_ l)).getD (at_ + i) dk.zero = l.getD i dk.zero
  | [], _, _, _, i, hi => by simp at hi
  | b :: r, at_, S, h, i, hi => by
    simp only [List.length_cons] at h hi
    simp only [zipAt, dk.lay, Int.toNat_natCast]
    cases i with
    | zero =>
      have hfar : ∀ (r : List Blk) (a : Nat) (S : List Blk) (k : Nat), k < a → (dk.lay S (zipAt a r)).getD k dk.zero = S.getD k dk.zero := by
        intro r
        induction r with
        | nil => intro a S k _; rfl
        | cons x r ih =>
          intro a S k hk
          simp only [zipAt, dk.lay, Int.toNat_natCast]
          rw [ih (a + 1) _ k (by omega), getD_set_ne (by omega)]
      simp only [Nat.add_zero]
      rw [hfar r (at_ + 1) _ at_ (by omega), getD_set_eq (by omega)]
      rfl
    | succ i =>
      have := lay_zip r (at_ + 1) (S.set at_ b) (by rw [List.length_set]; omega) i (by omega)
      rw [show at_ + (i + 1) = at_ + 1 + i from by omega, this]
      rfl
end jn
end Go.Proofs.YthddcaoolaipiaaGreatDoor

/-
  PURE: WHEREVER THE POWER IS CUT: the batches are those ahead of what was under way, or behind it. No program is named here.
-/
namespace Go.Proofs.YthddcaoolaipiaaGreatDoor
namespace jn
theorem get_le (X : Blk) : (hd.get X).1 ≤ sl.worth X := by
  unfold hd.get sl.worth
  split
  · split
    · exact Nat.le_refl _
    · exact Nat.zero_le _
  · exact Nat.zero_le _
theorem newest_a {a b : Blk} {N : Nat} {h : hd.H} (ha : hd.get a = (N, h, 0)) (hb : sl.worth b < N) : hd.newest a b = (N, h, 0) := by
  have := get_le b
  unfold hd.newest
  simp only [ha]
  rw [if_neg (by simp), if_neg (by omega)]
theorem newest_b {a b : Blk} {N : Nat} {h : hd.H} (hb : hd.get b = (N, h, 0)) (ha : sl.worth a < N) : hd.newest a b = (N, h, 0) := by
  have := get_le a
  unfold hd.newest
  simp only [hb]
  rw [if_neg (by simp), if_pos (by omega)]
theorem worth_seal6 {n : Nat} (h0 : 0 < n) (hn : n < 18446744073709551616) {body : List UInt8} (h : body.length ≤ 108) : sl.worth (sl.sealB n body) = n := by
  rw [sl.worth, sl.get_seal h0 hn h]
theorem worth_bad {X : Blk} (h : ¬ (sl.get X).2.2 = 0) : sl.worth X = 0 := by
  unfold sl.worth
  unfold sl.get at h ⊢
  split
  · rfl
  · split
    · rfl
    · next h1 h2 =>
      rw [if_neg h1, if_neg h2] at h
      exact absurd rfl h
/-- the two heads: the one that counts, and the other one -/
structure Two (S : List Blk) (c N : Nat) (h : hd.H) : Prop where
  c2 : c < 2
  num : hd.num N = true
  may : hd.may h = true
  here : S.getD c dk.zero = sl.sealB N (hd.bodyOf h)
  away : sl.Away (S.getD (1 - c) dk.zero) (N + 1)
  less : sl.worth (S.getD (1 - c) dk.zero) < N
theorem Two.newest {S : List Blk} {c N : Nat} {h : hd.H} (t : Two S c N h) : hd.newest (S.getD 0 dk.zero) (S.getD 1 dk.zero) = (N, h, 0) := by
  have hg : hd.get (sl.sealB N (hd.bodyOf h)) = (N, h, 0) := by
    have := hd.get_put (hd.may_Ok t.may) t.num t.may
    rwa [hd.put_yes t.num t.may] at this
  have hc := t.c2
  have hh := t.here
  have hl := t.less
  have hcs : c = 0 ∨ c = 1 := by omega
  rcases hcs with rfl | rfl
  · rw [hh]; exact newest_a hg hl
  · rw [hh]; exact newest_b hg hl
theorem Two.next {S : List Blk} {c N : Nat} {h : hd.H} (t : Two S c N h) : sl.next (S.getD 0 dk.zero) (S.getD 1 dk.zero) = ((1 - c : Nat) : Int) := by
  have hn := hd.num_ok t.num
  have hw : sl.worth (sl.sealB N (hd.bodyOf h)) = N := worth_seal6 (by omega) (by omega) (by rw [hd.bodyOf_length]; omega)
  have hc := t.c2
  have hh := t.here
  have hl := t.less
  unfold sl.next
  have hcs : c = 0 ∨ c = 1 := by omega
  rcases hcs with rfl | rfl
  · rw [hh, hw, if_pos ⟨by omega, by simpa using Nat.le_of_lt hl⟩]; rfl
  · rw [hh, hw, if_neg (fun h => by have := h.2; simp only [Nat.sub_self] at hl; omega)]; rfl
theorem Two.agree {S S' : List Blk} {c N : Nat} {h : hd.H} (t : Two S c N h) {lo hi : Nat} (ha : Agree lo hi S S') (h2 : 2 ≤ lo) : Two S' c N h := by
  have hc := t.c2
  have e1 := ha.get c (.inl (by omega))
  have e2 := ha.get (1 - c) (.inl (by omega))
  exact ⟨t.c2, t.num, t.may, by rw [e1]; exact t.here, by rw [e2]; exact t.away, by rw [e2]; exact t.less⟩
/-- a new head in the other place -/
theorem Two.laid {S : List Blk} {c N : Nat} {h h' : hd.H} (t : Two S c N h) (hl : 2 ≤ S.length) (hn : hd.num (N + 1) = true) (hm : hd.may h' = true) : Two (S.set (1 - c) (sl.sealB (N + 1) (hd.bodyOf h'))) (1 - c) (N + 1) h' := by
  have hc := t.c2
  have n1 := hd.num_ok t.num
  have e1 : (S.set (1 - c) (sl.sealB (N + 1) (hd.bodyOf h'))).getD (1 - (1 - c)) dk.zero = sl.sealB N (hd.bodyOf h) := by
    rw [show 1 - (1 - c) = c from by omega, getD_set_ne (by omega)]
    exact t.here
  refine ⟨by omega, hn, hm, getD_set_eq (by omega) _, ?_, ?_⟩
  · rw [e1]
    exact sl.away_seal (by rw [hd.bodyOf_length]; omega) (by omega) (by omega) (by omega)
  · rw [e1, worth_seal6 (by omega) (by omega) (by rw [hd.bodyOf_length]; omega)]
    omega
/-- only a beginning of a new head in the other place -/
theorem Two.begun {S : List Blk} {c N : Nat} {h h' : hd.H} (t : Two S c N h) (hS : ∀ b ∈ S, b.length = 128) (hl : 2 ≤ S.length) (hn : hd.num (N + 1) = true) (hm : hd.may h' = true) (k : Int) :
    Two (S.set (1 - c) (dk.torn (S.getD (1 - c) dk.zero) (sl.sealB (N + 1) (hd.bodyOf h')) k)) c N h ∨ Two (S.set (1 - c) (dk.torn (S.getD (1 - c) dk.zero) (sl.sealB (N + 1) (hd.bodyOf h')) k)) (1 - c) (N + 1) h' := by
  have hc := t.c2
  have n1 := hd.num_ok hn
  have hbl : (hd.bodyOf h').length ≤ 108 := by rw [hd.bodyOf_length]; omega
  have hold : ∀ X', (sl.Away X' (N + 1)) → sl.worth X' < N → Two (S.set (1 - c) X') c N h := fun X' h1 h2 =>
    ⟨t.c2, t.num, t.may, by rw [getD_set_ne (by omega)]; exact t.here, by rw [getD_set_eq (by omega)]; exact h1, by rw [getD_set_eq (by omega)]; exact h2⟩
  rcases sl.torn_away (dk.getD_len hS (1 - c)) (M := N + 1) (by omega) hbl t.away k with e | e | ⟨e1, e2⟩
  · rw [e]
    exact .inl (hold _ t.away t.less)
  · rw [e]
    exact .inr (t.laid hl hn hm)
  · exact .inl (hold _ e2 (by rw [worth_bad e1]; have := hd.num_ok t.num; omega))
theorem Two.zero : Two ([sl.sealB 1 (hd.bodyOf hd.zero), dk.zero]) 0 1 hd.zero :=
  ⟨by omega, by decide, by decide, rfl, sl.away_zero (by omega), by show sl.worth dk.zero < 1; decide +kernel⟩
end jn
end Go.Proofs.YthddcaoolaipiaaGreatDoor

/-
  PURE: WHEREVER THE POWER IS CUT, the whole: a head is laid; blocks and a head are laid; Append, Replace. No program is named here.
-/
namespace Go.Proofs.YthddcaoolaipiaaGreatDoor
namespace jn
/-- in the light, with all sure: what is read is what stands there -/
theorem rd_sure {s : St} (hb : s.black = false) (hL : s.L = []) {k : Nat} (hk : k < s.S.length) : rd s (k : Int) = s.S.getD k dk.zero := by
  have ha : dk.asks s k = 0 := by
    unfold dk.asks
    rw [if_neg (by rw [hb]; simp), if_neg (by omega)]
  rw [rd, dk.read, if_pos ha, hL, Int.toNat_natCast]
  rfl
def bytesS (S : List Blk) (at_ k : Nat) : List UInt8 := ((List.range k).map fun i => S.getD (at_ + i) dk.zero).flatten
theorem bytes_sure {s : St} (hb : s.black = false) (hL : s.L = []) {at_ k : Nat} (hk : at_ + k ≤ s.S.length) : bytes s at_ k = bytesS s.S at_ k := by
  unfold bytes bytesS
  congr 1
  apply List.map_congr_left
  intro i hi
  exact rd_sure hb hL (by have := List.mem_range.1 hi; omega)
theorem bytesS_agree {S S' : List Blk} {lo hi at_ k : Nat} (ha : Agree lo hi S S') (hd : at_ + k ≤ lo ∨ hi ≤ at_) : bytesS S' at_ k = bytesS S at_ k := by
  unfold bytesS
  congr 1
  apply List.map_congr_left
  intro i hi
  have := List.mem_range.1 hi
  exact ha.get _ (by omega)
theorem bytesS_length {S : List Blk} (h : ∀ b ∈ S, b.length = 128) (at_ : Nat) : ∀ k, (bytesS S at_ k).length = k * 128
  | 0 => rfl
  | k + 1 => by
    have e : bytesS S at_ (k + 1) = bytesS S at_ k ++ S.getD (at_ + k) dk.zero := by simp [bytesS, List.range_succ]
    rw [e, List.length_append, bytesS_length h at_ k, dk.getD_len h]
    omega
theorem bytesS_more (S : List Blk) (at_ k m : Nat) : bytesS S at_ (k + m) = bytesS S at_ k ++ bytesS S (at_ + k) m := by
  unfold bytesS
  rw [List.range_add, List.map_append, List.flatten_append, List.map_map]
  congr 2
  apply List.map_congr_left
  intro i _
  simp only [Function.comp]
  rw [Nat.add_assoc]
theorem bytesS_blocks {S : List Blk} {at_ : Nat} {l : List Blk} (h : ∀ i, i < l.length → S.getD (at_ + i) dk.zero = l.getD i dk.zero) : bytesS S at_ l.length = l.flatten := by
  unfold bytesS
  congr 1
  apply List.ext_getElem?
  intro i
  by_cases hi : i < l.length
  · rw [List.getElem?_map, List.getElem?_range hi, List.getElem?_eq_getElem hi]
    simp only [Option.map_some, Option.some.injEq]
    rw [h i hi, List.getD_eq_getElem?_getD, List.getElem?_eq_getElem hi]
    rfl
  · rw [List.getElem?_eq_none (by simp; omega), List.getElem?_eq_none (by omega)]
/-- A JOURNAL IN THE LIGHT, ALL OF IT SURE -/
structure Good (s : St) (c N : Nat) (h : hd.H) (was : List (List UInt8)) : Prop where
  ok : s.Ok
  light : s.black = false
  sure : s.L = []
  two : Two s.S c N h
  fits : h.blocks ≤ half s
  reads : parse h.batches (bytesS s.S (first s h.bank) h.blocks) = some (was, [])
theorem first_ge (s : St) (bank : UInt8) : 2 ≤ first s bank := by unfold first; omega
theorem first_le {s : St} (h : s.Ok) {bank : UInt8} (hb : bank.toNat ≤ 1) : first s bank + half s ≤ s.S.length := by
  have h1 := h.some
  have : bank.toNat * half s ≤ 1 * half s := Nat.mul_le_mul_right _ hb
  unfold first half at *
  omega
theorem Good.newest {s : St} {c N : Nat} {h : hd.H} {was : List (List UInt8)} (g : Good s c N h was) : newest s = (N, h, 0) := by
  have h1 := g.ok.some
  have e0 : rd s 0 = s.S.getD 0 dk.zero := rd_sure g.light g.sure (k := 0) (by omega)
  have e1 : rd s 1 = s.S.getD 1 dk.zero := rd_sure g.light g.sure (k := 1) (by omega)
  rw [jn.newest, e0, e1]
  exact g.two.newest
theorem Good.batches {s : St} {c N : Nat} {h : hd.H} {was : List (List UInt8)} (g : Good s c N h was) : batches s h = (was, true) := by
  have hm := (hd.may_ok g.two.may).1
  have h1 := first_le g.ok hm
  have h2 := g.fits
  unfold jn.batches
  rw [if_neg (by omega), bytes_sure g.light g.sure (by omega), g.reads]
  rfl
theorem Good.opens {s : St} {c N : Nat} {h : hd.H} {was : List (List UInt8)} (g : Good s c N h was) (hN : N ≤ 2305843009213693952) : opens s = 0 := by
  unfold jn.opens
  rw [g.newest]
  simp only
  rw [g.batches, if_neg (by rw [g.light]; simp), if_neg (by simp; omega)]
  rfl
/-- blocks that do not count turn -/
theorem Good.agree {s s' : St} {c N : Nat} {h : hd.H} {was : List (List UInt8)} (g : Good s c N h was) (ok : s'.Ok) (hb : s'.black = false) (hL : s'.L = []) {lo hi : Nat} (ha : Agree lo hi s.S s'.S) (h2 : 2 ≤ lo)
    (hfar : first s h.bank + h.blocks ≤ lo ∨ hi ≤ first s h.bank) : Good s' c N h was := by
  have hh : half s' = half s := by unfold half; rw [ha.len]
  have hf : first s' h.bank = first s h.bank := by unfold first; rw [hh]
  exact ⟨ok, hb, hL, g.two.agree ha h2, by rw [hh]; exact g.fits, by rw [hf, bytesS_agree ha hfar]; exact g.reads⟩
theorem Ok.writes : ∀ (l : List Blk) {s : St} (at_ : Nat), s.Ok → (∀ b ∈ l, b.length = 128) → (writes s at_ l).2.Ok
  | [], _, _, h, _ => h
  | b :: r, s, at_, h, hl => by
    have hw := dk.Ok.write (n := (at_ : Int)) h (hl b (List.mem_cons_self ..))
    simp only [jn.writes]
    split
    · exact Ok.writes r _ hw (fun x hx => hl x (List.mem_cons_of_mem _ hx))
    · exact hw
theorem Ok.layH {t : St} (h : t.Ok) (k : hd.H) : (layH t k).2.Ok := by
  have hw := dk.Ok.write (n := sl.next (rd t 0) (rd t 1)) h (hd.put_len ((jn.newest t).1 + 1) k)
  unfold jn.layH
  split
  · exact dk.Ok.flush hw
  · exact hw
theorem Ok.lay {s : St} (h : s.Ok) (at_ : Nat) {l : List Blk} (hl : ∀ b ∈ l, b.length = 128) (k : hd.H) : (lay s at_ l k).2.Ok := by
  have h1 := Ok.writes l at_ h hl
  unfold jn.lay
  split
  · split
    · exact Ok.layH (dk.Ok.flush h1) k
    · exact dk.Ok.flush h1
  · exact h1
/-- A HEAD IS LAID: it is there; or the power is cut, and of it a beginning at most is there -/
theorem layH_cases {t : St} (ok : t.Ok) (hb : t.black = false) (hL : t.L = []) {c N : Nat} {h h' : hd.H} (two : Two t.S c N h) (hn : hd.num (N + 1) = true) (hm : hd.may h' = true) :
    ((layH t h').1 = 0 ∧ (layH t h').2.black = false ∧ (layH t h').2.L = [] ∧ (layH t h').2.S = t.S.set (1 - c) (sl.sealB (N + 1) (hd.bodyOf h')) ∧ (layH t h').2.many = t.many + 2) ∨
    ((layH t h').1 = 9 ∧ (layH t h').2.black = true ∧ (layH t h').2.many ≤ t.many + 2 ∧ ∀ p, (dk.crash (layH t h').2 p).S = t.S ∨ ∃ k, (dk.crash (layH t h').2 p).S = t.S.set (1 - c) (dk.torn (t.S.getD (1 - c) dk.zero) (sl.sealB (N + 1) (hd.bodyOf h')) k)) := by
  have hc := two.c2
  have h64 := ok.some
  have e0 : rd t 0 = t.S.getD 0 dk.zero := rd_sure hb hL (k := 0) (by omega)
  have e1 : rd t 1 = t.S.getD 1 dk.zero := rd_sure hb hL (k := 1) (by omega)
  have en : jn.newest t = (N, h, 0) := by rw [jn.newest, e0, e1]; exact two.newest
  have ex : sl.next (rd t 0) (rd t 1) = ((1 - c : Nat) : Int) := by rw [e0, e1]; exact two.next
  unfold jn.layH
  rw [en, ex, hd.put_yes hn hm]
  simp only
  generalize sl.sealB (N + 1) (hd.bodyOf h') = Y
  rcases write_cases hb (n := 1 - c) (by omega) Y with ⟨w1, w2, w3, w4, w5⟩ | ⟨w1, w2, w3, w4, w5⟩
  · rw [if_pos w1]
    rw [hL, List.nil_append] at w4
    rcases flush_cases w2 with ⟨f1, f2, f3, f4, f5⟩ | ⟨f1, f2, f3, f4, f5⟩
    · refine .inl ⟨f1, f2, f4, ?_, by rw [f5, w5]; omega⟩
      rw [f3, w3, w4]
      simp only [dk.lay, Int.toNat_natCast]
    · refine .inr ⟨f1, f2, by rw [f5, w5]; omega, fun p => .inr ⟨p.headD 0, ?_⟩⟩
      simp only [dk.crash]
      rw [f3, f4, w3, w4]
      simp only [dk.tear, Int.toNat_natCast]
  · rw [if_neg (by rw [w1]; decide)]
    refine .inr ⟨w1, w2, by omega, fun p => .inl ?_⟩
    simp only [dk.crash]
    rw [w3, w4, hL]
    rfl
/-- BLOCKS AND A HEAD ARE LAID -/
theorem lay_cases {s : St} {c N : Nat} {h : hd.H} {was : List (List UInt8)} (g : Good s c N h was) {at_ : Nat} {l : List Blk} (hl : ∀ b ∈ l, b.length = 128) {h' : hd.H} (h2 : 2 ≤ at_) (hat : at_ + l.length ≤ s.S.length)
    (hfar : first s h.bank + h.blocks ≤ at_ ∨ at_ + l.length ≤ first s h.bank) (hn : hd.num (N + 1) = true) (hm : hd.may h' = true) (hfit : h'.blocks ≤ half s) {now : List (List UInt8)}
    (hnow : ∀ S1, Agree at_ (at_ + l.length) s.S S1 → (∀ i, i < l.length → S1.getD (at_ + i) dk.zero = l.getD i dk.zero) → (∀ b ∈ S1, b.length = 128) → parse h'.batches (bytesS S1 (first s h'.bank) h'.blocks) = some (now, [])) :
    ((lay s at_ l h').1 = 0 ∧ Good (lay s at_ l h').2 (1 - c) (N + 1) h' now ∧ (lay s at_ l h').2.S.length = s.S.length ∧ (lay s at_ l h').2.many = s.many + l.length + 3) ∨
    ((lay s at_ l h').1 = 9 ∧ (lay s at_ l h').2.black = true ∧ (lay s at_ l h').2.Ok ∧ (lay s at_ l h').2.S.length = s.S.length ∧ (lay s at_ l h').2.many ≤ s.many + l.length + 3 ∧
      ∀ p, Good (dk.crash (lay s at_ l h').2 p) c N h was ∨ Good (dk.crash (lay s at_ l h').2 p) (1 - c) (N + 1) h' now) := by
  have hok := Ok.lay g.ok at_ hl h'
  have hokw := Ok.writes l at_ g.ok hl
  have h64 := g.ok.some
  have hb1 := (hd.may_ok hm).1
  have hf1 := first_le g.ok hb1
  have hg1 := first_ge s h'.bank
  unfold jn.lay at hok ⊢
  rcases writes_cases l s at_ g.light hat hl with ⟨w1, w2, w3, w4, w5⟩ | ⟨w1, w2, w3, ⟨M, w4, w5, _⟩, w6⟩
  · rw [if_pos w1] at hok ⊢
    rw [g.sure, List.nil_append] at w4
    have hz := zipAt_in l at_ hl
    rcases flush_cases w2 with ⟨f1, f2, f3, f4, f5⟩ | ⟨f1, f2, f3, f4, f5⟩
    · rw [if_pos f1] at hok ⊢
      have hokf := dk.Ok.flush hokw
      rw [w3, w4] at f3
      have ha : Agree at_ (at_ + l.length) s.S (dk.flush (writes s at_ l).2).2.S := by rw [f3]; exact agree_lay _ _ hz
      have hgood1 := g.agree hokf f2 f4 ha h2 hfar
      have hput : ∀ i, i < l.length → (dk.flush (writes s at_ l).2).2.S.getD (at_ + i) dk.zero = l.getD i dk.zero := fun i hi => by rw [f3]; exact lay_zip l at_ s.S hat i hi
      have hm1 : (dk.flush (writes s at_ l).2).2.many = s.many + l.length + 1 := by rw [f5, w5]
      generalize (dk.flush (writes s at_ l).2).2 = t at *
      have hhalf : half t = half s := by unfold half; rw [ha.len]
      have hfirst : ∀ b, first t b = first s b := fun b => by unfold first; rw [hhalf]
      have hread := hnow t.S ha hput hokf.lenS
      -- a head in the other place leaves the blocks
      have hset : ∀ X (u : St), u.S = t.S.set (1 - c) X → u.Ok → u.black = false → u.L = [] → (Two u.S c N h → Good u c N h was) ∧ (Two u.S (1 - c) (N + 1) h' → Good u (1 - c) (N + 1) h' now) := fun X u hu ho hb hL => by
        have ha2 : Agree 0 2 t.S u.S := by rw [hu]; exact agree_set _ (Nat.zero_le _) (by omega) _
        have hh : half u = half s := by unfold half; rw [ha2.len, ha.len]
        have hf : ∀ b, first u b = first s b := fun b => by unfold first; rw [hh]
        refine ⟨fun two => ⟨ho, hb, hL, two, by rw [hh]; exact g.fits, ?_⟩, fun two => ⟨ho, hb, hL, two, by rw [hh]; exact hfit, ?_⟩⟩
        · rw [hf, bytesS_agree ha2 (.inr (first_ge s _)), ← hfirst]
          exact hgood1.reads
        · rw [hf, bytesS_agree ha2 (.inr hg1)]
          exact hread
      rcases layH_cases hokf f2 f4 hgood1.two hn hm with ⟨a1, a2, a3, a4, a5⟩ | ⟨a1, a2, a3, a4⟩
      · refine .inl ⟨a1, ?_, by rw [a4, List.length_set, ha.len], by rw [a5, hm1]; omega⟩
        refine (hset _ _ a4 hok a2 a3).2 ?_
        rw [a4]
        exact hgood1.two.laid (by rw [ha.len]; omega) hn hm
      · have hSl : (layH t h').2.S.length = s.S.length := by
          have h3 := a4 []
          have h4 : (dk.crash (layH t h').2 []).S.length = (layH t h').2.S.length := by simp only [dk.crash]; exact dk.tear_length _ _ _
          rcases h3 with e | ⟨k, e⟩
          · rw [← h4, e, ha.len]
          · rw [← h4, e, List.length_set, ha.len]
        refine .inr ⟨a1, a2, hok, hSl, by omega, fun p => ?_⟩
        have hokc := dk.Ok.crash hok p
        rcases a4 p with e | ⟨k, e⟩
        · refine .inl (hgood1.agree (lo := 2) (hi := 2) hokc rfl rfl ⟨by rw [e], fun k _ => by rw [e]⟩ (Nat.le_refl _) (.inr (first_ge _ _)))
        · rcases hgood1.two.begun hokf.lenS (by rw [ha.len]; omega) hn hm k with two | two
          · exact .inl ((hset _ _ e hokc rfl rfl).1 (by rw [e]; exact two))
          · exact .inr ((hset _ _ e hokc rfl rfl).2 (by rw [e]; exact two))
    · rw [if_neg (by rw [f1]; decide)] at hok ⊢
      refine .inr ⟨f1, f2, hok, by rw [f3, w3], by rw [f5, w5]; omega, fun p => .inl ?_⟩
      refine g.agree (lo := at_) (hi := at_ + l.length) (dk.Ok.crash hok p) rfl rfl ?_ h2 hfar
      simp only [dk.crash]
      rw [f3, f4, w3, w4]
      exact agree_tear _ _ p hz
  · rw [if_neg (by rw [w1]; decide)] at hok ⊢
    refine .inr ⟨w1, w2, hok, by rw [w3], by omega, fun p => .inl ?_⟩
    refine g.agree (lo := at_) (hi := at_ + l.length) (dk.Ok.crash hok p) rfl rfl ?_ h2 hfar
    simp only [dk.crash]
    rw [w3, w4, g.sure, List.nil_append]
    exact agree_tear _ _ p w5
theorem may_of {h : hd.H} (h1 : h.bank.toNat ≤ 1) (h2 : h.blocks ≤ 4096) (h3 : h.batches ≤ h.blocks) : hd.may h = true := by simp [hd.may, h1, h2, h3]
theorem count_pos (n : Nat) : 1 ≤ count (n + 4) := by unfold count; omega
theorem half_le {s : St} (h : s.Ok) : half s ≤ 2047 := by have := h.most; unfold half; omega
theorem bank_cases {x : UInt8} (h : x.toNat ≤ 1) : x = 0 ∨ x = 1 := by
  have hcs : x.toNat = 0 ∨ x.toNat = 1 := by omega
  rcases hcs with e | e
  · exact .inl (UInt8.toNat_inj.1 e)
  · exact .inr (UInt8.toNat_inj.1 e)
/-- what there is room for is behind the others, or the power is cut -/
theorem append_cases {s : St} {c N : Nat} {h : hd.H} {was : List (List UInt8)} (g : Good s c N h was) (hn : hd.num (N + 1) = true) (b : List UInt8) (hb : b.length ≤ 1048576) (hroom : h.blocks + (blocks b).length ≤ half s) :
    append s h b = lay s (first s h.bank + h.blocks) (blocks b) (appendH h b) ∧
    (((append s h b).1 = 0 ∧ Good (append s h b).2 (1 - c) (N + 1) (appendH h b) (was ++ [b]) ∧ (append s h b).2.S.length = s.S.length ∧ (append s h b).2.many = s.many + (blocks b).length + 3) ∨
    ((append s h b).1 = 9 ∧ (append s h b).2.black = true ∧ (append s h b).2.Ok ∧ (append s h b).2.S.length = s.S.length ∧ (append s h b).2.many ≤ s.many + (blocks b).length + 3 ∧
      ∀ p, Good (dk.crash (append s h b).2 p) c N h was ∨ Good (dk.crash (append s h b).2 p) (1 - c) (N + 1) (appendH h b) (was ++ [b]))) := by
  have he : append s h b = lay s (first s h.bank + h.blocks) (blocks b) (appendH h b) := by
    unfold jn.append
    rw [if_neg (by omega), if_neg (by rw [g.light]; simp), if_neg (by omega)]
  refine ⟨he, ?_⟩
  rw [he]
  have hm := hd.may_ok g.two.may
  have hf := first_le g.ok hm.1
  have hh := half_le g.ok
  have hp := count_pos b.length
  rw [← blocks_length] at hp
  refine lay_cases g (blocks_len b) (by have := first_ge s h.bank; omega) (by omega) (.inl (Nat.le_refl _)) hn ?_ hroom ?_
  · exact may_of hm.1 (show h.blocks + (blocks b).length ≤ 4096 by omega) (show h.batches + 1 ≤ h.blocks + (blocks b).length by omega)
  · intro S1 ha hput hlen
    show parse (h.batches + 1) (bytesS S1 (first s h.bank) (h.blocks + (blocks b).length)) = _
    rw [bytesS_more, bytesS_agree ha (.inl (Nat.le_refl _)), bytesS_blocks hput, blocks_flatten]
    exact parse_more g.reads (by rw [bytesS_length g.ok.lenS]; omega) b hb
theorem replace_cases {s : St} {c N : Nat} {h : hd.H} {was : List (List UInt8)} (g : Good s c N h was) (hn : hd.num (N + 1) = true) (b : List UInt8) (hb : b.length ≤ 1048576) (hroom : (blocks b).length ≤ half s) :
    replace s h b = lay s (first s (1 - h.bank)) (blocks b) (replaceH h b) ∧
    (((replace s h b).1 = 0 ∧ Good (replace s h b).2 (1 - c) (N + 1) (replaceH h b) [b] ∧ (replace s h b).2.S.length = s.S.length ∧ (replace s h b).2.many = s.many + (blocks b).length + 3) ∨
    ((replace s h b).1 = 9 ∧ (replace s h b).2.black = true ∧ (replace s h b).2.Ok ∧ (replace s h b).2.S.length = s.S.length ∧ (replace s h b).2.many ≤ s.many + (blocks b).length + 3 ∧
      ∀ p, Good (dk.crash (replace s h b).2 p) c N h was ∨ Good (dk.crash (replace s h b).2 p) (1 - c) (N + 1) (replaceH h b) [b])) := by
  have he : replace s h b = lay s (first s (1 - h.bank)) (blocks b) (replaceH h b) := by
    unfold jn.replace
    rw [if_neg (by omega), if_neg (by rw [g.light]; simp), if_neg (by omega)]
  refine ⟨he, ?_⟩
  rw [he]
  have hm := hd.may_ok g.two.may
  have hh := half_le g.ok
  have hp := count_pos b.length
  rw [← blocks_length] at hp
  have hbk : (1 - h.bank).toNat ≤ 1 ∧ (first s h.bank + half s ≤ first s (1 - h.bank) ∨ first s (1 - h.bank) + half s ≤ first s h.bank) := by
    rcases bank_cases hm.1 with e | e <;> rw [e]
    · refine ⟨by decide, .inl ?_⟩
      show 2 + 0 * half s + half s ≤ 2 + 1 * half s
      omega
    · refine ⟨by decide, .inr ?_⟩
      show 2 + 0 * half s + half s ≤ 2 + 1 * half s
      omega
  have hf := first_le g.ok hbk.1
  have hfits := g.fits
  refine lay_cases g (blocks_len b) (first_ge _ _) (by omega) (by rcases hbk.2 with e | e; exact .inl (by omega); exact .inr (by omega)) hn ?_ hroom ?_
  · exact may_of hbk.1 (show (blocks b).length ≤ 4096 by omega) (show 1 ≤ (blocks b).length by omega)
  · intro S1 ha hput hlen
    show parse 1 (bytesS S1 (first s (1 - h.bank)) (blocks b).length) = _
    rw [bytesS_blocks hput, blocks_flatten]
    exact parse_only b hb
end jn
end Go.Proofs.YthddcaoolaipiaaGreatDoor

/-
  contracts of cardexref04.Disk's methods that write no blocks: Blocks, Dark, Steps, Loose, asks, step, Arm, Sure, Read.
-/
namespace Go.Proofs.YthddcaoolaipiaaGreatDoor
open Go.RowKit

/-- cardexref04's disk -/
abbrev RM := dk.M 64 43 76
variable {w : World} {p g c : Nat} {r : List Value} {v : Value} {s : dk.St}

namespace dk
theorem M.own_len {T E P : TypeId} {w : World} {p g c : Nat} {r : List Value} {v : Value} {s : dk.St} (h : M T E P w p g c r v s) : ∃ A cap, v = .slice A s.L.length cap ∧ s.L.length ≤ cap ∧ cap ≤ 9223372036854775807 := by
  rcases h.loose.2 with ⟨rfl, h0⟩ | ⟨k, cap, _, rfl, _, _, h1, h2, _⟩
  · exact ⟨none, 0, by rw [h0], by omega, by omega⟩
  · exact ⟨_, cap, rfl, h1, by rw [maxLen_eq] at h2; exact h2⟩
theorem M.cut {T E P : TypeId} {w : World} {p g c : Nat} {r : List Value} {v : Value} {s : dk.St} (h : M T E P w p g c r v s) (n : Int) (hn : 0 ≤ n ∧ n ≤ 9223372036854775807) : M T E P (w.setCell ⟨p, 2, none⟩ (.int .i64 n)) p g c r v { s with cut := n } := by
  have hs : Same w (w.setCell ⟨p, 2, none⟩ (.int .i64 n)) (g :: v.ownBlock.toList) := fun k hk => Below.heap_setCell w _ _ k (by
    simp only [List.mem_cons, Option.mem_toList] at hk
    rcases hk with rfl | hk
    · exact fun e => h.ne1 e.symm
    · exact fun e => h.ne2 (by rw [hk, e]))
  exact ⟨(block_set h.obj _).trans rfl, (hs g (by simp)).trans h.row, h.cap, h.max, own_keep h.loose (fun k hk => hs k (by simp [hk])), ⟨h.ok.lenS, h.ok.some, h.ok.most, h.ok.lenL, h.ok.inL⟩, h.ne1, h.ne2, h.ne3, hn, h.manyR⟩
theorem M.black {T E P : TypeId} {w : World} {p g c : Nat} {r : List Value} {v : Value} {s : dk.St} (h : M T E P w p g c r v s) (n : Bool) : M T E P (w.setCell ⟨p, 3, none⟩ (.bool n)) p g c r v { s with black := n } := by
  have hs : Same w (w.setCell ⟨p, 3, none⟩ (.bool n)) (g :: v.ownBlock.toList) := fun k hk => Below.heap_setCell w _ _ k (by
    simp only [List.mem_cons, Option.mem_toList] at hk
    rcases hk with rfl | hk
    · exact fun e => h.ne1 e.symm
    · exact fun e => h.ne2 (by rw [hk, e]))
  exact ⟨(block_set h.obj _).trans rfl, (hs g (by simp)).trans h.row, h.cap, h.max, own_keep h.loose (fun k hk => hs k (by simp [hk])), ⟨h.ok.lenS, h.ok.some, h.ok.most, h.ok.lenL, h.ok.inL⟩, h.ne1, h.ne2, h.ne3, h.cutR, h.manyR⟩
theorem M.many {T E P : TypeId} {w : World} {p g c : Nat} {r : List Value} {v : Value} {s : dk.St} (h : M T E P w p g c r v s) (n : Int) (hn : 0 ≤ n ∧ n ≤ 4611686018427387904) : M T E P (w.setCell ⟨p, 4, none⟩ (.int .i64 n)) p g c r v { s with many := n } := by
  have hs : Same w (w.setCell ⟨p, 4, none⟩ (.int .i64 n)) (g :: v.ownBlock.toList) := fun k hk => Below.heap_setCell w _ _ k (by
    simp only [List.mem_cons, Option.mem_toList] at hk
    rcases hk with rfl | hk
    · exact fun e => h.ne1 e.symm
    · exact fun e => h.ne2 (by rw [hk, e]))
  exact ⟨(block_set h.obj _).trans rfl, (hs g (by simp)).trans h.row, h.cap, h.max, own_keep h.loose (fun k hk => hs k (by simp [hk])), ⟨h.ok.lenS, h.ok.some, h.ok.most, h.ok.lenL, h.ok.inL⟩, h.ne1, h.ne2, h.ne3, h.cutR, hn⟩
end dk

theorem rblocks_any (h : RM w p g c r v s) : Calls Tryz.prog 75 #[.pointer (some ⟨p, 0, none⟩)] w fun e w' => e = .returned (.int .i64 s.S.length) ∧ w = w' := by
  have c0 := h.c0
  go_enter Tryz.func75, Tryz.ntmps75
  go_wp2
  go_ret
  exact ⟨rfl, rfl⟩
theorem rdark_any (h : RM w p g c r v s) : Calls Tryz.prog 9 #[.pointer (some ⟨p, 0, none⟩)] w fun e w' => e = .returned (.bool s.black) ∧ w = w' := by
  have c3 := h.c3
  go_enter Tryz.func9, Tryz.ntmps9
  go_wp2
  go_ret
  exact ⟨rfl, rfl⟩
theorem rsteps_any (h : RM w p g c r v s) : Calls Tryz.prog 17 #[.pointer (some ⟨p, 0, none⟩)] w fun e w' => e = .returned (.int .i64 s.many) ∧ w = w' := by
  have c4 := h.c4
  go_enter Tryz.func17, Tryz.ntmps17
  go_wp2
  go_ret
  exact ⟨rfl, rfl⟩
theorem rasks_any (n : Int) (h : RM w p g c r v s) : Calls Tryz.prog 48 #[.pointer (some ⟨p, 0, none⟩), .int .i64 n] w fun e w' => e = .returned (.int .i64 (dk.asks s n)) ∧ w = w' := by
  have c0 := h.c0
  have c3 := h.c3
  have hm := h.ok.most
  cases hb : s.black with
  | true =>
    rw [hb] at c3
    go_enter Tryz.func48, Tryz.ntmps48
    go_wp2
    go_ret
    exact ⟨ret_int (by simp [dk.asks, hb]), rfl⟩
  | false =>
    rw [hb] at c3
    by_cases h0 : n < 0
    · go_enter Tryz.func48, Tryz.ntmps48
      go_wp2
      go_ret
      exact ⟨ret_int (by simp [dk.asks, hb, h0]), rfl⟩
    · by_cases h1 : (s.S.length : Int) ≤ n
      · go_enter Tryz.func48, Tryz.ntmps48
        go_wp2
        go_ret
        exact ⟨ret_int (by simp [dk.asks, hb, h1]), rfl⟩
      · go_enter Tryz.func48, Tryz.ntmps48
        go_wp2
        go_ret
        exact ⟨ret_int (by simp [dk.asks, hb, h0, h1]), rfl⟩
theorem rstep_any (h : RM w p g c r v s) (hm : s.many < 4611686018427387904) : Calls Tryz.prog 49 #[.pointer (some ⟨p, 0, none⟩)] w fun e w' => e = .returned (.int .i64 (dk.step s).1) ∧ RM w' p g c r v (dk.step s).2 ∧ Chg w w' [p] := by
  have c2 := h.c2
  have f2 := h.fz 2
  have f3 := h.fz 3
  have f4 := h.fz 4
  have c3 := h.c3
  have c4 := h.c4
  obtain ⟨h0, h1⟩ := h.cutR
  obtain ⟨m0, m1⟩ := h.manyR
  by_cases hc : s.cut = 1
  · have hr : dk.step s = (9, { s with black := true }) := if_pos hc
    have hn := h.black true
    rw [hc] at c2
    rw [hr]
    clear hr hc
    go_enter Tryz.func49, Tryz.ntmps49
    go_wp2
    go_ret
    exact ⟨rfl, hn, Chg.setCell _ _ _ _⟩
  · by_cases hc2 : 1 < s.cut
    · have hr : dk.step s = (0, { s with cut := s.cut - 1, many := s.many + 1 }) := by rw [dk.step, if_neg hc, if_pos hc2]
      have hn1 := h.cut (s.cut - 1) (by omega)
      have hn := hn1.many (s.many + 1) (by omega)
      have d4 := hn1.c4
      have e4 := hn1.fz 4
      simp only at d4
      rw [hr]
      have hb : (s.cut == 1) = false := by simpa using hc
      clear hr hc
      go_enter Tryz.func49, Tryz.ntmps49
      go_wp2
      go_ret
      exact ⟨rfl, hn, (Chg.setCell _ _ _ _).trans (Chg.setCell _ _ _ _) (Sub.refl _ _)⟩
    · have hr : dk.step s = (0, { s with many := s.many + 1 }) := by rw [dk.step, if_neg hc, if_neg hc2]
      have hn := h.many (s.many + 1) (by omega)
      rw [hr]
      have hb : (s.cut == 1) = false := by simpa using hc
      clear hr hc
      go_enter Tryz.func49, Tryz.ntmps49
      go_wp2
      go_ret
      exact ⟨rfl, hn, Chg.setCell _ _ _ _⟩
theorem rarm_any (n : Int) (hn : n ≤ 9223372036854775807) (h : RM w p g c r v s) : Calls Tryz.prog 29 #[.pointer (some ⟨p, 0, none⟩), .int .i64 n] w fun e w' => e = .returned (.int .i64 (dk.arm s n).1) ∧ RM w' p g c r v (dk.arm s n).2 ∧ Chg w w' [p] := by
  have c3 := h.c3
  have c2 := h.c2
  have f2 := h.fz 2
  cases hb : s.black with
  | true =>
    have hr : dk.arm s n = (9, s) := by simp [dk.arm, hb]
    rw [hb] at c3
    rw [hr]
    clear hr
    go_enter Tryz.func29, Tryz.ntmps29
    go_wp2
    go_ret
    exact ⟨rfl, h, Chg.refl _ _⟩
  | false =>
    rw [hb] at c3
    by_cases h0 : n < 0
    · have hr : dk.arm s n = (2, s) := by simp [dk.arm, hb, h0]
      rw [hr]
      clear hr
      go_enter Tryz.func29, Tryz.ntmps29
      go_wp2
      go_ret
      exact ⟨rfl, h, Chg.refl _ _⟩
    · have hr : dk.arm s n = (0, { s with cut := n }) := by unfold dk.arm; rw [if_neg (by simp [hb]), if_neg h0]
      have hN := h.cut n (by omega)
      rw [hr]
      clear hb
      clear hr
      go_enter Tryz.func29, Tryz.ntmps29
      go_wp2
      go_ret
      exact ⟨rfl, hN, Chg.setCell _ _ _ _⟩

set_option maxRecDepth 100000 in
theorem rsure_any (n : Int) (h : RM w p g c r v s) : Calls Tryz.prog 15 #[.pointer (some ⟨p, 0, none⟩), .int .i64 n] w fun e w' => e = .returned (.tuple #[dk.val (dk.sure s n).1, .int .i64 (dk.sure s n).2]) ∧ Below w.heap.size w w' := by
  have h' := h.alloc (.cells (dk.cells dk.zero).toArray 43)
  have d0 := h'.c0
  have hm := h.ok.most
  obtain ⟨hz, -⟩ := zero_of_info zero_blk
  have hrow := heap_alloc_new w (.cells (dk.cells dk.zero).toArray 43)
  by_cases hin : n < 0 ∨ (s.S.length : Int) ≤ n
  · have hr : dk.sure s n = (dk.zero, 2) := if_pos hin
    have HR := Lib.hid hr
    clear hr
    rcases hin with h0 | h0
    · go_enter Tryz.func15, Tryz.ntmps15
      go_wp2_with (refine wp_st0 (.tmp 4) (.tmp 17) dk.zero hrow zero_len zero_len rfl rfl rfl rfl ?_; intro W hW hc)
      refine bodyPost_ret (results_cell_tmp rfl rfl (blk_load (blk_range hW) zero_len)) rfl ⟨?_, new_chg hc⟩
      rw [HR.out]
      rfl
    · have h1 : ¬ n < 0 := by omega
      go_enter Tryz.func15, Tryz.ntmps15
      go_wp2_with (refine wp_st0 (.tmp 4) (.tmp 17) dk.zero hrow zero_len zero_len rfl rfl rfl rfl ?_; intro W hW hc)
      refine bodyPost_ret (results_cell_tmp rfl rfl (blk_load (blk_range hW) zero_len)) rfl ⟨?_, new_chg hc⟩
      rw [HR.out]
      rfl
  · obtain ⟨i, rfl⟩ : ∃ i : Nat, n = i := ⟨n.toNat, by omega⟩
    have hi : i < s.S.length := by omega
    have hb := h.ok.lenS _ (List.getElem_mem hi)
    have hr : dk.sure s i = (s.S[i], 0) := by
      rw [dk.sure, if_neg hin, Int.toNat_natCast, List.getD_eq_getElem?_getD, List.getElem?_eq_getElem hi]
      rfl
    have hrange := h'.block hi
    generalize s.S[i] = b at *
    have HR := Lib.hid hr
    have h0 : ¬ (i : Int) < 0 := by omega
    clear hr hin
    go_enter Tryz.func15, Tryz.ntmps15
    go_wp2_with (first | refine wp_ld (.tmp 23) b hrange hb rfl rfl rfl ?_ | (refine wp_st0 (.tmp 4) (.tmp 24) b hrow zero_len hb rfl rfl rfl rfl ?_; intro W hW hc))
    refine bodyPost_ret (results_cell_tmp rfl rfl (blk_load (blk_range hW) hb)) rfl ⟨?_, new_chg hc⟩
    rw [HR.out]
    rfl
set_option maxHeartbeats 4000000 in
set_option maxRecDepth 100000 in
theorem rread_any (n : Int) (h : RM w p g c r v s) : Calls Tryz.prog 97 #[.pointer (some ⟨p, 0, none⟩), .int .i64 n] w fun e w' => e = .returned (.tuple #[dk.val (dk.read s n).1, .int .i64 (dk.read s n).2]) ∧ Below w.heap.size w w' := by
  have h1 := h.alloc (.cells (dk.cells dk.zero).toArray 43)
  obtain ⟨hz, -⟩ := zero_of_info zero_blk
  have hrow := heap_alloc_new w (.cells (dk.cells dk.zero).toArray 43)
  have ha := rasks_any n h1
  obtain ⟨q, hq⟩ : ∃ q, dk.asks s n = q := ⟨_, rfl⟩
  rw [hq] at ha
  have HA := Lib.hid ha
  by_cases h0 : q = 0
  · subst h0
    obtain ⟨hbl, hn0, hn1⟩ := dk.asks_in hq
    obtain ⟨i, rfl⟩ : ∃ i : Nat, n = i := ⟨n.toNat, by omega⟩
    have hi : i < s.S.length := by omega
    have hm := h.ok.most
    have hb0 := h.ok.lenS _ (List.getElem_mem hi)
    have hread : dk.read s i = (dk.look s.S[i] i s.L, 0) := by
      rw [dk.read, if_pos hq, Int.toNat_natCast, List.getD_eq_getElem?_getD, List.getElem?_eq_getElem hi]
      rfl
    have HR := Lib.hid hread
    have hrange := h1.block hi
    generalize s.S[i] = b0 at *
    have d0 := h1.c0
    have hk := h1.there
    have HL := Lib.hid h.ok.lenL
    clear ha hq hbl hread hn0 hn1
    go_enter Tryz.func97, Tryz.ntmps97
    go_wp2_with fail
    refine HA.out.mono ?_
    rintro e w1 ⟨rfl, rfl⟩
    have hr2 := heap_alloc_new (w.alloc (.cells (dk.cells dk.zero).toArray 43)) (.cells (dk.cells dk.zero).toArray 43)
    rw [show (w.alloc (.cells (dk.cells dk.zero).toArray 43)).heap.size = w.heap.size + 1 from by simp] at hr2
    go_wp2_with (first | refine wp_ld (.tmp 21) b0 hrange hb0 rfl rfl rfl ?_ | (refine wp_st0 (.tmp 7) (.tmp 22) b0 hr2 zero_len hb0 rfl rfl rfl rfl ?_; intro W hW hc))
    have hbW : Below w.heap.size w W := (((Chg.alloc w _ [w.heap.size + 1]).trans (Chg.alloc _ _ [w.heap.size + 1]) (Sub.refl _ _)).trans hc (Sub.refl _ _)).below (Nat.le_refl _) (fun k hk => by simp at hk; omega)
    have hW0 : W.heap[w.heap.size]? = some (.cells (dk.cells dk.zero).toArray 43 (0, 0)) := by
      rw [hc.block _ (by simp; omega) (by simp), Below.heap_alloc _ _ _ (by simp)]
      exact hrow
    clear hr2 hc hrow hrange d0 hk h1
    obtain ⟨Lv, hLv⟩ : ∃ l, s.L = l := ⟨_, rfl⟩
    have hlen : ∀ j (hj : j < s.L.length), s.L[j].2.length = 128 := fun j hj => HL.out _ (List.getElem_mem hj)
    have HLn := Lib.hid hlen
    clear hLv Lv hlen
    go_loopw [8] (fun t wr => ∃ j : Nat, j ≤ s.L.length ∧ t = .int .i64 j ∧ wr.heap[w.heap.size]? = some (.cells (dk.cells dk.zero).toArray 43 (0, 0)) ∧ wr.heap[w.heap.size + 1]? = some (.cells (dk.cells (dk.look b0 i (s.L.take j))).toArray 43 (0, 0)) ∧ Below w.heap.size w wr) (fun t _ => s.L.length - (intOf t).toNat)
    case atStart => exact ⟨0, by omega, rfl, hW0, hW, hbW⟩
    case round =>
      clear hW hW0 hbW
      obtain ⟨j, hj, rfl, hW0, hW, hb⟩ := hrel
      have hM := h.below hb
      have d1 := hM.c1
      have hcl : (dk.look b0 i (s.L.take j)).length = 128 := dk.look_len _ (fun x hx => HL.out x (List.mem_of_mem_take hx)) _ _ hb0
      by_cases hlt : j < s.L.length
      · obtain ⟨k, cap, hv, hcap, hmax, dN, dB⟩ := hM.put_ hlt
        have hbl := HLn.out j hlt
        have hst : dk.look b0 i (s.L.take (j + 1)) = if s.L[j].1 = (i : Int) then s.L[j].2 else dk.look b0 i (s.L.take j) := by
          rw [List.take_succ_eq_append_getElem hlt, dk.look_snoc]
        rw [hv] at d1
        have hM2 := hM.ok.inL _ (List.getElem_mem hlt)
        generalize hx : s.L[j] = x at *
        obtain ⟨xn, xb⟩ := x
        simp only at hst dN dB hbl hM2
        have HST := Lib.hid hst
        clear hst hx hM
        obtain ⟨hx0, hx1⟩ := hM2
        by_cases he : xn = (i : Int)
        · subst he
          go_wp2_with (first | refine wp_ld (.tmp 48) xb dB hbl rfl rfl rfl ?_ | (refine wp_st0 (.tmp 7) (.tmp 49) xb hW hcl hbl rfl rfl rfl rfl ?_; intro W2 hW2 hc2))
          go_roundw
          case rel =>
            refine ⟨j + 1, by omega, by go_num, by rw [hc2.block _ (Nat.lt_of_lt_of_le (Array.getElem?_eq_some_iff.1 hW0).1 (Nat.le_refl _)) (by simp)]; exact hW0, by rw [HST.out, if_pos rfl]; exact hW2, (Chg.of_below hb [w.heap.size + 1]).trans hc2 (Sub.refl _ _) |>.below (Nat.le_refl _) (fun k hk => by simp at hk; omega)⟩
          case measure => simp [intOf]; omega
        · have hne : (xn == (i : Int)) = false := by simpa using he
          rw [if_neg he] at HST
          go_wp2
          go_roundw
          case rel => exact ⟨j + 1, by omega, by go_num, hW0, by rw [HST.out]; exact hW, hb⟩
          case measure => simp [intOf]; omega
      · obtain ⟨A, cap, hv, hcap, hmax⟩ := hM.own_len
        rw [hv] at d1
        have hj' : j = s.L.length := by omega
        rw [List.take_of_length_le (by omega)] at hW hcl
        have hrg := blk_range hW
        clear hj
        go_wp2_with (first | refine wp_ld (.tmp 7) _ hrg hcl rfl rfl rfl ?_ | (refine wp_st0 (.tmp 4) (.tmp 50) _ hW0 zero_len hcl rfl rfl rfl rfl ?_; intro W2 hW2 hc2))
        refine bodyPost_ret (results_cell_tmp rfl rfl (blk_load (blk_range hW2) hcl)) rfl ⟨?_, (Chg.of_below hb [w.heap.size]).trans hc2 (Sub.refl _ _) |>.below (Nat.le_refl _) (fun k hk => by simp at hk; omega)⟩
        rw [HR.out]
        rfl
  · have hr : dk.read s n = (dk.zero, q) := by
      rw [dk.read, hq, if_neg h0]
    have HR := Lib.hid hr
    have hqb : (q == 0) = false := by simpa using h0
    clear hr hq ha
    go_enter Tryz.func97, Tryz.ntmps97
    go_wp2_with fail
    refine HA.out.mono ?_
    rintro e w1 ⟨rfl, rfl⟩
    go_wp2_with (refine wp_st0 (.tmp 4) (.tmp 14) dk.zero hrow zero_len zero_len rfl rfl rfl rfl ?_; intro W hW hc)
    refine bodyPost_ret (results_cell_tmp rfl rfl (blk_load (blk_range hW) zero_len)) rfl ⟨?_, new_chg hc⟩
    rw [HR.out]
    rfl
end Go.Proofs.YthddcaoolaipiaaGreatDoor

/-
  contract of cardexref04.New.
-/
namespace Go.Proofs.YthddcaoolaipiaaGreatDoor
open Go.RowKit
variable {w : World}

theorem cells_zero : dk.cells dk.zero = List.replicate 128 (bv 0) := by
  unfold dk.cells dk.zero
  rw [List.map_replicate]
theorem made_same (m k : Nat) (x : Value) (hm : 0 < m) : madeCells (List.replicate m x).toArray k = (List.replicate k x).toArray := by
  apply Array.ext_getElem?
  intro i
  by_cases hi : i < k
  · have hlt : i % m < m := Nat.mod_lt _ hm
    simp [madeCells, hi, hlt]
  · simp [madeCells, hi]
theorem made_blocks (n : Nat) : madeCells (dk.val dk.zero).cells (n * 128) = (dk.cellsS (List.replicate n dk.zero)).toArray := by
  have e : dk.cellsS (List.replicate n dk.zero) = List.replicate (n * 128) (bv 0) := by
    unfold dk.cellsS
    rw [List.map_replicate, cells_zero, List.flatten_replicate_replicate]
  rw [e]
  have hv : (dk.val dk.zero).cells = (List.replicate 128 (bv 0)).toArray := by rw [← cells_zero]; rfl
  rw [hv]
  exact made_same 128 _ _ (by omega)
def fresh (n : Nat) : dk.St := ⟨List.replicate n dk.zero, [], 0, false, 0⟩
theorem fresh_ok {n : Nat} (h : 64 ≤ n) (h2 : n ≤ 4096) : (fresh n).Ok :=
  ⟨fun b hb => by rw [(List.mem_replicate.1 hb).2]; exact zero_len, by simpa [fresh] using h, by simpa [fresh] using h2, fun x hx => by simp [fresh] at hx, fun x hx => by simp [fresh] at hx⟩

theorem info_blk3 : (Tryz.prog.info? 43).map (fun i => (i.zero, i.size, i.bytes)) = some (some (dk.val dk.zero), 128, 128) := by kernel_rfl
theorem info_parts4 {e : TypeId} {z : Value} {sz bt : Nat} (h : (Tryz.prog.info? e).map (fun i => (i.zero, i.size, i.bytes)) = some (some z, sz, bt)) : ∃ i, Tryz.prog.info? e = some i ∧ i.zero = some z ∧ i.size = sz ∧ i.bytes = bt := by
  cases hq : Tryz.prog.info? e with
  | none => simp [hq] at h
  | some i =>
    simp only [hq, Option.map_some, Option.some.injEq, Prod.mk.injEq] at h
    exact ⟨i, rfl, h.1, h.2.1, h.2.2⟩

set_option maxRecDepth 100000 in
theorem rnew_yes (n : Nat) (h : 64 ≤ n) (h2 : n ≤ 4096) : Calls Tryz.prog 6 #[.int .i64 n] w fun e w' => ∃ p g, e = .returned (.tuple #[.pointer (some ⟨p, 0, none⟩), .int .i64 0]) ∧
    RM w' p g n [] (.slice none 0 0) (fresh n) ∧ Chg w w' [] ∧ w.heap.size ≤ p ∧ w.heap.size ≤ g := by
  obtain ⟨i0, hi0, hz0, hs0, hb0⟩ := info_parts4 info_blk3
  have hmk := fun W => run_make (P := Tryz.prog) W 58 43 i0 _ Tryz.underlying58 hi0 hz0 .i64 .i64 (n : Int) (n : Int) (by omega) (by omega) (by rw [hb0]; omega) (by omega)
  rw [hs0, Int.toNat_natCast] at hmk
  simp only [made_blocks] at hmk
  obtain ⟨C, hC⟩ : ∃ C, (dk.cellsS (List.replicate n dk.zero)).toArray = C := ⟨_, rfl⟩
  rw [hC] at hmk
  have HC := Lib.hid hC
  clear hC
  go_enter Tryz.func6, Tryz.ntmps6
  go_wp2_with fail
  go_ret2
  have e0 := heap_alloc_new w (.cells C 43)
  have e1 := heap_alloc_new (w.alloc (.cells C 43)) (.cells #[.slice (some ⟨w.heap.size, 0, none⟩) n n, .slice none 0 0, .int .i64 0, .bool false, .int .i64 0] 64)
  rw [show (w.alloc (.cells C 43)).heap.size = w.heap.size + 1 from by simp] at e1
  refine ⟨w.heap.size + 1, w.heap.size, rfl, ⟨?_, ?_, ?_, by omega, World.ownsRow_nil _ _ _ _, fresh_ok h h2, by omega, by simp [Value.ownBlock], by simp [Value.ownBlock], by simp [fresh], by simp [fresh]⟩, (Chg.alloc w _ []).trans (Chg.alloc _ _ []) (Sub.refl _ _), by omega, Nat.le_refl _⟩
  · rw [e1]
    simp [fresh]
  · rw [Below.heap_alloc _ _ _ (by simp), e0, ← HC.out]
    simp [fresh]
  · simp [fresh]
theorem rnew_no (n : Int) (h : n < 64 ∨ 4096 < n) : Calls Tryz.prog 6 #[.int .i64 n] w fun e w' => e = .returned (.tuple #[.pointer none, .int .i64 2]) ∧ w = w' := by
  have hcs : n < 64 ∨ (¬ n < 64 ∧ 4096 < n) := by omega
  rcases hcs with h0 | ⟨h0, h1⟩
  all_goals
    go_enter Tryz.func6, Tryz.ntmps6
    go_wp2_with fail
    go_ret2
    exact ⟨rfl, rfl⟩
end Go.Proofs.YthddcaoolaipiaaGreatDoor
