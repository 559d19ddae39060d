/-
  THE PROGRAM's seal: contracts of Put, Get, Newest, Next.
-/
import Derived.Test.YtiiigbhkbpdciaaDoorSealP
namespace Go.Proofs.YtiiigbhkbpdciaaDoor
open Go.RowKit

theorem splice_at {α : Type} (p m r x : List α) (hx : x.length = m.length) (k : Nat) (hk : k = p.length) : splice (p ++ (m ++ r)) k x = p ++ (x ++ r) := by
  subst hk
  unfold splice
  rw [List.take_left' rfl, hx, List.drop_append, List.drop_of_length_le (by omega), List.nil_append, Nat.add_sub_cancel_left, List.drop_left' rfl]
theorem splice_length {α : Type} (L : List α) (off : Nat) (cs : List α) (h : off + cs.length ≤ L.length) : (splice L off cs).length = L.length := Go.length_splice L off cs h
namespace sl
theorem rep_split (a b : Nat) : List.replicate (a + b) (0 : UInt8) = List.replicate a 0 ++ List.replicate b 0 := List.replicate_append_replicate.symm
/-- how a block is laid -/
theorem lay1 (n : Nat) : splice dk.zero 0 (leBytes n 8) = leBytes n 8 ++ List.replicate 120 0 := by
  have h := splice_at [] (List.replicate 8 (0 : UInt8)) (List.replicate 120 0) (leBytes n 8) (by rw [leBytes_length, List.length_replicate]) 0 rfl
  rw [← rep_split] at h
  exact h
theorem lay2 (n : Nat) {body : List UInt8} (h : body.length ≤ 108) : splice (leBytes n 8 ++ List.replicate 120 0) 8 body = head n body ++ List.replicate 12 0 := by
  have h1 := splice_at (leBytes n 8) (List.replicate body.length (0 : UInt8)) (List.replicate (120 - body.length) 0) body (by rw [List.length_replicate]) 8 (leBytes_length n 8).symm
  rw [← rep_split, show body.length + (120 - body.length) = 120 from by omega] at h1
  rw [h1, head, show 120 - body.length = (108 - body.length) + 12 from by omega, rep_split, List.append_assoc, List.append_assoc]
theorem lay3 (n : Nat) {body : List UInt8} (h : body.length ≤ 108) (s : Nat) : splice (head n body ++ List.replicate 12 0) 116 (leBytes s 4) = head n body ++ (leBytes s 4 ++ List.replicate 8 0) := by
  have h1 := splice_at (head n body) (List.replicate 4 (0 : UInt8)) (List.replicate 8 0) (leBytes s 4) (by rw [leBytes_length, List.length_replicate]) 116 (head_length n h).symm
  rw [← rep_split] at h1
  exact h1
theorem lay4 (n : Nat) {body : List UInt8} (h : body.length ≤ 108) (s m : Nat) : splice (head n body ++ (leBytes s 4 ++ List.replicate 8 0)) 120 (leBytes m 8) = head n body ++ (leBytes s 4 ++ leBytes m 8) := by
  have h1 := splice_at (head n body ++ leBytes s 4) (List.replicate 8 (0 : UInt8)) [] (leBytes m 8) (by rw [leBytes_length, List.length_replicate]) 120 (by rw [List.length_append, head_length n h, leBytes_length])
  rw [List.append_nil, List.append_nil, List.append_assoc, List.append_assoc] at h1
  exact h1
end sl
theorem u64_not (n : Nat) (hn : n < 18446744073709551616) : bits .xor .u64 IntKind.u64.max (n : Int) = ((18446744073709551615 - n : Nat) : Int) := by
  have e : (IntKind.u64.max : Int) = ((18446744073709551615 : Nat) : Int) := rfl
  rw [e, u64_xor_nat _ _ (by omega) hn]
  congr 1
  have h1 : (BitVec.allOnes 64 ^^^ BitVec.ofNat 64 n).toNat = 18446744073709551615 - n := by
    rw [BitVec.allOnes_xor, BitVec.toNat_not, BitVec.toNat_ofNat, Nat.mod_eq_of_lt (by omega)]
  rw [BitVec.toNat_xor, BitVec.toNat_ofNat, Nat.mod_eq_of_lt (by omega)] at h1
  exact h1

set_option maxHeartbeats 4000000 in
set_option maxRecDepth 100000 in
theorem cs_put (n : Nat) (hn : n < 18446744073709551616) (A : Option Addr) (k c : Nat) (body : List UInt8) (w : World) (h : BS w A k c body) (ht : Tab w) : Calls Tryd.prog 17 #[.int .u64 n, .slice A k c] w fun e w' =>
    e = .returned (.tuple #[dk.val (sl.put n body).1, .int .i64 (sl.put n body).2]) ∧ Below w.heap.size w w' := by
  obtain ⟨hz, -⟩ := zero_of_info zero_blk
  have hk := h.len
  have h1 := heap_alloc_new w (.cells (dk.cells dk.zero).toArray 27)
  have hb1 : Below w.heap.size w (w.alloc (.cells (dk.cells dk.zero).toArray 27)) := (Below.refl _ _).alloc (Nat.le_refl _) _
  by_cases h0 : n = 0
  · have hp : sl.put n body = (dk.zero, 2) := if_pos h0
    have HP := Lib.hid hp
    have h0' : ((n : Int) == 0) = true := by simp [h0]
    clear hp h0
    go_enter Tryd.func17, Tryd.ntmps17
    go_wp2_with (refine wp_st0 (.tmp 4) (.tmp 9) dk.zero h1 zero_len zero_len rfl rfl rfl rfl ?_; intro W hW hc)
    refine bodyPost_ret (results_cell_tmp rfl rfl (blk_load (blk_range hW) zero_len)) rfl ⟨?_, (Chg.of_below hb1 [w.heap.size]).trans hc (Sub.refl _ _) |>.below (Nat.le_refl _) (fun k hk => by simp at hk; omega)⟩
    rw [HP.out]
    rfl
  · have h0' : ((n : Int) == 0) = false := by simp [h0]
    by_cases hlen : 108 < body.length
    · have hp : sl.put n body = (dk.zero, 3) := by rw [sl.put, if_neg h0, if_pos hlen]
      have HP := Lib.hid hp
      have hlen' : (108 : Int) < (k : Int) := by omega
      clear hp
      go_enter Tryd.func17, Tryd.ntmps17
      go_wp2_with (refine wp_st0 (.tmp 4) (.tmp 13) dk.zero h1 zero_len zero_len rfl rfl rfl rfl ?_; intro W hW hc)
      refine bodyPost_ret (results_cell_tmp rfl rfl (blk_load (blk_range hW) zero_len)) rfl ⟨?_, (Chg.of_below hb1 [w.heap.size]).trans hc (Sub.refl _ _) |>.below (Nat.le_refl _) (fun k hk => by simp at hk; omega)⟩
      rw [HP.out]
      rfl
    · have hp : sl.put n body = (sl.sealB n body, 0) := by rw [sl.put, if_neg h0, if_neg hlen]
      have HP := Lib.hid hp
      have hlen' : ¬ (108 : Int) < (k : Int) := by omega
      have hbl : body.length ≤ 108 := by omega
      have h1' := (Below.heap_alloc (w.alloc (.cells (dk.cells dk.zero).toArray 27)) (.cells (dk.cells dk.zero).toArray 27) w.heap.size (by simp)).trans h1
      have h2 := heap_alloc_new (w.alloc (.cells (dk.cells dk.zero).toArray 27)) (.cells (dk.cells dk.zero).toArray 27)
      rw [show (w.alloc (.cells (dk.cells dk.zero).toArray 27)).heap.size = w.heap.size + 1 from by simp] at h2
      have hb2 : Below w.heap.size w ((w.alloc (.cells (dk.cells dk.zero).toArray 27)).alloc (.cells (dk.cells dk.zero).toArray 27)) := hb1.alloc (by simp) _
      have hsz2 : w.heap.size + 1 < ((w.alloc (.cells (dk.cells dk.zero).toArray 27)).alloc (.cells (dk.cells dk.zero).toArray 27)).heap.size := by simp
      obtain ⟨W2, hW2⟩ : ∃ W2, (w.alloc (.cells (dk.cells dk.zero).toArray 27)).alloc (.cells (dk.cells dk.zero).toArray 27) = W2 := ⟨_, rfl⟩
      clear hp hlen h1
      go_enter Tryd.func17, Tryd.ntmps17
      go_wp2_with fail
      rw [hW2] at h1' h2 hb2 hsz2
      have r2 : RowB 27 W2 (w.heap.size + 1) dk.zero := h2
      refine (layNumber_any _ (w.heap.size + 1) 0 8 n dk.zero zero_len W2 r2 (by rfl) (by omega) (put8 n hn)).mono ?_
      rintro e w3 ⟨rfl, r3, c3⟩
      rw [sl.lay1] at r3
      have b3 := (Chg.of_below hb2 [w.heap.size + 1]).trans c3 (Sub.refl _ _) |>.below (Nat.le_refl _) (fun k hk => by simp at hk; omega)
      have z3 := (c3.block w.heap.size (by omega) (by simp)).trans h1'
      clear c3 r2 h2 hW2 hb2 h1' hsz2
      go_wp2_with fail
      refine (part_any (w.heap.size + 1) 8 108 _ (by omega) (by omega)).mono ?_
      rintro e w4 ⟨rfl, rfl⟩
      have hB3 := h.below b3
      have htk : body.take 108 = body := List.take_of_length_le hbl
      have HTK := Lib.hid htk
      have hl3 : 8 + 108 ≤ (leBytes n 8 ++ List.replicate 120 0 : List UInt8).length := by rw [List.length_append, leBytes_length, List.length_replicate]; omega
      clear htk
      go_wp2_with (refine wpList_copy_bytes rfl (.tmp 16) (.tmp 17) 34 34 rfl 5 Tryd.underlying34 (by kernel_rfl) r3 rfl rfl hB3 hl3 ?_; intro w5 r5 c5; rw [HTK.out, sl.lay2 n hbl] at r5)
      have b5 := (Chg.of_below b3 [w.heap.size + 1]).trans c5 (Sub.refl _ _) |>.below (Nat.le_refl _) (fun k hk => by simp at hk; omega)
      have z5 := (c5.block w.heap.size (by have := r3.lt; omega) (by simp)).trans z3
      have hd5 := sl.head_length n hbl
      have hl5 : (sl.head n body ++ List.replicate 12 0 : List UInt8).length = 128 := by rw [List.length_append, hd5, List.length_replicate]
      have ht5 : (sl.head n body ++ List.replicate 12 0 : List UInt8).take 116 = sl.head n body := List.take_left' hd5
      have hsum := sum_any _ (w.heap.size + 1) _ hl5 w5 r5 (ht.below b5)
      rw [ht5] at hsum
      obtain ⟨s, hs⟩ : ∃ s, crc.of (sl.head n body) = s := ⟨_, rfl⟩
      rw [hs] at hsum
      have hslt := s.isLt
      have HSUM := Lib.hid hsum
      have HS := Lib.hid hs
      have hlay := layNumber_any _ (w.heap.size + 1) 116 4 s.toNat _ hl5 w5 r5 (by rfl) (by omega) (put4 s.toNat (by omega))
      rw [sl.lay3 n hbl] at hlay
      have HLAY := Lib.hid hlay
      clear hsum hs hlay ht5 c5 hl3 HTK hB3 z3 r3 b3
      refine HSUM.out.mono ?_
      rintro e w6 ⟨rfl, rfl⟩
      go_wp2_with fail
      refine HLAY.out.mono ?_
      rintro e w7 ⟨rfl, r7, c7⟩
      have b7 := (Chg.of_below b5 [w.heap.size + 1]).trans c7 (Sub.refl _ _) |>.below (Nat.le_refl _) (fun k hk => by simp at hk; omega)
      have z7 := (c7.block w.heap.size (by have := r5.lt; omega) (by simp)).trans z5
      have hl7 : (sl.head n body ++ (leBytes s.toNat 4 ++ List.replicate 8 0) : List UInt8).length = 128 := by rw [List.length_append, hd5, List.length_append, leBytes_length, List.length_replicate]
      have hlay := layNumber_any _ (w.heap.size + 1) 120 8 (18446744073709551615 - n) _ hl7 w7 r7 (by rfl) (by omega) (put8 _ (by omega))
      rw [sl.lay4 n hbl, ← u64_not n hn] at hlay
      have HLAY2 := Lib.hid hlay
      clear hlay HLAY HSUM c7 z5 b5
      go_wp2_with fail
      refine HLAY2.out.mono ?_
      rintro e w8 ⟨rfl, r8, c8⟩
      have b8 := (Chg.of_below b7 [w.heap.size + 1]).trans c8 (Sub.refl _ _) |>.below (Nat.le_refl _) (fun k hk => by simp at hk; omega)
      have z8 := (c8.block w.heap.size (by have := r7.lt; omega) (by simp)).trans z7
      have hfin : sl.head n body ++ (leBytes s.toNat 4 ++ leBytes (18446744073709551615 - n) 8) = sl.sealB n body := by rw [sl.sealB, HS.out, sl.last]
      rw [hfin] at r8
      have hsl := sl.seal_length n hbl
      have hrg := blk_range r8
      clear hfin HLAY2 c8 z7 b7 hl7 r7 hd5
      go_wp2_with (first | refine wp_ld (.tmp 6) (sl.sealB n body) hrg hsl rfl rfl rfl ?_ | (refine wp_st0 (.tmp 4) (.tmp 25) (sl.sealB n body) z8 zero_len hsl rfl rfl rfl rfl ?_; intro W hW hc))
      refine bodyPost_ret (results_cell_tmp rfl rfl (blk_load (blk_range hW) hsl)) rfl ⟨?_, (Chg.of_below b8 [w.heap.size]).trans hc (Sub.refl _ _) |>.below (Nat.le_refl _) (fun k hk => by simp at hk; omega)⟩
      rw [HP.out]
      rfl

set_option maxHeartbeats 4000000 in
set_option maxRecDepth 100000 in
theorem cs_get (b : dk.Blk) (hb : b.length = 128) (w : World) (ht : Tab w) : Calls Tryd.prog 23 #[dk.val b] w fun e w' =>
    ∃ v, e = .returned (.tuple #[.int .u64 (sl.get b).1, v, .int .i64 (sl.get b).2.2]) ∧ OwnB 5 w' w.heap.size v (sl.get b).2.1 ∧ Below w.heap.size w w' := by
  have hr1 : RowB 27 (w.alloc (.cells (dk.cells b).toArray 27)) w.heap.size b := heap_alloc_new w _
  have hb1 : Below w.heap.size w (w.alloc (.cells (dk.cells b).toArray 27)) := (Below.refl _ _).alloc (Nat.le_refl _) _
  obtain ⟨W, hW⟩ : ∃ W, w.alloc (.cells (dk.cells b).toArray 27) = W := ⟨_, rfl⟩
  rw [hW] at hr1 hb1
  obtain ⟨N, hN⟩ : ∃ N, sl.number b = N := ⟨_, rfl⟩
  have hNlt := sl.number_lt b
  rw [hN] at hNlt
  have g1 := numberIn_any _ w.heap.size 0 8 b hb W hr1 (by rfl) (by omega)
  rw [List.drop_zero, show leVal (b.take 8) = N from hN] at g1
  have G1 := Lib.hid g1
  obtain ⟨L, hL⟩ : ∃ L, leVal (b.drop 120) = L := ⟨_, rfl⟩
  have g2 := numberIn_any _ w.heap.size 120 8 b hb W hr1 (by rfl) (by omega)
  rw [List.take_of_length_le (by rw [List.length_drop]; omega), hL] at g2
  have G2 := Lib.hid g2
  have hlast : L = 18446744073709551615 - N ↔ b.drop 120 = sl.last N := by
    rw [← hL, sl.last]
    constructor
    · intro e
      rw [← e]
      exact (leBytes_val _ _ (by rw [List.length_drop]; omega)).symm
    · intro e
      rw [e, leVal_bytes]
      exact Nat.mod_eq_of_lt (by omega)
  have hnot := u64_not N hNlt
  have HW := Lib.hid hW
  clear g1 g2 hW
  go_enter Tryd.func23, Tryd.ntmps23
  go_wp2_with fail
  rw [HW.out]
  refine G1.out.mono ?_
  rintro e w1 ⟨rfl, rfl⟩
  by_cases h0 : N = 0
  · have hget : sl.get b = (0, [], 5) := by unfold sl.get; rw [if_pos (.inl (hN.trans h0))]
    have HG := Lib.hid hget
    have h0' : ((N : Int) == 0) = true := by simp [h0]
    clear hget G1 G2 HW hnot
    go_wp2_with fail
    go_ret3
    exact ⟨_, by rw [HG.out]; rfl, by rw [HG.out]; exact OwnB.nil_ _ _ _, hb1⟩
  · have h0' : ((N : Int) == 0) = false := by simp [h0]
    clear G1 HW
    go_wp2_with fail
    refine G2.out.mono ?_
    rintro e w1 ⟨rfl, rfl⟩
    obtain ⟨M, hM⟩ : ∃ M, 18446744073709551615 - N = M := ⟨_, rfl⟩
    rw [hM] at hlast hnot
    have hnot' : bits .xor .u64 (if IntKind.u64.signed = true then -1 else IntKind.u64.max) (N : Int) = (M : Int) := by rw [if_neg (by decide)]; exact hnot
    by_cases hl : L = M
    · have hne : ((L : Int) != (M : Int)) = false := by simp [hl]
      have hdl := hlast.1 hl
      obtain ⟨V, hV⟩ : ∃ V, leVal ((b.drop 116).take 4) = V := ⟨_, rfl⟩
      have g3 := numberIn_any _ w.heap.size 116 4 b hb W hr1 (by rfl) (by omega)
      rw [hV] at g3
      obtain ⟨s, hs⟩ : ∃ s, crc.of (b.take 116) = s := ⟨_, rfl⟩
      have g4 := sum_any _ w.heap.size b hb W hr1 (ht.below hb1)
      rw [hs] at g4
      have hslt := s.isLt
      have G3 := Lib.hid g3
      have G4 := Lib.hid g4
      have HV := Lib.hid hV
      have HS := Lib.hid hs
      clear g3 g4 hV hs G2 hlast
      by_cases hsum : V = s.toNat
      · have hget : sl.get b = (N, (b.drop 8).take 108, 0) := by
          unfold sl.get
          rw [if_neg (by rw [hN, hdl]; simpa using h0), if_neg (by rw [HV.out, HS.out]; simpa using hsum), hN]
        have HG := Lib.hid hget
        have hne2 : ((V : Int) != (s.toNat : Int)) = false := by simp [hsum]
        have hcl := clone_any _ 108 108 _ W (bs_mid_row hr1 (at_ := 8) (k := 108) (by omega) (by omega)) (by omega)
        have HCL := Lib.hid hcl
        clear hget hsum hcl hl hdl hN hL
        go_wp2_with fail
        refine G3.out.mono ?_
        rintro e w1 ⟨rfl, rfl⟩
        go_wp2_with fail
        refine G4.out.mono ?_
        rintro e w1 ⟨rfl, rfl⟩
        go_wp2_with fail
        refine (part_any w.heap.size 8 108 _ (by omega) (by omega)).mono ?_
        rintro e w1 ⟨rfl, rfl⟩
        go_wp2_with fail
        refine HCL.out.mono ?_
        rintro e w2 ⟨v, rfl, ho, hb2⟩
        go_wp2_with fail
        go_ret3
        exact ⟨_, by rw [HG.out]; rfl, by rw [HG.out]; exact ho.mono hb1.size, hb1.trans (hb2.mono hb1.size)⟩
      · have hget : sl.get b = (0, [], 6) := by
          unfold sl.get
          rw [if_neg (by rw [hN, hdl]; simpa using h0), if_pos (by rw [HV.out, HS.out]; simpa using hsum)]
        have HG := Lib.hid hget
        have hne2 : ((V : Int) != (s.toNat : Int)) = true := by rw [bne_iff_ne]; omega
        clear hget hl hdl hN hL
        go_wp2_with fail
        refine G3.out.mono ?_
        rintro e w1 ⟨rfl, rfl⟩
        go_wp2_with fail
        refine G4.out.mono ?_
        rintro e w1 ⟨rfl, rfl⟩
        go_wp2_with fail
        go_ret3
        exact ⟨_, by rw [HG.out]; rfl, by rw [HG.out]; exact OwnB.nil_ _ _ _, hb1⟩
    · have hget : sl.get b = (0, [], 5) := by
        unfold sl.get
        rw [if_pos (.inr (by rw [hN]; exact fun e => hl (hlast.2 e)))]
      have HG := Lib.hid hget
      have hne : ((L : Int) != (M : Int)) = true := by rw [bne_iff_ne]; omega
      clear hget hlast G2 hN hL
      go_wp2_with fail
      go_ret3
      exact ⟨_, by rw [HG.out]; rfl, by rw [HG.out]; exact OwnB.nil_ _ _ _, hb1⟩
end Go.Proofs.YtiiigbhkbpdciaaDoor
