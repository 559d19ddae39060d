/-
  contracts of cardexref04.Disk's methods that write blocks: Flush, Rot, Torn, Crash; New.
-/
import Derived.Test.YtajdeoackpfhoaaDiskR
namespace Go.Proofs.Ytajdeoackpfhoaa
open Go.RowKit
variable {w : World} {p g c : Nat} {r : List Value} {v : Value} {s : dk.St}

set_option maxHeartbeats 4000000 in
set_option maxRecDepth 100000 in
theorem rflush_any (h : RM w p g c r v s) (hm : s.many < 4611686018427387904) : Calls Try.prog 28 #[.pointer (some ⟨p, 0, none⟩)] w fun e w' =>
    ∃ v', e = .returned (.int .i64 (dk.flush s).1) ∧ RM w' p g c r v' (dk.flush s).2 ∧ Chg w w' (dk.fp p g v) ∧ Sub w (dk.fp p g v') (dk.fp p g v) := by
  have c3 := h.c3
  have hs := rstep_any h hm
  cases hb : s.black with
  | true =>
    have hr : dk.flush s = (9, s) := by rw [dk.flush, if_pos hb]
    have HR := Lib.hid hr
    rw [hb] at c3
    clear hr hs
    go_enter Try.func28, Try.ntmps28
    go_wp2_with fail
    go_ret
    exact ⟨v, ret_int (by rw [HR.out]), by rw [HR.out]; exact h, Chg.refl _ _, Sub.refl _ _⟩
  | false =>
    rw [hb] at c3
    by_cases hc : s.cut = 1
    · have hst1 : (dk.step s).1 = 9 := by rw [dk.step, if_pos hc]
      have hr : dk.flush s = (9, (dk.step s).2) := by rw [dk.flush, if_neg (by simp [hb]), if_neg (by rw [hst1]; omega)]
      rw [hst1] at hs
      have HS := Lib.hid hs
      have HR := Lib.hid hr
      clear hr hs hst1 hc
      go_enter Try.func28, Try.ntmps28
      go_wp2_with fail
      refine HS.out.mono ?_
      rintro e w2 ⟨rfl, hM, hC⟩
      go_wp2_with fail
      go_ret
      exact ⟨v, ret_int (by rw [HR.out]), by rw [HR.out]; exact hM, hC.mono dk.sub_p, Sub.refl _ _⟩
    · have hst1 : (dk.step s).1 = 0 := by rw [dk.step, if_neg hc]
      have hr : dk.flush s = (0, { (dk.step s).2 with S := dk.lay s.S s.L, L := [] }) := by rw [dk.flush, if_neg (by simp [hb]), if_pos hst1]
      rw [hst1] at hs
      have HS := Lib.hid hs
      have HR := Lib.hid hr
      have hSS := dk.step_S s
      have hLL := dk.step_L s
      generalize (dk.step s).2 = s1 at *
      rw [← hSS, ← hLL] at HR
      clear hr hs hst1 hc hSS hLL
      go_enter Try.func28, Try.ntmps28
      go_wp2_with fail
      refine HS.out.mono ?_
      rintro e w2 ⟨rfl, hM0, hC0⟩
      go_wp2_with fail
      go_loopw [4] (fun t wr => ∃ j : Nat, j ≤ s1.L.length ∧ t = .int .i64 j ∧ RM wr p g c r v { s1 with S := dk.lay s1.S (s1.L.take j) } ∧ Chg w wr (dk.fp p g v)) (fun t _ => s1.L.length - (intOf t).toNat)
      case atStart => exact ⟨0, by omega, rfl, hM0, hC0.mono dk.sub_p⟩
      case round =>
        have hlen := hM0.ok.lenL
        have hin := hM0.ok.inL
        clear hM0 hC0 h c3 HS
        obtain ⟨j, hj, rfl, hM, hC⟩ := hrel
        have d1 := hM.c1
        by_cases hlt : j < s1.L.length
        · obtain ⟨k, cap, hv, hcap, hmax, dN, dB⟩ := hM.put_ hlt
          have d0 := hM.c0
          have hbl := hlen _ (List.getElem_mem hlt)
          obtain ⟨hi0, hi1⟩ := hin _ (List.getElem_mem hlt)
          have hst : dk.lay s1.S (s1.L.take (j + 1)) = (dk.lay s1.S (s1.L.take j)).set s1.L[j].1.toNat s1.L[j].2 := by
            rw [List.take_succ_eq_append_getElem hlt, dk.lay_snoc]
          simp only at dN dB d0 d1
          generalize s1.L[j] = x at *
          obtain ⟨xn, xb⟩ := x
          simp only at hst dN dB hbl hi0 hi1
          obtain ⟨i, rfl⟩ : ∃ i : Nat, xn = i := ⟨xn.toNat, by omega⟩
          rw [Int.toNat_natCast] at hst
          have HST := Lib.hid hst
          have hiS : i < (dk.lay s1.S (s1.L.take j)).length := by rw [dk.lay_length]; omega
          rw [hv] at d1
          have hrl := hM.rowLen hiS
          have hrow := hM.row
          simp only [dk.lay_length] at d0
          simp only at hrl hrow
          have hmost := hM.ok.most
          simp only [dk.lay_length] at hmost
          clear hst hlen hin
          go_wp2_with fail
          refine wp_region_still_tail 21 (by kernel_rfl) (by kernel_rfl) ?_
          simp only [List.take_succ_cons, List.take_zero, List.drop_succ_cons, List.drop_zero]
          iterate 19 still_step
          refine still_ld (.tmp 41) xb (show wr.drew.rangeAt k (j * 129 + 1) (dk.cells xb) from dB) hbl rfl rfl (by rfl) ?_
          simp only [Act.put, List.setIfInBounds_toArray, List.set_cons_zero, List.set_cons_succ]
          still_step
          refine wpStill_nil ?_
          refine wp_st (.tmp 43) (.tmp 42) xb (show wr.drew.heap[g]? = _ from hrow) hrl hbl rfl rfl rfl rfl ?_
          intro W hW hCW
          have hMW := hM.drew.stored hiS hbl hW hCW
          simp only at hMW
          clear dN dB d0 d1 hrow hrl hW
          go_wp2_with fail
          go_roundw
          case rel => exact ⟨j + 1, by omega, by go_num, by rw [HST.out]; exact hMW, (hC.trans (Chg.drew _ (dk.fp p g v)) (Sub.refl _ _)).trans hCW dk.sub_g⟩
          case measure => simp [intOf]; omega
        · obtain ⟨A, cap, hv, _, _⟩ := hM.own_len
          subst hv
          have f1 := hM.fz 1
          have hcl := hM.clear_
          simp only [List.take_of_length_le (show s1.L.length ≤ j from by omega)] at hcl
          go_wp2_with fail
          go_ret
          exact ⟨ret_int (by rw [HR.out]), _, by rw [HR.out]; exact hcl, hC.trans (Chg.setCell _ _ _ _) dk.sub_p, dk.sub_nil⟩

set_option maxHeartbeats 4000000 in
set_option maxRecDepth 100000 in
theorem rrot_any (n at_ : Int) (x : UInt8) (h : RM w p g c r v s) : Calls Try.prog 32 #[.pointer (some ⟨p, 0, none⟩), .int .i64 n, .int .i64 at_, bv x] w fun e w' =>
    e = .returned (.int .i64 (dk.rot s n at_ x).1) ∧ RM w' p g c r v (dk.rot s n at_ x).2 ∧ Chg w w' (dk.fp p g v) := by
  have c0 := h.c0
  have hm := h.ok.most
  by_cases hin : n < 0 ∨ (s.S.length : Int) ≤ n ∨ at_ < 0 ∨ 128 ≤ at_
  · have hr : dk.rot s n at_ x = (2, s) := if_pos hin
    have HR := Lib.hid hr
    clear hr
    have hcs : n < 0 ∨ (¬ n < 0 ∧ (s.S.length : Int) ≤ n) ∨ (¬ n < 0 ∧ ¬ (s.S.length : Int) ≤ n ∧ at_ < 0) ∨ (¬ n < 0 ∧ ¬ (s.S.length : Int) ≤ n ∧ ¬ at_ < 0 ∧ 128 ≤ at_) := by omega
    clear hin
    rcases hcs with h0 | ⟨h0, h1⟩ | ⟨h0, h1, h2⟩ | ⟨h0, h1, h2, h3⟩
    all_goals
      go_enter Try.func32, Try.ntmps32
      go_wp2_with fail
      go_ret
      exact ⟨ret_int (by rw [HR.out]), by rw [HR.out]; exact h, Chg.refl _ _⟩
  · obtain ⟨i, rfl⟩ : ∃ i : Nat, n = i := ⟨n.toNat, by omega⟩
    obtain ⟨k, rfl⟩ : ∃ k : Nat, at_ = k := ⟨at_.toNat, by omega⟩
    have hi : i < s.S.length := by omega
    have hk : k < 128 := by omega
    have hbl := h.ok.lenS _ (List.getElem_mem hi)
    have hr : dk.rot s i k x = (0, { s with S := s.S.set i (s.S[i].set k (s.S[i].getD k 0 ^^^ x)) }) := by
      rw [dk.rot, if_neg hin, Int.toNat_natCast, Int.toNat_natCast, List.getD_eq_getElem?_getD, List.getElem?_eq_getElem hi]
      rfl
    have HR := Lib.hid hr
    have hrange := h.block hi
    have hMB : ∀ y, RM (w.drew.setCell ⟨g, i * 128 + k, none⟩ (bv y)) p g c r v { s with S := s.S.set i (s.S[i].set k y) } := fun y => h.drew.byte hi hk
    generalize s.S[i] = b at *
    have hkb : k < b.length := by omega
    have hcell := hrange k (bv b[k]) (by rw [List.getElem?_map, List.getElem?_eq_getElem hkb]; rfl)
    have hfz : w.frozen? ⟨g, i * 128 + k, none⟩ = false := by simp [World.frozen?, h.row]
    have hCB : ∀ y, Chg w (w.drew.setCell ⟨g, i * 128 + k, none⟩ (bv y)) (dk.fp p g v) := fun y => (Chg.drew w (dk.fp p g v)).trans (Chg.setCell _ _ _ _) dk.sub_g
    have hget : b.getD k 0 = b[k] := by rw [List.getD_eq_getElem?_getD, List.getElem?_eq_getElem hkb]; rfl
    rw [hget] at HR
    generalize b[k] = y at *
    have hx := x.toNat_lt
    have hy := y.toNat_lt
    have h0 : ¬ (i : Int) < 0 := by omega
    have h1 : ¬ (s.S.length : Int) ≤ i := by omega
    have h2 : ¬ (k : Int) < 0 := by omega
    have h3 : ¬ (128 : Int) ≤ k := by omega
    clear hr hin hrange
    go_enter Try.func32, Try.ntmps32
    go_wp2_with fail
    go_still_tail 19, (by kernel_rfl)
    change wpList _ _ _ _ _ w.drew
    go_wp2_with fail
    go_ret
    rw [xor_bv]
    exact ⟨ret_int (by rw [HR.out]), by rw [HR.out]; exact hMB _, hCB _⟩
theorem torn_step (old now : dk.Blk) (ho : old.length = 128) (hn : now.length = 128) (j : Nat) (hj : j < 128) (x : UInt8) (hx : now[j]? = some x) : (dk.torn old now (j : Int)).set j x = dk.torn old now ((j + 1 : Nat) : Int) := by
  unfold dk.torn
  rw [Int.toNat_natCast, Int.toNat_natCast, List.set_append_right _ _ (by simp; omega), show j - (List.take j now).length = 0 from by simp; omega, List.drop_eq_getElem_cons (by omega), List.set_cons_zero, List.take_succ_eq_append_getElem (by omega)]
  have : now[j]'(by omega) = x := by
    rw [List.getElem?_eq_getElem (by omega)] at hx
    exact Option.some.inj hx
  rw [this]
  simp

set_option maxHeartbeats 4000000 in
set_option maxRecDepth 100000 in
theorem rtorn_any (old now : dk.Blk) (n : Int) (ho : old.length = 128) (hn : now.length = 128) : Calls Try.prog 46 #[dk.val old, dk.val now, .int .i64 n] w fun e w' => e = .returned (dk.val (dk.torn old now n)) ∧ Below w.heap.size w w' := by
  obtain ⟨hz, -⟩ := zero_of_info zero_blk
  obtain ⟨W0, hW0⟩ : ∃ W0, W0 = ((w.alloc (.cells (dk.cells old).toArray 33)).alloc (.cells (dk.cells now).toArray 33)).alloc (.cells (dk.cells dk.zero).toArray 33) := ⟨_, rfl⟩
  have r0 : RowB 33 W0 w.heap.size old := by
    rw [hW0]
    exact ((show RowB 33 (w.alloc (.cells (dk.cells old).toArray 33)) w.heap.size old from heap_alloc_new w _).alloc _).alloc _
  have r1 : RowB 33 W0 (w.heap.size + 1) now := by
    rw [hW0]
    have := (show RowB 33 ((w.alloc (.cells (dk.cells old).toArray 33)).alloc (.cells (dk.cells now).toArray 33)) (w.alloc (.cells (dk.cells old).toArray 33)).heap.size now from heap_alloc_new _ _).alloc (.cells (dk.cells dk.zero).toArray 33)
    simpa using this
  have r2 : RowB 33 W0 (w.heap.size + 2) dk.zero := by
    rw [hW0]
    have := heap_alloc_new ((w.alloc (.cells (dk.cells old).toArray 33)).alloc (.cells (dk.cells now).toArray 33)) (.cells (dk.cells dk.zero).toArray 33)
    simpa [RowB] using this
  have hb0 : Below w.heap.size w W0 := by
    rw [hW0]
    exact (((Below.refl _ _).alloc (Nat.le_refl _) _).alloc (by simp) _).alloc (by simp; omega) _
  have HW := Lib.hid hW0
  have hN0 : dk.torn old now ((0 : Nat) : Int) = old := by simp [dk.torn]
  clear hW0
  go_enter Try.func46, Try.ntmps46
  go_wp2_with fail
  rw [← HW.out]
  go_loopw [7] (fun t wr => ∃ j : Nat, t = .int .i64 j ∧ j ≤ 128 ∧ (j ≤ n.toNat) ∧ RowB 33 wr w.heap.size (dk.torn old now (j : Int)) ∧ RowB 33 wr (w.heap.size + 1) now ∧ RowB 33 wr (w.heap.size + 2) dk.zero ∧ Below w.heap.size w wr) (fun t _ => 128 - (intOf t).toNat)
  case atStart => exact ⟨0, rfl, by omega, by omega, by rw [hN0]; exact r0, r1, r2, hb0⟩
  case round =>
    clear r0 r1 r2 hb0 hN0
    obtain ⟨j, rfl, hj, hjn, r0, r1, r2, hb⟩ := hrel
    have htl := dk.torn_length (j : Int) ho hn
    by_cases hin : j < 128 ∧ (j : Int) < n
    · obtain ⟨h1, h2⟩ := hin
      have cN := r1.cell (i := j) (by omega)
      have cO := r0.cell (i := j) (by omega)
      have fO := r0.frozen j
      have hst := torn_step old now ho hn j h1 (now[j]'(by omega)) (List.getElem?_eq_getElem (by omega))
      generalize now[j]'(by omega) = x at *
      generalize (dk.torn old now (j : Int))[j]'(by omega) = y at *
      have HST := Lib.hid hst
      clear hst
      go_wp2
      go_roundw
      case rel =>
        refine ⟨j + 1, by go_num, by omega, by omega, ?_, r1.far (by simp) _, r2.far (by simp) _, hb.setCell (Nat.le_refl _) _⟩
        have := r0.set_ j x
        rw [HST.out] at this
        exact this
      case measure => simp [intOf]; omega
    · have hres : dk.torn old now (j : Int) = dk.torn old now n := by
        unfold dk.torn
        rw [Int.toNat_natCast]
        by_cases h128 : j = 128
        · subst h128
          rw [List.take_of_length_le (by omega), List.take_of_length_le (by omega), List.drop_of_length_le (by omega), List.drop_of_length_le (by omega)]
        · have : j = n.toNat := by omega
          rw [this]
      rw [hres] at r0 htl
      clear hres
      have hrg := blk_range r0
      have hcs : (j = 128) ∨ (j < 128 ∧ ¬ (j : Int) < n) := by omega
      rcases hcs with h1 | ⟨h1, h2⟩
      all_goals
        go_wp2_with (first | refine wp_ld (.tmp 3) _ hrg htl rfl rfl rfl ?_ | (refine wp_st0 (.tmp 6) (.tmp 22) _ r2 zero_len htl rfl rfl rfl rfl ?_; intro W2 hW2 hc2))
        refine bodyPost_ret (results_cell rfl rfl (blk_load (blk_range hW2) htl)) rfl ⟨rfl, (Chg.of_below hb [w.heap.size + 2]).trans hc2 (Sub.refl _ _) |>.below (Nat.le_refl _) (fun k hk => by simp at hk; omega)⟩
end Go.Proofs.Ytajdeoackpfhoaa
