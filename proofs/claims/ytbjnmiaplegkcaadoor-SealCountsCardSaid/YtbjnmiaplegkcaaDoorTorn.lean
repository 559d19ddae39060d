/-
  contract of cardexref04.Torn: the first bytes of a new block, the others of an old one.
-/
import Derived.Test.YtbjnmiaplegkcaaDoorDiskW
namespace Go.Proofs.YtbjnmiaplegkcaaDoor
open Go.RowKit
variable {w : World}

theorem torn_step (old now : dk.Blk) (ho : old.length = 128) (hn : now.length = 128) (j : Nat) (hj : j < 128) (x : UInt8) (hx : now[j]? = some x) : (dk.torn old now (j : Int)).set j x = dk.torn old now ((j + 1 : Nat) : Int) := by
  unfold dk.torn
  rw [Int.toNat_natCast, Int.toNat_natCast, List.set_append_right _ _ (by simp; omega), show j - (List.take j now).length = 0 from by simp; omega, List.drop_eq_getElem_cons (by omega), List.set_cons_zero, List.take_succ_eq_append_getElem (by omega)]
  have : now[j]'(by omega) = x := by
    rw [List.getElem?_eq_getElem (by omega)] at hx
    exact Option.some.inj hx
  rw [this]
  simp

set_option maxHeartbeats 4000000 in
set_option maxRecDepth 100000 in
theorem rtorn_any (old now : dk.Blk) (n : Int) (ho : old.length = 128) (hn : now.length = 128) : Calls Tryd.prog 20 #[dk.val old, dk.val now, .int .i64 n] w fun e w' => e = .returned (dk.val (dk.torn old now n)) ∧ Below w.heap.size w w' := by
  obtain ⟨hz, -⟩ := zero_of_info zero_blk
  obtain ⟨W0, hW0⟩ : ∃ W0, W0 = ((w.alloc (.cells (dk.cells old).toArray 25)).alloc (.cells (dk.cells now).toArray 25)).alloc (.cells (dk.cells dk.zero).toArray 25) := ⟨_, rfl⟩
  have r0 : RowB 25 W0 w.heap.size old := by
    rw [hW0]
    exact ((show RowB 25 (w.alloc (.cells (dk.cells old).toArray 25)) w.heap.size old from heap_alloc_new w _).alloc _).alloc _
  have r1 : RowB 25 W0 (w.heap.size + 1) now := by
    rw [hW0]
    have := (show RowB 25 ((w.alloc (.cells (dk.cells old).toArray 25)).alloc (.cells (dk.cells now).toArray 25)) (w.alloc (.cells (dk.cells old).toArray 25)).heap.size now from heap_alloc_new _ _).alloc (.cells (dk.cells dk.zero).toArray 25)
    simpa using this
  have r2 : RowB 25 W0 (w.heap.size + 2) dk.zero := by
    rw [hW0]
    have := heap_alloc_new ((w.alloc (.cells (dk.cells old).toArray 25)).alloc (.cells (dk.cells now).toArray 25)) (.cells (dk.cells dk.zero).toArray 25)
    simpa [RowB] using this
  have hb0 : Below w.heap.size w W0 := by
    rw [hW0]
    exact (((Below.refl _ _).alloc (Nat.le_refl _) _).alloc (by simp) _).alloc (by simp; omega) _
  have HW := Lib.hid hW0
  have hN0 : dk.torn old now ((0 : Nat) : Int) = old := by simp [dk.torn]
  clear hW0
  go_enter Tryd.func20, Tryd.ntmps20
  go_wp2_with fail
  rw [← HW.out]
  go_loopw [7] (fun t wr => ∃ j : Nat, t = .int .i64 j ∧ j ≤ 128 ∧ (j ≤ n.toNat) ∧ RowB 25 wr w.heap.size (dk.torn old now (j : Int)) ∧ RowB 25 wr (w.heap.size + 1) now ∧ RowB 25 wr (w.heap.size + 2) dk.zero ∧ Below w.heap.size w wr) (fun t _ => 128 - (intOf t).toNat)
  case atStart => exact ⟨0, rfl, by omega, by omega, by rw [hN0]; exact r0, r1, r2, hb0⟩
  case round =>
    clear r0 r1 r2 hb0 hN0
    obtain ⟨j, rfl, hj, hjn, r0, r1, r2, hb⟩ := hrel
    have htl := dk.torn_length (j : Int) ho hn
    by_cases hin : j < 128 ∧ (j : Int) < n
    · obtain ⟨h1, h2⟩ := hin
      have cN := r1.cell (i := j) (by omega)
      have cO := r0.cell (i := j) (by omega)
      have fO := r0.frozen j
      have hst := torn_step old now ho hn j h1 (now[j]'(by omega)) (List.getElem?_eq_getElem (by omega))
      generalize now[j]'(by omega) = x at *
      generalize (dk.torn old now (j : Int))[j]'(by omega) = y at *
      have HST := Lib.hid hst
      clear hst
      go_wp2
      go_roundw
      case rel =>
        refine ⟨j + 1, by go_num, by omega, by omega, ?_, r1.far (by simp) _, r2.far (by simp) _, hb.setCell (Nat.le_refl _) _⟩
        have := r0.set_ j x
        rw [HST.out] at this
        exact this
      case measure => simp [intOf]; omega
    · have hres : dk.torn old now (j : Int) = dk.torn old now n := by
        unfold dk.torn
        rw [Int.toNat_natCast]
        by_cases h128 : j = 128
        · subst h128
          rw [List.take_of_length_le (by omega), List.take_of_length_le (by omega), List.drop_of_length_le (by omega), List.drop_of_length_le (by omega)]
        · have : j = n.toNat := by omega
          rw [this]
      rw [hres] at r0 htl
      clear hres
      have hrg := blk_range r0
      have hcs : (j = 128) ∨ (j < 128 ∧ ¬ (j : Int) < n) := by omega
      rcases hcs with h1 | ⟨h1, h2⟩
      all_goals
        go_wp2_with (first | refine wp_ld (.tmp 3) _ hrg htl rfl rfl rfl ?_ | (refine wp_st0 (.tmp 6) (.tmp 22) _ r2 zero_len htl rfl rfl rfl rfl ?_; intro W2 hW2 hc2))
        refine bodyPost_ret (results_cell rfl rfl (blk_load (blk_range hW2) htl)) rfl ⟨rfl, (Chg.of_below hb [w.heap.size + 2]).trans hc2 (Sub.refl _ _) |>.below (Nat.le_refl _) (fun k hk => by simp at hk; omega)⟩
end Go.Proofs.YtbjnmiaplegkcaaDoor
