/-
  contracts of the program's disk where there is none: nil, or one that New did not make.
-/
import Derived.Test.YtajdeoackpfhoaaDiskP
namespace Go.Proofs.Ytajdeoackpfhoaa
open Go.RowKit
variable {w : World} {d : Value}

/-- no disk: nil, or a struct of 0s -/
def ND (w : World) (d : Value) : Prop := d = .pointer none ∨ ∃ p, d = .pointer (some ⟨p, 0, none⟩) ∧ w.heap[p]? = some (.cells #[.slice none 0 0, .slice none 0 0, .int .i64 0, .bool false, .int .i64 0] 59 (0, 0))
theorem ND.below {w' : World} (h : ND w d) (hb : Below w.heap.size w w') : ND w' d :=
  h.imp id fun ⟨p, h1, h2⟩ => ⟨p, h1, (hb.block p (Array.getElem?_eq_some_iff.1 h2).1).trans h2⟩
theorem nd_none (h : ND w d) : Calls Try.prog 33 #[d] w fun e w' => e = .returned (.bool true) ∧ w = w' := by
  rcases h with rfl | ⟨p, rfl, hp⟩
  · go_enter Try.func33, Try.ntmps33
    go_wp2
    go_ret
    exact ⟨rfl, rfl⟩
  · have c0 : w.cell? ⟨p, 0, none⟩ = some (.slice none 0 0) := by rw [cell_of_row _ _ 0 _ _ _ hp]; rfl
    go_enter Try.func33, Try.ntmps33
    go_wp2
    go_ret
    exact ⟨rfl, rfl⟩
theorem nd_dark (h : ND w d) : Calls Try.prog 22 #[d] w fun e w' => e = .returned (.bool false) ∧ w = w' := by
  rcases h with rfl | ⟨p, rfl, hp⟩
  · go_enter Try.func22, Try.ntmps22
    go_wp2
    go_ret
    exact ⟨rfl, rfl⟩
  · have c0 : w.cell? ⟨p, 3, none⟩ = some (.bool false) := by rw [cell_of_row _ _ 3 _ _ _ hp]; rfl
    go_enter Try.func22, Try.ntmps22
    go_wp2
    go_ret
    exact ⟨rfl, rfl⟩
theorem nd_blocks (h : ND w d) : Calls Try.prog 25 #[d] w fun e w' => e = .returned (.int .i64 0) ∧ w = w' := by
  rcases h with rfl | ⟨p, rfl, hp⟩
  · go_enter Try.func25, Try.ntmps25
    go_wp2
    go_ret
    exact ⟨rfl, rfl⟩
  · have c0 : w.cell? ⟨p, 0, none⟩ = some (.slice none 0 0) := by rw [cell_of_row _ _ 0 _ _ _ hp]; rfl
    go_enter Try.func25, Try.ntmps25
    go_wp2
    go_ret
    exact ⟨rfl, rfl⟩
theorem nd_steps (h : ND w d) : Calls Try.prog 23 #[d] w fun e w' => e = .returned (.int .i64 0) ∧ w = w' := by
  rcases h with rfl | ⟨p, rfl, hp⟩
  · go_enter Try.func23, Try.ntmps23
    go_wp2
    go_ret
    exact ⟨rfl, rfl⟩
  · have c0 : w.cell? ⟨p, 4, none⟩ = some (.int .i64 0) := by rw [cell_of_row _ _ 4 _ _ _ hp]; rfl
    go_enter Try.func23, Try.ntmps23
    go_wp2
    go_ret
    exact ⟨rfl, rfl⟩
theorem nd_loose (h : ND w d) : Calls Try.prog 20 #[d] w fun e w' => e = .returned (.int .i64 0) ∧ w = w' := by
  rcases h with rfl | ⟨p, rfl, hp⟩
  · go_enter Try.func20, Try.ntmps20
    go_wp2
    go_ret
    exact ⟨rfl, rfl⟩
  · have c0 : w.cell? ⟨p, 1, none⟩ = some (.slice none 0 0) := by rw [cell_of_row _ _ 1 _ _ _ hp]; rfl
    go_enter Try.func20, Try.ntmps20
    go_wp2
    go_ret
    exact ⟨rfl, rfl⟩
theorem nd_has (n : Int) (h : ND w d) : Calls Try.prog 43 #[d, .int .i64 n] w fun e w' => e = .returned (.int .i64 1) ∧ w = w' := by
  have HN := Lib.hid (nd_none h)
  go_enter Try.func43, Try.ntmps43
  go_wp2_with fail
  refine HN.out.mono ?_
  rintro e w1 ⟨rfl, rfl⟩
  go_wp2_with fail
  go_ret
  exact ⟨rfl, rfl⟩
theorem nd_lit (h : ND w d) : Calls Try.prog 42 #[d] w fun e w' => e = .returned (.int .i64 1) ∧ w = w' := by
  have HN := Lib.hid (nd_none h)
  go_enter Try.func42, Try.ntmps42
  go_wp2_with fail
  refine HN.out.mono ?_
  rintro e w1 ⟨rfl, rfl⟩
  go_wp2_with fail
  go_ret
  exact ⟨rfl, rfl⟩
theorem nd_usable (n : Int) (h : ND w d) : Calls Try.prog 40 #[d, .int .i64 n] w fun e w' => e = .returned (.int .i64 1) ∧ w = w' := by
  have HN := Lib.hid (nd_lit h)
  go_enter Try.func40, Try.ntmps40
  go_wp2_with fail
  refine HN.out.mono ?_
  rintro e w1 ⟨rfl, rfl⟩
  go_wp2_with fail
  go_ret
  exact ⟨rfl, rfl⟩
set_option maxRecDepth 100000 in
theorem nd_read (n : Int) (h : ND w d) : Calls Try.prog 18 #[d, .int .i64 n] w fun e w' => e = .returned (.tuple #[dk.val dk.zero, .int .i64 1]) ∧ Below w.heap.size w w' := by
  obtain ⟨hz, -⟩ := zero_of_info zero_blk
  have hrow := heap_alloc_new w (.cells (dk.cells dk.zero).toArray 33)
  have HN := Lib.hid (nd_usable n (h.below ((Below.refl _ _).alloc (Nat.le_refl _) (.cells (dk.cells dk.zero).toArray 33))))
  go_enter Try.func18, Try.ntmps18
  go_wp2_with fail
  refine HN.out.mono ?_
  rintro e w1 ⟨rfl, rfl⟩
  go_wp2_with (refine wp_st0 (.tmp 4) (.tmp 13) dk.zero hrow zero_len zero_len rfl rfl rfl rfl ?_; intro W hW hc)
  exact bodyPost_ret (results_cell_tmp rfl rfl (blk_load (blk_range hW) zero_len)) rfl ⟨rfl, new_chg hc⟩
set_option maxRecDepth 100000 in
theorem nd_sure (n : Int) (h : ND w d) : Calls Try.prog 19 #[d, .int .i64 n] w fun e w' => e = .returned (.tuple #[dk.val dk.zero, .int .i64 1]) ∧ Below w.heap.size w w' := by
  obtain ⟨hz, -⟩ := zero_of_info zero_blk
  have hrow := heap_alloc_new w (.cells (dk.cells dk.zero).toArray 33)
  have HN := Lib.hid (nd_has n (h.below ((Below.refl _ _).alloc (Nat.le_refl _) (.cells (dk.cells dk.zero).toArray 33))))
  go_enter Try.func19, Try.ntmps19
  go_wp2_with fail
  refine HN.out.mono ?_
  rintro e w1 ⟨rfl, rfl⟩
  go_wp2_with (refine wp_st0 (.tmp 4) (.tmp 12) dk.zero hrow zero_len zero_len rfl rfl rfl rfl ?_; intro W hW hc)
  exact bodyPost_ret (results_cell_tmp rfl rfl (blk_load (blk_range hW) zero_len)) rfl ⟨rfl, new_chg hc⟩
theorem nd_write (n : Int) (b : dk.Blk) (h : ND w d) : Calls Try.prog 15 #[d, .int .i64 n, dk.val b] w fun e w' => e = .returned (.int .i64 1) ∧ Below w.heap.size w w' := by
  have hb1 := (Below.refl w.heap.size w).alloc (Nat.le_refl _) (.cells (dk.cells b).toArray 33)
  have HN := Lib.hid (nd_usable n (h.below hb1))
  go_enter Try.func15, Try.ntmps15
  go_wp2_with fail
  refine HN.out.mono ?_
  rintro e w1 ⟨rfl, rfl⟩
  go_wp2_with fail
  go_ret
  exact ⟨rfl, hb1⟩
theorem nd_flush (h : ND w d) : Calls Try.prog 17 #[d] w fun e w' => e = .returned (.int .i64 1) ∧ w = w' := by
  have HN := Lib.hid (nd_lit h)
  go_enter Try.func17, Try.ntmps17
  go_wp2_with fail
  refine HN.out.mono ?_
  rintro e w1 ⟨rfl, rfl⟩
  go_wp2_with fail
  go_ret
  exact ⟨rfl, rfl⟩
theorem nd_arm (n : Int) (h : ND w d) : Calls Try.prog 21 #[d, .int .i64 n] w fun e w' => e = .returned (.int .i64 1) ∧ w = w' := by
  have HN := Lib.hid (nd_lit h)
  go_enter Try.func21, Try.ntmps21
  go_wp2_with fail
  refine HN.out.mono ?_
  rintro e w1 ⟨rfl, rfl⟩
  go_wp2_with fail
  go_ret
  exact ⟨rfl, rfl⟩
theorem nd_crash (A : Option Addr) (n c : Nat) (h : ND w d) : Calls Try.prog 14 #[d, .slice A n c] w fun e w' => e = .returned (.int .i64 1) ∧ w = w' := by
  have HN := Lib.hid (nd_none h)
  go_enter Try.func14, Try.ntmps14
  go_wp2_with fail
  refine HN.out.mono ?_
  rintro e w1 ⟨rfl, rfl⟩
  go_wp2_with fail
  go_ret
  exact ⟨rfl, rfl⟩
theorem nd_rot (n at_ : Int) (x : UInt8) (h : ND w d) : Calls Try.prog 24 #[d, .int .i64 n, .int .i64 at_, bv x] w fun e w' => e = .returned (.int .i64 1) ∧ w = w' := by
  have HN := Lib.hid (nd_has n h)
  go_enter Try.func24, Try.ntmps24
  go_wp2_with fail
  refine HN.out.mono ?_
  rintro e w1 ⟨rfl, rfl⟩
  go_wp2_with fail
  go_ret
  exact ⟨rfl, rfl⟩
theorem nd_copy (h : ND w d) : Calls Try.prog 12 #[d] w fun e w' => e = .returned (.pointer none) ∧ w = w' := by
  have HN := Lib.hid (nd_none h)
  go_enter Try.func12, Try.ntmps12
  go_wp2_with fail
  refine HN.out.mono ?_
  rintro e w1 ⟨rfl, rfl⟩
  go_wp2_with fail
  go_ret
  exact ⟨rfl, rfl⟩
end Go.Proofs.Ytajdeoackpfhoaa
