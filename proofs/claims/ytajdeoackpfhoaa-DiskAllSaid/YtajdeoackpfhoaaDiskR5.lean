/-
  contract of cardexref04.New.
-/
import Derived.Test.YtajdeoackpfhoaaDiskR
namespace Go.Proofs.Ytajdeoackpfhoaa
open Go.RowKit
variable {w : World}

theorem cells_zero : dk.cells dk.zero = List.replicate 128 (bv 0) := by
  unfold dk.cells dk.zero
  rw [List.map_replicate]
theorem made_same (m k : Nat) (x : Value) (hm : 0 < m) : madeCells (List.replicate m x).toArray k = (List.replicate k x).toArray := by
  apply Array.ext_getElem?
  intro i
  by_cases hi : i < k
  · have hlt : i % m < m := Nat.mod_lt _ hm
    simp [madeCells, hi, hlt]
  · simp [madeCells, hi]
theorem made_blocks (n : Nat) : madeCells (dk.val dk.zero).cells (n * 128) = (dk.cellsS (List.replicate n dk.zero)).toArray := by
  have e : dk.cellsS (List.replicate n dk.zero) = List.replicate (n * 128) (bv 0) := by
    unfold dk.cellsS
    rw [List.map_replicate, cells_zero, List.flatten_replicate_replicate]
  rw [e]
  have hv : (dk.val dk.zero).cells = (List.replicate 128 (bv 0)).toArray := by rw [← cells_zero]; rfl
  rw [hv]
  exact made_same 128 _ _ (by omega)
def fresh (n : Nat) : dk.St := ⟨List.replicate n dk.zero, [], 0, false, 0⟩
theorem fresh_ok {n : Nat} (h : 64 ≤ n) (h2 : n ≤ 4096) : (fresh n).Ok :=
  ⟨fun b hb => by rw [(List.mem_replicate.1 hb).2]; exact zero_len, by simpa [fresh] using h, by simpa [fresh] using h2, fun x hx => by simp [fresh] at hx, fun x hx => by simp [fresh] at hx⟩

theorem info_blk3 : (Try.prog.info? 33).map (fun i => (i.zero, i.size, i.bytes)) = some (some (dk.val dk.zero), 128, 128) := by kernel_rfl
theorem info_parts4 {e : TypeId} {z : Value} {sz bt : Nat} (h : (Try.prog.info? e).map (fun i => (i.zero, i.size, i.bytes)) = some (some z, sz, bt)) : ∃ i, Try.prog.info? e = some i ∧ i.zero = some z ∧ i.size = sz ∧ i.bytes = bt := by
  cases hq : Try.prog.info? e with
  | none => simp [hq] at h
  | some i =>
    simp only [hq, Option.map_some, Option.some.injEq, Prod.mk.injEq] at h
    exact ⟨i, rfl, h.1, h.2.1, h.2.2⟩

set_option maxRecDepth 100000 in
theorem rnew_yes (n : Nat) (h : 64 ≤ n) (h2 : n ≤ 4096) : Calls Try.prog 9 #[.int .i64 n] w fun e w' => ∃ p g, e = .returned (.tuple #[.pointer (some ⟨p, 0, none⟩), .int .i64 0]) ∧
    RM w' p g n [] (.slice none 0 0) (fresh n) ∧ Chg w w' [] ∧ w.heap.size ≤ p ∧ w.heap.size ≤ g := by
  obtain ⟨i0, hi0, hz0, hs0, hb0⟩ := info_parts4 info_blk3
  have hmk := fun W => run_make (P := Try.prog) W 56 33 i0 _ Try.underlying56 hi0 hz0 .i64 .i64 (n : Int) (n : Int) (by omega) (by omega) (by rw [hb0]; omega) (by omega)
  rw [hs0, Int.toNat_natCast] at hmk
  simp only [made_blocks] at hmk
  obtain ⟨C, hC⟩ : ∃ C, (dk.cellsS (List.replicate n dk.zero)).toArray = C := ⟨_, rfl⟩
  rw [hC] at hmk
  have HC := Lib.hid hC
  clear hC
  go_enter Try.func9, Try.ntmps9
  go_wp2_with fail
  go_ret2
  have e0 := heap_alloc_new w (.cells C 33)
  have e1 := heap_alloc_new (w.alloc (.cells C 33)) (.cells #[.slice (some ⟨w.heap.size, 0, none⟩) n n, .slice none 0 0, .int .i64 0, .bool false, .int .i64 0] 64)
  rw [show (w.alloc (.cells C 33)).heap.size = w.heap.size + 1 from by simp] at e1
  refine ⟨w.heap.size + 1, w.heap.size, rfl, ⟨?_, ?_, ?_, by omega, World.ownsRow_nil _ _ _ _, fresh_ok h h2, by omega, by simp [Value.ownBlock], by simp [Value.ownBlock], by simp [fresh], by simp [fresh]⟩, (Chg.alloc w _ []).trans (Chg.alloc _ _ []) (Sub.refl _ _), by omega, Nat.le_refl _⟩
  · rw [e1]
    simp [fresh]
  · rw [Below.heap_alloc _ _ _ (by simp), e0, ← HC.out]
    simp [fresh]
  · simp [fresh]
theorem rnew_no (n : Int) (h : n < 64 ∨ 4096 < n) : Calls Try.prog 9 #[.int .i64 n] w fun e w' => e = .returned (.tuple #[.pointer none, .int .i64 2]) ∧ w = w' := by
  have hcs : n < 64 ∨ (¬ n < 64 ∧ 4096 < n) := by omega
  rcases hcs with h0 | ⟨h0, h1⟩
  all_goals
    go_enter Try.func9, Try.ntmps9
    go_wp2_with fail
    go_ret2
    exact ⟨rfl, rfl⟩
end Go.Proofs.Ytajdeoackpfhoaa
