/-
  contracts of bytes.Clone, cardexref00.Copy, Wide, Left, Spoil.
-/
import Derived.Test.YtjlkhemdahahpaaDoorCore
import Derived.StillTailTactics
import Derived.Deep.DeepCutAuto
namespace Go.Proofs.YtjlkhemdahahpaaDoor
open Go.RowKit



theorem wide_step (l : List UInt8) (n j : Nat) (hl : l.length = n) (hj : j < n + 3) (x : UInt8) (hx : (l ++ [7, 7, 7])[j]? = some x) :
    ((l ++ [7, 7, 7]).take j ++ List.replicate (n + 3 - j) 0).set j x = (l ++ [7, 7, 7]).take (j + 1) ++ List.replicate (n + 3 - (j + 1)) 0 := by
  have hj' : j < (l ++ [7, 7, 7]).length := by simp; omega
  rw [List.set_append_right _ _ (by simp; omega), show j - (List.take j (l ++ [7, 7, 7])).length = 0 from by simp; omega, show n + 3 - j = (n + 3 - (j + 1)) + 1 from by omega, List.replicate_succ, List.set_cons_zero,
    List.take_succ_eq_append_getElem hj']
  rw [List.getElem?_eq_getElem hj'] at hx
  rw [Option.some.inj hx]
  simp

theorem wide_any (A : Option Addr) (n c : Nat) (l : List UInt8) (w : World) (h : BS w A n c l) (hn : n ≤ 140737488355320) :
    Calls Tryd.prog 7 #[.slice A n c] w fun e w' => e = .returned (.slice (some ⟨w.heap.size, 0, none⟩) n (n + 3)) ∧ RowB 5 w' w.heap.size (l ++ [7, 7, 7]) ∧ Below w.heap.size w w' := by
  obtain ⟨i0, hi, hz0, hz1, hz2⟩ := info_parts info_u8
  have hl := h.len
  have hmk := fun W => run_make_bytes (P := Tryd.prog) 23 5 i0 Tryd.underlying23 hi hz0 hz1 hz2 .i64 .i64 (n + 3) (by omega) W
  simp only [show ((n + 3 : Nat) : Int) = (n : Int) + 3 from by omega] at hmk
  have HL := Lib.hid hl
  clear hl
  go_enter Tryd.func7, Tryd.ntmps7
  go_wp2_with fail
  go_loopw [4] (fun i wr => ∃ j : Nat, j ≤ n + 3 ∧ i = .int .i64 j ∧ RowB 5 wr w.heap.size ((l ++ [7, 7, 7]).take j ++ List.replicate (n + 3 - j) 0) ∧ Below w.heap.size w wr) (fun i _ => n + 3 - (intOf i).toNat)
  case atStart => exact ⟨0, by omega, rfl, by simpa using zeroB_row w 5 (n + 3), (Below.refl _ _).alloc (Nat.le_refl _) _⟩
  case round =>
    obtain ⟨j, hj, rfl, hr, hb⟩ := hrel
    by_cases hlt : j < n + 3
    · have hc := hr.cell (i := j) (by simp [HL.out]; omega)
      have hf := hr.frozen j
      by_cases hin : j < n
      · obtain ⟨b, o, rfl, hbl, hcell⟩ := h.has (by omega)
        have hx := (hb.cell (p := ⟨b, o + j, none⟩) hbl).trans (hcell j (by rw [HL.out]; exact hin))
        generalize hy : l[j]'(by rw [HL.out]; exact hin) = y at hx
        have hst := wide_step l n j HL.out hlt y (by rw [List.getElem?_append_left (by rw [HL.out]; exact hin), List.getElem?_eq_getElem (by rw [HL.out]; exact hin), hy])
        have HST := Lib.hid hst
        clear hy hcell hst
        have hne : w.heap.size ≠ b := by omega
        have hx2 := (World.cell?_setCell_other wr ⟨w.heap.size, j, none⟩ ⟨b, o + j, none⟩ (.int .u8 7) (fun e => hne (by injection e))).trans hx
        go_wp2
        go_roundw
        case rel =>
          refine ⟨j + 1, by omega, by go_num, ?_, (hb.setCell (Nat.le_refl _) _).setCell (Nat.le_refl _) _⟩
          have h1 := (hr.set_ j 7).set_ j y
          rw [List.set_set, HST.out] at h1
          exact h1
        case measure => simp [intOf]; omega
      · have hst := wide_step l n j HL.out hlt 7 (by
          have hj3 : j - n = 0 ∨ j - n = 1 ∨ j - n = 2 := by omega
          rw [List.getElem?_append_right (by rw [HL.out]; omega), HL.out]
          rcases hj3 with h | h | h <;> rw [h] <;> rfl)
        have HST := Lib.hid hst
        clear hst
        go_wp2
        go_roundw
        case rel =>
          refine ⟨j + 1, by omega, by go_num, ?_, hb.setCell (Nat.le_refl _) _⟩
          have h1 := hr.set_ j 7
          rw [HST.out] at h1
          exact h1
        case measure => simp [intOf]; omega
    · obtain rfl : j = n + 3 := by omega
      go_wp2
      go_ret
      refine ⟨rfl, ?_, hb⟩
      have : (l ++ [7, 7, 7]).take (n + 3) ++ List.replicate (n + 3 - (n + 3)) 0 = l ++ [7, 7, 7] := by
        rw [List.take_of_length_le (by simp [HL.out]), Nat.sub_self]
        simp
      rw [this] at hr
      exact hr

theorem left_any (A : Option Addr) (n c g : Nat) (l : List UInt8) (w : World) (hr : RowB 5 w g (l ++ [7, 7, 7])) (h : BS w A n c l) (hn : n ≤ 140737488355320) :
    Calls Tryd.prog 18 #[.slice (some ⟨g, 0, none⟩) n (n + 3), .slice A n c] w fun e w' => e = .returned (.bool true) ∧ w = w' := by
  have hl := h.len
  have hB : BS w (some ⟨g, 0, none⟩) n (n + 3) l := ⟨hl, by omega, by omega, h.small, fun _ => ⟨g, 0, rfl, hr.lt, fun i hi => by
    have := hr.cell (i := i) (by simp; omega)
    rw [Nat.zero_add, this, List.getElem_append_left hi]⟩⟩
  have hS : ∀ W, W = w → Calls Tryd.prog 24 #[.slice (some ⟨g, 0, none⟩) n (n + 3), .slice A n c] W fun e w' => e = .returned (.bool true) ∧ W = w' := by
    rintro W rfl
    exact (same_any _ _ _ _ _ _ _ _ _ hB h).mono fun e w' h => by simpa using h
  have c0 := hr.cell (i := n) (by simp; omega)
  have c1 := hr.cell (i := n + 1) (by simp; omega)
  have c2 := hr.cell (i := n + 2) (by simp; omega)
  have e0 : (l ++ [7, 7, 7])[n]'(by simp; omega) = 7 := by rw [List.getElem_append_right (by omega)]; simp [hl]
  have e1 : (l ++ [7, 7, 7])[n + 1]'(by simp; omega) = 7 := by rw [List.getElem_append_right (by omega)]; simp [hl]
  have e2 : (l ++ [7, 7, 7])[n + 2]'(by simp; omega) = 7 := by rw [List.getElem_append_right (by omega)]; simp [hl]
  rw [e0] at c0
  rw [e1] at c1
  rw [e2] at c2
  clear e0 e1 e2 hl
  go_enter Tryd.func18, Tryd.ntmps18
  go_wp2_with (go_at_call 24; refine (hS _ rfl).mono ?_; rintro e w' ⟨rfl, rfl⟩)
  go_ret
  exact ⟨rfl, rfl⟩


end Go.Proofs.YtjlkhemdahahpaaDoor
