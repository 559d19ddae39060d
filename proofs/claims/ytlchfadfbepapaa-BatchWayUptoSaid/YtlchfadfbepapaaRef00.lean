/-
  contracts of bytes.Clone, cardexref00.Copy, Wide, Left, Spoil.
-/
import Derived.Test.YtlchfadfbepapaaCore
import Derived.StillTailTactics
import Derived.Deep.DeepCutAuto
namespace Go.Proofs.Ytlchfadfbepapaa
open Go.RowKit

theorem clone_any (A : Option Addr) (n c : Nat) (l : List UInt8) (w : World) (h : BS w A n c l) (hn : n ≤ 140737488355320) :
    Calls Try.prog 49 #[.slice A n c] w (OwnEnd 5 l w) := by
  obtain ⟨i0, hi, hz0, hz1, hz2⟩ := info_parts info_u8
  have k1 := fun W => Lib.run_eql_slice_nil (P := Try.prog) W 24 5 A n c 0 0 Try.underlying24
  cases A with
  | none =>
    obtain ⟨rfl, rfl⟩ := bs_none h
    go_enter Try.func49, Try.ntmps49
    go_wp2_with fail
    go_ret
    exact ⟨_, rfl, OwnB.nil_ _ _ _, Below.refl _ _⟩
  | some a =>
    go_enter Try.func49, Try.ntmps49
    go_wp2_with (at_builtin; refine wpList_append_bytes _ rfl (.tmp 5) (.tmp 6) 24 rfl 5 i0 Try.underlying24 hi hz0 hz1 hz2 w.heap.size _ _ rfl (own_empty w _) (some a) n c l rfl (h.alloc _) (by simp; omega) (by simp) ?_; intro v1 w1 ho1 hg1 _ _)
    go_ret
    exact ⟨_, rfl, ho1, OwnB.step ((Below.refl _ _).alloc (Nat.le_refl _) _) (own_empty w _) hg1 (by simp)⟩

theorem copy_any (A : Option Addr) (n c : Nat) (l : List UInt8) (w : World) (h : BS w A n c l) (hn : n ≤ 140737488355320) :
    Calls Try.prog 52 #[.slice A n c] w (OwnEnd 5 l w) := by
  obtain ⟨i0, hi, hz0, hz1, hz2⟩ := info_parts info_u8
  go_enter Try.func52, Try.ntmps52
  go_wp2_with (at_builtin; refine wpList_append_bytes _ rfl (.tmp 4) (.tmp 5) 24 rfl 5 i0 Try.underlying24 hi hz0 hz1 hz2 w.heap.size _ _ rfl (OwnB.nil_ _ _ _) A n c l rfl h (by simp; omega) (Nat.le_refl _) ?_; intro v1 w1 ho1 hg1 _ _)
  go_ret
  exact ⟨_, rfl, ho1, OwnB.step (Below.refl _ _) (OwnB.nil_ 5 _ w.heap.size) hg1 (Nat.le_refl _)⟩

theorem wide_step (l : List UInt8) (n j : Nat) (hl : l.length = n) (hj : j < n + 3) (x : UInt8) (hx : (l ++ [7, 7, 7])[j]? = some x) :
    ((l ++ [7, 7, 7]).take j ++ List.replicate (n + 3 - j) 0).set j x = (l ++ [7, 7, 7]).take (j + 1) ++ List.replicate (n + 3 - (j + 1)) 0 := by
  have hj' : j < (l ++ [7, 7, 7]).length := by simp; omega
  rw [List.set_append_right _ _ (by simp; omega), show j - (List.take j (l ++ [7, 7, 7])).length = 0 from by simp; omega, show n + 3 - j = (n + 3 - (j + 1)) + 1 from by omega, List.replicate_succ, List.set_cons_zero,
    List.take_succ_eq_append_getElem hj']
  rw [List.getElem?_eq_getElem hj'] at hx
  rw [Option.some.inj hx]
  simp

theorem wide_any (A : Option Addr) (n c : Nat) (l : List UInt8) (w : World) (h : BS w A n c l) (hn : n ≤ 140737488355320) :
    Calls Try.prog 16 #[.slice A n c] w fun e w' => e = .returned (.slice (some ⟨w.heap.size, 0, none⟩) n (n + 3)) ∧ RowB 5 w' w.heap.size (l ++ [7, 7, 7]) ∧ Below w.heap.size w w' := by
  obtain ⟨i0, hi, hz0, hz1, hz2⟩ := info_parts info_u8
  have hl := h.len
  have hmk := fun W => run_make_bytes (P := Try.prog) 24 5 i0 Try.underlying24 hi hz0 hz1 hz2 .i64 .i64 (n + 3) (by omega) W
  simp only [show ((n + 3 : Nat) : Int) = (n : Int) + 3 from by omega] at hmk
  have HL := Lib.hid hl
  clear hl
  go_enter Try.func16, Try.ntmps16
  go_wp2_with fail
  go_loopw [4] (fun i wr => ∃ j : Nat, j ≤ n + 3 ∧ i = .int .i64 j ∧ RowB 5 wr w.heap.size ((l ++ [7, 7, 7]).take j ++ List.replicate (n + 3 - j) 0) ∧ Below w.heap.size w wr) (fun i _ => n + 3 - (intOf i).toNat)
  case atStart => exact ⟨0, by omega, rfl, by simpa using zeroB_row w 5 (n + 3), (Below.refl _ _).alloc (Nat.le_refl _) _⟩
  case round =>
    obtain ⟨j, hj, rfl, hr, hb⟩ := hrel
    by_cases hlt : j < n + 3
    · have hc := hr.cell (i := j) (by simp [HL.out]; omega)
      have hf := hr.frozen j
      by_cases hin : j < n
      · obtain ⟨b, o, rfl, hbl, hcell⟩ := h.has (by omega)
        have hx := (hb.cell (p := ⟨b, o + j, none⟩) hbl).trans (hcell j (by rw [HL.out]; exact hin))
        generalize hy : l[j]'(by rw [HL.out]; exact hin) = y at hx
        have hst := wide_step l n j HL.out hlt y (by rw [List.getElem?_append_left (by rw [HL.out]; exact hin), List.getElem?_eq_getElem (by rw [HL.out]; exact hin), hy])
        have HST := Lib.hid hst
        clear hy hcell hst
        have hne : w.heap.size ≠ b := by omega
        have hx2 := (World.cell?_setCell_other wr ⟨w.heap.size, j, none⟩ ⟨b, o + j, none⟩ (.int .u8 7) (fun e => hne (by injection e))).trans hx
        go_wp2
        go_roundw
        case rel =>
          refine ⟨j + 1, by omega, by go_num, ?_, (hb.setCell (Nat.le_refl _) _).setCell (Nat.le_refl _) _⟩
          have h1 := (hr.set_ j 7).set_ j y
          rw [List.set_set, HST.out] at h1
          exact h1
        case measure => simp [intOf]; omega
      · have hst := wide_step l n j HL.out hlt 7 (by
          have hj3 : j - n = 0 ∨ j - n = 1 ∨ j - n = 2 := by omega
          rw [List.getElem?_append_right (by rw [HL.out]; omega), HL.out]
          rcases hj3 with h | h | h <;> rw [h] <;> rfl)
        have HST := Lib.hid hst
        clear hst
        go_wp2
        go_roundw
        case rel =>
          refine ⟨j + 1, by omega, by go_num, ?_, hb.setCell (Nat.le_refl _) _⟩
          have h1 := hr.set_ j 7
          rw [HST.out] at h1
          exact h1
        case measure => simp [intOf]; omega
    · obtain rfl : j = n + 3 := by omega
      go_wp2
      go_ret
      refine ⟨rfl, ?_, hb⟩
      have : (l ++ [7, 7, 7]).take (n + 3) ++ List.replicate (n + 3 - (n + 3)) 0 = l ++ [7, 7, 7] := by
        rw [List.take_of_length_le (by simp [HL.out]), Nat.sub_self]
        simp
      rw [this] at hr
      exact hr

theorem left_any (A : Option Addr) (n c g : Nat) (l : List UInt8) (w : World) (hr : RowB 5 w g (l ++ [7, 7, 7])) (h : BS w A n c l) (hn : n ≤ 140737488355320) :
    Calls Try.prog 21 #[.slice (some ⟨g, 0, none⟩) n (n + 3), .slice A n c] w fun e w' => e = .returned (.bool true) ∧ w = w' := by
  have hl := h.len
  have hB : BS w (some ⟨g, 0, none⟩) n (n + 3) l := ⟨hl, by omega, by omega, h.small, fun _ => ⟨g, 0, rfl, hr.lt, fun i hi => by
    have := hr.cell (i := i) (by simp; omega)
    rw [Nat.zero_add, this, List.getElem_append_left hi]⟩⟩
  have hS : ∀ W, W = w → Calls Try.prog 14 #[.slice (some ⟨g, 0, none⟩) n (n + 3), .slice A n c] W fun e w' => e = .returned (.bool true) ∧ W = w' := by
    rintro W rfl
    exact (same_any _ _ _ _ _ _ _ _ _ hB h).mono fun e w' h => by simpa using h
  have c0 := hr.cell (i := n) (by simp; omega)
  have c1 := hr.cell (i := n + 1) (by simp; omega)
  have c2 := hr.cell (i := n + 2) (by simp; omega)
  have e0 : (l ++ [7, 7, 7])[n]'(by simp; omega) = 7 := by rw [List.getElem_append_right (by omega)]; simp [hl]
  have e1 : (l ++ [7, 7, 7])[n + 1]'(by simp; omega) = 7 := by rw [List.getElem_append_right (by omega)]; simp [hl]
  have e2 : (l ++ [7, 7, 7])[n + 2]'(by simp; omega) = 7 := by rw [List.getElem_append_right (by omega)]; simp [hl]
  rw [e0] at c0
  rw [e1] at c1
  rw [e2] at c2
  clear e0 e1 e2 hl
  go_enter Try.func21, Try.ntmps21
  go_wp2_with (go_at_call 14; refine (hS _ rfl).mono ?_; rintro e w' ⟨rfl, rfl⟩)
  go_ret
  exact ⟨rfl, rfl⟩

theorem spoil_any (A : Option Addr) (n c base : Nat) (l : List UInt8) (x : UInt8) (w : World) (h : OwnB 5 w base (.slice A n c) l) :
    Calls Try.prog 20 #[.slice A n c, .int .u8 (x.toNat : Int)] w fun e w' => e = .returned (.tuple #[]) ∧ w.grownBy w' (Value.slice A n c).ownBlock := by
  have hx := x.toNat_lt
  rcases h with ⟨he, rfl⟩ | ⟨g, r, he, hb, hr, hm, hs⟩
  · injection he with h1 h2 h3
    subst h1 h2 h3
    go_enter Try.func20, Try.ntmps20
    go_wp2_with fail
    go_loop [5] (fun i => i = .int .i64 0) (fun _ => 0)
    case atStart => rfl
    case round =>
      subst hrel
      go_wp2
      go_end0
      exact ⟨rfl, World.grownBy.refl _ _⟩
  · injection he with h1 h2 h3
    subst h1 h2 h3
    obtain ⟨m, hm'⟩ : ∃ m, m = l.length + r.length := ⟨_, rfl⟩
    rw [← hm'] at hm ⊢
    have hr : RowB 5 w g (l ++ r) := hr
    have hll : (l ++ r).length = m := by simp [hm']
    have HM := Lib.hid hll
    have HM' := Lib.hid hm'
    clear hll
    go_enter Try.func20, Try.ntmps20
    go_wp2_with fail
    go_loopw [5] (fun i wr => ∃ (j : Nat) (s : List UInt8), j ≤ m ∧ s.length = m ∧ i = .int .i64 j ∧ RowB 5 wr g s ∧ w.grownBy wr (some g)) (fun i _ => m - (intOf i).toNat)
    case atStart => exact ⟨0, l ++ r, by omega, HM.out, rfl, hr, World.grownBy.refl _ _⟩
    case round =>
      obtain ⟨j, s, hj, hs, rfl, hr, hg⟩ := hrel
      have HS := Lib.hid hs
      clear hs
      by_cases hlt : j < m
      · have hc := hr.cell (i := j) (by rw [HS.out]; exact hlt)
        generalize hy : s[j]'(by rw [HS.out]; exact hlt) = y at hc
        clear hy
        have hf := hr.frozen j
        have hyb := y.toNat_lt
        go_wp2
        go_roundw
        case rel =>
          refine ⟨j + 1, s.set j (y ^^^ x), by omega, by rw [List.length_set, HS.out], by go_num, ?_, grown_setCell hg _ _⟩
          have h1 := hr.set_ j (y ^^^ x)
          rw [← xor_bv] at h1
          exact h1
        case measure => simp [intOf]; omega
      · go_wp2
        go_end0
        exact ⟨rfl, hg⟩

end Go.Proofs.Ytlchfadfbepapaa
