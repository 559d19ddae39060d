/-
  THE LAWS' OWN EXAMPLES (cardexlaw01.lives): true.
-/
import Derived.Test.YteblbnelbdimbaaMarks
namespace Go.Proofs.Yteblbnelbdimbaa
open Go.RowKit

theorem same_true (A1 A2 : Option Addr) (n1 c1 n2 c2 : Nat) (l : List UInt8) (w : World) (h1 : BS w A1 n1 c1 l) (h2 : BS w A2 n2 c2 l) :
    Calls Try.prog 13 #[.slice A1 n1 c1, .slice A2 n2 c2] w fun e w' => e = .returned (.bool true) ∧ w = w' :=
  (same_any A1 A2 n1 c1 n2 c2 l l w h1 h2).mono fun _ _ h => by simpa using h
theorem same_false (A1 A2 : Option Addr) (n1 c1 n2 c2 : Nat) (l1 l2 : List UInt8) (w : World) (h1 : BS w A1 n1 c1 l1) (h2 : BS w A2 n2 c2 l2) (hne : l1 ≠ l2) :
    Calls Try.prog 13 #[.slice A1 n1 c1, .slice A2 n2 c2] w fun e w' => e = .returned (.bool false) ∧ w = w' :=
  (same_any A1 A2 n1 c1 n2 c2 l1 l2 w h1 h2).mono fun _ _ h => by simpa [hne] using h
/-- bytes in a new block -/
theorem BS.lit (w : World) (e : TypeId) (l : List UInt8) (cs : Array Value) (hcs : cs = (l.map bv).toArray) (n : Nat) (hn : n = l.length) (hs : n ≤ 281474976710656) : BS (w.alloc (.cells cs e)) (some ⟨w.heap.size, 0, none⟩) n n l := by
  subst hcs hn
  refine ⟨rfl, Nat.le_refl _, by omega, hs, fun _ => ⟨_, _, rfl, by simp, fun i hi => ?_⟩⟩
  rw [Nat.zero_add]
  rw [cell_of_row _ _ i (l.map bv).toArray e (0, 0) (heap_alloc_new w _)]
  simp [hi]

theorem same_lit (A : Option Addr) (n c : Nat) (l : List UInt8) (w : World) (cs : Array Value) (hcs : cs = (l.map bv).toArray) (h : BS w A n c l) :
    Calls Try.prog 13 #[.slice A n c, .slice (some ⟨w.heap.size, 0, none⟩) n n] (w.alloc (.cells cs 5)) fun e w' => e = .returned (.bool true) ∧ Below w.heap.size w w' :=
  (same_true _ _ _ _ _ _ l _ (h.alloc _) (BS.lit w _ l cs hcs n h.len.symm h.small)).mono fun _ _ h => ⟨h.1, h.2 ▸ (Below.refl _ _).alloc (Nat.le_refl _) _⟩
theorem put_258 (w : World) : Calls Try.prog 9 #[.int .u64 258, .int .i64 2] w fun e w' => ∃ A c, e = .returned (.tuple #[.slice A 2 c, .int .i64 0]) ∧ BS w' A 2 c [2, 1] ∧ Below w.heap.size w w' :=
  (put_any 258 2 w).mono fun e w' ⟨_, h, hb⟩ => by
    obtain ⟨v, he, ho⟩ := h (by decide)
    obtain ⟨A, c, rfl, hB⟩ := ho.form
    exact ⟨A, c, he, hB, hb⟩
theorem put_256 (w : World) : Calls Try.prog 9 #[.int .u64 256, .int .i64 1] w fun e w' => e = .returned (.tuple #[.slice none 0 0, .int .i64 2]) ∧ Below w.heap.size w w' :=
  (put_any 256 1 w).mono fun e w' ⟨h, _, hb⟩ => ⟨h (by decide), hb⟩
theorem getRow_1 (w : World) : Calls Try.prog 17 #[.slice (some ⟨w.heap.size, 0, none⟩) 6 6, .int .i64 0, .int .i64 5] (w.alloc (.cells #[.int .u8 1, .int .u8 0, .int .u8 0, .int .u8 0, .int .u8 9, .int .u8 8] 5)) fun e w' => ∃ A c, e = .returned (.tuple #[.slice A 1 c, .int .i64 5, .int .i64 0]) ∧ BS w' A 1 c [9] ∧ Below w.heap.size w w' :=
  (getRow_any _ 6 6 [1, 0, 0, 0, 9, 8] 0 5 _ (BS.lit w 5 [1, 0, 0, 0, 9, 8] _ rfl 6 rfl (by omega)) (by omega) (by omega)).mono fun e w' ⟨v, he, ho, hb⟩ => by
    have hr : getRowR [1, 0, 0, 0, 9, 8] 0 5 = ([9], 5, 0) := by decide
    rw [hr] at he ho
    obtain ⟨A, c, rfl, hB⟩ := ho.form
    exact ⟨A, c, he, hB, ((Below.refl _ _).alloc (Nat.le_refl _) _).trans (hb.mono (by simp))⟩
theorem getMark_1 (w : World) : Calls Try.prog 21 #[.slice (some ⟨w.heap.size, 0, none⟩) 2 2, .int .i64 0] (w.alloc (.cells #[.int .u8 129, .int .u8 0] 5)) fun e w' => e = .returned (.tuple #[.int .u32 128, .int .i64 2, .int .i64 0]) ∧ Below w.heap.size w w' :=
  (getMark_any _ 2 2 [129, 0] 0 _ (BS.lit w 5 [129, 0] _ rfl 2 rfl (by omega))).mono fun e w' h => by
    have hr : getMarkR [129, 0] 0 = (128, 2, 0) := by decide
    rw [hr] at h
    exact ⟨h.1, h.2 ▸ (Below.refl _ _).alloc (Nat.le_refl _) _⟩
theorem getMark_2 (w : World) : Calls Try.prog 21 #[.slice (some ⟨w.heap.size, 0, none⟩) 2 2, .int .i64 0] (w.alloc (.cells #[.int .u8 128, .int .u8 1] 5)) fun e w' => e = .returned (.tuple #[.int .u32 0, .int .i64 0, .int .i64 5]) ∧ Below w.heap.size w w' :=
  (getMark_any _ 2 2 [128, 1] 0 _ (BS.lit w 5 [128, 1] _ rfl 2 rfl (by omega))).mono fun e w' h => by
    have hr : getMarkR [128, 1] 0 = (0, 0, 5) := by decide
    rw [hr] at h
    exact ⟨h.1, h.2 ▸ (Below.refl _ _).alloc (Nat.le_refl _) _⟩
theorem mark_127 (w : World) : Calls Try.prog 23 #[.int .u32 127] w fun e w' => ∃ A c, e = .returned (.slice A 1 c) ∧ BS w' A 1 c [127] ∧ Below w.heap.size w w' :=
  (mark_any 127 w (by omega)).mono fun e w' ⟨v, he, ho, hb⟩ => by
    have hr : markBytes 127 = [127] := by decide
    rw [hr] at ho
    obtain ⟨A, c, rfl, hB⟩ := ho.form
    exact ⟨A, c, he, hB, hb⟩

set_option maxRecDepth 100000 in
theorem lives_any (w : World) : Calls Try.prog 15 #[] w fun e w' => e = .returned (.bool true) ∧ Below w.heap.size w w' := by
  go_enter Try.func15, Try.ntmps15
  go_wp2_with fail
  refine (put_258 _).mono ?_
  rintro e w1 ⟨A1, c1, rfl, hB1, hb1⟩
  go_wp2_with fail
  refine (put_256 _).mono ?_
  rintro e w2 ⟨rfl, hb2⟩
  have hb12 := hb1.trans (hb2.mono hb1.size)
  have hB1 := hB1.below hb2
  clear hb1 hb2
  go_wp2_with fail
  refine (getRow_1 _).mono ?_
  rintro e w3 ⟨A3, c3, rfl, hB3, hb3⟩
  have hb13 := hb12.trans (hb3.mono hb12.size)
  have hB1 := hB1.below hb3
  clear hb12 hb3
  go_wp2_with fail
  refine (getMark_1 _).mono ?_
  rintro e w4 ⟨rfl, hb4⟩
  have hb14 := hb13.trans (hb4.mono hb13.size)
  have hB1 := hB1.below hb4
  have hB3 := hB3.below hb4
  clear hb13 hb4
  go_wp2_with fail
  refine (getMark_2 _).mono ?_
  rintro e w5 ⟨rfl, hb5⟩
  have hb15 := hb14.trans (hb5.mono hb14.size)
  have hB1 := hB1.below hb5
  have hB3 := hB3.below hb5
  clear hb14 hb5
  go_wp2_with fail
  refine (same_lit _ _ _ [2, 1] _ _ rfl hB1).mono ?_
  rintro e w6 ⟨rfl, hb6⟩
  have hb16 := hb15.trans (hb6.mono hb15.size)
  have hB3 := hB3.below hb6
  clear hb15 hb6
  go_wp2_with fail
  refine (same_lit _ _ _ [9] _ _ rfl hB3).mono ?_
  rintro e w7 ⟨rfl, hb7⟩
  have hb17 := hb16.trans (hb7.mono hb16.size)
  clear hb16 hb7
  go_wp2_with fail
  refine (mark_127 _).mono ?_
  rintro e w8 ⟨A8, c8, rfl, hB8, hb8⟩
  have hb18 := hb17.trans (hb8.mono hb17.size)
  clear hb17 hb8
  go_wp2_with fail
  refine (same_lit _ _ _ [127] _ _ rfl hB8).mono ?_
  rintro e w9 ⟨rfl, hb9⟩
  have hb19 := hb18.trans (hb9.mono hb18.size)
  clear hb18 hb9
  go_wp2_with fail
  go_ret
  exact ⟨rfl, hb19⟩

end Go.Proofs.Yteblbnelbdimbaa
