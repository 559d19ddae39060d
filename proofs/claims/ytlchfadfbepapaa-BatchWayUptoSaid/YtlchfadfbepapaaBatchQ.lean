/-
  THE PROGRAM's batch: how two keys compare, and the small functions of one change or two.
-/
import Derived.Test.YtlchfadfbepapaaBatchT
import Derived.Lib.Bytealg
import Derived.Deep.RegionHeldLaw
import Derived.Test.YtlchfadfbepapaaFoot
import Derived.Deep.WholeRow
import Derived.WalkMore
import Derived.Laws.Externs
import Derived.Laws.Rows
namespace Go.Proofs.Ytlchfadfbepapaa
open Go.RowKit
namespace bt
/-- how two keys compare -/
def cmp (a b : Key) : Int := Lib.compareBytes a b
theorem cmp_less : ∀ (a b : Key), cmp a b < 0 ↔ less a b = true
  | [], [] => by simp [cmp, Lib.compareBytes, less, Op.bytesLess]
  | [], _ :: _ => by simp [cmp, Lib.compareBytes, less, Op.bytesLess]
  | _ :: _, [] => by simp [cmp, Lib.compareBytes, less, Op.bytesLess]
  | x :: a, y :: b => by
    have ih := cmp_less a b
    unfold cmp less at ih ⊢
    simp only [Lib.compareBytes, Op.bytesLess, Bool.or_eq_true, decide_eq_true_eq, Bool.and_eq_true, beq_iff_eq]
    by_cases h1 : x < y
    · rw [if_pos h1]
      exact ⟨fun _ => .inl h1, fun _ => by decide⟩
    · rw [if_neg h1]
      by_cases h2 : y < x
      · rw [if_pos h2]
        refine ⟨fun h => absurd h (by decide), ?_⟩
        rintro (h | ⟨rfl, _⟩)
        · exact absurd h h1
        · exact absurd h2 h1
      · rw [if_neg h2, ih]
        have e : x = y := by
          rcases Classical.em (x = y) with e | e
          · exact e
          · rcases UInt8.lt_or_lt_of_ne e with h | h
            · exact absurd h h1
            · exact absurd h h2
        exact ⟨fun h => .inr ⟨e, h⟩, fun h => h.elim (fun h => absurd h h1) (fun h => h.2)⟩
theorem cmp_zero : ∀ (a b : Key), cmp a b = 0 ↔ a = b
  | [], [] => by simp [cmp, Lib.compareBytes]
  | [], _ :: _ => by simp [cmp, Lib.compareBytes]
  | _ :: _, [] => by simp [cmp, Lib.compareBytes]
  | x :: a, y :: b => by
    have ih := cmp_zero a b
    unfold cmp at ih ⊢
    simp only [Lib.compareBytes, List.cons.injEq]
    by_cases h1 : x < y
    · rw [if_pos h1]
      refine ⟨fun h => absurd h (by decide), fun h => ?_⟩
      rw [h.1] at h1
      exact absurd h1 (UInt8.lt_irrefl y)
    · rw [if_neg h1]
      by_cases h2 : y < x
      · rw [if_pos h2]
        refine ⟨fun h => absurd h (by decide), fun h => ?_⟩
        rw [h.1] at h2
        exact absurd h2 (UInt8.lt_irrefl y)
      · rw [if_neg h2, ih]
        have e : x = y := by
          rcases Classical.em (x = y) with e | e
          · exact e
          · rcases UInt8.lt_or_lt_of_ne e with h | h
            · exact absurd h h1
            · exact absurd h h2
        exact ⟨fun h => ⟨e, h⟩, fun h => h.2⟩
theorem cmp_is (a b : Key) : cmp a b = if less a b then -1 else if a = b then 0 else 1 := by
  induction a generalizing b with
  | nil => cases b <;> simp [cmp, Lib.compareBytes, less, Op.bytesLess]
  | cons x a ih =>
    cases b with
    | nil => simp [cmp, Lib.compareBytes, less, Op.bytesLess]
    | cons y b =>
      have ih := ih b
      unfold cmp less at ih ⊢
      simp only [Lib.compareBytes, Op.bytesLess, List.cons.injEq]
      by_cases h1 : x < y
      · simp [h1]
      · by_cases h2 : y < x
        · have hne : ¬ x = y := fun e => by rw [e] at h2; exact UInt8.lt_irrefl y h2
          simp [h1, h2, hne]
        · have e : x = y := by
            rcases Classical.em (x = y) with e | e
            · exact e
            · rcases UInt8.lt_or_lt_of_ne e with h | h
              · exact absurd h h1
              · exact absurd h h2
          simp [e, ih]
/-- may a change by itself not be? -/
def bad (x : C) : Bool := !(keyOk x.key && decide (x.val.length ≤ if x.gone then 0 else 1048576))
end bt
/-- a struct of three cells, newly made -/
theorem new3 (w : World) (a b c : Value) (t : TypeId) : ∃ W, w.alloc (.cells #[a, b, c] t) = W ∧ W.cell? ⟨w.heap.size, 0, none⟩ = some a ∧ W.cell? ⟨w.heap.size, 1, none⟩ = some b ∧ W.cell? ⟨w.heap.size, 2, none⟩ = some c ∧ Below w.heap.size w W ∧ W.heap.size = w.heap.size + 1 := by
  have h := heap_alloc_new w (.cells #[a, b, c] t)
  refine ⟨_, rfl, ?_, ?_, ?_, (Below.refl _ _).alloc (Nat.le_refl _) _, by simp⟩
  · rw [cell_of_row _ _ 0 _ _ _ h]; rfl
  · rw [cell_of_row _ _ 1 _ _ _ h]; rfl
  · rw [cell_of_row _ _ 2 _ _ _ h]; rfl
set_option maxRecDepth 100000 in
theorem cmpC_any (a b : List UInt8) (w : World) : Calls Try.prog 72 #[str a, str b] w fun e w' => e = .returned (.int .i64 (bt.cmp a b)) ∧ w = w' := by
  have hx := fun w => Lib.run_compareString (P := Try.prog) ⟨a.toArray⟩ ⟨b.toArray⟩ w
  rw [show Lib.compareBytes (⟨a.toArray⟩ : ByteArray).data.toList (⟨b.toArray⟩ : ByteArray).data.toList = bt.cmp a b from rfl] at hx
  go_enter Try.func72, Try.ntmps72
  go_wp2_with fail
  rw [run_callFunc_extern Try.func73 (by kernel_rfl) (by kernel_rfl) (by kernel_rfl) (e := Extern.BytealgCompare.compare) (by kernel_rfl), hx]
  simp only [Result.andThen]
  rw [Oper.upon_value]
  go_wp2_with fail
  go_ret
  exact ⟨rfl, rfl⟩
set_option maxRecDepth 100000 in
theorem cmpS_any (a b : List UInt8) (w : World) : Calls Try.prog 63 #[str a, str b] w fun e w' => e = .returned (.int .i64 (bt.cmp a b)) ∧ w = w' := by
  have HC := Lib.hid (cmpC_any a b w)
  go_enter Try.func63, Try.ntmps63
  go_wp2_with fail
  refine HC.out.mono ?_
  rintro e w1 ⟨rfl, rfl⟩
  go_wp2_with fail
  go_ret
  exact ⟨rfl, rfl⟩
set_option maxRecDepth 100000 in
theorem byKey_any (k1 k2 : List UInt8) (v1 g1 v2 g2 : Value) (w : World) : Calls Try.prog 42 #[.agg #[str k1, v1, g1], .agg #[str k2, v2, g2]] w fun e w' => e = .returned (.int .i64 (bt.cmp k1 k2)) ∧ Below w.heap.size w w' := by
  obtain ⟨W1, hW1, a1, a2, a3, b1, s1⟩ := new3 w (str k1) v1 g1 39
  obtain ⟨W2, hW2, c1, c2, c3, b2, s2⟩ := new3 W1 (str k2) v2 g2 39
  rw [s1] at c1 c2 c3
  have a1' := (b2.cell (p := ⟨w.heap.size, 0, none⟩) (by show w.heap.size < _; omega)).trans a1
  have hb := b1.trans (b2.mono b1.size)
  have HC := Lib.hid (cmpS_any k1 k2 W2)
  have HW1 := Lib.hid hW1
  have HW2 := Lib.hid hW2
  clear hW1 hW2 a1 a2 a3 c2 c3 b1 b2 s2
  go_enter Try.func42, Try.ntmps42
  go_wp2_with fail
  rw [HW1.out, HW2.out]
  refine HC.out.mono ?_
  rintro e w1 ⟨rfl, rfl⟩
  go_wp2_with fail
  go_ret
  exact ⟨rfl, hb⟩
set_option maxRecDepth 100000 in
theorem sameKey_any (k1 k2 : List UInt8) (v1 g1 v2 g2 : Value) (w : World) : Calls Try.prog 66 #[.agg #[str k1, v1, g1], .agg #[str k2, v2, g2]] w fun e w' => e = .returned (.bool (k1 == k2)) ∧ Below w.heap.size w w' := by
  have hb : Below w.heap.size w ((w.alloc (.cells #[str k1, v1, g1] 39)).alloc (.cells #[str k2, v2, g2] 39)) := ((Below.refl _ _).alloc (Nat.le_refl _) _).alloc (by simp) _
  obtain ⟨q, hq⟩ : ∃ q, (k1 == k2) = q := ⟨_, rfl⟩
  rw [hq]
  go_enter Try.func66, Try.ntmps66
  go_wp2_with fail
  go_ret
  exact ⟨rfl, hb⟩
set_option maxRecDepth 100000 in
theorem putq_any (k : List UInt8) (A : Option Addr) (n c : Nat) (w : World) : Calls Try.prog 54 #[str k, .slice A n c] w fun e w' => e = .returned (.agg #[str k, .slice A n c, .bool false]) ∧ Below w.heap.size w w' := by
  obtain ⟨hz, -⟩ := zero_of_info (show (Try.prog.info? 39).map (fun i => (i.zero, i.size)) = some (some (.agg #[str [], .slice none 0 0, .bool false]), 3) by kernel_rfl)
  go_enter Try.func54, Try.ntmps54
  go_wp2_with fail
  refine bodyPost_ret (results_cell_row rfl _ _ w.heap.size 39 #[str k, .slice A n c, .bool false] (0, 0) _ rfl (heap_alloc_new w _) Try.underlying39 rfl (by kernel_rfl)) rfl ?_
  exact ⟨rfl, (Below.refl _ _).alloc (Nat.le_refl _) _⟩
set_option maxRecDepth 100000 in
theorem mayNot_any (x : bt.C) (A : Option Addr) (c : Nat) (w : World) (hm : x.val.length ≤ 9223372036854775807) (hk : x.key.length ≤ 9223372036854775807) : Calls Try.prog 40 #[.agg #[str x.key, .slice A x.val.length c, .bool x.gone]] w fun e w' => e = .returned (.bool (bt.bad x)) ∧ Below w.heap.size w w' := by
  obtain ⟨k, vl, g⟩ := x
  simp only at hm hk ⊢
  have hs : (ByteArray.mk k.toArray).size = k.length := rfl
  have hbad : bt.bad ⟨k, vl, g⟩ = !(bt.keyOk k && decide (vl.length ≤ if g then 0 else 1048576)) := rfl
  obtain ⟨q, hq⟩ : ∃ q, bt.bad ⟨k, vl, g⟩ = q := ⟨_, rfl⟩
  obtain ⟨m, hm2⟩ : ∃ m, vl.length = m := ⟨_, rfl⟩
  rw [hq, hm2] at hbad
  rw [hm2] at hm
  rw [hq, hm2]
  unfold bt.keyOk at hbad
  obtain ⟨W1, hW1, a1, a2, a3, b1, s1⟩ := new3 w (str k) (.slice A m c) (.bool g) 39
  have HW1 := Lib.hid hW1
  clear hW1 hm2 hq
  by_cases h1 : k.length < 1
  · have i1 : (k.length : Int) < 1 := by omega
    rw [decide_eq_false (show ¬ 1 ≤ k.length by omega)] at hbad
    simp only [Bool.false_and, Bool.not_false] at hbad
    have HB := Lib.hid hbad
    clear hbad h1
    cases g with
    | true =>
      go_enter Try.func40, Try.ntmps40
      go_wp2_with fail
      rw [HW1.out]
      go_wp2_with fail
      go_ret
      exact ⟨ret_bool (by first | exact HB.out.symm | (rw [HB.out]; simp; omega)), b1⟩
    | false =>
      go_enter Try.func40, Try.ntmps40
      go_wp2_with fail
      rw [HW1.out]
      go_wp2_with fail
      go_ret
      exact ⟨ret_bool (by first | exact HB.out.symm | (rw [HB.out]; simp; omega)), b1⟩
  · have i1 : ¬ (k.length : Int) < 1 := by omega
    rw [decide_eq_true (show 1 ≤ k.length by omega)] at hbad
    by_cases h2 : k.length ≤ 16
    · have i2 : ¬ (16 : Int) < (k.length : Int) := by omega
      rw [decide_eq_true h2] at hbad
      simp only [Bool.true_and] at hbad
      cases g with
      | true =>
        by_cases h3 : m ≤ 0
        · have i3 : ¬ (0 : Int) < (m : Int) := by omega
          rw [decide_eq_true (show m ≤ if true = true then 0 else 1048576 from h3)] at hbad
          have HB := Lib.hid hbad
          clear hbad h1 h2 h3
          go_enter Try.func40, Try.ntmps40
          go_wp2_with fail
          rw [HW1.out]
          go_wp2_with fail
          go_ret
          exact ⟨ret_bool (by first | exact HB.out.symm | (rw [HB.out]; simp; omega)), b1⟩
        · have i3 : (0 : Int) < (m : Int) := by omega
          rw [decide_eq_false (show ¬ m ≤ if true = true then 0 else 1048576 from h3)] at hbad
          have HB := Lib.hid hbad
          clear hbad h1 h2 h3
          go_enter Try.func40, Try.ntmps40
          go_wp2_with fail
          rw [HW1.out]
          go_wp2_with fail
          go_ret
          exact ⟨ret_bool (by first | exact HB.out.symm | (rw [HB.out]; simp; omega)), b1⟩
      | false =>
        by_cases h3 : m ≤ 1048576
        · have i3 : ¬ (1048576 : Int) < (m : Int) := by omega
          rw [decide_eq_true (show m ≤ if false = true then 0 else 1048576 from h3)] at hbad
          have HB := Lib.hid hbad
          clear hbad h1 h2 h3
          go_enter Try.func40, Try.ntmps40
          go_wp2_with fail
          rw [HW1.out]
          go_wp2_with fail
          go_ret
          exact ⟨ret_bool (by first | exact HB.out.symm | (rw [HB.out]; simp; omega)), b1⟩
        · have i3 : (1048576 : Int) < (m : Int) := by omega
          rw [decide_eq_false (show ¬ m ≤ if false = true then 0 else 1048576 from h3)] at hbad
          have HB := Lib.hid hbad
          clear hbad h1 h2 h3
          go_enter Try.func40, Try.ntmps40
          go_wp2_with fail
          rw [HW1.out]
          go_wp2_with fail
          go_ret
          exact ⟨ret_bool (by first | exact HB.out.symm | (rw [HB.out]; simp; omega)), b1⟩
    · have i2 : (16 : Int) < (k.length : Int) := by omega
      rw [decide_eq_false h2] at hbad
      simp only [Bool.and_false, Bool.false_and, Bool.not_false] at hbad
      have HB := Lib.hid hbad
      clear hbad h1 h2
      cases g with
      | true =>
        go_enter Try.func40, Try.ntmps40
        go_wp2_with fail
        rw [HW1.out]
        go_wp2_with fail
        go_ret
        exact ⟨ret_bool (by first | exact HB.out.symm | (rw [HB.out]; simp; omega)), b1⟩
      | false =>
        go_enter Try.func40, Try.ntmps40
        go_wp2_with fail
        rw [HW1.out]
        go_wp2_with fail
        go_ret
        exact ⟨ret_bool (by first | exact HB.out.symm | (rw [HB.out]; simp; omega)), b1⟩
end Go.Proofs.Ytlchfadfbepapaa
