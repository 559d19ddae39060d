/-
  THE PROGRAM's batch: which changes may be, which rows (MayChange, May).
-/
import Derived.Test.YtlchfadfbepapaaBatchU
import Derived.Test.YtlchfadfbepapaaBatchL2
namespace Go.Proofs.Ytlchfadfbepapaa
open Go.RowKit Go.Shelf
namespace bt
def sortedP (l : List C) : Prop := ∀ j (x y : C), l[j]? = some x → l[j + 1]? = some y → less y.key x.key = false
theorem bad_is (x : C) : bad x = false ↔ keyOk x.key = true ∧ x.val.length ≤ 1048576 ∧ (x.gone = false ∨ x.val = []) := by
  unfold bad
  obtain ⟨k, v, g⟩ := x
  cases g with
  | true =>
    simp only [Bool.not_eq_false', Bool.and_eq_true, decide_eq_true_eq, if_true]
    constructor
    · rintro ⟨h1, h2⟩
      have hv : v = [] := List.eq_nil_of_length_eq_zero (by omega)
      exact ⟨h1, by omega, .inr hv⟩
    · rintro ⟨h1, _, h2 | h2⟩
      · cases h2
      · exact ⟨h1, by rw [h2]; exact Nat.le_refl _⟩
  | false =>
    simp only [Bool.not_eq_false', Bool.and_eq_true, decide_eq_true_eq, Bool.false_eq_true, if_false]
    constructor
    · rintro ⟨h1, h2⟩
      exact ⟨h1, h2, .inl trivial⟩
    · rintro ⟨h1, h2, _⟩
      exact ⟨h1, h2⟩
theorem mayC_parts : ∀ (l : List C) (p : Option Key), mayCFrom p l = true ↔ ((∀ x ∈ l, bad x = false) ∧ sortedP l ∧ ¬ twiceP l ∧ ∀ x, l[0]? = some x → behind p x.key = true)
  | [], p => by
    refine ⟨fun _ => ⟨by simp, fun j x y h => by simp at h, ?_, fun x h => by simp at h⟩, fun _ => rfl⟩
    rintro ⟨j, x, y, h, _⟩
    simp at h
  | x :: l, p => by
    rw [mayCFrom_cons, mayC_parts l (some x.key)]
    have hb := bad_is x
    constructor
    · rintro ⟨h1, h2, h3, h4, h5, h6, h7, h8⟩
      refine ⟨fun y hy => ?_, ?_, ?_, fun y hy => ?_⟩
      · rcases List.mem_cons.1 hy with rfl | hy
        · exact hb.2 ⟨h1, h2, h4⟩
        · exact h5 y hy
      · intro j a b ha hb'
        cases j with
        | zero =>
          injection ha with ha
          have := h8 b (by simpa using hb')
          rw [← ha]
          exact less_asymm this
        | succ j => exact h6 j a b (by simpa using ha) (by simpa using hb')
      · rintro ⟨j, a, b, ha, hb', e⟩
        cases j with
        | zero =>
          injection ha with ha
          have := h8 b (by simpa using hb')
          have h9 : less x.key b.key = true := this
          rw [ha, e, less_irrefl] at h9
          cases h9
        | succ j => exact h7 ⟨j, a, b, by simpa using ha, by simpa using hb', e⟩
      · injection hy with hy
        rw [← hy]
        exact h3
    · rintro ⟨h1, h2, h3, h4⟩
      obtain ⟨b1, b2, b3⟩ := hb.1 (h1 x (List.mem_cons_self ..))
      refine ⟨b1, b2, h4 x rfl, b3, fun y hy => h1 y (List.mem_cons_of_mem _ hy), fun j a b ha hb' => h2 (j + 1) a b (by simpa using ha) (by simpa using hb'), ?_, fun y hy => ?_⟩
      · rintro ⟨j, a, b, ha, hb', e⟩
        exact h3 ⟨j + 1, a, b, by simpa using ha, by simpa using hb', e⟩
      · have n1 := h2 0 x y rfl (by simpa using hy)
        rcases less_total x.key y.key with h | h | h
        · exact h
        · exact absurd ⟨0, x, y, rfl, by simpa using hy, h⟩ h3
        · rw [n1] at h; cases h
theorem mayC_is (l : List C) : mayC l = true ↔ (l.any bad = false ∧ sortedP l ∧ ¬ twiceP l) := by
  unfold mayC
  rw [mayC_parts]
  constructor
  · rintro ⟨h1, h2, h3, _⟩
    exact ⟨List.any_eq_false.2 fun x hx => by rw [h1 x hx]; decide, h2, h3⟩
  · rintro ⟨h1, h2, h3⟩
    refine ⟨fun x hx => ?_, h2, h3, fun _ _ => rfl⟩
    have := List.any_eq_false.1 h1 x hx
    simpa using this
theorem may_laid : ∀ (t : List R) (p : Option Key), mayCFrom p (t.map laid) = mayFrom p t
  | [], _ => rfl
  | r :: t, p => by
    rw [List.map_cons, mayCFrom, mayFrom]
    show (keyOk r.key && decide (r.val.length ≤ 1048576) && behind p r.key && (!false || decide (r.val = [])) && mayCFrom (some r.key) (t.map laid)) = _
    rw [may_laid t, Bool.not_false, Bool.true_or, Bool.and_true]
end bt
set_option maxRecDepth 100000 in
theorem twice_any (A : Option Addr) (n c : Nat) (l : List bt.C) (w : World) (h : CS w A n c l) (hn : n ≤ 1099511627776) (q : Bool) (hq : q = true ↔ bt.twiceP l) :
    Calls Try.prog 43 #[.slice A n c] w fun e w' => e = .returned (.bool q) ∧ Below w.heap.size w w' := by
  have HC := Lib.hid (cloneC_any A n c l w h hn)
  have HQ := Lib.hid hq
  clear h hq
  go_enter Try.func43, Try.ntmps43
  go_wp2_with fail
  refine HC.out.mono ?_
  rintro e w1 ⟨⟨A1, c1, rfl, h1, hA1⟩, hb1⟩
  have HK := Lib.hid (compact_any A1 n c1 l w1 w.heap.size h1 hA1)
  clear HC h1 hA1
  go_wp2_with fail
  refine HK.out.mono ?_
  rintro e w2 ⟨A2, k, c2, rfl, hk, hiff, hb2⟩
  have hb := hb1.trans hb2
  have hd : decide ((k : Int) < (n : Int)) = q := by
    rw [Bool.eq_iff_iff, decide_eq_true_iff, HQ.out, ← hiff]
    omega
  have HD := Lib.hid hd
  clear HK hiff hd
  go_wp2_with fail
  go_ret
  refine ⟨ret_bool ?_, hb⟩
  rw [← HD.out]
  try simp
set_option maxHeartbeats 1000000 in
set_option maxRecDepth 100000 in
theorem mayq_any (A : Option Addr) (n c : Nat) (l : List bt.C) (w : World) (h : CS w A n c l) (hk : ∀ r ∈ l, r.key.length ≤ 9223372036854775807) (hn : n ≤ 1099511627776) :
    Calls Try.prog 12 #[.slice A n c] w fun e w' => e = .returned (.bool (bt.mayC l)) ∧ Below w.heap.size w w' := by
  have hm := bt.mayC_is l
  have HB := Lib.hid (badAny_any A n c l w h hk)
  have HS := Lib.hid (fun W (g : CS W A n c l) => sorted_any A n c l W g)
  have HT := Lib.hid (fun W (g : CS W A n c l) => twice_any A n c l W g hn)
  have H := Lib.hid h
  obtain ⟨M, hM⟩ : ∃ M, bt.mayC l = M := ⟨_, rfl⟩
  obtain ⟨q1, hq1⟩ : ∃ q, l.any bt.bad = q := ⟨_, rfl⟩
  rw [hM, hq1] at hm
  rw [hq1] at HB
  rw [hM]
  clear h hk hq1 hM
  obtain ⟨q2, hq2⟩ : ∃ q : Bool, q = true ↔ bt.sortedP l := by
    by_cases h : bt.sortedP l
    · exact ⟨true, by simp [h]⟩
    · exact ⟨false, by simp [h]⟩
  obtain ⟨q3, hq3⟩ : ∃ q : Bool, q = true ↔ bt.twiceP l := by
    by_cases h : bt.twiceP l
    · exact ⟨true, by simp [h]⟩
    · exact ⟨false, by simp [h]⟩
  have HS2 := Lib.hid (fun W (g : CS W A n c l) => HS.out W g q2 hq2)
  have HT2 := Lib.hid (fun W (g : CS W A n c l) => HT.out W g q3 hq3)
  have hm2 : M = (!q1 && (q2 && !q3)) := by
    rw [Bool.eq_iff_iff, hm]
    simp only [Bool.and_eq_true, Bool.not_eq_true', hq2]
    rw [← hq3]
    simp
  have HM := Lib.hid hm2
  clear hm hm2 hq2 hq3 HS HT
  cases q1 with
  | true =>
    go_enter Try.func12, Try.ntmps12
    go_wp2_with fail
    refine HB.out.mono ?_
    rintro e w1 ⟨rfl, hb1⟩
    go_wp2_with fail
    go_ret
    exact ⟨ret_bool HM.out.symm, hb1⟩
  | false =>
    cases q2 with
    | false =>
      go_enter Try.func12, Try.ntmps12
      go_wp2_with fail
      refine HB.out.mono ?_
      rintro e w1 ⟨rfl, hb1⟩
      go_wp2_with fail
      refine (HS2.out _ (H.out.below hb1)).mono ?_
      rintro e w2 ⟨rfl, hb2⟩
      have hb := hb1.trans (hb2.mono hb1.size)
      go_wp2_with fail
      go_ret
      exact ⟨ret_bool HM.out.symm, hb⟩
    | true =>
      go_enter Try.func12, Try.ntmps12
      go_wp2_with fail
      refine HB.out.mono ?_
      rintro e w1 ⟨rfl, hb1⟩
      go_wp2_with fail
      refine (HS2.out _ (H.out.below hb1)).mono ?_
      rintro e w2 ⟨rfl, hb2⟩
      have hb := hb1.trans (hb2.mono hb1.size)
      go_wp2_with fail
      refine (HT2.out _ (H.out.below hb)).mono ?_
      rintro e w3 ⟨rfl, hb3⟩
      have hb4 := hb.trans (hb3.mono hb.size)
      cases q3 with
      | true =>
        go_wp2_with fail
        go_ret
        exact ⟨ret_bool HM.out.symm, hb4⟩
      | false =>
        go_wp2_with fail
        go_ret
        exact ⟨ret_bool HM.out.symm, hb4⟩
end Go.Proofs.Ytlchfadfbepapaa
