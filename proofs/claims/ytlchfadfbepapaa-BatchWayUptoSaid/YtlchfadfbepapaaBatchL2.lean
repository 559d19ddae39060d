/-
  PURE: what is between two tables is changes that may be; how many. No program is named here.
-/
import Derived.Test.YtlchfadfbepapaaBatchL
namespace Go.Proofs.Ytlchfadfbepapaa
namespace bt
theorem mayFrom_cons {p : Option Key} {r : R} {l : List R} : mayFrom p (r :: l) = true ↔ (keyOk r.key = true ∧ r.val.length ≤ 1048576 ∧ behind p r.key = true ∧ mayFrom (some r.key) l = true) := by
  rw [mayFrom]
  simp only [Bool.and_eq_true, decide_eq_true_eq, and_assoc]
theorem mayCFrom_cons {p : Option Key} {x : C} {l : List C} : mayCFrom p (x :: l) = true ↔ (keyOk x.key = true ∧ x.val.length ≤ 1048576 ∧ behind p x.key = true ∧ (x.gone = false ∨ x.val = []) ∧ mayCFrom (some x.key) l = true) := by
  rw [mayCFrom]
  simp only [Bool.and_eq_true, Bool.or_eq_true, Bool.not_eq_true', decide_eq_true_eq, and_assoc]
theorem behind_trans {p : Option Key} {k q : Key} (h : behind p k = true) (h2 : less k q = true) : behind p q = true := by
  cases p with
  | none => rfl
  | some r => exact less_trans h h2
theorem mayFrom_weaken {p : Option Key} {k : Key} (h : behind p k = true) : ∀ {l : List R}, mayFrom (some k) l = true → mayFrom p l = true
  | [], _ => rfl
  | r :: l, h2 => by
    rw [mayFrom_cons] at h2 ⊢
    exact ⟨h2.1, h2.2.1, behind_trans h h2.2.2.1, h2.2.2.2⟩
theorem mayC_laid : ∀ (l : List R) (p : Option Key), mayFrom p l = true → mayCFrom p (l.map laid) = true
  | [], _, _ => rfl
  | r :: l, p, h => by
    rw [mayFrom_cons] at h
    rw [List.map_cons, mayCFrom_cons]
    exact ⟨h.1, h.2.1, h.2.2.1, .inl rfl, mayC_laid l _ h.2.2.2⟩
/-- what is between two tables that may be is changes that may be -/
theorem mayC_between : ∀ (a b : List R) (p : Option Key), mayFrom p a = true → mayFrom p b = true → mayCFrom p (betweenL a b) = true
  | [], ys, p, _, h => by
    rw [betweenL]
    exact mayC_laid ys p h
  | a :: xs, [], p, h, _ => by
    rw [mayFrom_cons] at h
    rw [betweenL, mayCFrom_cons]
    exact ⟨h.1, Nat.zero_le _, h.2.2.1, .inr rfl, mayC_between xs [] _ h.2.2.2 rfl⟩
  | a :: xs, b :: ys, p, h1, h2 => by
    have k1 := h1
    have k2 := h2
    rw [mayFrom_cons] at k1 k2
    rw [betweenL]
    by_cases c1 : less a.key b.key = true
    · rw [if_pos c1, mayCFrom_cons]
      exact ⟨k1.1, Nat.zero_le _, k1.2.2.1, .inr rfl, mayC_between xs (b :: ys) _ k1.2.2.2 (mayFrom_cons.2 ⟨k2.1, k2.2.1, c1, k2.2.2.2⟩)⟩
    · rw [if_neg c1]
      by_cases c2 : less b.key a.key = true
      · rw [if_pos c2, mayCFrom_cons]
        exact ⟨k2.1, k2.2.1, k2.2.2.1, .inl rfl, mayC_between (a :: xs) ys _ (mayFrom_cons.2 ⟨k1.1, k1.2.1, c2, k1.2.2.2⟩) k2.2.2.2⟩
      · rw [if_neg c2]
        have he : a.key = b.key := by
          rcases less_total a.key b.key with h | h | h
          · exact absurd h c1
          · exact h
          · exact absurd h c2
        by_cases c3 : a.val = b.val
        · rw [if_pos c3]
          exact mayC_between xs ys p (mayFrom_weaken k1.2.2.1 k1.2.2.2) (mayFrom_weaken k2.2.2.1 k2.2.2.2)
        · rw [if_neg c3, mayCFrom_cons]
          exact ⟨k2.1, k2.2.1, k2.2.2.1, .inl rfl, mayC_between xs ys _ (show mayFrom (some b.key) xs = true from he ▸ k1.2.2.2) k2.2.2.2⟩
termination_by a b => a.length + b.length
/-- what is between two tables makes the one the other -/
theorem apply_way {a b : List R} (ha : may a = true) (hb : may b = true) : apply a (between a b).1 = (b, 0) ∧ (between a b).2 = 0 := by
  have h1 : between a b = (betweenL a b, 0) := by unfold between; rw [ha, hb]; rfl
  have h2 : mayC (betweenL a b) = true := mayC_between a b none ha hb
  refine ⟨?_, by rw [h1]⟩
  rw [h1]
  unfold apply
  rw [ha, h2]
  have := apply_between a b [] (by simpa using may_sorted ha) (by simpa using may_sorted hb)
  simp only [List.nil_append] at this
  simp [this]
theorem find_nil (k : Key) : find [] k = none := rfl
theorem find_hit {r : R} {t : List R} {k : Key} (h : r.key = k) : find (r :: t) k = some r.val := by
  unfold find
  rw [List.find?_cons, beq_iff_eq.2 h]
  rfl
theorem find_skip {r : R} {t : List R} {k : Key} (h : r.key ≠ k) : find (r :: t) k = find t k := by
  unfold find
  rw [List.find?_cons, beq_eq_false_iff_ne.2 h]
theorem find_far {t : List R} {k : Key} (h : ∀ r ∈ t, r.key ≠ k) : find t k = none := by
  unfold find
  rw [List.find?_eq_none.2 (fun r hr => by simpa using h r hr)]
  rfl
/-- rows of the one that the other has not so -/
def away (a b : List R) : Nat := a.countP fun r => decide (find b r.key ≠ some r.val)
/-- rows of the other whose keys the one has not -/
def new (a b : List R) : Nat := b.countP fun r => (find a r.key).isNone
theorem away_congr {a b c : List R} (h : ∀ r ∈ a, find b r.key = find c r.key) : away a b = away a c :=
  List.countP_congr fun r hr => by rw [h r hr]
theorem new_congr {a b c : List R} (h : ∀ r ∈ c, find a r.key = find b r.key) : new a c = new b c :=
  List.countP_congr fun r hr => by rw [h r hr]
theorem sorted_head {a : R} {t : List R} (h : Sorted (a :: t)) : (∀ r ∈ t, less a.key r.key = true) ∧ Sorted t := List.pairwise_cons.1 h
/-- how many changes are between two tables -/
theorem between_length : ∀ (a b : List R), Sorted a → Sorted b → (betweenL a b).length = away a b + new a b
  | [], ys, _, _ => by
    rw [betweenL, List.length_map]
    have h1 : away [] ys = 0 := rfl
    have h2 : new [] ys = ys.length := List.countP_eq_length.2 fun r _ => rfl
    omega
  | a :: xs, [], ha, _ => by
    have ih := between_length xs [] (sorted_head ha).2 List.Pairwise.nil
    rw [betweenL, List.length_cons, ih]
    have h1 : away (a :: xs) [] = away xs [] + 1 := List.countP_cons_of_pos (by rw [find_nil]; rfl)
    have h2 : new (a :: xs) [] = 0 := rfl
    have h3 : new xs [] = 0 := rfl
    omega
  | a :: xs, b :: ys, ha, hb => by
    obtain ⟨a1, a2⟩ := sorted_head ha
    obtain ⟨b1, b2⟩ := sorted_head hb
    rw [betweenL]
    by_cases c1 : less a.key b.key = true
    · have ih := between_length xs (b :: ys) a2 hb
      have hfar : ∀ r ∈ b :: ys, r.key ≠ a.key := fun r hr => by
        rcases List.mem_cons.1 hr with rfl | hr
        · exact (less_ne c1).symm
        · exact (less_ne (less_trans c1 (b1 r hr))).symm
      have h1 : away (a :: xs) (b :: ys) = away xs (b :: ys) + 1 := List.countP_cons_of_pos (by rw [find_far hfar]; rfl)
      have h2 : new (a :: xs) (b :: ys) = new xs (b :: ys) := new_congr fun r hr => find_skip (hfar r hr).symm
      rw [if_pos c1, List.length_cons, ih]
      omega
    · rw [if_neg c1]
      by_cases c2 : less b.key a.key = true
      · have ih := between_length (a :: xs) ys ha b2
        have hfar : ∀ r ∈ a :: xs, r.key ≠ b.key := fun r hr => by
          rcases List.mem_cons.1 hr with rfl | hr
          · exact (less_ne c2).symm
          · exact (less_ne (less_trans c2 (a1 r hr))).symm
        have h1 : away (a :: xs) (b :: ys) = away (a :: xs) ys := away_congr fun r hr => find_skip (hfar r hr).symm
        have h2 : new (a :: xs) (b :: ys) = new (a :: xs) ys + 1 := List.countP_cons_of_pos (by rw [find_far hfar]; rfl)
        rw [if_pos c2, List.length_cons, ih]
        omega
      · rw [if_neg c2]
        have he : a.key = b.key := by
          rcases less_total a.key b.key with h | h | h
          · exact absurd h c1
          · exact h
          · exact absurd h c2
        have ih := between_length xs ys a2 b2
        have h1 : away xs (b :: ys) = away xs ys := away_congr fun r hr => find_skip (he ▸ less_ne (a1 r hr))
        have h2 : new (a :: xs) ys = new xs ys := new_congr fun r hr => find_skip (he ▸ less_ne (b1 r hr))
        have h3 : new (a :: xs) (b :: ys) = new (a :: xs) ys := List.countP_cons_of_neg (by rw [find_hit he]; simp)
        by_cases c3 : a.val = b.val
        · have h4 : away (a :: xs) (b :: ys) = away xs (b :: ys) := List.countP_cons_of_neg (by rw [find_hit he.symm, c3]; simp)
          rw [if_pos c3, ih]
          omega
        · have h4 : away (a :: xs) (b :: ys) = away xs (b :: ys) + 1 := List.countP_cons_of_pos (by rw [find_hit he.symm]; simpa using fun e => c3 e.symm)
          rw [if_neg c3, List.length_cons, ih]
          omega
termination_by a b => a.length + b.length
end bt
end Go.Proofs.Ytlchfadfbepapaa
