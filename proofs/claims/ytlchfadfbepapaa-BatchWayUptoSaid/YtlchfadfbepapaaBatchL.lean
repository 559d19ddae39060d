/-
  PURE: rows, changes, and what is between two tables. No program is named here.
-/
import Derived.Test.YtlchfadfbepapaaRowz
namespace Go.Proofs.Ytlchfadfbepapaa
namespace bt
abbrev Key := List UInt8
structure R where
  key : Key
  val : List UInt8
instance : DecidableEq R := fun a b => if h : a.key = b.key ∧ a.val = b.val then .isTrue (by cases a; cases b; simp_all) else .isFalse (fun e => h (by rw [e]; exact ⟨rfl, rfl⟩))
structure C where
  key : Key
  val : List UInt8
  gone : Bool
instance : DecidableEq C := fun a b => if h : a.key = b.key ∧ a.val = b.val ∧ a.gone = b.gone then .isTrue (by cases a; cases b; simp_all) else .isFalse (fun e => h (by rw [e]; exact ⟨rfl, rfl, rfl⟩))
instance : Inhabited R := ⟨⟨[], []⟩⟩
instance : Inhabited C := ⟨⟨[], [], false⟩⟩
def less : Key → Key → Bool := Op.bytesLess
theorem less_irrefl : ∀ a : Key, less a a = false
  | [] => rfl
  | x :: a => by
    have h := less_irrefl a
    unfold less at h ⊢
    simp only [Op.bytesLess, h, Bool.and_false, Bool.or_false, decide_eq_false_iff_not]
    exact UInt8.lt_irrefl x
theorem less_trans : ∀ {a b c : Key}, less a b = true → less b c = true → less a c = true
  | [], [], _, h, _ => by cases h
  | [], _ :: _, [], _, h => by cases h
  | [], _ :: _, _ :: _, _, _ => rfl
  | _ :: _, [], _, h, _ => by cases h
  | _ :: _, _ :: _, [], _, h => by cases h
  | x :: a, y :: b, z :: c, h1, h2 => by
    have ih := @less_trans a b c
    unfold less at h1 h2 ih ⊢
    simp only [Op.bytesLess, Bool.or_eq_true, decide_eq_true_eq, Bool.and_eq_true, beq_iff_eq] at h1 h2 ⊢
    rcases h1 with h1 | ⟨rfl, h1⟩
    · rcases h2 with h2 | ⟨rfl, h2⟩
      · exact .inl (UInt8.lt_trans h1 h2)
      · exact .inl h1
    · rcases h2 with h2 | ⟨rfl, h2⟩
      · exact .inl h2
      · exact .inr ⟨rfl, ih h1 h2⟩
theorem less_total : ∀ (a b : Key), less a b = true ∨ a = b ∨ less b a = true
  | [], [] => .inr (.inl rfl)
  | [], _ :: _ => .inl rfl
  | _ :: _, [] => .inr (.inr rfl)
  | x :: a, y :: b => by
    have ih := less_total a b
    unfold less at ih ⊢
    simp only [Op.bytesLess, Bool.or_eq_true, decide_eq_true_eq, Bool.and_eq_true, beq_iff_eq, List.cons.injEq]
    rcases UInt8.lt_or_lt_of_ne (a := x) (b := y) |> fun f => (Classical.em (x = y)) with e | e
    · subst e
      rcases ih with h | h | h
      · exact .inl (.inr ⟨rfl, h⟩)
      · exact .inr (.inl ⟨rfl, h⟩)
      · exact .inr (.inr (.inr ⟨rfl, h⟩))
    · rcases UInt8.lt_or_lt_of_ne e with h | h
      · exact .inl (.inl h)
      · exact .inr (.inr (.inl h))
theorem less_asymm {a b : Key} (h : less a b = true) : less b a = false := by
  cases hb : less b a with
  | false => rfl
  | true => have := less_trans h hb; rw [less_irrefl] at this; cases this
theorem less_ne {a b : Key} (h : less a b = true) : a ≠ b := fun e => by rw [e, less_irrefl] at h; cases h
def keyOk (k : Key) : Bool := decide (1 ≤ k.length) && decide (k.length ≤ 16)
/-- may one with such a key come behind one with that key? -/
def behind (p : Option Key) (k : Key) : Bool := match p with | none => true | some q => less q k
def mayFrom : Option Key → List R → Bool
  | _, [] => true
  | p, r :: t => keyOk r.key && decide (r.val.length ≤ 1048576) && behind p r.key && mayFrom (some r.key) t
def may (t : List R) : Bool := mayFrom none t
def mayCFrom : Option Key → List C → Bool
  | _, [] => true
  | p, r :: t => keyOk r.key && decide (r.val.length ≤ 1048576) && behind p r.key && (!r.gone || decide (r.val = [])) && mayCFrom (some r.key) t
def mayC (l : List C) : Bool := mayCFrom none l
/-- Find -/
def find (t : List R) (k : Key) : Option (List UInt8) := (t.find? fun r => r.key == k).map (·.val)
/-- a row is put where it belongs -/
def put : List R → R → List R
  | [], x => [x]
  | r :: t, x => if less r.key x.key then r :: put t x else x :: (r :: t).filter fun r => !(r.key == x.key)
def without (t : List R) (k : Key) : List R := t.filter fun r => !(r.key == k)
def step (t : List R) (c : C) : List R := if c.gone then without t c.key else put t ⟨c.key, c.val⟩
def applyL (t : List R) (l : List C) : List R := l.foldl step t
def apply (t : List R) (l : List C) : List R × Int := if may t && mayC l then (applyL t l, 0) else ([], 2)
def gone (r : R) : C := ⟨r.key, [], true⟩
def laid (r : R) : C := ⟨r.key, r.val, false⟩
def betweenL : List R → List R → List C
  | [], ys => ys.map laid
  | a :: xs, [] => gone a :: betweenL xs []
  | a :: xs, b :: ys =>
    if less a.key b.key then gone a :: betweenL xs (b :: ys)
    else if less b.key a.key then laid b :: betweenL (a :: xs) ys
    else if a.val = b.val then betweenL xs ys else laid b :: betweenL xs ys
termination_by a b => a.length + b.length
def between (a b : List R) : List C × Int := if may a && may b then (betweenL a b, 0) else ([], 2)
/-! ### sorted -/
abbrev Sorted (t : List R) : Prop := t.Pairwise fun x y => less x.key y.key = true
theorem mayFrom_sorted : ∀ (t : List R) (p : Option Key), mayFrom p t = true → Sorted t ∧ (∀ q, p = some q → ∀ r ∈ t, less q r.key = true) ∧ ∀ r ∈ t, keyOk r.key = true ∧ r.val.length ≤ 1048576
  | [], p, _ => ⟨List.Pairwise.nil, by simp, by simp⟩
  | r :: t, p, h => by
    simp only [mayFrom, Bool.and_eq_true, decide_eq_true_eq] at h
    obtain ⟨⟨⟨h1, h2⟩, h3⟩, h4⟩ := h
    obtain ⟨g1, g2, g3⟩ := mayFrom_sorted t (some r.key) h4
    refine ⟨List.Pairwise.cons (fun x hx => g2 _ rfl x hx) g1, fun q hq x hx => ?_, fun x hx => ?_⟩
    · subst hq
      have h3 : less q r.key = true := h3
      rcases List.mem_cons.1 hx with rfl | hx
      · exact h3
      · exact less_trans h3 (g2 _ rfl x hx)
    · rcases List.mem_cons.1 hx with rfl | hx
      · exact ⟨h1, h2⟩
      · exact g3 x hx
theorem may_sorted {t : List R} (h : may t = true) : Sorted t := (mayFrom_sorted t none h).1
theorem filter_far {t : List R} {k : Key} (h : ∀ r ∈ t, r.key ≠ k) : (t.filter fun r => !(r.key == k)) = t := by
  rw [List.filter_eq_self]
  intro r hr
  simpa using h r hr
theorem put_past : ∀ (p t : List R) (x : R), (∀ r ∈ p, less r.key x.key = true) → put (p ++ t) x = p ++ put t x
  | [], _, _, _ => rfl
  | r :: p, t, x, h => by
    simp only [List.cons_append, put]
    rw [if_pos (h r (List.mem_cons_self ..)), put_past p t x (fun y hy => h y (List.mem_cons_of_mem _ hy))]
theorem put_head {t : List R} {x : R} (h : ∀ r ∈ t, less x.key r.key = true) : put t x = x :: t := by
  cases t with
  | nil => rfl
  | cons r t =>
    simp only [put]
    rw [if_neg (by rw [less_asymm (h r (List.mem_cons_self ..))]; simp), filter_far fun y hy => (less_ne (h y hy)).symm]
theorem put_same {a x : R} {t : List R} (he : a.key = x.key) (h : ∀ r ∈ t, less x.key r.key = true) : put (a :: t) x = x :: t := by
  simp only [put]
  rw [if_neg (by rw [he, less_irrefl]; simp)]
  simp only [List.filter_cons, he, beq_self_eq_true, Bool.not_true, Bool.false_eq_true, if_false]
  rw [filter_far fun y hy => (less_ne (h y hy)).symm]
theorem without_mid {p t : List R} {a : R} (h1 : ∀ r ∈ p, less r.key a.key = true) (h2 : ∀ r ∈ t, less a.key r.key = true) : without (p ++ a :: t) a.key = p ++ t := by
  unfold without
  rw [List.filter_append, List.filter_cons, filter_far fun y hy => less_ne (h1 y hy), filter_far fun y hy => (less_ne (h2 y hy)).symm]
  simp
/-- WHAT IS BETWEEN TWO TABLES MAKES THE ONE THE OTHER -/
theorem apply_between : ∀ (a b p : List R), Sorted (p ++ a) → Sorted (p ++ b) → applyL (p ++ a) (betweenL a b) = p ++ b
  | [], [], p, _, _ => by simp [betweenL, applyL]
  | [], b :: ys, p, _, hb => by
    have hp : ∀ r ∈ p, less r.key b.key = true := fun r hr => (List.pairwise_append.1 hb).2.2 r hr b (List.mem_cons_self ..)
    have ih := apply_between [] ys (p ++ [b]) (by simpa using (List.pairwise_append.1 (by simpa using hb : Sorted ((p ++ [b]) ++ ys))).1) (by simpa using hb)
    simp only [betweenL, List.map_cons, applyL, List.foldl_cons] at ih ⊢
    have e : step (p ++ []) (laid b) = p ++ [b] := by
      simp only [step, laid, Bool.false_eq_true, if_false]
      rw [put_past p [] ⟨b.key, b.val⟩ hp]
      rfl
    rw [e]
    simpa using ih
  | a :: xs, [], p, ha, hb => by
    have ha' := List.pairwise_append.1 ha
    have h1 : ∀ r ∈ p, less r.key a.key = true := fun r hr => ha'.2.2 r hr a (List.mem_cons_self ..)
    have h2 : ∀ r ∈ xs, less a.key r.key = true := (List.pairwise_cons.1 ha'.2.1).1
    have hs : Sorted (p ++ xs) := List.pairwise_append.2 ⟨ha'.1, (List.pairwise_cons.1 ha'.2.1).2, fun x hx y hy => ha'.2.2 x hx y (List.mem_cons_of_mem _ hy)⟩
    have ih := apply_between xs [] p hs hb
    rw [betweenL]
    simp only [applyL, List.foldl_cons] at ih ⊢
    have e : step (p ++ a :: xs) (gone a) = p ++ xs := by
      simp only [step, gone, if_true]
      exact without_mid h1 h2
    rw [e, ih]
  | a :: xs, b :: ys, p, ha, hb => by
    have ha' := List.pairwise_append.1 ha
    have hb' := List.pairwise_append.1 hb
    have a1 : ∀ r ∈ p, less r.key a.key = true := fun r hr => ha'.2.2 r hr a (List.mem_cons_self ..)
    have a2 : ∀ r ∈ xs, less a.key r.key = true := (List.pairwise_cons.1 ha'.2.1).1
    have b1 : ∀ r ∈ p, less r.key b.key = true := fun r hr => hb'.2.2 r hr b (List.mem_cons_self ..)
    have b2 : ∀ r ∈ ys, less b.key r.key = true := (List.pairwise_cons.1 hb'.2.1).1
    have hsa : Sorted (p ++ xs) := List.pairwise_append.2 ⟨ha'.1, (List.pairwise_cons.1 ha'.2.1).2, fun x hx y hy => ha'.2.2 x hx y (List.mem_cons_of_mem _ hy)⟩
    rw [betweenL]
    by_cases h1 : less a.key b.key = true
    · rw [if_pos h1]
      have ih := apply_between xs (b :: ys) p hsa hb
      simp only [applyL, List.foldl_cons] at ih ⊢
      have e : step (p ++ a :: xs) (gone a) = p ++ xs := by
        simp only [step, gone, if_true]
        exact without_mid a1 a2
      rw [e, ih]
    · rw [if_neg h1]
      by_cases h2 : less b.key a.key = true
      · rw [if_pos h2]
        have hall : ∀ r ∈ a :: xs, less b.key r.key = true := fun r hr => by
          rcases List.mem_cons.1 hr with rfl | hr
          · exact h2
          · exact less_trans h2 (a2 r hr)
        have hs : Sorted ((p ++ [b]) ++ (a :: xs)) := by
          refine List.pairwise_append.2 ⟨List.pairwise_append.2 ⟨ha'.1, List.pairwise_singleton _ _, fun x hx y hy => by rw [List.mem_singleton.1 hy]; exact b1 x hx⟩, ha'.2.1, fun x hx y hy => ?_⟩
          rcases List.mem_append.1 hx with hx | hx
          · exact ha'.2.2 x hx y hy
          · rw [List.mem_singleton.1 hx]; exact hall y hy
        have ih := apply_between (a :: xs) ys (p ++ [b]) hs (by simpa using hb)
        simp only [applyL, List.foldl_cons] at ih ⊢
        have e : step (p ++ a :: xs) (laid b) = (p ++ [b]) ++ (a :: xs) := by
          simp only [step, laid, Bool.false_eq_true, if_false]
          rw [put_past p (a :: xs) ⟨b.key, b.val⟩ b1, put_head (x := ⟨b.key, b.val⟩) hall]
          simp
        rw [e, ih]
        simp
      · rw [if_neg h2]
        have he : a.key = b.key := by
          rcases less_total a.key b.key with h | h | h
          · exact absurd h h1
          · exact h
          · exact absurd h h2
        have hsb : Sorted ((p ++ [b]) ++ xs) := by
          refine List.pairwise_append.2 ⟨List.pairwise_append.2 ⟨ha'.1, List.pairwise_singleton _ _, fun x hx y hy => by rw [List.mem_singleton.1 hy]; exact b1 x hx⟩, (List.pairwise_cons.1 ha'.2.1).2, fun x hx y hy => ?_⟩
          rcases List.mem_append.1 hx with hx | hx
          · exact ha'.2.2 x hx y (List.mem_cons_of_mem _ hy)
          · rw [List.mem_singleton.1 hx, ← he]; exact a2 y hy
        have ih := apply_between xs ys (p ++ [b]) hsb (by simpa using hb)
        by_cases hv : a.val = b.val
        · rw [if_pos hv]
          have hab : a = b := by cases a; cases b; simp_all
          rw [hab]
          simpa using ih
        · rw [if_neg hv]
          simp only [applyL, List.foldl_cons] at ih ⊢
          have e : step (p ++ a :: xs) (laid b) = (p ++ [b]) ++ xs := by
            simp only [step, laid, Bool.false_eq_true, if_false]
            rw [put_past p (a :: xs) ⟨b.key, b.val⟩ b1, put_same (x := ⟨b.key, b.val⟩) he (fun r hr => by rw [← he]; exact a2 r hr)]
            simp
          rw [e, ih]
          simp
termination_by a b => a.length + b.length
end bt
end Go.Proofs.Ytlchfadfbepapaa
