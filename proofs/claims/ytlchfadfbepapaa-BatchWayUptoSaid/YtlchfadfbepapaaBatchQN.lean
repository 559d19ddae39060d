/-
  PURE: what comes of two sorted lists gone through at once.
-/
import Derived.Test.YtlchfadfbepapaaBatchQB
namespace Go.Proofs.Ytlchfadfbepapaa
namespace bt
theorem mayCFrom_sorted : ∀ (t : List C) (p : Option Key), mayCFrom p t = true → (t.Pairwise fun x y => less x.key y.key = true) ∧ ∀ q, p = some q → ∀ r ∈ t, less q r.key = true
  | [], p, _ => ⟨List.Pairwise.nil, by simp⟩
  | r :: t, p, h => by
    rw [mayCFrom_cons] at h
    obtain ⟨h1, h2, h3, _, h4⟩ := h
    obtain ⟨g1, g2⟩ := mayCFrom_sorted t (some r.key) h4
    refine ⟨List.Pairwise.cons (fun x hx => g2 _ rfl x hx) g1, fun q hq x hx => ?_⟩
    subst hq
    have h3 : less q r.key = true := h3
    rcases List.mem_cons.1 hx with rfl | hx
    · exact h3
    · exact less_trans h3 (g2 _ rfl x hx)
/-- what a pair leaves in the table -/
def outA : Option C × Option C → List R
  | (_, some c) => if c.gone then [] else [⟨c.key, c.val⟩]
  | (some r, none) => if r.gone then [] else [⟨r.key, r.val⟩]
  | (none, none) => []
/-- what a pair is between two tables -/
def outB : Option C × Option C → List C
  | (some f, none) => [⟨f.key, [], true⟩]
  | (none, some t) => [⟨t.key, t.val, false⟩]
  | (some f, some t) => if f.val = t.val then [] else [⟨t.key, t.val, false⟩]
  | (none, none) => []
theorem cmp_less' {a b : Key} (h : less a b = true) : cmp a b < 0 := (cmp_less a b).2 h
theorem between_pairs : ∀ (a b : List R), (pairs (a.map laid) (b.map laid)).flatMap outB = betweenL a b
  | [], ys => by
    rw [List.map_nil, pairs, betweenL, List.map_map]
    induction ys with
    | nil => rfl
    | cons y ys ih =>
      rw [List.map_cons, List.flatMap_cons, ih]
      rfl
  | x :: xs, [] => by
    have ih := between_pairs xs []
    rw [List.map_nil] at ih
    rw [List.map_cons, List.map_nil, pairs, betweenL, List.flatMap_cons, ih]
    rfl
  | x :: xs, y :: ys => by
    have i1 := between_pairs xs (y :: ys)
    have i2 := between_pairs xs ys
    have i3 := between_pairs (x :: xs) ys
    rw [List.map_cons] at i1 i3
    rw [List.map_cons, List.map_cons, pairs, betweenL]
    rw [show (laid x).key = x.key from rfl, show (laid y).key = y.key from rfl]
    by_cases h1 : less x.key y.key = true
    · rw [if_pos h1, if_pos ((cmp_less _ _).2 h1), List.flatMap_cons, i1]
      rfl
    · rw [if_neg h1, if_neg (fun h => h1 ((cmp_less _ _).1 h))]
      by_cases h2 : less y.key x.key = true
      · rw [if_pos h2, if_neg (fun h => less_ne h2 ((cmp_zero _ _).1 h).symm), List.flatMap_cons, i3]
        rfl
      · have he : x.key = y.key := by
          rcases less_total x.key y.key with h | h | h
          · exact absurd h h1
          · exact h
          · exact absurd h h2
        rw [if_neg h2, if_pos ((cmp_zero _ _).2 he), List.flatMap_cons, i2]
        show (if x.val = y.val then [] else [_]) ++ _ = _
        by_cases hv : x.val = y.val
        · rw [if_pos hv, if_pos hv]; rfl
        · rw [if_neg hv, if_neg hv]; rfl
termination_by a b => a.length + b.length
theorem apply_pairs : ∀ (t : List R) (l : List C) (p : List R), Sorted (p ++ t) → (l.Pairwise fun x y => less x.key y.key = true) → (∀ r ∈ p, ∀ c ∈ l, less r.key c.key = true) → applyL (p ++ t) l = p ++ (pairs (t.map laid) l).flatMap outA
  | [], [], p, _, _, _ => by simp [applyL, pairs]
  | [], y :: ys, p, hp, hl, hpl => by
    obtain ⟨y1, y2⟩ := List.pairwise_cons.1 hl
    have hpy : ∀ r ∈ p, less r.key y.key = true := fun r hr => hpl r hr y (List.mem_cons_self ..)
    rw [List.append_nil] at hp
    have e0 : pairs (([] : List R).map laid) (y :: ys) = (none, some y) :: pairs (([] : List R).map laid) ys := by
      rw [List.map_nil, pairs, pairs]
      rfl
    rw [e0, List.flatMap_cons]
    show applyL (step (p ++ []) y) ys = _
    obtain ⟨k, v, g⟩ := y
    cases g with
    | true =>
      have e : step (p ++ []) ⟨k, v, true⟩ = p ++ [] := by
        show without _ _ = _
        unfold without
        rw [filter_far]
        intro r hr
        rw [List.append_nil] at hr
        exact less_ne (hpy r hr)
      rw [e]
      exact apply_pairs [] ys p (by rwa [List.append_nil]) y2 (fun r hr c hc => hpl r hr c (List.mem_cons_of_mem _ hc))
    | false =>
      have e : step (p ++ []) ⟨k, v, false⟩ = (p ++ [(⟨k, v⟩ : R)]) ++ [] := by
        show put _ _ = _
        rw [put_past p [] ⟨k, v⟩ hpy]
        simp [put]
      have hs : Sorted ((p ++ [(⟨k, v⟩ : R)]) ++ []) := by
        rw [List.append_nil]
        exact List.pairwise_append.2 ⟨hp, List.pairwise_singleton _ _, fun x hx z hz => by rw [List.mem_singleton.1 hz]; exact hpy x hx⟩
      have ih := apply_pairs [] ys (p ++ [(⟨k, v⟩ : R)]) hs y2 (fun r hr c hc => by
        rcases List.mem_append.1 hr with hr | hr
        · exact hpl r hr c (List.mem_cons_of_mem _ hc)
        · rw [List.mem_singleton.1 hr]; exact y1 c hc)
      rw [e, ih, List.append_assoc]
      rfl
  | x :: xs, [], p, hp, hl, hpl => by
    have ih := apply_pairs xs [] (p ++ [x]) (by simpa using hp) hl (by simp)
    have e0 : pairs ((x :: xs).map laid) [] = (some (laid x), none) :: pairs (xs.map laid) [] := by rw [List.map_cons, pairs]
    rw [e0, List.flatMap_cons]
    show p ++ x :: xs = _
    have ih2 : (p ++ [x]) ++ xs = (p ++ [x]) ++ (pairs (xs.map laid) []).flatMap outA := ih
    have ih3 := List.append_cancel_left ih2
    rw [← ih3]
    rfl
  | x :: xs, y :: ys, p, hp, hl, hpl => by
    obtain ⟨y1, y2⟩ := List.pairwise_cons.1 hl
    have hpy : ∀ r ∈ p, less r.key y.key = true := fun r hr => hpl r hr y (List.mem_cons_self ..)
    obtain ⟨q1, q2, q3⟩ := List.pairwise_append.1 hp
    obtain ⟨x1, x2⟩ := List.pairwise_cons.1 q2
    have hpx : ∀ r ∈ p, less r.key x.key = true := fun r hr => q3 r hr x (List.mem_cons_self ..)
    have hpxs : Sorted (p ++ xs) := List.pairwise_append.2 ⟨q1, x2, fun a ha b hb => q3 a ha b (List.mem_cons_of_mem _ hb)⟩
    have hpl' : ∀ r ∈ p, ∀ c ∈ ys, less r.key c.key = true := fun r hr c hc => hpl r hr c (List.mem_cons_of_mem _ hc)
    rw [List.map_cons, pairs, show (laid x).key = x.key from rfl]
    by_cases h1 : less x.key y.key = true
    · rw [if_pos ((cmp_less _ _).2 h1), List.flatMap_cons]
      have ih := apply_pairs xs (y :: ys) (p ++ [x]) (by simpa using hp) hl (fun r hr c hc => by
        rcases List.mem_append.1 hr with hr | hr
        · exact hpl r hr c hc
        · rw [List.mem_singleton.1 hr]
          rcases List.mem_cons.1 hc with rfl | hc
          · exact h1
          · exact less_trans h1 (y1 c hc))
      rw [List.append_assoc] at ih
      rw [show p ++ x :: xs = p ++ ([x] ++ xs) from rfl, ih, List.append_assoc]
      rfl
    · rw [if_neg (fun h => h1 ((cmp_less _ _).1 h))]
      by_cases h2 : less y.key x.key = true
      · rw [if_neg (fun h => less_ne h2 ((cmp_zero _ _).1 h).symm), List.flatMap_cons]
        have hall : ∀ r ∈ x :: xs, less y.key r.key = true := fun r hr => by
          rcases List.mem_cons.1 hr with rfl | hr
          · exact h2
          · exact less_trans h2 (x1 r hr)
        show applyL (step (p ++ x :: xs) y) ys = _
        obtain ⟨k, v, g⟩ := y
        cases g with
        | true =>
          have e : step (p ++ x :: xs) ⟨k, v, true⟩ = p ++ x :: xs := by
            show without _ _ = _
            unfold without
            rw [filter_far]
            intro r hr
            rcases List.mem_append.1 hr with hr | hr
            · exact less_ne (hpy r hr)
            · exact (less_ne (hall r hr)).symm
          rw [e]
          have ih := apply_pairs (x :: xs) ys p hp y2 hpl'
          rw [List.map_cons] at ih
          rw [ih]
          rfl
        | false =>
          have e : step (p ++ x :: xs) ⟨k, v, false⟩ = (p ++ [(⟨k, v⟩ : R)]) ++ x :: xs := by
            show put _ _ = _
            rw [put_past p (x :: xs) ⟨k, v⟩ hpy, put_head (x := ⟨k, v⟩) hall]
            simp
          have hs : Sorted ((p ++ [(⟨k, v⟩ : R)]) ++ (x :: xs)) := by
            refine List.pairwise_append.2 ⟨List.pairwise_append.2 ⟨q1, List.pairwise_singleton _ _, fun a ha b hb => by rw [List.mem_singleton.1 hb]; exact hpy a ha⟩, q2, fun a ha b hb => ?_⟩
            rcases List.mem_append.1 ha with ha | ha
            · exact q3 a ha b hb
            · rw [List.mem_singleton.1 ha]; exact hall b hb
          have ih := apply_pairs (x :: xs) ys (p ++ [(⟨k, v⟩ : R)]) hs y2 (fun r hr c hc => by
            rcases List.mem_append.1 hr with hr | hr
            · exact hpl' r hr c hc
            · rw [List.mem_singleton.1 hr]; exact y1 c hc)
          rw [List.map_cons] at ih
          rw [e, ih, List.append_assoc]
          rfl
      · have he : x.key = y.key := by
          rcases less_total x.key y.key with h | h | h
          · exact absurd h h1
          · exact h
          · exact absurd h h2
        rw [if_pos ((cmp_zero _ _).2 he), List.flatMap_cons]
        show applyL (step (p ++ x :: xs) y) ys = _
        obtain ⟨k, v, g⟩ := y
        simp only at he
        cases g with
        | true =>
          have e : step (p ++ x :: xs) ⟨k, v, true⟩ = p ++ xs := by
            show without _ k = _
            rw [← he]
            exact without_mid hpx x1
          rw [e, apply_pairs xs ys p hpxs y2 hpl']
          rfl
        | false =>
          have hx1 : ∀ r ∈ xs, less k r.key = true := fun r hr => by rw [← he]; exact x1 r hr
          have e : step (p ++ x :: xs) ⟨k, v, false⟩ = (p ++ [(⟨k, v⟩ : R)]) ++ xs := by
            show put _ _ = _
            rw [put_past p (x :: xs) ⟨k, v⟩ hpy, put_same (x := ⟨k, v⟩) he hx1]
            simp
          have hs : Sorted ((p ++ [(⟨k, v⟩ : R)]) ++ xs) := by
            refine List.pairwise_append.2 ⟨List.pairwise_append.2 ⟨q1, List.pairwise_singleton _ _, fun a ha b hb => by rw [List.mem_singleton.1 hb]; exact hpy a ha⟩, x2, fun a ha b hb => ?_⟩
            rcases List.mem_append.1 ha with ha | ha
            · exact q3 a ha b (List.mem_cons_of_mem _ hb)
            · rw [List.mem_singleton.1 ha]; exact hx1 b hb
          have ih := apply_pairs xs ys (p ++ [(⟨k, v⟩ : R)]) hs y2 (fun r hr c hc => by
            rcases List.mem_append.1 hr with hr | hr
            · exact hpl' r hr c hc
            · rw [List.mem_singleton.1 hr]; exact y1 c hc)
          rw [e, ih, List.append_assoc]
          rfl
termination_by t l => t.length + l.length
end bt
end Go.Proofs.Ytlchfadfbepapaa
