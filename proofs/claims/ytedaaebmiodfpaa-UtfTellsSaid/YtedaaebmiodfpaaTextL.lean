/-
  WHAT IS TRUE OF TEXTS: the longest beginning that is a text, how many runes it has; of texts behind each other; of what is cut.
-/
import Derived.Test.YtedaaebmiodfpaaRuneL
namespace Go.Proofs.Ytedaaebmiodfpaa
open Go.RowKit

theorem rune_le (l : List UInt8) : (runeR l).2 ≤ l.length ∧ (runeR l).2 ≤ 4 := by
  obtain ⟨⟨r, s⟩, h⟩ : ∃ x, runeR l = x := ⟨_, rfl⟩
  rw [h]
  simp only
  rcases rune_bytes l r s h with h | h <;> omega
/-- the bytes, and the runes, of the longest beginning that is a text -/
def textR (l : List UInt8) : Nat × Nat :=
  if _h : (runeR l).2 = 0 then (0, 0) else ((runeR l).2 + (textR (l.drop (runeR l).2)).1, (textR (l.drop (runeR l).2)).2 + 1)
termination_by l.length
decreasing_by
  all_goals
    have := rune_le l
    simp only [List.length_drop]
    omega
theorem textR_no {l : List UInt8} (h : (runeR l).2 = 0) : textR l = (0, 0) := by rw [textR, dif_pos h]
theorem textR_yes {l : List UInt8} (h : (runeR l).2 ≠ 0) : textR l = ((runeR l).2 + (textR (l.drop (runeR l).2)).1, (textR (l.drop (runeR l).2)).2 + 1) := by rw [textR, dif_neg h]
theorem textR_nil : textR [] = (0, 0) := textR_no rfl

theorem text_ind {p : List UInt8 → Prop} (h0 : ∀ l, (runeR l).2 = 0 → p l) (h1 : ∀ l, (runeR l).2 ≠ 0 → p (l.drop (runeR l).2) → p l) : ∀ l, p l := by
  intro l
  generalize hn : l.length = n
  induction n using Nat.strongRecOn generalizing l with
  | _ n ih =>
    by_cases h : (runeR l).2 = 0
    · exact h0 l h
    · have := rune_le l
      exact h1 l h (ih _ (by simp only [List.length_drop]; omega) _ rfl)
theorem text_le : ∀ l, (textR l).1 ≤ l.length ∧ (textR l).2 ≤ (textR l).1 := by
  refine text_ind (fun l h => ?_) (fun l h ih => ?_)
  · rw [textR_no h]; simp
  · rw [textR_yes h]
    have := rune_le l
    simp only [List.length_drop] at ih
    simp only
    omega

theorem refGo_take : ∀ (k : Nat) (r : Int) (t t' : List UInt8), t.take k = t'.take k → refGo r k t = refGo r k t'
  | 0, _, _, _, _ => rfl
  | k + 1, r, [], [], _ => rfl
  | k + 1, r, [], c :: t', h => by simp at h
  | k + 1, r, c :: t, [], h => by simp at h
  | k + 1, r, c :: t, c' :: t', h => by
    simp only [List.take_succ_cons, List.cons.injEq] at h
    obtain ⟨rfl, h⟩ := h
    simp only [refGo]
    exact refGo_take k _ t t' h
theorem refVal_take (l l' : List UInt8) (s : Nat) (hs : 1 ≤ s) (h : l.take s = l'.take s) : refVal l s = refVal l' s := by
  obtain ⟨s, rfl⟩ : ∃ k, s = k + 1 := ⟨s - 1, by omega⟩
  obtain _ | ⟨a, t⟩ := l <;> obtain _ | ⟨a', t'⟩ := l'
  · rfl
  · simp at h
  · simp at h
  · simp only [List.take_succ_cons, List.cons.injEq] at h
    obtain ⟨rfl, h⟩ := h
    exact refGo_take s _ t t' h
/-- a rune is told by its bytes alone -/
theorem rune_same (l l' : List UInt8) (r s : Nat) (hs : s ≠ 0) (h : runeR l = (r, s)) (ht : l'.take s = l.take s) : runeR l' = (r, s) := by
  rcases rune_bytes l r s h with h0 | ⟨h1, h2, h3, h4, h5⟩
  · exact absurd h0.1 hs
  · have hl' : s ≤ l'.length := by
      have := congrArg List.length ht
      simp only [List.length_take] at this
      omega
    have hv := refVal_take l' l s h1 ht
    have := ref_hit l' s ⟨h1, h2⟩ hl' (by rw [hv, h4, h5, ht])
    rw [this.1, hv, h4]
    simp
theorem rune_same' (l l' : List UInt8) (h : (runeR l).2 ≠ 0) (ht : l'.take (runeR l).2 = l.take (runeR l).2) : runeR l' = runeR l := rune_same l l' _ _ h rfl ht

/-- TEXTS BEHIND EACH OTHER -/
theorem text_behind (b : List UInt8) : ∀ a, (textR a).1 = a.length → textR (a ++ b) = (a.length + (textR b).1, (textR a).2 + (textR b).2) := by
  refine text_ind (fun a h0 h => ?_) (fun a h0 ih h => ?_)
  · rw [textR_no h0] at h ⊢
    obtain rfl : a = [] := List.eq_nil_of_length_eq_zero h.symm
    simp
  · have hle := rune_le a
    have hr : runeR (a ++ b) = runeR a := rune_same' a _ h0 (List.take_append_of_le_length hle.1)
    rw [textR_yes h0] at h
    have h' := ih (by simp only [List.length_drop] at h ⊢; omega)
    rw [textR_yes (l := a ++ b) (by rw [hr]; exact h0), hr, List.drop_append_of_le_length hle.1, h', textR_yes h0]
    simp only [List.length_drop, Prod.mk.injEq]
    omega
/-- the longest beginning is a text -/
theorem text_take : ∀ l, (textR (l.take (textR l).1)).1 = (textR l).1 := by
  refine text_ind (fun l h => ?_) (fun l h ih => ?_)
  · rw [textR_no h]
    simp [textR_nil]
  · have hle := rune_le l
    rw [textR_yes h]
    simp only
    have hr : runeR (l.take ((runeR l).2 + (textR (l.drop (runeR l).2)).1)) = runeR l := rune_same' l _ h (by rw [List.take_take, Nat.min_eq_left (by omega)])
    rw [textR_yes (by rw [hr]; exact h), hr]
    simp only
    rw [List.drop_take, Nat.add_sub_cancel_left, ih]
/-- of a text a beginning of m bytes lacks less than a rune -/
theorem text_lacks : ∀ l, (textR l).1 = l.length → ∀ m, m ≤ l.length → m < (textR (l.take m)).1 + 4 := by
  refine text_ind (fun l h0 h m hm => ?_) (fun l h0 ih h m hm => ?_)
  · rw [textR_no h0] at h
    simp only at h
    omega
  · have hle := rune_le l
    by_cases hs : (runeR l).2 ≤ m
    · have hr : runeR (l.take m) = runeR l := rune_same' l _ h0 (by rw [List.take_take, Nat.min_eq_left hs])
      rw [textR_yes h0] at h
      simp only at h
      have := ih (by rw [List.length_drop]; omega) (m - (runeR l).2) (by rw [List.length_drop]; omega)
      rw [textR_yes (l := l.take m) (by rw [hr]; exact h0), hr, List.drop_take]
      simp only
      omega
    · omega
/-- no longer beginning is a text -/
theorem text_most (l : List UInt8) (n : Nat) (hn : n ≤ l.length) (h : (textR (l.take n)).1 = n) : n ≤ (textR l).1 := by
  have h1 := text_behind (l.drop n) (l.take n) (by rw [h, List.length_take, Nat.min_eq_left hn])
  rw [List.take_append_drop] at h1
  rw [h1, List.length_take, Nat.min_eq_left hn]
  simp only
  omega
def isR (l : List UInt8) : Bool := decide ((textR l).1 = l.length)
theorem isR_behind {a b : List UInt8} (ha : isR a = true) (hb : isR b = true) : isR (a ++ b) = true ∧ (textR (a ++ b)).2 = (textR a).2 + (textR b).2 := by
  have ha := of_decide_eq_true ha
  have hb := of_decide_eq_true hb
  rw [isR, text_behind b a ha]
  simp [hb]
/-- what Cut answers -/
def cutR (l : List UInt8) (most : Int) : List UInt8 := l.take (textR (l.take most.toNat)).1
theorem cutR_is (l : List UInt8) (m : Int) : isR (cutR l m) = true := by
  have h := text_take (l.take m.toNat)
  have hle := (text_le (l.take m.toNat)).1
  rw [List.take_take, Nat.min_eq_left (by rw [List.length_take] at hle; omega)] at h
  have hl : (cutR l m).length = (textR (l.take m.toNat)).1 := by
    rw [cutR, List.length_take]
    rw [List.length_take] at hle
    omega
  exact decide_eq_true (by rw [hl]; exact h)
theorem cutR_len (l : List UInt8) (m : Int) : (cutR l m).length ≤ l.length ∧ (cutR l m).length ≤ m.toNat ∧ cutR l m = l.take (cutR l m).length := by
  have hle := (text_le (l.take m.toNat)).1
  rw [List.length_take] at hle
  have hl : (cutR l m).length = (textR (l.take m.toNat)).1 := by
    rw [cutR, List.length_take]
    omega
  rw [hl]
  exact ⟨by omega, by omega, rfl⟩
theorem cutR_all (l : List UInt8) (m : Int) (h : isR l = true) (hm : l.length ≤ m) : cutR l m = l := by
  have h := of_decide_eq_true h
  rw [cutR, List.take_of_length_le (i := m.toNat) (by omega), h, List.take_length]
theorem cutR_lacks (l : List UInt8) (m : Int) (h : isR l = true) (hm : m < l.length) : m < (cutR l m).length + 4 := by
  have h := of_decide_eq_true h
  have hle := (text_le (l.take m.toNat)).1
  rw [List.length_take] at hle
  have := text_lacks l h m.toNat (by omega)
  have hl : (cutR l m).length = (textR (l.take m.toNat)).1 := by
    rw [cutR, List.length_take]
    omega
  omega
theorem cutR_most (l : List UInt8) (m : Int) (n : Nat) (hn : n ≤ l.length) (hm : n ≤ m) (h : isR (l.take n) = true) : n ≤ (cutR l m).length := by
  have h := of_decide_eq_true h
  rw [List.length_take, Nat.min_eq_left hn] at h
  have hle := (text_le (l.take m.toNat)).1
  rw [List.length_take] at hle
  have hl : (cutR l m).length = (textR (l.take m.toNat)).1 := by
    rw [cutR, List.length_take]
    omega
  rw [hl]
  exact text_most _ n (by rw [List.length_take]; omega) (by rw [List.take_take, Nat.min_eq_left (by omega)]; exact h)
/-- a rune's own bytes -/
theorem rune_own (r : Int) (t : List UInt8) (h : bytesR r ≠ []) : runeR (bytesR r ++ t) = (r.toNat, (bytesR r).length) ∧ 1 ≤ r ∧ r ≤ 1114111 := by
  have key : ∀ s, (bytesR r).length = s → 1 ≤ s ∧ s ≤ 4 → refVal (bytesR r ++ t) s = r → runeR (bytesR r ++ t) = (r.toNat, s) := fun s hs h4 hv => by
    have := ref_hit (bytesR r ++ t) s h4 (by rw [List.length_append]; omega) (by rw [hv, ← hs, List.take_left])
    rw [this.1, hv]
  obtain ⟨x, hx⟩ : ∃ x, bytesR r = x := ⟨_, rfl⟩
  have hl : (bytesR r).length ≤ 4 := by
    unfold bytesR
    repeat' split
    all_goals simp
  rw [hx] at key h hl ⊢
  obtain _ | ⟨a, _ | ⟨b, _ | ⟨c, _ | ⟨d, _ | ⟨e, y⟩⟩⟩⟩⟩ := x
  · exact absurd rfl h
  · have h1 := (bytesR_1 r a).1 hx
    refine ⟨key 1 rfl (by omega) ?_, by omega, by omega⟩
    simp [refVal, refGo, firstR]
    try omega
  · have h1 := (bytesR_2 r a b).1 hx
    refine ⟨key 2 rfl (by omega) ?_, by omega, by omega⟩
    simp [refVal, refGo, firstR]
    try omega
  · have h1 := (bytesR_3 r a b c).1 hx
    refine ⟨key 3 rfl (by omega) ?_, by omega, by omega⟩
    simp [refVal, refGo, firstR]
    try omega
  · have h1 := (bytesR_4 r a b c d).1 hx
    refine ⟨key 4 rfl (by omega) ?_, by omega, by omega⟩
    simp [refVal, refGo, firstR]
    try omega
  · simp at hl

end Go.Proofs.Ytedaaebmiodfpaa
