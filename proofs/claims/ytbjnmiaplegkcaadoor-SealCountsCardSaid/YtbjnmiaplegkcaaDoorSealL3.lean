/-
  PURE: blocks that were begun, one behind the other: what is sealed of them.
-/
import Derived.Test.YtbjnmiaplegkcaaDoorSealL2
namespace Go.Proofs.YtbjnmiaplegkcaaDoor
open Go.RowKit
namespace sl
/-- of the first j numbers above F these were put (was, num), and begun over each other: b -/
structure Hist (F j : Nat) (was : List Blk) (b : Blk) (num : Nat → Nat) : Prop where
  mix : Mix was b
  sealed : ∀ i, i < was.length → ∃ body : List UInt8, body.length ≤ 108 ∧ was.getD i dk.zero = sealB (num i) body
  lo : ∀ i, i < was.length → F < num i ∧ num i ≤ F + j
  mono : ∀ i i', i < i' → i' < was.length → num i < num i'
theorem Hist.start (F : Nat) : Hist F 0 [] dk.zero (fun _ => 0) := ⟨Mix.none_, fun i h => by simp at h, fun i h => by simp at h, fun i i' _ h => by simp at h⟩
theorem Hist.skip {F j : Nat} {was : List Blk} {b : Blk} {num : Nat → Nat} (h : Hist F j was b num) : Hist F (j + 1) was b num :=
  ⟨h.mix, h.sealed, fun i hi => by have := h.lo i hi; omega, h.mono⟩
theorem getD_snoc {was : List Blk} {x : Blk} {i : Nat} (h : i < was.length) : (was ++ [x]).getD i dk.zero = was.getD i dk.zero := by
  rw [List.getD_eq_getElem?_getD, List.getD_eq_getElem?_getD, List.getElem?_append_left h]
theorem getD_last {was : List Blk} {x : Blk} : (was ++ [x]).getD was.length dk.zero = x := by
  rw [List.getD_eq_getElem?_getD, List.getElem?_append_right (Nat.le_refl _), Nat.sub_self]
  rfl
theorem Hist.step {F j : Nat} {was : List Blk} {b : Blk} {num : Nat → Nat} (h : Hist F j was b num) {body : List UInt8} (hb : body.length ≤ 108) (at_ : Int) :
    Hist F (j + 1) (was ++ [sealB (F + j + 1) body]) (dk.torn b (sealB (F + j + 1) body) at_) (fun i => if i < was.length then num i else F + j + 1) := by
  refine ⟨h.mix.step (seal_length _ hb) at_, fun i hi => ?_, fun i hi => ?_, fun i i' hii hi => ?_⟩
  · simp at hi
    by_cases hl : i < was.length
    · obtain ⟨body', h1, h2⟩ := h.sealed i hl
      exact ⟨body', h1, by rw [getD_snoc hl, if_pos hl]; exact h2⟩
    · obtain rfl : i = was.length := by omega
      exact ⟨body, hb, by rw [getD_last, if_neg hl]⟩
  · simp at hi
    by_cases hl : i < was.length
    · have := h.lo i hl
      simp only [if_pos hl]
      omega
    · simp only [if_neg hl]
      omega
  · simp at hi
    by_cases hl : i' < was.length
    · simp only [if_pos hl, if_pos (show i < was.length by omega)]
      exact h.mono i i' hii hl
    · have := h.lo i (by omega)
      simp only [if_neg hl, if_pos (show i < was.length by omega)]
      omega
theorem Hist.whole {F j : Nat} {was : List Blk} {b : Blk} {num : Nat → Nat} (h : Hist F j was b num) (hF : F < 1152921504606846976) (hj : j ≤ 12) : (get b).2.2 = 0 ↔ ∃ i, i < was.length ∧ b = was.getD i dk.zero := by
  constructor
  · intro hok
    refine h.mix.whole (num := num) ⟨h.sealed, fun i hi => by have := h.lo i hi; omega, fun i hi => by have := h.lo i hi; omega, fun i i' hi hi' => by have := h.lo i hi; have := h.lo i' hi'; omega, fun i i' hi hi' e => ?_⟩ hok
    rcases Nat.lt_trichotomy i i' with hl | hl | hl
    · have := h.mono i i' hl hi'; omega
    · exact hl
    · have := h.mono i' i hl hi; omega
  · rintro ⟨i, hi, e⟩
    obtain ⟨body, hb, hs⟩ := h.sealed i hi
    have := h.lo i hi
    rw [e, hs, get_seal (by omega) (by omega) hb]
end sl
end Go.Proofs.YtbjnmiaplegkcaaDoor
