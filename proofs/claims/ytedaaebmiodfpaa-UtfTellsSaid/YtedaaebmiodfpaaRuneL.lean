/-
  WHAT IS TRUE OF RUNES: a rune's bytes begin with it; how the document's number is held against its own bytes; texts behind each other.
-/
import Derived.Test.YtedaaebmiodfpaaRune
namespace Go.Proofs.Ytedaaebmiodfpaa
open Go.RowKit

theorem ofNat_eq {n : Nat} {x : UInt8} (hn : n < 256) : UInt8.ofNat n = x ↔ n = x.toNat := by
  constructor
  · rintro rfl
    simp
    omega
  · intro h
    apply UInt8.toNat_inj.1
    simp
    omega

theorem bytesR_1 (r : Int) (a : UInt8) : bytesR r = [a] ↔ (1 ≤ r ∧ r < 128 ∧ r = a.toNat) := by
  unfold bytesR
  constructor
  · intro h
    repeat' split at h
    all_goals simp at h
    subst h
    simp
    omega
  · rintro ⟨h1, h2, h3⟩
    rw [if_neg (by omega), if_pos h2]
    congr 1
    rw [ofNat_eq (by omega)]
    omega
theorem bytesR_2 (r : Int) (a b : UInt8) : bytesR r = [a, b] ↔ (128 ≤ r ∧ r < 2048 ∧ 192 + r / 64 = a.toNat ∧ 128 + r % 64 = b.toNat) := by
  unfold bytesR
  constructor
  · intro h
    repeat' split at h
    all_goals simp only [List.cons.injEq, and_false, and_true, List.nil_eq, List.cons_ne_nil] at h
    obtain ⟨h1, h2⟩ := h
    rw [ofNat_eq (by omega)] at h1 h2
    omega
  · rintro ⟨h1, h2, h3, h4⟩
    rw [if_neg (by omega), if_neg (by omega), if_pos h2]
    simp only [List.cons.injEq, and_true]
    rw [ofNat_eq (by omega), ofNat_eq (by omega)]
    omega
theorem bytesR_3 (r : Int) (a b c : UInt8) : bytesR r = [a, b, c] ↔ (2048 ≤ r ∧ r < 65536 ∧ ¬ (55296 ≤ r ∧ r ≤ 57343) ∧ 224 + r / 4096 = a.toNat ∧ 128 + r / 64 % 64 = b.toNat ∧ 128 + r % 64 = c.toNat) := by
  unfold bytesR
  constructor
  · intro h
    repeat' split at h
    all_goals simp only [List.cons.injEq, and_false, and_true, List.nil_eq, List.cons_ne_nil] at h
    obtain ⟨h1, h2, h3⟩ := h
    rw [ofNat_eq (by omega)] at h1 h2 h3
    omega
  · rintro ⟨h1, h2, h3, h4, h5, h6⟩
    rw [if_neg (by omega), if_neg (by omega), if_neg (by omega), if_pos h2]
    simp only [List.cons.injEq, and_true]
    rw [ofNat_eq (by omega), ofNat_eq (by omega), ofNat_eq (by omega)]
    omega
theorem bytesR_4 (r : Int) (a b c d : UInt8) : bytesR r = [a, b, c, d] ↔ (65536 ≤ r ∧ r ≤ 1114111 ∧ 240 + r / 262144 = a.toNat ∧ 128 + r / 4096 % 64 = b.toNat ∧ 128 + r / 64 % 64 = c.toNat ∧ 128 + r % 64 = d.toNat) := by
  unfold bytesR
  constructor
  · intro h
    repeat' split at h
    all_goals simp only [List.cons.injEq, and_false, and_true, List.nil_eq, List.cons_ne_nil] at h
    obtain ⟨h1, h2, h3, h4⟩ := h
    rw [ofNat_eq (by omega)] at h1 h2 h3 h4
    omega
  · rintro ⟨h1, h2, h3, h4, h5, h6⟩
    rw [if_neg (by omega), if_neg (by omega), if_neg (by omega), if_neg (by omega)]
    simp only [List.cons.injEq, and_true]
    rw [ofNat_eq (by omega), ofNat_eq (by omega), ofNat_eq (by omega), ofNat_eq (by omega)]
    omega

/-- the number that stands in bytes, of so many more -/
def refGo : Int → Nat → List UInt8 → Int
  | r, 0, _ => r
  | r, _ + 1, [] => r
  | r, k + 1, c :: t => refGo (64 * r + (c.toNat - 128)) k t
def firstR (s : Nat) : Int := if s = 2 then 192 else if s = 3 then 224 else if s = 4 then 240 else 0
def refVal (l : List UInt8) (s : Nat) : Int := match l with
  | [] => 0
  | a :: t => refGo (a.toNat - firstR s) (s - 1) t

theorem goodRune_iff (x r : Nat) : goodRune x r = true ↔ (x ≤ r ∧ r ≤ 1114111 ∧ ¬ (55296 ≤ r ∧ r ≤ 57343)) := by
  simp only [goodRune, Bool.and_eq_true, decide_eq_true_eq, Bool.not_eq_true', Bool.and_eq_false_iff, decide_eq_false_iff_not]
  omega

/-- a size at which the number's own bytes stand is the rune's -/
theorem ref_hit (l : List UInt8) (s : Nat) (hs : 1 ≤ s ∧ s ≤ 4) (hl : s ≤ l.length) (h : bytesR (refVal l s) = l.take s) : runeR l = ((refVal l s).toNat, s) ∧ 0 ≤ refVal l s := by
  rcases (show s = 1 ∨ s = 2 ∨ s = 3 ∨ s = 4 by omega) with rfl | rfl | rfl | rfl
  · obtain _ | ⟨a, t⟩ := l
    · simp at hl
    simp only [refVal, refGo, firstR, List.take_succ_cons, List.take_zero, Nat.sub_self] at h ⊢
    rw [bytesR_1] at h
    simp at h
    have hb : beginR a.toNat = (a.toNat, 1, 1) := by simp [beginR]; omega
    simp [runeR, hb, runeGo, goodRune]
    omega
  · obtain _ | ⟨a, _ | ⟨b, t⟩⟩ := l
    · simp at hl
    · simp at hl
    simp only [refVal, refGo, firstR, List.take_succ_cons, List.take_zero] at h ⊢
    try simp only [Nat.add_one_sub_one, refGo] at h ⊢
    rw [bytesR_2] at h
    simp at h
    have hb : beginR a.toNat = (a.toNat % 32, 2, 128) := by
      unfold beginR
      rw [if_neg (by omega), if_neg (by omega), if_pos (by omega)]
    have hbb : 128 ≤ b.toNat ∧ b.toNat < 192 := by omega
    have hg : goodRune 128 (64 * (a.toNat % 32) + b.toNat % 64) = true := by rw [goodRune_iff]; omega
    simp [runeR, hb, runeGo, hbb, hg]
    omega
  · obtain _ | ⟨a, _ | ⟨b, _ | ⟨c, t⟩⟩⟩ := l
    · simp at hl
    · simp at hl
    · simp at hl
    simp only [refVal, refGo, firstR, List.take_succ_cons, List.take_zero] at h ⊢
    try simp only [Nat.add_one_sub_one, refGo] at h ⊢
    rw [bytesR_3] at h
    simp at h
    have hb : beginR a.toNat = (a.toNat % 16, 3, 2048) := by
      unfold beginR
      rw [if_neg (by omega), if_neg (by omega), if_neg (by omega), if_pos (by omega)]
    have hbb : 128 ≤ b.toNat ∧ b.toNat < 192 := by omega
    have hcc : 128 ≤ c.toNat ∧ c.toNat < 192 := by omega
    have hg : goodRune 2048 (64 * (64 * (a.toNat % 16) + b.toNat % 64) + c.toNat % 64) = true := by rw [goodRune_iff]; omega
    simp [runeR, hb, runeGo, hbb, hcc, hg]
    omega
  · obtain _ | ⟨a, _ | ⟨b, _ | ⟨c, _ | ⟨d, t⟩⟩⟩⟩ := l
    · simp at hl
    · simp at hl
    · simp at hl
    · simp at hl
    simp only [refVal, refGo, firstR, List.take_succ_cons, List.take_zero] at h ⊢
    try simp only [Nat.add_one_sub_one, refGo] at h ⊢
    rw [bytesR_4] at h
    simp at h
    have hb : beginR a.toNat = (a.toNat % 8, 4, 65536) := by
      unfold beginR
      rw [if_neg (by omega), if_neg (by omega), if_neg (by omega), if_neg (by omega), if_pos (by omega)]
    have hbb : 128 ≤ b.toNat ∧ b.toNat < 192 := by omega
    have hcc : 128 ≤ c.toNat ∧ c.toNat < 192 := by omega
    have hdd : 128 ≤ d.toNat ∧ d.toNat < 192 := by omega
    have hg : goodRune 65536 (64 * (64 * (64 * (a.toNat % 8) + b.toNat % 64) + c.toNat % 64) + d.toNat % 64) = true := by rw [goodRune_iff]; omega
    simp [runeR, hb, runeGo, hbb, hcc, hdd, hg]
    omega

theorem runeGo_inv : ∀ (k r v : Nat) (t : List UInt8), runeGo r (k + 1) t = some v → ∃ c t', t = c :: t' ∧ 128 ≤ c.toNat ∧ c.toNat < 192 ∧ runeGo (64 * r + c.toNat % 64) k t' = some v
  | k, r, v, [], h => by simp [runeGo] at h
  | k, r, v, c :: t', h => by
    simp only [runeGo] at h
    split at h
    · rename_i hc
      exact ⟨c, t', rfl, hc.1, hc.2, h⟩
    · cases h

/-- a rune that bytes begin with has these bytes -/
theorem rune_bytes (l : List UInt8) (r s : Nat) (h : runeR l = (r, s)) : (s = 0 ∧ r = 0) ∨ (1 ≤ s ∧ s ≤ 4 ∧ s ≤ l.length ∧ refVal l s = r ∧ bytesR r = l.take s) := by
  obtain _ | ⟨a, t⟩ := l
  · simp [runeR] at h
    omega
  simp only [runeR] at h
  split at h
  · simp at h
    omega
  · rename_i hs
    split at h
    · simp at h
      omega
    · rename_i v hv
      split at h
      · rename_i hg
        simp only [Prod.mk.injEq] at h
        obtain ⟨rfl, rfl⟩ := h
        right
        rw [goodRune_iff] at hg
        unfold beginR at hs hv hg ⊢
        split at hs
        · rename_i h1
          simp only [h1, if_true, Nat.sub_self, runeGo, Option.some.injEq] at hv hg ⊢
          subst hv
          refine ⟨by omega, by omega, by simp, by simp [refVal, refGo, firstR], ?_⟩
          rw [List.take_succ_cons, List.take_zero, bytesR_1]
          omega
        · rename_i h1
          split at hs
          · exact absurd rfl hs
          · rename_i h2
            split at hs
            · rename_i h3
              simp only [h1, h2, h3, if_true, if_false, Nat.add_one_sub_one] at hv hg ⊢
              obtain ⟨b, t, rfl, hb1, hb2, hv⟩ := runeGo_inv _ _ _ _ hv
              simp only [runeGo, Option.some.injEq] at hv
              subst hv
              refine ⟨by omega, by omega, by simp, ?_, ?_⟩
              · simp only [refVal, Nat.add_one_sub_one, refGo, firstR, if_true]
                omega
              · rw [List.take_succ_cons, List.take_succ_cons, List.take_zero, bytesR_2]
                omega
            · rename_i h3
              split at hs
              · rename_i h4
                simp only [h1, h2, h3, h4, if_true, if_false, Nat.add_one_sub_one] at hv hg ⊢
                obtain ⟨b, t, rfl, hb1, hb2, hv⟩ := runeGo_inv _ _ _ _ hv
                obtain ⟨c, t, rfl, hc1, hc2, hv⟩ := runeGo_inv _ _ _ _ hv
                simp only [runeGo, Option.some.injEq] at hv
                subst hv
                refine ⟨by omega, by omega, by simp, ?_, ?_⟩
                · simp only [refVal, Nat.add_one_sub_one, refGo, firstR]
                  simp
                  omega
                · rw [List.take_succ_cons, List.take_succ_cons, List.take_succ_cons, List.take_zero, bytesR_3]
                  omega
              · rename_i h4
                split at hs
                · rename_i h5
                  simp only [h1, h2, h3, h4, h5, if_true, if_false, Nat.add_one_sub_one] at hv hg ⊢
                  obtain ⟨b, t, rfl, hb1, hb2, hv⟩ := runeGo_inv _ _ _ _ hv
                  obtain ⟨c, t, rfl, hc1, hc2, hv⟩ := runeGo_inv _ _ _ _ hv
                  obtain ⟨d, t, rfl, hd1, hd2, hv⟩ := runeGo_inv _ _ _ _ hv
                  simp only [runeGo, Option.some.injEq] at hv
                  subst hv
                  refine ⟨by omega, by omega, by simp, ?_, ?_⟩
                  · simp only [refVal, Nat.add_one_sub_one, refGo, firstR]
                    simp
                    omega
                  · rw [List.take_succ_cons, List.take_succ_cons, List.take_succ_cons, List.take_succ_cons, List.take_zero, bytesR_4]
                    omega
                · exact absurd rfl hs
      · simp at h
        omega

end Go.Proofs.Ytedaaebmiodfpaa
