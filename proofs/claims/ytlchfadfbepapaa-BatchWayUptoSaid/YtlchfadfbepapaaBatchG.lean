/-
  PURE: a batch that is read. No program is named here.
-/
import Derived.Test.YtlchfadfbepapaaBatchP
namespace Go.Proofs.Ytlchfadfbepapaa
theorem leVal_leBytes8 (n : Nat) : ∀ k, leVal (leBytes n k) = n % 2 ^ (8 * k)
  | 0 => by simp [leBytes, leVal, Nat.mod_one]
  | k + 1 => by
    rw [leBytes, leVal_snoc, leVal_leBytes8 n k, leBytes_length, UInt8.toNat_ofNat', show 8 * (k + 1) = 8 * k + 8 from by omega, Nat.pow_add, Nat.mod_mul]
    rw [Nat.mul_comm (n / 2 ^ (8 * k) % 2 ^ 8)]
theorem getR_at8 (X Y : List UInt8) (m k : Nat) (h : putOk m k = true) : getR (X ++ leBytes m k ++ Y) X.length k = (m, 0) := by
  simp only [putOk, Bool.and_eq_true, decide_eq_true_eq, Int.toNat_natCast] at h
  have h1 : (0 : Int) ≤ (X.length : Int) ∧ (X.length : Int) ≤ ((X ++ leBytes m k ++ Y).length : Int) := by simp; omega
  have h2 : (X.length : Int) + (k : Int) ≤ ((X ++ leBytes m k ++ Y).length : Int) := by simp [leBytes_length]; omega
  have h3 : ((X ++ leBytes m k ++ Y).drop X.length).take k = leBytes m k := by
    rw [List.append_assoc, List.drop_left, List.take_left' (leBytes_length m k)]
  simp only [getR, h.1, decide_eq_true h1, Bool.and_self, if_true, if_pos h2, Int.toNat_natCast, h3, leVal_leBytes8]
  rw [Nat.mod_eq_of_lt (by have := h.2; rwa [show (256 : Nat) ^ k = 2 ^ (8 * k) from by rw [Nat.pow_mul]] at this)]
theorem getRowR_at8 (X R Y : List UInt8) (most : Int) (hR : R.length < 4294967296) (hm : (R.length : Int) ≤ most) : getRowR (X ++ (leBytes R.length 4 ++ R) ++ Y) X.length most = (R, (X.length : Int) + 4 + R.length, 0) := by
  have hp : putOk R.length (4 : Nat) = true := by simp [putOk, isSz]; omega
  have hg := getR_at8 X (R ++ Y) R.length 4 hp
  have e : X ++ leBytes R.length 4 ++ (R ++ Y) = X ++ (leBytes R.length 4 ++ R) ++ Y := by simp
  rw [e] at hg
  have hg' : getR (X ++ (leBytes R.length 4 ++ R) ++ Y) X.length 4 = (R.length, 0) := hg
  have h1 : ¬ most < ((R.length : Nat) : Int) := by omega
  have h2 : ¬ (((X ++ (leBytes R.length 4 ++ R) ++ Y).length : Int) < (X.length : Int) + 4 + (R.length : Int)) := by simp [leBytes_length]; omega
  have h3 : ((X ++ (leBytes R.length 4 ++ R) ++ Y).drop (X.length + 4)).take R.length = R := by
    rw [← e, List.append_assoc, ← List.drop_drop, List.drop_left, List.drop_left' (leBytes_length _ _), List.take_left]
  simp only [getRowR, hg', if_neg h1, if_neg h2, Int.toNat_natCast, h3]
  simp
namespace bt
/-- one change, read at a place: its error, it, the place behind it -/
def one (b : List UInt8) (at_ : Nat) : Int × C × Nat :=
  let g := getRowR b at_ 16
  if g.2.2 ≠ 0 then (g.2.2, default, 0)
  else if g.2.1 = b.length then (4, default, 0)
  else if 1 < b.getD g.2.1.toNat 0 then (5, default, 0)
  else if b.getD g.2.1.toNat 0 = 1 then (0, ⟨g.1, [], true⟩, g.2.1.toNat + 1)
  else let v := getRowR b ((g.2.1.toNat + 1 : Nat) : Int) 1048576
    if v.2.2 ≠ 0 then (v.2.2, default, 0) else (0, ⟨g.1, v.1, false⟩, v.2.1.toNat)
/-- so many changes, from a place on -/
def getN (b : List UInt8) : Nat → Nat → List C → List C × Int
  | 0, at_, acc => if at_ = b.length then (acc, 0) else ([], 5)
  | n + 1, at_, acc =>
    if (one b at_).1 ≠ 0 then ([], (one b at_).1)
    else if mayC (acc ++ [(one b at_).2.1]) then getN b n (one b at_).2.2 (acc ++ [(one b at_).2.1]) else ([], 5)
/-- what Get answers -/
def get (b : List UInt8) : List C × Int := if (getR b 0 4).2 ≠ 0 then ([], (getR b 0 4).2) else getN b (getR b 0 4).1 4 []
theorem one_at (X Y : List UInt8) (x : C) (hk : x.key.length ≤ 16) (hv : x.val.length ≤ 1048576) (hg : x.gone = true → x.val = []) : one (X ++ chgB x ++ Y) X.length = (0, x, X.length + (chgB x).length) := by
  obtain ⟨k, v, gn⟩ := x
  simp only at hk hv hg
  cases gn with
  | true =>
    obtain rfl := hg rfl
    have hb : X ++ chgB ⟨k, [], true⟩ ++ Y = X ++ (leBytes k.length 4 ++ k) ++ (1 :: Y) := by simp [chgB]
    have h1 := getRowR_at8 X k (1 :: Y) 16 (by omega) (by omega)
    have hl : (chgB ⟨k, [], true⟩).length = 4 + k.length + 1 := by simp [chgB, leBytes_length]; omega
    have hne : ¬ ((X.length : Int) + 4 + k.length = ((X ++ (leBytes k.length 4 ++ k) ++ (1 :: Y)).length : Int)) := by simp [leBytes_length]; omega
    have ht : ((X.length : Int) + 4 + k.length).toNat = (X ++ (leBytes k.length 4 ++ k)).length := by simp [leBytes_length]; omega
    have hd : (X ++ (leBytes k.length 4 ++ k) ++ (1 :: Y)).getD ((X.length : Int) + 4 + k.length).toNat 0 = 1 := by
      rw [ht, List.getD_eq_getElem?_getD, List.getElem?_append_right (Nat.le_refl _), Nat.sub_self]
      rfl
    rw [hb, hl]
    unfold one
    simp only [h1, hd, if_neg hne]
    have : ((X.length : Int) + 4 + k.length).toNat + 1 = X.length + (4 + k.length + 1) := by omega
    rw [this]
    simp
  | false =>
    have hb : X ++ chgB ⟨k, v, false⟩ ++ Y = X ++ (leBytes k.length 4 ++ k) ++ (0 :: (leBytes v.length 4 ++ v ++ Y)) := by simp [chgB]
    have hb2 : X ++ (leBytes k.length 4 ++ k) ++ (0 :: (leBytes v.length 4 ++ v ++ Y)) = (X ++ (leBytes k.length 4 ++ k) ++ [0]) ++ (leBytes v.length 4 ++ v) ++ Y := by simp
    have h1 := getRowR_at8 X k (0 :: (leBytes v.length 4 ++ v ++ Y)) 16 (by omega) (by omega)
    have h2 := getRowR_at8 (X ++ (leBytes k.length 4 ++ k) ++ [0]) v Y 1048576 (by omega) (by omega)
    rw [← hb2] at h2
    have hl : (chgB ⟨k, v, false⟩).length = 4 + k.length + 1 + 4 + v.length := by simp [chgB, leBytes_length]; omega
    have hne : ¬ ((X.length : Int) + 4 + k.length = ((X ++ (leBytes k.length 4 ++ k) ++ (0 :: (leBytes v.length 4 ++ v ++ Y))).length : Int)) := by simp [leBytes_length]; omega
    have ht : ((X.length : Int) + 4 + k.length).toNat = (X ++ (leBytes k.length 4 ++ k)).length := by simp [leBytes_length]; omega
    have hd : (X ++ (leBytes k.length 4 ++ k) ++ (0 :: (leBytes v.length 4 ++ v ++ Y))).getD ((X.length : Int) + 4 + k.length).toNat 0 = 0 := by
      rw [ht, List.getD_eq_getElem?_getD, List.getElem?_append_right (Nat.le_refl _), Nat.sub_self]
      rfl
    have hp : ((((X.length : Int) + 4 + k.length).toNat + 1 : Nat) : Int) = ((X ++ (leBytes k.length 4 ++ k) ++ [0]).length : Int) := by simp [leBytes_length]; omega
    rw [hb, hl]
    unfold one
    simp only [h1, hd, if_neg hne, hp, h2]
    have hq : (((X ++ (leBytes k.length 4 ++ k) ++ [0]).length : Int) + 4 + v.length).toNat = X.length + (4 + k.length + 1 + 4 + v.length) := by simp [leBytes_length]; omega
    rw [hq]
    simp
theorem mayC_front : ∀ (a b : List C) (p : Option Key), mayCFrom p (a ++ b) = true → mayCFrom p a = true
  | [], _, _, _ => by unfold mayCFrom; rfl
  | x :: a, b, p, h => by
    rw [List.cons_append] at h
    unfold mayCFrom at h ⊢
    simp only [Bool.and_eq_true] at h ⊢
    exact ⟨h.1, mayC_front a b _ h.2⟩
theorem mayC_gone : ∀ (l : List C) (p : Option Key), mayCFrom p l = true → ∀ x ∈ l, x.gone = true → x.val = []
  | [], _, _, x, hx, _ => by cases hx
  | y :: l, p, h, x, hx, hg => by
    unfold mayCFrom at h
    simp only [Bool.and_eq_true, Bool.or_eq_true, decide_eq_true_eq] at h
    rcases List.mem_cons.1 hx with rfl | hx
    · rcases h.1.2 with h1 | h1
      · rw [hg] at h1; cases h1
      · exact h1
    · exact mayC_gone l _ h.2 x hx hg
theorem getN_at : ∀ (r acc : List C) (pre : List UInt8), mayC (acc ++ r) = true → getN (pre ++ r.flatMap chgB) r.length pre.length acc = (acc ++ r, 0)
  | [], acc, pre, _ => by simp [getN]
  | x :: r, acc, pre, h => by
    have hm := mayC_all _ none h x (by simp)
    have h1 := one_at pre (r.flatMap chgB) x hm.1 hm.2 (mayC_gone _ none h x (by simp))
    have e : pre ++ (x :: r).flatMap chgB = pre ++ chgB x ++ r.flatMap chgB := by simp
    have h2 : mayC (acc ++ [x]) = true := mayC_front (acc ++ [x]) r none (by rw [List.append_assoc]; exact h)
    have h3 := getN_at r (acc ++ [x]) (pre ++ chgB x) (by simpa using h)
    rw [e, List.length_cons, getN, h1, if_neg (by simp), if_pos h2]
    rw [List.length_append] at h3
    rw [h3]
    simp
/-- what is put is got -/
theorem get_bytes {l : List C} (h : mayC l = true) (hn : l.length < 4294967296) : get (bytes l) = (l, 0) := by
  have hp : putOk l.length (4 : Nat) = true := by simp [putOk, isSz]; omega
  have h1 : getR (bytes l) 0 4 = (l.length, 0) := by
    have := getR_at8 [] (l.flatMap chgB) l.length 4 hp
    simpa [bytes] using this
  unfold get
  rw [h1, if_neg (by simp)]
  have := getN_at l [] (leBytes l.length 4) (by simpa using h)
  rw [leBytes_length] at this
  simpa [bytes] using this
end bt
end Go.Proofs.Ytlchfadfbepapaa
