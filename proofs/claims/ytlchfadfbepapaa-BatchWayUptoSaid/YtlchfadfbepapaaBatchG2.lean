/-
  PURE: what is got is put as the same bytes. No program is named here.
-/
import Derived.Test.YtlchfadfbepapaaBatchG
namespace Go.Proofs.Ytlchfadfbepapaa
namespace bt
theorem leBytes_congr8 {n m : Nat} : ∀ (k : Nat), n % 2 ^ (8 * k) = m % 2 ^ (8 * k) → leBytes n k = leBytes m k
  | 0, _ => rfl
  | k + 1, h => by
    have e : 2 ^ (8 * (k + 1)) = 2 ^ (8 * k) * 256 := by rw [show 8 * (k + 1) = 8 * k + 8 from by omega, Nat.pow_add]
    rw [e, Nat.mod_mul, Nat.mod_mul] at h
    have hp : 0 < 2 ^ (8 * k) := Nat.pow_pos (by omega)
    have h1 : n % 2 ^ (8 * k) = m % 2 ^ (8 * k) := by
      have := congrArg (· % 2 ^ (8 * k)) h
      simpa [Nat.add_mul_mod_self_left, Nat.mod_mod] using this
    have h2 : n / 2 ^ (8 * k) % 256 = m / 2 ^ (8 * k) % 256 := by
      rw [h1] at h
      exact Nat.eq_of_mul_eq_mul_left hp (by omega)
    rw [leBytes, leBytes, leBytes_congr8 k h1]
    congr 2
    apply UInt8.toNat_inj.1
    rw [UInt8.toNat_ofNat', UInt8.toNat_ofNat']
    exact h2
theorem leBytes_val8 : ∀ (l : List UInt8) (k : Nat), l.length = k → leBytes (leVal l) k = l := by
  intro l k
  induction k generalizing l with
  | zero => intro h; rw [List.eq_nil_of_length_eq_zero h]; rfl
  | succ k ih =>
    intro h
    obtain ⟨r, x, rfl⟩ : ∃ r x, l = r ++ [x] := ⟨l.dropLast, l.getLast (fun e => by rw [e] at h; simp at h), (List.dropLast_concat_getLast _).symm⟩
    have hr : r.length = k := by simpa using h
    have hlt := leVal_lt r
    rw [hr] at hlt
    have hp : 0 < 2 ^ (8 * k) := Nat.pow_pos (by omega)
    rw [leVal_snoc, hr, leBytes, leBytes_congr8 (m := leVal r) k (by rw [Nat.mul_comm, Nat.add_mul_mod_self_left]), ih r hr]
    congr 2
    rw [Nat.mul_comm x.toNat, Nat.add_mul_div_left _ _ hp, Nat.div_eq_of_lt hlt, Nat.zero_add]
    simp
/-- a row that is read stands there -/
theorem getRow_back {b : List UInt8} {a : Nat} {most : Int} (h : (getRowR b a most).2.2 = 0) : (getRowR b a most).2.1 = ((a + 4 + (getRowR b a most).1.length : Nat) : Int) ∧ a + 4 + (getRowR b a most).1.length ≤ b.length ∧ b.drop a = leBytes (getRowR b a most).1.length 4 ++ (getRowR b a most).1 ++ b.drop (a + 4 + (getRowR b a most).1.length) := by
  by_cases hg : (getR b a 4).2 = 0
  · obtain ⟨q, hq⟩ : ∃ q, getR b a 4 = (q, 0) := ⟨_, Prod.ext rfl hg⟩
    obtain ⟨-, -, h4, hv⟩ := getR_ok hq
    by_cases h1 : most < (q : Int)
    · simp [getRowR, hq, h1] at h
    · by_cases h2 : (b.length : Int) < (a : Int) + 4 + q
      · simp [getRowR, hq, h1, h2] at h
      · have e : getRowR b a most = ((b.drop (a + 4)).take q, (a : Int) + 4 + q, 0) := by simp [getRowR, hq, h1, h2]
        have hl : ((b.drop (a + 4)).take q).length = q := by rw [List.length_take, List.length_drop]; omega
        rw [e]
        simp only [hl]
        refine ⟨by omega, by omega, ?_⟩
        have h5 : leBytes q 4 = (b.drop a).take 4 := by
          rw [hv]
          exact leBytes_val8 _ 4 (by rw [List.length_take, List.length_drop]; simp; omega)
        rw [h5]
        have e1 : (b.drop a).take 4 ++ b.drop (a + 4) = b.drop a := by rw [← List.drop_drop]; exact List.take_append_drop _ _
        have e2 : (b.drop (a + 4)).take q ++ b.drop (a + 4 + q) = b.drop (a + 4) := by rw [← List.drop_drop (i := q)]; exact List.take_append_drop _ _
        rw [List.append_assoc, e2, e1]
  · exact absurd (by simp [getRowR, hg] at h) (by trivial)
theorem getD_drop {b : List UInt8} {i : Nat} (h : i < b.length) : b.drop i = b.getD i 0 :: b.drop (i + 1) := by
  rw [List.drop_eq_getElem_cons h, List.getD_eq_getElem?_getD, List.getElem?_eq_getElem h]
  rfl
/-- a change that is read stands there -/
theorem one_back {b : List UInt8} {a : Nat} {x : C} {a' : Nat} (h : one b a = (0, x, a')) : b.drop a = chgB x ++ b.drop a' ∧ a' ≤ b.length := by
  unfold one at h
  by_cases h1 : (getRowR b a 16).2.2 = 0
  · obtain ⟨e1, e2, e3⟩ := getRow_back h1
    rw [if_neg (by simpa using h1), e1] at h
    obtain ⟨k, hk⟩ : ∃ k, (getRowR b a 16).1 = k := ⟨_, rfl⟩
    rw [hk] at h e1 e2 e3
    by_cases h2 : ((a + 4 + k.length : Nat) : Int) = b.length
    · rw [if_pos h2] at h
      simp at h
    · rw [if_neg h2, Int.toNat_natCast] at h
      have e4 := getD_drop (b := b) (i := a + 4 + k.length) (by omega)
      obtain ⟨f, hf⟩ : ∃ f, b.getD (a + 4 + k.length) 0 = f := ⟨_, rfl⟩
      rw [hf] at h e4
      by_cases h3 : 1 < f
      · rw [if_pos h3] at h
        simp at h
      · rw [if_neg h3] at h
        by_cases h4 : f = 1
        · rw [if_pos h4] at h
          cases h
          refine ⟨?_, by omega⟩
          rw [e3, e4, h4]
          simp [chgB]
        · rw [if_neg h4] at h
          have hf0 : f = 0 := by
            have : f.toNat = 0 := by
              have a1 : ¬ (1 : UInt8).toNat < f.toNat := h3
              have a2 : f.toNat ≠ 1 := fun e => h4 (UInt8.toNat_inj.1 e)
              have a3 : (1 : UInt8).toNat = 1 := rfl
              omega
            exact UInt8.toNat_inj.1 this
          by_cases h5 : (getRowR b ((a + 4 + k.length + 1 : Nat) : Int) 1048576).2.2 = 0
          · obtain ⟨d1, d2, d3⟩ := getRow_back h5
            rw [if_neg (by simpa using h5), d1, Int.toNat_natCast] at h
            cases h
            refine ⟨?_, d2⟩
            rw [e3, e4, hf0, d3]
            simp [chgB]
          · rw [if_pos h5] at h
            exact absurd (congrArg Prod.fst h) h5
  · rw [if_pos h1] at h
    exact absurd (congrArg Prod.fst h) h1
theorem getN_back {b : List UInt8} : ∀ (n a : Nat) (acc l : List C), getN b n a acc = (l, 0) → ∃ r, l = acc ++ r ∧ r.length = n ∧ b.drop a = r.flatMap chgB ∧ (0 < n → mayC l = true)
  | 0, a, acc, l, h => by
    unfold getN at h
    by_cases h1 : a = b.length
    · rw [if_pos h1] at h
      cases h
      exact ⟨[], by simp, rfl, by rw [h1]; simp, fun h => absurd h (by omega)⟩
    · rw [if_neg h1] at h
      simp at h
  | n + 1, a, acc, l, h => by
    unfold getN at h
    by_cases h1 : (one b a).1 = 0
    · rw [if_neg (by simpa using h1)] at h
      obtain ⟨x, a', hx⟩ : ∃ x a', one b a = (0, x, a') := ⟨_, _, Prod.ext h1 rfl⟩
      rw [hx] at h
      simp only at h
      by_cases h2 : mayC (acc ++ [x]) = true
      · rw [if_pos h2] at h
        obtain ⟨r, e1, e2, e3, e4⟩ := getN_back n a' _ _ h
        refine ⟨x :: r, by rw [e1]; simp, by simp [e2], ?_, fun _ => ?_⟩
        · rw [(one_back hx).1, e3]
          simp
        · by_cases hn : 0 < n
          · exact e4 hn
          · have : r = [] := List.length_eq_zero_iff.1 (by omega)
            rw [e1, this, List.append_nil]
            exact h2
      · rw [if_neg h2] at h
        simp at h
    · rw [if_pos h1] at h
      exact absurd (congrArg Prod.snd h) h1
/-- what is got is put as the same bytes -/
theorem bytes_get {b : List UInt8} {l : List C} (h : get b = (l, 0)) : bytes l = b ∧ mayC l = true ∧ l.length < 4294967296 := by
  unfold get at h
  by_cases h1 : (getR b 0 4).2 = 0
  · rw [if_neg (by simpa using h1)] at h
    obtain ⟨q, hq⟩ : ∃ q, getR b 0 4 = (q, 0) := ⟨_, Prod.ext rfl h1⟩
    rw [hq] at h
    obtain ⟨r, e1, e2, e3, e4⟩ := getN_back _ _ _ _ h
    obtain ⟨-, -, h4, hv⟩ := getR_ok hq
    obtain ⟨-, -, h5⟩ := getR_ok4 hq
    rw [List.nil_append] at e1
    subst e1
    refine ⟨?_, ?_, by simp only at e2; omega⟩
    · have h6 : leBytes q 4 = b.take 4 := by
        rw [hv]
        exact leBytes_val8 _ 4 (by rw [List.length_take, List.length_drop]; simp; omega)
      unfold bytes
      simp only at e2
      rw [e2, h6, ← e3]
      exact List.take_append_drop _ _
    · by_cases hn : 0 < q
      · exact e4 hn
      · have : l = [] := List.length_eq_zero_iff.1 (by simp only at e2; omega)
        rw [this]
        rfl
  · rw [if_pos h1] at h
    exact absurd (congrArg Prod.snd h) h1
end bt
end Go.Proofs.Ytlchfadfbepapaa
