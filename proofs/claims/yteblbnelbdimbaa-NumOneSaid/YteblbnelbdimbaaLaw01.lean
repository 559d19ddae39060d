/-
  THE WALKS OF cardexlaw01's LAWS: each answers true.
-/
import Derived.Test.YteblbnelbdimbaaLives
namespace Go.Proofs.Yteblbnelbdimbaa
open Go.RowKit

theorem u32_nat {a : Int} (w : (Lit.int .u32 a).wf = true) : ∃ n : Nat, a = n ∧ n < 4294967296 := by
  have hx : 0 ≤ a ∧ a ≤ 4294967295 := by simpa [Lit.wf, IntKind.min, IntKind.max, IntKind.signed, IntKind.bits] using w
  exact ⟨a.toNat, by omega, by omega⟩
theorem u64_nat' {a : Int} (w : (Lit.int .u64 a).wf = true) : ∃ n : Nat, a = n ∧ n < 18446744073709551616 := by
  have hx : 0 ≤ a ∧ a ≤ 18446744073709551615 := by simpa [Lit.wf, IntKind.min, IntKind.max, IntKind.signed, IntKind.bits] using w
  exact ⟨a.toNat, by omega, by omega⟩
theorem i64_range {a : Int} (w : (Lit.int .i64 a).wf = true) : -9223372036854775808 ≤ a ∧ a ≤ 9223372036854775807 := by
  simpa [Lit.wf, IntKind.min, IntKind.max, IntKind.signed, IntKind.bits] using w

theorem grp_toNat (n k : Nat) : (grp n k).toNat = n / 2 ^ (7 * k) % 128 + 128 := by
  simp only [grp, UInt8.toNat_ofNat']
  omega
theorem range_grp (n k : Nat) : ((List.range (k + 1)).map fun i => grp n (k + 1 - i)) = grp n (k + 1) :: ((List.range k).map fun i => grp n (k - i)) := by
  rw [List.range_succ_eq_map, List.map_cons, List.map_map]
  congr 1
  apply List.map_congr_left
  intro i _
  show grp n (k + 1 - (i + 1)) = _
  rw [Nat.add_sub_add_right]
theorem mark_go (n : Nat) (hn : n < 4294967296) (r : List UInt8) : ∀ (k i q : Nat), q = n / 2 ^ (7 * (k + 1)) → (i = 0 → k = 0 ∨ n / 2 ^ (7 * k) % 128 ≠ 0) →
    markGo (((List.range k).map fun i => grp n (k - i)) ++ [UInt8.ofNat (n % 128)] ++ r) i q = (n, i + k + 1, 0)
  | 0, i, q, hq, hi => by
    have h1 : (UInt8.ofNat (n % 128)).toNat = n % 128 := by simp only [UInt8.toNat_ofNat']; omega
    have h2 : q * 128 + n % 128 = n := by rw [hq]; simp only [Nat.zero_add, Nat.mul_one, show (2 : Nat) ^ 7 = 128 from rfl]; omega
    simp only [List.range_zero, List.map_nil, List.nil_append, List.singleton_append, markGo, h1, Nat.mod_mod, h2]
    rw [if_neg (by omega), if_neg (by omega), if_pos (by omega)]
  | k + 1, i, q, hq, hi => by
    have h1 := grp_toNat n (k + 1)
    have hm : n / 2 ^ (7 * (k + 1)) ≤ n := Nat.div_le_self _ _
    have h2 : q = n / 2 ^ (7 * (k + 1)) / 128 := by
      rw [hq, Nat.div_div_eq_div_mul, show 7 * (k + 1 + 1) = 7 * (k + 1) + 7 from by omega, Nat.pow_add]
    generalize hmm : n / 2 ^ (7 * (k + 1)) = m at *
    have h3 : (m % 128 + 128) % 128 = m % 128 := by omega
    have h4 : q * 128 + m % 128 = m := by omega
    rw [range_grp, List.cons_append, List.cons_append]
    simp only [markGo, h1, h3, h4]
    rw [if_neg (by omega), if_neg (by omega), if_neg (by omega)]
    rw [mark_go n hn r k (i + 1) m hmm.symm (by omega)]
    congr 2
    omega
/-- what was marked is read -/
theorem mark_parse (n : Nat) (hn : n < 4294967296) (r : List UInt8) : markGo (markBytes n ++ r) 0 0 = (n, groups n, 0) := by
  have hg := groups_le n
  obtain ⟨k, hk⟩ : ∃ k, groups n = k + 1 := ⟨groups n - 1, by omega⟩
  have hb : n / 2 ^ (7 * (k + 1)) = 0 ∧ (k = 0 ∨ n / 2 ^ (7 * k) % 128 ≠ 0) := by
    have hk4 : k ≤ 4 := by omega
    unfold groups at hk
    rcases (show k = 0 ∨ k = 1 ∨ k = 2 ∨ k = 3 ∨ k = 4 by omega) with rfl | rfl | rfl | rfl | rfl
    all_goals (repeat' split at hk)
    all_goals (try omega)
    all_goals simp
    all_goals omega
  have h := mark_go n hn r k 0 0 hb.1.symm (fun _ => hb.2)
  rw [hk]
  unfold markBytes markL
  rw [hk, Nat.add_sub_cancel, h]
  simp
/-- of two marks one is the beginning of the other just if their numbers are one -/
theorem mark_prefix (n m : Nat) (hn : n < 4294967296) (hm : m < 4294967296) (h : markBytes n = (markBytes m).take (groups n)) : n = m := by
  have h1 := mark_parse m hm []
  rw [List.append_nil, ← List.take_append_drop (groups n) (markBytes m), ← h, mark_parse n hn] at h1
  injection h1

theorem walk_NumOne (a b : Int) (w : World) (wa : (Lit.int .u32 a).wf = true) (wb : (Lit.int .u32 b).wf = true) :
    Calls Try.prog 7 #[.int .u32 a, .int .u32 b] w fun e w' => e = .returned (.bool true) ∧ Below w.heap.size w w' := by
  obtain ⟨n, rfl, hn⟩ := u32_nat wa
  obtain ⟨m, rfl, hm⟩ := u32_nat wb
  clear wa wb
  have gn := groups_le n
  have gm := groups_le m
  have ln := markBytes_length n
  have lm := markBytes_length m
  obtain ⟨x, hx⟩ : ∃ x, x = markBytes n := ⟨_, rfl⟩
  obtain ⟨y, hy⟩ : ∃ y, y = markBytes m := ⟨_, rfl⟩
  obtain ⟨p, hp⟩ : ∃ p, p = groups n := ⟨_, rfl⟩
  obtain ⟨q, hq⟩ : ∃ q, q = groups m := ⟨_, rfl⟩
  have cx : ∀ W, Calls Try.prog 23 #[.int .u32 n] W fun e w' => ∃ A c, e = .returned (.slice A p c) ∧ BS w' A p c x ∧ Below W.heap.size W w' := fun W =>
    (mark_any n W hn).mono fun e w' ⟨v, he, ho, hb⟩ => by
      obtain ⟨A, c, rfl, hB⟩ := ho.form
      rw [ln, ← hp, ← hx] at hB
      rw [ln, ← hp] at he
      exact ⟨A, c, he, hB, hb⟩
  have cy : ∀ W, Calls Try.prog 23 #[.int .u32 m] W fun e w' => ∃ A c, e = .returned (.slice A q c) ∧ BS w' A q c y ∧ Below W.heap.size W w' := fun W =>
    (mark_any m W hm).mono fun e w' ⟨v, he, ho, hb⟩ => by
      obtain ⟨A, c, rfl, hB⟩ := ho.form
      rw [lm, ← hq, ← hy] at hB
      rw [lm, ← hq] at he
      exact ⟨A, c, he, hB, hb⟩
  rw [← hp] at gn
  rw [← hq] at gm
  have hpre : x = y.take p ↔ n = m := by
    constructor
    · intro h
      rw [hx, hy, hp] at h
      exact mark_prefix n m hn hm h
    · rintro rfl
      rw [hx, hy, hp, List.take_of_length_le (by rw [ln]; exact Nat.le_refl _)]
  have hpq : n = m → p = q := by
    rintro rfl
    rw [hp, hq]
  have hlx : x.length = p := by rw [hx, ln, hp]
  have HP := Lib.hid hpre
  have HQ := Lib.hid hpq
  have HX := Lib.hid hlx
  clear hpre hpq hlx hx hy hp hq ln lm
  by_cases hle : p ≤ q
  · by_cases heq : n = m
    · have hS : x = y.take p := HP.out.2 heq
      have HS := Lib.hid hS
      have heq' : ((n : Int) == (m : Int)) = true := by rw [beq_iff_eq]; omega
      have HE := Lib.hid heq
      clear hS heq
      go_enter Try.func7, Try.ntmps7
      go_wp2_with fail
      refine (cx _).mono ?_
      rintro e w1 ⟨A1, c1, rfl, hB1, hb1⟩
      go_wp2_with fail
      refine (cy _).mono ?_
      rintro e w2 ⟨A2, c2, rfl, hB2, hb2⟩
      have hB1 := hB1.below hb2
      have hb12 := hb1.trans (hb2.mono hb1.size)
      clear hb1 hb2
      have hc2 := hB2.cap
      have hm2 := hB2.max
      have hB3 := hB2.take hle
      rw [← HS.out] at hB3
      go_wp2_with fail
      refine (same_true _ _ _ _ _ _ _ _ hB1 hB3).mono ?_
      rintro e w3 ⟨rfl, rfl⟩
      go_wp2_with fail
      refine (lives_any _).mono ?_
      rintro e w3 ⟨rfl, hb3⟩
      go_wp2_with fail
      go_ret
      exact ⟨rfl, hb12.trans (hb3.mono hb12.size)⟩
    · have hS : x ≠ y.take p := fun h => heq (HP.out.1 h)
      have HS := Lib.hid hS
      have heq' : ((n : Int) == (m : Int)) = false := by rw [beq_eq_false_iff_ne]; omega
      clear hS heq
      go_enter Try.func7, Try.ntmps7
      go_wp2_with fail
      refine (cx _).mono ?_
      rintro e w1 ⟨A1, c1, rfl, hB1, hb1⟩
      go_wp2_with fail
      refine (cy _).mono ?_
      rintro e w2 ⟨A2, c2, rfl, hB2, hb2⟩
      have hB1 := hB1.below hb2
      have hb12 := hb1.trans (hb2.mono hb1.size)
      clear hb1 hb2
      have hc2 := hB2.cap
      have hm2 := hB2.max
      have hB3 := hB2.take hle
      go_wp2_with fail
      refine (same_false _ _ _ _ _ _ _ _ _ hB1 hB3 HS.out).mono ?_
      rintro e w3 ⟨rfl, rfl⟩
      go_wp2_with fail
      refine (lives_any _).mono ?_
      rintro e w3 ⟨rfl, hb3⟩
      go_wp2_with fail
      go_ret
      exact ⟨rfl, hb12.trans (hb3.mono hb12.size)⟩
  · go_enter Try.func7, Try.ntmps7
    go_wp2_with fail
    refine (cx _).mono ?_
    rintro e w1 ⟨A1, c1, rfl, hB1, hb1⟩
    go_wp2_with fail
    refine (cy _).mono ?_
    rintro e w2 ⟨A2, c2, rfl, hB2, hb2⟩
    have hb12 := hb1.trans (hb2.mono hb1.size)
    clear hb1 hb2
    go_wp2_with fail
    refine (lives_any _).mono ?_
    rintro e w3 ⟨rfl, hb3⟩
    go_wp2_with fail
    go_ret
    exact ⟨rfl, hb12.trans (hb3.mono hb12.size)⟩

end Go.Proofs.Yteblbnelbdimbaa
