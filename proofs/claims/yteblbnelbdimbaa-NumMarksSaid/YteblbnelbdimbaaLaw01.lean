/-
  THE WALKS OF cardexlaw01's LAWS: each answers true.
-/
import Derived.Test.YteblbnelbdimbaaLives
namespace Go.Proofs.Yteblbnelbdimbaa
open Go.RowKit

theorem u32_nat {a : Int} (w : (Lit.int .u32 a).wf = true) : ∃ n : Nat, a = n ∧ n < 4294967296 := by
  have hx : 0 ≤ a ∧ a ≤ 4294967295 := by simpa [Lit.wf, IntKind.min, IntKind.max, IntKind.signed, IntKind.bits] using w
  exact ⟨a.toNat, by omega, by omega⟩
theorem u64_nat' {a : Int} (w : (Lit.int .u64 a).wf = true) : ∃ n : Nat, a = n ∧ n < 18446744073709551616 := by
  have hx : 0 ≤ a ∧ a ≤ 18446744073709551615 := by simpa [Lit.wf, IntKind.min, IntKind.max, IntKind.signed, IntKind.bits] using w
  exact ⟨a.toNat, by omega, by omega⟩
theorem i64_range {a : Int} (w : (Lit.int .i64 a).wf = true) : -9223372036854775808 ≤ a ∧ a ≤ 9223372036854775807 := by
  simpa [Lit.wf, IntKind.min, IntKind.max, IntKind.signed, IntKind.bits] using w

theorem grp_toNat (n k : Nat) : (grp n k).toNat = n / 2 ^ (7 * k) % 128 + 128 := by
  simp only [grp, UInt8.toNat_ofNat']
  omega
theorem range_grp (n k : Nat) : ((List.range (k + 1)).map fun i => grp n (k + 1 - i)) = grp n (k + 1) :: ((List.range k).map fun i => grp n (k - i)) := by
  rw [List.range_succ_eq_map, List.map_cons, List.map_map]
  congr 1
  apply List.map_congr_left
  intro i _
  show grp n (k + 1 - (i + 1)) = _
  rw [Nat.add_sub_add_right]
theorem mark_go (n : Nat) (hn : n < 4294967296) (r : List UInt8) : ∀ (k i q : Nat), q = n / 2 ^ (7 * (k + 1)) → (i = 0 → k = 0 ∨ n / 2 ^ (7 * k) % 128 ≠ 0) →
    markGo (((List.range k).map fun i => grp n (k - i)) ++ [UInt8.ofNat (n % 128)] ++ r) i q = (n, i + k + 1, 0)
  | 0, i, q, hq, hi => by
    have h1 : (UInt8.ofNat (n % 128)).toNat = n % 128 := by simp only [UInt8.toNat_ofNat']; omega
    have h2 : q * 128 + n % 128 = n := by rw [hq]; simp only [Nat.zero_add, Nat.mul_one, show (2 : Nat) ^ 7 = 128 from rfl]; omega
    simp only [List.range_zero, List.map_nil, List.nil_append, List.singleton_append, markGo, h1, Nat.mod_mod, h2]
    rw [if_neg (by omega), if_neg (by omega), if_pos (by omega)]
  | k + 1, i, q, hq, hi => by
    have h1 := grp_toNat n (k + 1)
    have hm : n / 2 ^ (7 * (k + 1)) ≤ n := Nat.div_le_self _ _
    have h2 : q = n / 2 ^ (7 * (k + 1)) / 128 := by
      rw [hq, Nat.div_div_eq_div_mul, show 7 * (k + 1 + 1) = 7 * (k + 1) + 7 from by omega, Nat.pow_add]
    generalize hmm : n / 2 ^ (7 * (k + 1)) = m at *
    have h3 : (m % 128 + 128) % 128 = m % 128 := by omega
    have h4 : q * 128 + m % 128 = m := by omega
    rw [range_grp, List.cons_append, List.cons_append]
    simp only [markGo, h1, h3, h4]
    rw [if_neg (by omega), if_neg (by omega), if_neg (by omega)]
    rw [mark_go n hn r k (i + 1) m hmm.symm (by omega)]
    congr 2
    omega
/-- what was marked is read -/
theorem mark_parse (n : Nat) (hn : n < 4294967296) (r : List UInt8) : markGo (markBytes n ++ r) 0 0 = (n, groups n, 0) := by
  have hg := groups_le n
  obtain ⟨k, hk⟩ : ∃ k, groups n = k + 1 := ⟨groups n - 1, by omega⟩
  have hb : n / 2 ^ (7 * (k + 1)) = 0 ∧ (k = 0 ∨ n / 2 ^ (7 * k) % 128 ≠ 0) := by
    have hk4 : k ≤ 4 := by omega
    unfold groups at hk
    rcases (show k = 0 ∨ k = 1 ∨ k = 2 ∨ k = 3 ∨ k = 4 by omega) with rfl | rfl | rfl | rfl | rfl
    all_goals (repeat' split at hk)
    all_goals (try omega)
    all_goals simp
    all_goals omega
  have h := mark_go n hn r k 0 0 hb.1.symm (fun _ => hb.2)
  rw [hk]
  unfold markBytes markL
  rw [hk, Nat.add_sub_cancel, h]
  simp
/-- of two marks one is the beginning of the other just if their numbers are one -/
theorem mark_prefix (n m : Nat) (hn : n < 4294967296) (hm : m < 4294967296) (h : markBytes n = (markBytes m).take (groups n)) : n = m := by
  have h1 := mark_parse m hm []
  rw [List.append_nil, ← List.take_append_drop (groups n) (markBytes m), ← h, mark_parse n hn] at h1
  injection h1

theorem walk_NumOne (a b : Int) (w : World) (wa : (Lit.int .u32 a).wf = true) (wb : (Lit.int .u32 b).wf = true) :
    Calls Try.prog 7 #[.int .u32 a, .int .u32 b] w fun e w' => e = .returned (.bool true) ∧ Below w.heap.size w w' := by
  obtain ⟨n, rfl, hn⟩ := u32_nat wa
  obtain ⟨m, rfl, hm⟩ := u32_nat wb
  clear wa wb
  have gn := groups_le n
  have gm := groups_le m
  have ln := markBytes_length n
  have lm := markBytes_length m
  obtain ⟨x, hx⟩ : ∃ x, x = markBytes n := ⟨_, rfl⟩
  obtain ⟨y, hy⟩ : ∃ y, y = markBytes m := ⟨_, rfl⟩
  obtain ⟨p, hp⟩ : ∃ p, p = groups n := ⟨_, rfl⟩
  obtain ⟨q, hq⟩ : ∃ q, q = groups m := ⟨_, rfl⟩
  have cx : ∀ W, Calls Try.prog 23 #[.int .u32 n] W fun e w' => ∃ A c, e = .returned (.slice A p c) ∧ BS w' A p c x ∧ Below W.heap.size W w' := fun W =>
    (mark_any n W hn).mono fun e w' ⟨v, he, ho, hb⟩ => by
      obtain ⟨A, c, rfl, hB⟩ := ho.form
      rw [ln, ← hp, ← hx] at hB
      rw [ln, ← hp] at he
      exact ⟨A, c, he, hB, hb⟩
  have cy : ∀ W, Calls Try.prog 23 #[.int .u32 m] W fun e w' => ∃ A c, e = .returned (.slice A q c) ∧ BS w' A q c y ∧ Below W.heap.size W w' := fun W =>
    (mark_any m W hm).mono fun e w' ⟨v, he, ho, hb⟩ => by
      obtain ⟨A, c, rfl, hB⟩ := ho.form
      rw [lm, ← hq, ← hy] at hB
      rw [lm, ← hq] at he
      exact ⟨A, c, he, hB, hb⟩
  rw [← hp] at gn
  rw [← hq] at gm
  have hpre : x = y.take p ↔ n = m := by
    constructor
    · intro h
      rw [hx, hy, hp] at h
      exact mark_prefix n m hn hm h
    · rintro rfl
      rw [hx, hy, hp, List.take_of_length_le (by rw [ln]; exact Nat.le_refl _)]
  have hpq : n = m → p = q := by
    rintro rfl
    rw [hp, hq]
  have hlx : x.length = p := by rw [hx, ln, hp]
  have HP := Lib.hid hpre
  have HQ := Lib.hid hpq
  have HX := Lib.hid hlx
  clear hpre hpq hlx hx hy hp hq ln lm
  by_cases hle : p ≤ q
  · by_cases heq : n = m
    · have hS : x = y.take p := HP.out.2 heq
      have HS := Lib.hid hS
      have heq' : ((n : Int) == (m : Int)) = true := by rw [beq_iff_eq]; omega
      have HE := Lib.hid heq
      clear hS heq
      go_enter Try.func7, Try.ntmps7
      go_wp2_with fail
      refine (cx _).mono ?_
      rintro e w1 ⟨A1, c1, rfl, hB1, hb1⟩
      go_wp2_with fail
      refine (cy _).mono ?_
      rintro e w2 ⟨A2, c2, rfl, hB2, hb2⟩
      have hB1 := hB1.below hb2
      have hb12 := hb1.trans (hb2.mono hb1.size)
      clear hb1 hb2
      have hc2 := hB2.cap
      have hm2 := hB2.max
      have hB3 := hB2.take hle
      rw [← HS.out] at hB3
      go_wp2_with fail
      refine (same_true _ _ _ _ _ _ _ _ hB1 hB3).mono ?_
      rintro e w3 ⟨rfl, rfl⟩
      go_wp2_with fail
      refine (lives_any _).mono ?_
      rintro e w3 ⟨rfl, hb3⟩
      go_wp2_with fail
      go_ret
      exact ⟨rfl, hb12.trans (hb3.mono hb12.size)⟩
    · have hS : x ≠ y.take p := fun h => heq (HP.out.1 h)
      have HS := Lib.hid hS
      have heq' : ((n : Int) == (m : Int)) = false := by rw [beq_eq_false_iff_ne]; omega
      clear hS heq
      go_enter Try.func7, Try.ntmps7
      go_wp2_with fail
      refine (cx _).mono ?_
      rintro e w1 ⟨A1, c1, rfl, hB1, hb1⟩
      go_wp2_with fail
      refine (cy _).mono ?_
      rintro e w2 ⟨A2, c2, rfl, hB2, hb2⟩
      have hB1 := hB1.below hb2
      have hb12 := hb1.trans (hb2.mono hb1.size)
      clear hb1 hb2
      have hc2 := hB2.cap
      have hm2 := hB2.max
      have hB3 := hB2.take hle
      go_wp2_with fail
      refine (same_false _ _ _ _ _ _ _ _ _ hB1 hB3 HS.out).mono ?_
      rintro e w3 ⟨rfl, rfl⟩
      go_wp2_with fail
      refine (lives_any _).mono ?_
      rintro e w3 ⟨rfl, hb3⟩
      go_wp2_with fail
      go_ret
      exact ⟨rfl, hb12.trans (hb3.mono hb12.size)⟩
  · go_enter Try.func7, Try.ntmps7
    go_wp2_with fail
    refine (cx _).mono ?_
    rintro e w1 ⟨A1, c1, rfl, hB1, hb1⟩
    go_wp2_with fail
    refine (cy _).mono ?_
    rintro e w2 ⟨A2, c2, rfl, hB2, hb2⟩
    have hb12 := hb1.trans (hb2.mono hb1.size)
    clear hb1 hb2
    go_wp2_with fail
    refine (lives_any _).mono ?_
    rintro e w3 ⟨rfl, hb3⟩
    go_wp2_with fail
    go_ret
    exact ⟨rfl, hb12.trans (hb3.mono hb12.size)⟩

theorem walk_NumMarks (a : Int) (A : Option Addr) (n c : Nat) (l : List UInt8) (t : Int) (w : World) (wa : (Lit.int .u32 a).wf = true) (h : BS w A n c l) (_hn : n ≤ 140737488351232) (_wt : (Lit.int .i64 t).wf = true) :
    Calls Try.prog 5 #[.int .u32 a, .slice A n c, .int .i64 t] w fun e w' => e = .returned (.bool true) ∧ Below w.heap.size w w' := by
  obtain ⟨m, rfl, hm⟩ := u32_nat wa
  clear wa
  have c1 := fun W hW => getMark_any A n c l t W hW
  have c2 := fun W hW => rgetMark_any A n c l t W hW
  obtain ⟨⟨r1, r2, r3⟩, hr⟩ : ∃ r, getMarkR l t = r := ⟨_, rfl⟩
  rw [hr] at c1 c2
  clear hr
  go_enter Try.func5, Try.ntmps5
  go_wp2_with fail
  refine (c1 _ h).mono ?_
  rintro e w1 ⟨rfl, rfl⟩
  go_wp2_with fail
  refine (c2 _ h).mono ?_
  rintro e w1 ⟨rfl, rfl⟩
  go_wp2_with fail
  refine (mark_any m _ hm).mono ?_
  rintro e w1 ⟨v, rfl, ho1, hb1⟩
  obtain ⟨A1, d1, rfl, hB1⟩ := ho1.form
  go_wp2_with fail
  refine (rmark_any m _ hm).mono ?_
  rintro e w2 ⟨v, rfl, ho2, hb2⟩
  obtain ⟨A2, d2, rfl, hB2⟩ := ho2.form
  have hB1 := hB1.below hb2
  have hb12 := hb1.trans (hb2.mono hb1.size)
  clear hb1 hb2
  go_wp2_with fail
  refine (same_true _ _ _ _ _ _ _ _ hB1 hB2).mono ?_
  rintro e w3 ⟨rfl, rfl⟩
  go_wp2_with fail
  refine (lives_any _).mono ?_
  rintro e w3 ⟨rfl, hb3⟩
  go_wp2_with fail
  go_ret
  exact ⟨rfl, hb12.trans (hb3.mono hb12.size)⟩

theorem walk_NumNumbers (a s : Int) (A : Option Addr) (n c : Nat) (l : List UInt8) (t : Int) (w : World) (wa : (Lit.int .u64 a).wf = true) (_ws : (Lit.int .i64 s).wf = true) (h : BS w A n c l) (hn : n ≤ 140737488351232) (_wt : (Lit.int .i64 t).wf = true) :
    Calls Try.prog 3 #[.int .u64 a, .int .i64 s, .slice A n c, .int .i64 t] w fun e w' => e = .returned (.bool true) ∧ Below w.heap.size w w' := by
  obtain ⟨m, rfl, hm⟩ := u64_nat' wa
  clear wa
  -- what Put answers, without an 'if'
  have cput : ∀ (f : Nat) (W : World), Calls Try.prog f #[.int .u64 m, .int .i64 s] W (BytesEnd 5 (putOk m s) 2 (leBytes m s.toNat) W) →
      Calls Try.prog f #[.int .u64 m, .int .i64 s] W fun e w' => ∃ A' c', e = .returned (.tuple #[.slice A' (if putOk m s then s.toNat else 0) c', .int .i64 (if putOk m s then 0 else 2)]) ∧ BS w' A' (if putOk m s then s.toNat else 0) c' (if putOk m s then leBytes m s.toNat else []) ∧ Below W.heap.size W w' := fun f W hc =>
    hc.mono fun e w' ⟨h1, h2, h3⟩ => by
      rcases hp : putOk m s with _ | _
      · exact ⟨none, 0, h1 hp, BS.nil_ _, h3⟩
      · obtain ⟨v, he, ho⟩ := h2 hp
        obtain ⟨A', c', rfl, hB⟩ := ho.form
        rw [leBytes_length] at he hB
        exact ⟨A', c', he, hB, h3⟩
  obtain ⟨k, hk⟩ : ∃ k, (if putOk m s then s.toNat else 0) = k := ⟨_, rfl⟩
  obtain ⟨x, hx⟩ : ∃ x, (if putOk m s then (0 : Int) else 2) = x := ⟨_, rfl⟩
  obtain ⟨L, hL⟩ : ∃ L, (if putOk m s then leBytes m s.toNat else []) = L := ⟨_, rfl⟩
  rw [hk, hx, hL] at cput
  clear hk hx hL
  obtain ⟨⟨q, g⟩, hg⟩ : ∃ r, getR l t s = r := ⟨_, rfl⟩
  have cg1 : ∀ (A : Option Addr) (n c : Nat) W (hW : BS W A n c l), Calls Try.prog 11 #[.slice A n c, .int .i64 t, .int .i64 s] W fun e w' => e = .returned (.tuple #[.int .u64 q, .int .i64 g]) ∧ W = w' := fun A n c W hW => by
    have := get_any A n c l t s W hW
    rwa [hg] at this
  have cg2 : ∀ (A : Option Addr) (n c : Nat) W (hW : BS W A n c l), Calls Try.prog 12 #[.slice A n c, .int .i64 t, .int .i64 s] W fun e w' => e = .returned (.tuple #[.int .u64 q, .int .i64 g]) ∧ W = w' := fun A n c W hW => by
    have := rget_any A n c l t s W hW
    rwa [hg] at this
  clear hg
  have hl := h.len
  have HL := Lib.hid hl
  have hsm := h.small
  clear hl
  go_enter Try.func3, Try.ntmps3
  go_wp2_with fail
  refine (wide_any A n c l _ h (by omega)).mono ?_
  rintro e w1 ⟨rfl, hR, hb1⟩
  have h1 := h.below hb1
  have hsz := hb1.size
  have hlt := hR.lt
  obtain ⟨g0, hg0⟩ : ∃ g0, g0 = w.heap.size := ⟨_, rfl⟩
  rw [← hg0] at hR hlt ⊢
  have HG := Lib.hid hg0
  clear hg0
  go_wp2_with fail
  refine (cput _ _ (put_any m s _)).mono ?_
  rintro e w2 ⟨A2, d2, rfl, hB2, hb2⟩
  have h2 := h1.below hb2
  have hR2 := hR.below hb2 hlt
  have hb12 := hb1.trans (hb2.mono hb1.size)
  go_wp2_with fail
  refine (cput _ _ (rput_any m s _ hm)).mono ?_
  rintro e w3 ⟨A3, d3, rfl, hB3, hb3⟩
  have h3 := h2.below hb3
  have hR3 := hR2.below hb3 hR2.lt
  have hb13 := hb12.trans (hb3.mono hb12.size)
  have hB2 := hB2.below hb3
  clear hb1 hb2 hb3 hb12 hR hR2 h1 h2
  have hW3 : BS w3 (some ⟨g0, 0, none⟩) n (n + 3) l := ⟨HL.out, by omega, by omega, hsm, fun _ => ⟨g0, 0, rfl, hR3.lt, fun i hi => by
    have := hR3.cell (i := i) (by simp; omega)
    rw [Nat.zero_add, this, List.getElem_append_left hi]⟩⟩
  go_wp2_with fail
  refine (cg1 _ _ _ _ hW3).mono ?_
  rintro e w4 ⟨rfl, rfl⟩
  go_wp2_with fail
  refine (cg2 _ _ _ _ h3).mono ?_
  rintro e w4 ⟨rfl, rfl⟩
  go_wp2_with fail
  refine (same_true _ _ _ _ _ _ _ _ hB2 hB3).mono ?_
  rintro e w4 ⟨rfl, rfl⟩
  go_wp2_with fail
  refine (left_any A n c g0 l _ hR3 h3 (by omega)).mono ?_
  rintro e w4 ⟨rfl, rfl⟩
  go_wp2_with fail
  refine (lives_any _).mono ?_
  rintro e w4 ⟨rfl, hb4⟩
  go_wp2_with fail
  go_ret
  exact ⟨rfl, hb13.trans (hb4.mono hb13.size)⟩

end Go.Proofs.Yteblbnelbdimbaa
