/-
  THE WALKS OF cardexlaw01's LAWS: each answers true.
-/
import Derived.Test.YteblbnelbdimbaaLives
namespace Go.Proofs.Yteblbnelbdimbaa
open Go.RowKit

theorem u32_nat {a : Int} (w : (Lit.int .u32 a).wf = true) : ∃ n : Nat, a = n ∧ n < 4294967296 := by
  have hx : 0 ≤ a ∧ a ≤ 4294967295 := by simpa [Lit.wf, IntKind.min, IntKind.max, IntKind.signed, IntKind.bits] using w
  exact ⟨a.toNat, by omega, by omega⟩
theorem u64_nat' {a : Int} (w : (Lit.int .u64 a).wf = true) : ∃ n : Nat, a = n ∧ n < 18446744073709551616 := by
  have hx : 0 ≤ a ∧ a ≤ 18446744073709551615 := by simpa [Lit.wf, IntKind.min, IntKind.max, IntKind.signed, IntKind.bits] using w
  exact ⟨a.toNat, by omega, by omega⟩
theorem i64_range {a : Int} (w : (Lit.int .i64 a).wf = true) : -9223372036854775808 ≤ a ∧ a ≤ 9223372036854775807 := by
  simpa [Lit.wf, IntKind.min, IntKind.max, IntKind.signed, IntKind.bits] using w

theorem grp_toNat (n k : Nat) : (grp n k).toNat = n / 2 ^ (7 * k) % 128 + 128 := by
  simp only [grp, UInt8.toNat_ofNat']
  omega
theorem range_grp (n k : Nat) : ((List.range (k + 1)).map fun i => grp n (k + 1 - i)) = grp n (k + 1) :: ((List.range k).map fun i => grp n (k - i)) := by
  rw [List.range_succ_eq_map, List.map_cons, List.map_map]
  congr 1
  apply List.map_congr_left
  intro i _
  show grp n (k + 1 - (i + 1)) = _
  rw [Nat.add_sub_add_right]
theorem mark_go (n : Nat) (hn : n < 4294967296) (r : List UInt8) : ∀ (k i q : Nat), q = n / 2 ^ (7 * (k + 1)) → (i = 0 → k = 0 ∨ n / 2 ^ (7 * k) % 128 ≠ 0) →
    markGo (((List.range k).map fun i => grp n (k - i)) ++ [UInt8.ofNat (n % 128)] ++ r) i q = (n, i + k + 1, 0)
  | 0, i, q, hq, hi => by
    have h1 : (UInt8.ofNat (n % 128)).toNat = n % 128 := by simp only [UInt8.toNat_ofNat']; omega
    have h2 : q * 128 + n % 128 = n := by rw [hq]; simp only [Nat.zero_add, Nat.mul_one, show (2 : Nat) ^ 7 = 128 from rfl]; omega
    simp only [List.range_zero, List.map_nil, List.nil_append, List.singleton_append, markGo, h1, Nat.mod_mod, h2]
    rw [if_neg (by omega), if_neg (by omega), if_pos (by omega)]
  | k + 1, i, q, hq, hi => by
    have h1 := grp_toNat n (k + 1)
    have hm : n / 2 ^ (7 * (k + 1)) ≤ n := Nat.div_le_self _ _
    have h2 : q = n / 2 ^ (7 * (k + 1)) / 128 := by
      rw [hq, Nat.div_div_eq_div_mul, show 7 * (k + 1 + 1) = 7 * (k + 1) + 7 from by omega, Nat.pow_add]
    generalize hmm : n / 2 ^ (7 * (k + 1)) = m at *
    have h3 : (m % 128 + 128) % 128 = m % 128 := by omega
    have h4 : q * 128 + m % 128 = m := by omega
    rw [range_grp, List.cons_append, List.cons_append]
    simp only [markGo, h1, h3, h4]
    rw [if_neg (by omega), if_neg (by omega), if_neg (by omega)]
    rw [mark_go n hn r k (i + 1) m hmm.symm (by omega)]
    congr 2
    omega
/-- what was marked is read -/
theorem mark_parse (n : Nat) (hn : n < 4294967296) (r : List UInt8) : markGo (markBytes n ++ r) 0 0 = (n, groups n, 0) := by
  have hg := groups_le n
  obtain ⟨k, hk⟩ : ∃ k, groups n = k + 1 := ⟨groups n - 1, by omega⟩
  have hb : n / 2 ^ (7 * (k + 1)) = 0 ∧ (k = 0 ∨ n / 2 ^ (7 * k) % 128 ≠ 0) := by
    have hk4 : k ≤ 4 := by omega
    unfold groups at hk
    rcases (show k = 0 ∨ k = 1 ∨ k = 2 ∨ k = 3 ∨ k = 4 by omega) with rfl | rfl | rfl | rfl | rfl
    all_goals (repeat' split at hk)
    all_goals (try omega)
    all_goals simp
    all_goals omega
  have h := mark_go n hn r k 0 0 hb.1.symm (fun _ => hb.2)
  rw [hk]
  unfold markBytes markL
  rw [hk, Nat.add_sub_cancel, h]
  simp
/-- of two marks one is the beginning of the other just if their numbers are one -/
theorem mark_prefix (n m : Nat) (hn : n < 4294967296) (hm : m < 4294967296) (h : markBytes n = (markBytes m).take (groups n)) : n = m := by
  have h1 := mark_parse m hm []
  rw [List.append_nil, ← List.take_append_drop (groups n) (markBytes m), ← h, mark_parse n hn] at h1
  injection h1

theorem walk_NumOne (a b : Int) (w : World) (wa : (Lit.int .u32 a).wf = true) (wb : (Lit.int .u32 b).wf = true) :
    Calls Try.prog 7 #[.int .u32 a, .int .u32 b] w fun e w' => e = .returned (.bool true) ∧ Below w.heap.size w w' := by
  obtain ⟨n, rfl, hn⟩ := u32_nat wa
  obtain ⟨m, rfl, hm⟩ := u32_nat wb
  clear wa wb
  have gn := groups_le n
  have gm := groups_le m
  have ln := markBytes_length n
  have lm := markBytes_length m
  obtain ⟨x, hx⟩ : ∃ x, x = markBytes n := ⟨_, rfl⟩
  obtain ⟨y, hy⟩ : ∃ y, y = markBytes m := ⟨_, rfl⟩
  obtain ⟨p, hp⟩ : ∃ p, p = groups n := ⟨_, rfl⟩
  obtain ⟨q, hq⟩ : ∃ q, q = groups m := ⟨_, rfl⟩
  have cx : ∀ W, Calls Try.prog 23 #[.int .u32 n] W fun e w' => ∃ A c, e = .returned (.slice A p c) ∧ BS w' A p c x ∧ Below W.heap.size W w' := fun W =>
    (mark_any n W hn).mono fun e w' ⟨v, he, ho, hb⟩ => by
      obtain ⟨A, c, rfl, hB⟩ := ho.form
      rw [ln, ← hp, ← hx] at hB
      rw [ln, ← hp] at he
      exact ⟨A, c, he, hB, hb⟩
  have cy : ∀ W, Calls Try.prog 23 #[.int .u32 m] W fun e w' => ∃ A c, e = .returned (.slice A q c) ∧ BS w' A q c y ∧ Below W.heap.size W w' := fun W =>
    (mark_any m W hm).mono fun e w' ⟨v, he, ho, hb⟩ => by
      obtain ⟨A, c, rfl, hB⟩ := ho.form
      rw [lm, ← hq, ← hy] at hB
      rw [lm, ← hq] at he
      exact ⟨A, c, he, hB, hb⟩
  rw [← hp] at gn
  rw [← hq] at gm
  have hpre : x = y.take p ↔ n = m := by
    constructor
    · intro h
      rw [hx, hy, hp] at h
      exact mark_prefix n m hn hm h
    · rintro rfl
      rw [hx, hy, hp, List.take_of_length_le (by rw [ln]; exact Nat.le_refl _)]
  have hpq : n = m → p = q := by
    rintro rfl
    rw [hp, hq]
  have hlx : x.length = p := by rw [hx, ln, hp]
  have HP := Lib.hid hpre
  have HQ := Lib.hid hpq
  have HX := Lib.hid hlx
  clear hpre hpq hlx hx hy hp hq ln lm
  by_cases hle : p ≤ q
  · by_cases heq : n = m
    · have hS : x = y.take p := HP.out.2 heq
      have HS := Lib.hid hS
      have heq' : ((n : Int) == (m : Int)) = true := by rw [beq_iff_eq]; omega
      have HE := Lib.hid heq
      clear hS heq
      go_enter Try.func7, Try.ntmps7
      go_wp2_with fail
      refine (cx _).mono ?_
      rintro e w1 ⟨A1, c1, rfl, hB1, hb1⟩
      go_wp2_with fail
      refine (cy _).mono ?_
      rintro e w2 ⟨A2, c2, rfl, hB2, hb2⟩
      have hB1 := hB1.below hb2
      have hb12 := hb1.trans (hb2.mono hb1.size)
      clear hb1 hb2
      have hc2 := hB2.cap
      have hm2 := hB2.max
      have hB3 := hB2.take hle
      rw [← HS.out] at hB3
      go_wp2_with fail
      refine (same_true _ _ _ _ _ _ _ _ hB1 hB3).mono ?_
      rintro e w3 ⟨rfl, rfl⟩
      go_wp2_with fail
      refine (lives_any _).mono ?_
      rintro e w3 ⟨rfl, hb3⟩
      go_wp2_with fail
      go_ret
      exact ⟨rfl, hb12.trans (hb3.mono hb12.size)⟩
    · have hS : x ≠ y.take p := fun h => heq (HP.out.1 h)
      have HS := Lib.hid hS
      have heq' : ((n : Int) == (m : Int)) = false := by rw [beq_eq_false_iff_ne]; omega
      clear hS heq
      go_enter Try.func7, Try.ntmps7
      go_wp2_with fail
      refine (cx _).mono ?_
      rintro e w1 ⟨A1, c1, rfl, hB1, hb1⟩
      go_wp2_with fail
      refine (cy _).mono ?_
      rintro e w2 ⟨A2, c2, rfl, hB2, hb2⟩
      have hB1 := hB1.below hb2
      have hb12 := hb1.trans (hb2.mono hb1.size)
      clear hb1 hb2
      have hc2 := hB2.cap
      have hm2 := hB2.max
      have hB3 := hB2.take hle
      go_wp2_with fail
      refine (same_false _ _ _ _ _ _ _ _ _ hB1 hB3 HS.out).mono ?_
      rintro e w3 ⟨rfl, rfl⟩
      go_wp2_with fail
      refine (lives_any _).mono ?_
      rintro e w3 ⟨rfl, hb3⟩
      go_wp2_with fail
      go_ret
      exact ⟨rfl, hb12.trans (hb3.mono hb12.size)⟩
  · go_enter Try.func7, Try.ntmps7
    go_wp2_with fail
    refine (cx _).mono ?_
    rintro e w1 ⟨A1, c1, rfl, hB1, hb1⟩
    go_wp2_with fail
    refine (cy _).mono ?_
    rintro e w2 ⟨A2, c2, rfl, hB2, hb2⟩
    have hb12 := hb1.trans (hb2.mono hb1.size)
    clear hb1 hb2
    go_wp2_with fail
    refine (lives_any _).mono ?_
    rintro e w3 ⟨rfl, hb3⟩
    go_wp2_with fail
    go_ret
    exact ⟨rfl, hb12.trans (hb3.mono hb12.size)⟩

theorem walk_NumMarks (a : Int) (A : Option Addr) (n c : Nat) (l : List UInt8) (t : Int) (w : World) (wa : (Lit.int .u32 a).wf = true) (h : BS w A n c l) (_hn : n ≤ 140737488351232) (_wt : (Lit.int .i64 t).wf = true) :
    Calls Try.prog 5 #[.int .u32 a, .slice A n c, .int .i64 t] w fun e w' => e = .returned (.bool true) ∧ Below w.heap.size w w' := by
  obtain ⟨m, rfl, hm⟩ := u32_nat wa
  clear wa
  have c1 := fun W hW => getMark_any A n c l t W hW
  have c2 := fun W hW => rgetMark_any A n c l t W hW
  obtain ⟨⟨r1, r2, r3⟩, hr⟩ : ∃ r, getMarkR l t = r := ⟨_, rfl⟩
  rw [hr] at c1 c2
  clear hr
  go_enter Try.func5, Try.ntmps5
  go_wp2_with fail
  refine (c1 _ h).mono ?_
  rintro e w1 ⟨rfl, rfl⟩
  go_wp2_with fail
  refine (c2 _ h).mono ?_
  rintro e w1 ⟨rfl, rfl⟩
  go_wp2_with fail
  refine (mark_any m _ hm).mono ?_
  rintro e w1 ⟨v, rfl, ho1, hb1⟩
  obtain ⟨A1, d1, rfl, hB1⟩ := ho1.form
  go_wp2_with fail
  refine (rmark_any m _ hm).mono ?_
  rintro e w2 ⟨v, rfl, ho2, hb2⟩
  obtain ⟨A2, d2, rfl, hB2⟩ := ho2.form
  have hB1 := hB1.below hb2
  have hb12 := hb1.trans (hb2.mono hb1.size)
  clear hb1 hb2
  go_wp2_with fail
  refine (same_true _ _ _ _ _ _ _ _ hB1 hB2).mono ?_
  rintro e w3 ⟨rfl, rfl⟩
  go_wp2_with fail
  refine (lives_any _).mono ?_
  rintro e w3 ⟨rfl, hb3⟩
  go_wp2_with fail
  go_ret
  exact ⟨rfl, hb12.trans (hb3.mono hb12.size)⟩

theorem walk_NumNumbers (a s : Int) (A : Option Addr) (n c : Nat) (l : List UInt8) (t : Int) (w : World) (wa : (Lit.int .u64 a).wf = true) (_ws : (Lit.int .i64 s).wf = true) (h : BS w A n c l) (hn : n ≤ 140737488351232) (_wt : (Lit.int .i64 t).wf = true) :
    Calls Try.prog 3 #[.int .u64 a, .int .i64 s, .slice A n c, .int .i64 t] w fun e w' => e = .returned (.bool true) ∧ Below w.heap.size w w' := by
  obtain ⟨m, rfl, hm⟩ := u64_nat' wa
  clear wa
  -- what Put answers, without an 'if'
  have cput : ∀ (f : Nat) (W : World), Calls Try.prog f #[.int .u64 m, .int .i64 s] W (BytesEnd 5 (putOk m s) 2 (leBytes m s.toNat) W) →
      Calls Try.prog f #[.int .u64 m, .int .i64 s] W fun e w' => ∃ A' c', e = .returned (.tuple #[.slice A' (if putOk m s then s.toNat else 0) c', .int .i64 (if putOk m s then 0 else 2)]) ∧ BS w' A' (if putOk m s then s.toNat else 0) c' (if putOk m s then leBytes m s.toNat else []) ∧ Below W.heap.size W w' := fun f W hc =>
    hc.mono fun e w' ⟨h1, h2, h3⟩ => by
      rcases hp : putOk m s with _ | _
      · exact ⟨none, 0, h1 hp, BS.nil_ _, h3⟩
      · obtain ⟨v, he, ho⟩ := h2 hp
        obtain ⟨A', c', rfl, hB⟩ := ho.form
        rw [leBytes_length] at he hB
        exact ⟨A', c', he, hB, h3⟩
  obtain ⟨k, hk⟩ : ∃ k, (if putOk m s then s.toNat else 0) = k := ⟨_, rfl⟩
  obtain ⟨x, hx⟩ : ∃ x, (if putOk m s then (0 : Int) else 2) = x := ⟨_, rfl⟩
  obtain ⟨L, hL⟩ : ∃ L, (if putOk m s then leBytes m s.toNat else []) = L := ⟨_, rfl⟩
  rw [hk, hx, hL] at cput
  clear hk hx hL
  obtain ⟨⟨q, g⟩, hg⟩ : ∃ r, getR l t s = r := ⟨_, rfl⟩
  have cg1 : ∀ (A : Option Addr) (n c : Nat) W (hW : BS W A n c l), Calls Try.prog 11 #[.slice A n c, .int .i64 t, .int .i64 s] W fun e w' => e = .returned (.tuple #[.int .u64 q, .int .i64 g]) ∧ W = w' := fun A n c W hW => by
    have := get_any A n c l t s W hW
    rwa [hg] at this
  have cg2 : ∀ (A : Option Addr) (n c : Nat) W (hW : BS W A n c l), Calls Try.prog 12 #[.slice A n c, .int .i64 t, .int .i64 s] W fun e w' => e = .returned (.tuple #[.int .u64 q, .int .i64 g]) ∧ W = w' := fun A n c W hW => by
    have := rget_any A n c l t s W hW
    rwa [hg] at this
  clear hg
  have hl := h.len
  have HL := Lib.hid hl
  have hsm := h.small
  clear hl
  go_enter Try.func3, Try.ntmps3
  go_wp2_with fail
  refine (wide_any A n c l _ h (by omega)).mono ?_
  rintro e w1 ⟨rfl, hR, hb1⟩
  have h1 := h.below hb1
  have hsz := hb1.size
  have hlt := hR.lt
  obtain ⟨g0, hg0⟩ : ∃ g0, g0 = w.heap.size := ⟨_, rfl⟩
  rw [← hg0] at hR hlt ⊢
  have HG := Lib.hid hg0
  clear hg0
  go_wp2_with fail
  refine (cput _ _ (put_any m s _)).mono ?_
  rintro e w2 ⟨A2, d2, rfl, hB2, hb2⟩
  have h2 := h1.below hb2
  have hR2 := hR.below hb2 hlt
  have hb12 := hb1.trans (hb2.mono hb1.size)
  go_wp2_with fail
  refine (cput _ _ (rput_any m s _ hm)).mono ?_
  rintro e w3 ⟨A3, d3, rfl, hB3, hb3⟩
  have h3 := h2.below hb3
  have hR3 := hR2.below hb3 hR2.lt
  have hb13 := hb12.trans (hb3.mono hb12.size)
  have hB2 := hB2.below hb3
  clear hb1 hb2 hb3 hb12 hR hR2 h1 h2
  have hW3 : BS w3 (some ⟨g0, 0, none⟩) n (n + 3) l := ⟨HL.out, by omega, by omega, hsm, fun _ => ⟨g0, 0, rfl, hR3.lt, fun i hi => by
    have := hR3.cell (i := i) (by simp; omega)
    rw [Nat.zero_add, this, List.getElem_append_left hi]⟩⟩
  go_wp2_with fail
  refine (cg1 _ _ _ _ hW3).mono ?_
  rintro e w4 ⟨rfl, rfl⟩
  go_wp2_with fail
  refine (cg2 _ _ _ _ h3).mono ?_
  rintro e w4 ⟨rfl, rfl⟩
  go_wp2_with fail
  refine (same_true _ _ _ _ _ _ _ _ hB2 hB3).mono ?_
  rintro e w4 ⟨rfl, rfl⟩
  go_wp2_with fail
  refine (left_any A n c g0 l _ hR3 h3 (by omega)).mono ?_
  rintro e w4 ⟨rfl, rfl⟩
  go_wp2_with fail
  refine (lives_any _).mono ?_
  rintro e w4 ⟨rfl, hb4⟩
  go_wp2_with fail
  go_ret
  exact ⟨rfl, hb13.trans (hb4.mono hb13.size)⟩

/-- Spoil leaves all but the one block -/
theorem spoil_own (base : Nat) (v : Value) (l : List UInt8) (w : World) (h : OwnB 5 w base v l) : ∃ A n c, v = .slice A n c ∧
    Calls Try.prog 20 #[.slice A n c, .int .u8 1] w fun e w' => e = .returned (.tuple #[]) ∧ w.grownBy w' v.ownBlock := by
  obtain ⟨A, c, rfl, _⟩ := h.form
  exact ⟨A, _, c, rfl, spoil_any A _ c base l 1 w h⟩
theorem BS.grown {w w' : World} {A : Option Addr} {n c B : Nat} {l : List UInt8} {row : Option Nat} (h : BS w A n c l) (hB : 0 < n → ∀ b o, A = some ⟨b, o, none⟩ → b < B) (hg : w.grownBy w' row) (hr : ∀ k, row = some k → B ≤ k) : BS w' A n c l :=
  ⟨h.len, h.cap, h.max, h.small, fun hn => by
    obtain ⟨b, o, rfl, hb, hc⟩ := h.has hn
    refine ⟨b, o, rfl, Nat.lt_of_lt_of_le hb hg.size, fun i hi => ?_⟩
    have hne : some b ≠ row := fun e => by
      have h1 := hr b e.symm
      have h2 := hB hn b o rfl
      omega
    exact (World.cell?_of_block (a := ⟨b, o + i, none⟩) (hg.block b hb hne)).trans (hc i hi)⟩
theorem RowB.grown {e : TypeId} {w w' : World} {g : Nat} {l : List UInt8} {row : Option Nat} (h : RowB e w g l) (hg : w.grownBy w' row) (hr : some g ≠ row) : RowB e w' g l := (hg.block g h.lt hr).trans h
theorem walk_NumRows (A : Option Addr) (n c : Nat) (l : List UInt8) (t m : Int) (w : World) (h : BS w A n c l) (hn : n ≤ 1048576) (_wt : (Lit.int .i64 t).wf = true) (wm : (Lit.int .i64 m).wf = true) :
    Calls Try.prog 4 #[.slice A n c, .int .i64 t, .int .i64 m] w fun e w' => e = .returned (.bool true) ∧ Below w.heap.size w w' := by
  have hm := i64_range wm
  obtain ⟨⟨L, r2, r3⟩, hg⟩ : ∃ r, getRowR l t m = r := ⟨_, rfl⟩
  have c1 : ∀ (A : Option Addr) (n c : Nat) W (hW : BS W A n c l), n ≤ 1048576 → Calls Try.prog 17 #[.slice A n c, .int .i64 t, .int .i64 m] W (RowEnd 5 (L, r2, r3) W) := fun A n c W hW hn => by
    have := getRow_any A n c l t m W hW (by omega) hm.2
    rwa [hg] at this
  have c2 : ∀ (A : Option Addr) (n c : Nat) W (hW : BS W A n c l), n ≤ 1048576 → Calls Try.prog 18 #[.slice A n c, .int .i64 t, .int .i64 m] W (RowEnd 5 (L, r2, r3) W) := fun A n c W hW hn => by
    have := rgetRow_any A n c l t m W hW (by omega)
    rwa [hg] at this
  clear hg wm
  have hl := h.len
  have HL := Lib.hid hl
  have hsm := h.small
  clear hl
  obtain ⟨R, hR0⟩ : ∃ R, R = leBytes n 4 ++ l := ⟨_, rfl⟩
  have cr : ∀ (A : Option Addr) (c : Nat) W (hW : BS W A n c l), Calls Try.prog 16 #[.slice A n c] W (OwnEnd 5 R W) := fun A c W hW => by
    rw [hR0]
    exact row_any A n c l W hW (by omega)
  have crr : ∀ (A : Option Addr) (c : Nat) W (hW : BS W A n c l), Calls Try.prog 19 #[.slice A n c] W (OwnEnd 5 R W) := fun A c W hW => by
    rw [hR0]
    exact rrow_any A n c l W hW (by omega)
  clear hR0
  go_enter Try.func4, Try.ntmps4
  go_wp2_with fail
  refine (wide_any A n c l _ h (by omega)).mono ?_
  rintro e w1 ⟨rfl, hR, hb1⟩
  have h1 := h.below hb1
  have hsz := hb1.size
  have hlt := hR.lt
  obtain ⟨g0, hg0⟩ : ∃ g0, g0 = w.heap.size := ⟨_, rfl⟩
  rw [← hg0] at hR hlt ⊢
  have HG := Lib.hid hg0
  clear hg0
  have hWide : ∀ W, RowB 5 W g0 (l ++ [7, 7, 7]) → BS W (some ⟨g0, 0, none⟩) n (n + 3) l := fun W hRW => ⟨HL.out, by omega, by omega, hsm, fun _ => ⟨g0, 0, rfl, hRW.lt, fun i hi => by
    have := hRW.cell (i := i) (by simp; omega)
    rw [Nat.zero_add, this, List.getElem_append_left hi]⟩⟩
  go_wp2_with fail
  refine (cr _ _ _ (hWide _ hR)).mono ?_
  rintro e w2 ⟨v2, rfl, ho2, hb2⟩
  have h2 := h1.below hb2
  have hR2 := hR.below hb2 hlt
  have hb12 := hb1.trans (hb2.mono hsz)
  go_wp2_with fail
  refine (c1 _ _ _ _ (hWide _ hR2) hn).mono ?_
  rintro e w3 ⟨v3, rfl, ho3, hb3⟩
  have h3 := h2.below hb3
  have hR3 := hR2.below hb3 hR2.lt
  have hb13 := hb12.trans (hb3.mono hb12.size)
  have ho23 := ho2.below hb3 (Nat.le_refl _)
  go_wp2_with fail
  refine (c2 _ _ _ _ h3 hn).mono ?_
  rintro e w4 ⟨v4, rfl, ho4, hb4⟩
  have h4 := h3.below hb4
  have hR4 := hR3.below hb4 hR3.lt
  have hb14 := hb13.trans (hb4.mono hb13.size)
  have ho24 := ho23.below hb4 (Nat.le_refl _)
  have ho34 := ho3.below hb4 (Nat.le_refl _)
  go_wp2_with fail
  refine (crr _ _ _ h4).mono ?_
  rintro e w5 ⟨v5, rfl, ho5, hb5⟩
  have h5 := h4.below hb5
  have hR5 := hR4.below hb5 hR4.lt
  have hb15 := hb14.trans (hb5.mono hb14.size)
  have ho25 := ho24.below hb5 (Nat.le_refl _)
  have ho35 := ho34.below hb5 (Nat.le_refl _)
  have ho45 := ho4.below hb5 (Nat.le_refl _)
  have hs2 := hb2.size
  -- the two that are spoilt lie in blocks of their own
  have hbl2 : ∀ k, v2.ownBlock = some k → g0 < k ∧ w.heap.size ≤ k ∧ k < w2.heap.size := fun k hk => by
    have := ho2.lt k hk
    omega
  have hbl3 : ∀ k, v3.ownBlock = some k → g0 < k ∧ w.heap.size ≤ k ∧ w2.heap.size ≤ k := fun k hk => by
    have := ho3.lt k hk
    omega
  have hAb : 0 < n → ∀ b o, A = some ⟨b, o, none⟩ → b < w.heap.size := fun h0 b o he => by
    obtain ⟨b', o', he', hb', _⟩ := h.has h0
    rw [he'] at he
    injection he with he
    injection he with he1
    omega
  have H2 := Lib.hid hbl2
  have H3 := Lib.hid hbl3
  have HA := Lib.hid hAb
  clear hbl2 hbl3 hAb h h1 h2 h3 h4 hR hR2 hR3 hR4 hb1 hb2 hb3 hb4 hb5 hb12 hb13 hb14 ho2 ho3 ho4 ho23 ho24 ho34 hs2
  obtain ⟨A2, d2, rfl, hB2⟩ := ho25.form
  obtain ⟨A3, d3, rfl, hB3⟩ := ho35.form
  obtain ⟨A4, d4, rfl, hB4⟩ := ho45.form
  obtain ⟨A5, d5, rfl, hB5⟩ := ho5.form
  go_wp2_with fail
  refine (same_true _ _ _ _ _ _ _ _ hB2 hB5).mono ?_
  rintro e w6 ⟨rfl, rfl⟩
  go_wp2_with fail
  refine (same_true _ _ _ _ _ _ _ _ hB3 hB4).mono ?_
  rintro e w6 ⟨rfl, rfl⟩
  go_wp2_with fail
  refine (spoil_any _ _ _ _ _ 1 _ ho25).mono ?_
  rintro e w6 ⟨rfl, hg6⟩
  have ho36 := ho35.kept hg6 (by
    rcases hv : (Value.slice A3 L.length d3).ownBlock with _ | k
    · exact .inl rfl
    · refine .inr fun e => ?_
      have q1 := H2.out k e.symm
      have q2 := H3.out k hv
      omega)
  have hR6 := RowB.grown hR5 hg6 (fun e => by have := (H2.out _ e.symm).1; omega)
  have h6 := BS.grown h5 HA.out hg6 (fun k hk => (H2.out k hk).2.1)
  have hb16 := hb15.grown hg6 hb15.size (fun k hk => (H2.out k hk).2.1)
  go_wp2_with fail
  refine (spoil_any _ _ _ _ _ 1 _ ho36).mono ?_
  rintro e w7 ⟨rfl, hg7⟩
  have hR7 := RowB.grown hR6 hg7 (fun e => by have := (H3.out _ e.symm).1; omega)
  have h7 := BS.grown h6 HA.out hg7 (fun k hk => (H3.out k hk).2.1)
  have hb17 := hb16.grown hg7 hb16.size (fun k hk => (H3.out k hk).2.1)
  go_wp2_with fail
  refine (left_any A n c g0 l _ hR7 h7 (by omega)).mono ?_
  rintro e w8 ⟨rfl, rfl⟩
  go_wp2_with fail
  refine (lives_any _).mono ?_
  rintro e w8 ⟨rfl, hb8⟩
  go_wp2_with fail
  go_ret
  exact ⟨rfl, hb17.trans (hb8.mono hb17.size)⟩

theorem leVal_leBytes (n : Nat) : ∀ k, leVal (leBytes n k) = n % 2 ^ (8 * k)
  | 0 => by simp [leBytes, leVal, Nat.mod_one]
  | k + 1 => by
    rw [leBytes, leVal_snoc, leVal_leBytes n k, leBytes_length, UInt8.toNat_ofNat', show 8 * (k + 1) = 8 * k + 8 from by omega, Nat.pow_add, Nat.mod_mul]
    rw [Nat.mul_comm (n / 2 ^ (8 * k) % 2 ^ 8)]
theorem getR_at (X Y : List UInt8) (m k : Nat) (h : putOk m k = true) : getR (X ++ leBytes m k ++ Y) X.length k = (m, 0) := by
  simp only [putOk, Bool.and_eq_true, decide_eq_true_eq, Int.toNat_natCast] at h
  have h1 : (0 : Int) ≤ (X.length : Int) ∧ (X.length : Int) ≤ ((X ++ leBytes m k ++ Y).length : Int) := by simp; omega
  have h2 : (X.length : Int) + (k : Int) ≤ ((X ++ leBytes m k ++ Y).length : Int) := by simp [leBytes_length]; omega
  have h3 : ((X ++ leBytes m k ++ Y).drop X.length).take k = leBytes m k := by
    rw [List.append_assoc, List.drop_left, List.take_left' (leBytes_length m k)]
  simp only [getR, h.1, decide_eq_true h1, Bool.and_self, if_true, if_pos h2, Int.toNat_natCast, h3, leVal_leBytes]
  rw [Nat.mod_eq_of_lt (by have := h.2; rwa [show (256 : Nat) ^ k = 2 ^ (8 * k) from by rw [Nat.pow_mul]] at this)]
theorem getMarkR_at (X Y : List UInt8) (m : Nat) (hm : m < 4294967296) : getMarkR (X ++ markBytes m ++ Y) X.length = (m, (X.length : Int) + groups m, 0) := by
  have h1 : (0 : Int) ≤ (X.length : Int) ∧ (X.length : Int) ≤ ((X ++ markBytes m ++ Y).length : Int) := by simp; omega
  simp only [getMarkR, if_pos h1, Int.toNat_natCast]
  rw [List.append_assoc, List.drop_left, mark_parse m hm]
  simp
theorem getRowR_at (X R Y : List UInt8) (hR : R.length < 4294967296) : getRowR (X ++ (leBytes R.length 4 ++ R) ++ Y) X.length R.length = (R, (X.length : Int) + 4 + R.length, 0) := by
  have hp : putOk R.length (4 : Nat) = true := by simp [putOk, isSz]; omega
  have hg := getR_at X (R ++ Y) R.length 4 hp
  have e : X ++ leBytes R.length 4 ++ (R ++ Y) = X ++ (leBytes R.length 4 ++ R) ++ Y := by simp
  rw [e] at hg
  have hg' : getR (X ++ (leBytes R.length 4 ++ R) ++ Y) X.length 4 = (R.length, 0) := hg
  have h1 : ¬ (R.length : Int) < ((R.length : Nat) : Int) := by omega
  have h2 : ¬ (((X ++ (leBytes R.length 4 ++ R) ++ Y).length : Int) < (X.length : Int) + 4 + (R.length : Int)) := by simp [leBytes_length]; omega
  have h3 : ((X ++ (leBytes R.length 4 ++ R) ++ Y).drop (X.length + 4)).take R.length = R := by
    rw [← e, List.append_assoc, ← List.drop_drop, List.drop_left, List.drop_left' (leBytes_length _ _), List.take_left]
  simp only [getRowR, hg', if_neg h1, if_neg h2, Int.toNat_natCast, h3]
  simp

set_option maxHeartbeats 4000000 in
set_option maxRecDepth 100000 in
theorem walk_NumBack (a : Int) (k : Int) (m : Int) (A1 : Option Addr) (n1 c1 : Nat) (l1 : List UInt8) (A2 : Option Addr) (n2 c2 : Nat) (l2 : List UInt8) (A3 : Option Addr) (n3 c3 : Nat) (l3 : List UInt8) (w : World)
    (wa : (Lit.int .u64 a).wf = true) (wk : (Lit.int .u8 k).wf = true) (wm : (Lit.int .u32 m).wf = true) (h1 : BS w A1 n1 c1 l1) (hn1 : n1 ≤ 1048576) (h2 : BS w A2 n2 c2 l2) (hn2 : n2 ≤ 1048576) (h3 : BS w A3 n3 c3 l3) (hn3 : n3 ≤ 1048576) :
    Calls Try.prog 6 #[.int .u64 a, .int .u8 k, .int .u32 m, .slice A1 n1 c1, .slice A2 n2 c2, .slice A3 n3 c3] w fun e w' => e = .returned (.bool true) ∧ Below w.heap.size w w' := by
  obtain ⟨i0, hi, hz0, hz1, hz2⟩ := info_parts info_u8
  obtain ⟨x, rfl, hx⟩ := u64_nat' wa
  obtain ⟨y, rfl, hy⟩ := u32_nat wm
  have hk : 0 ≤ k ∧ k ≤ 255 := by simpa [Lit.wf, IntKind.min, IntKind.max, IntKind.signed, IntKind.bits] using wk
  clear wa wk wm
  have h88 : putOk x 8 = true := by simp [putOk, isSz]; omega
  have H8 := Lib.hid h88
  clear h88
  have e1 := h1.len
  have e2 := h2.len
  have q2 : l2.length ≤ 1048576 := by omega
  have q3 : l3.length ≤ 1048576 := by have := h3.len; omega
  -- the mark and the row, by their letters alone
  obtain ⟨M, hMe⟩ : ∃ M, M = markBytes y := ⟨_, rfl⟩
  obtain ⟨gm, hgm⟩ : ∃ g, g = groups y := ⟨_, rfl⟩
  have hMl : M.length = gm := by rw [hMe, hgm, markBytes_length]
  have qM : M.length ≤ 5 := by have := groups_le y; omega
  have qg : gm ≤ 5 := by have := groups_le y; omega
  have cM : ∀ W, Calls Try.prog 23 #[.int .u32 y] W fun e w' => ∃ A c, e = .returned (.slice A gm c) ∧ BS w' A gm c M ∧ Below W.heap.size W w' := fun W =>
    (mark_any y W hy).mono fun e w' ⟨v, he, ho, hb⟩ => by
      obtain ⟨A, c, rfl, hB⟩ := ho.form
      rw [← hMe, hMl] at hB
      rw [← hMe, hMl] at he
      exact ⟨A, c, he, hB, hb⟩
  obtain ⟨R, hRe⟩ : ∃ R, R = leBytes n1 4 ++ l1 := ⟨_, rfl⟩
  obtain ⟨rn, hrn⟩ : ∃ r, r = R.length := ⟨_, rfl⟩
  have hRl : rn = 4 + n1 := by rw [hrn, hRe, List.length_append, leBytes_length, e1]
  have qR : R.length ≤ 1048580 := by omega
  have qr : rn ≤ 1048580 := by omega
  have cR : ∀ W, BS W A1 n1 c1 l1 → Calls Try.prog 16 #[.slice A1 n1 c1] W fun e w' => ∃ A c, e = .returned (.slice A rn c) ∧ BS w' A rn c R ∧ Below W.heap.size W w' := fun W hW =>
    (row_any A1 n1 c1 l1 W hW (by omega)).mono fun e w' ⟨v, he, ho, hb⟩ => by
      obtain ⟨A, c, rfl, hB⟩ := ho.form
      rw [← hRe, ← hrn] at hB he
      exact ⟨A, c, he, hB, hb⟩
  -- what is read of the whole
  have cG : ∀ (A : Option Addr) (c : Nat) (W : World) {P : List UInt8} {s N8 : Nat}, putOk x s = true → P = leBytes x s → (l2 ++ P ++ M ++ R ++ l3).length = N8 → BS W A N8 c (l2 ++ P ++ M ++ R ++ l3) →
      Calls Try.prog 11 #[.slice A N8 c, .int .i64 n2, .int .i64 s] W fun e w' => e = .returned (.tuple #[.int .u64 x, .int .i64 0]) ∧ W = w' := fun A c W P s N8 hp hP hN hB => by
    have h := get_any A N8 c _ n2 s W hB
    have hg := getR_at l2 (M ++ R ++ l3) x s hp
    rw [e2] at hg
    rw [hP, show l2 ++ leBytes x s ++ M ++ R ++ l3 = l2 ++ leBytes x s ++ (M ++ R ++ l3) from by simp, hg] at h
    exact h
  have cGM : ∀ (A : Option Addr) (c : Nat) (W : World) {P : List UInt8} {t : Int} {N2 N8 : Nat}, ((l2 ++ P).length : Int) = t → (l2 ++ P ++ M).length = N2 → (l2 ++ P ++ M ++ R ++ l3).length = N8 → BS W A N8 c (l2 ++ P ++ M ++ R ++ l3) →
      Calls Try.prog 21 #[.slice A N8 c, .int .i64 t] W fun e w' => e = .returned (.tuple #[.int .u32 y, .int .i64 N2, .int .i64 0]) ∧ W = w' := fun A c W P t N2 N8 ht h2 hN hB => by
    have h := getMark_any A N8 c _ t W hB
    have hg := getMarkR_at (l2 ++ P) (R ++ l3) y hy
    have hl : ((l2 ++ P).length : Int) + groups y = N2 := by rw [← h2]; simp only [List.length_append, hMl, hgm]; omega
    rw [hl, ht, ← hMe] at hg
    rw [show l2 ++ P ++ M ++ R ++ l3 = l2 ++ P ++ M ++ (R ++ l3) from by simp, hg] at h
    exact h
  have cGR : ∀ (A : Option Addr) (c : Nat) (W : World) {P : List UInt8} {N2 N6 N8 : Nat}, (l2 ++ P ++ M).length = N2 → (l2 ++ P ++ M ++ R).length = N6 → (l2 ++ P ++ M ++ R ++ l3).length = N8 → BS W A N8 c (l2 ++ P ++ M ++ R ++ l3) → N8 ≤ 140737488355320 →
      Calls Try.prog 17 #[.slice A N8 c, .int .i64 N2, .int .i64 n1] W fun e w' => ∃ A' c', e = .returned (.tuple #[.slice A' n1 c', .int .i64 N6, .int .i64 0]) ∧ BS w' A' n1 c' l1 ∧ Below W.heap.size W w' := fun A c W P N2 N6 N8 h2 h6 hN hB hN8 => by
    have h := getRow_any A N8 c _ N2 n1 W hB hN8 (by omega)
    have hg := getRowR_at (l2 ++ P ++ M) l1 l3 (by omega)
    have hl : ((l2 ++ P ++ M).length : Int) + 4 + (n1 : Int) = N6 := by rw [← h6]; simp only [List.length_append]; omega
    rw [e1, hl, h2, ← hRe] at hg
    rw [hg] at h
    refine h.mono fun e w' ⟨v, he, ho, hb⟩ => ?_
    obtain ⟨A', c', rfl, hB'⟩ := ho.form
    simp only [e1] at he hB'
    exact ⟨A', c', he, hB', hb⟩
  have E2 := Lib.hid e2
  clear hMl hMe hgm hRl hRe hrn e1 e2
  rcases (show k % 4 = 0 ∨ k % 4 = 1 ∨ k % 4 = 2 ∨ k % 4 = 3 by omega) with hk4 | hk4 | hk4 | hk4
  all_goals
    go_enter Try.func6, Try.ntmps6
    go_wp2_with fail
  generalize hs : (1 : Int) = s
  rotate_left
  generalize hs : (2 : Int) = s
  rotate_left
  generalize hs : (4 : Int) = s
  rotate_left
  generalize hs : (8 : Int) = s
  rotate_left
  all_goals
    have hz : isSz s = true := by rw [← hs]; rfl
    have H8' : Hid (s = 8 → putOk x s = true) := Lib.hid (by rintro rfl; exact H8.out)
    clear hs H8 hk4
    obtain ⟨s, rfl⟩ : ∃ s' : Nat, s = s' := ⟨s.toNat, by rcases isSz_cases hz with h | h | h | h <;> omega⟩
    have hs8 : s ≤ 8 := by rcases isSz_cases hz with h | h | h | h <;> omega
    clear hz hk
    rcases hp : putOk x s with _ | _
    · have hne8 : ¬ s = 8 := fun h => by have := H8'.out (by omega); rw [hp] at this; cases this
      have hne8' : ((s : Int) == 8) = false := by rw [beq_eq_false_iff_ne]; omega
      refine (put_no x s _ hp).mono ?_
      rintro e w0 ⟨rfl, rfl⟩
      obtain ⟨P, hP0⟩ : ∃ P : List UInt8, P = [] := ⟨_, rfl⟩
      have hP : BS w none 0 0 P := by rw [hP0]; exact BS.nil_ _
      have qP : P.length ≤ 8 := by rw [hP0]; exact Nat.zero_le _
      have HAT : Hid (((l2 ++ P).length : Int) = n2) := Lib.hid (by rw [hP0, List.append_nil, E2.out])
      have hb0 := Below.refl w.heap.size w
      clear hp H8' hne8 hP0
      obtain ⟨N6, hN6⟩ : ∃ N6, (l2 ++ P ++ M ++ R).length = N6 := ⟨_, rfl⟩
      obtain ⟨N2, hN2⟩ : ∃ N2, (l2 ++ P ++ M).length = N2 := ⟨_, rfl⟩
      have N2e := Lib.hid hN2
      obtain ⟨N8, hN8⟩ : ∃ N8, (l2 ++ P ++ M ++ R ++ l3).length = N8 := ⟨_, rfl⟩
      have q6 : N6 ≤ 2097200 := by rw [← hN6]; simp; omega
      have q8 : N8 ≤ 140737488355320 := by rw [← hN8]; simp; omega
      have N6e := Lib.hid hN6
      have N8e := Lib.hid hN8
      clear hN2 hN6 hN8
      go_wp2_with fail
      refine (copy_any A2 n2 c2 l2 _ (h2.below hb0) (by omega)).mono ?_
      rintro e w1 ⟨v1, rfl, ho1', hb1⟩
      have ho1 := ho1'.mono hb0.size
      have hP1 := hP.below hb1
      replace hb1 := hb0.trans (hb1.mono hb0.size)
      clear ho1' hb0 hP
      go_wp2_with (at_builtin; refine wpList_append_bytes _ rfl (.tmp 42) (.tmp 43) 23 rfl 5 i0 Try.underlying23 hi hz0 hz1 hz2 w.heap.size _ _ rfl ho1 none 0 0 P rfl hP1 (by omega) hb1.size ?_; intro v2 w2 ho2 hg2 _ _)
      have hb2 := OwnB.step hb1 ho1 hg2 hb1.size
      clear hb1 ho1 hg2 hP1
      refine (cM _).mono ?_
      rintro e w3 ⟨A4, c4, rfl, hM, hb3⟩
      have ho23 := ho2.below hb3 (Nat.le_refl _)
      replace hb3 := hb2.trans (hb3.mono hb2.size)
      clear ho2 hb2
      go_wp2_with (at_builtin; refine wpList_append_bytes _ rfl (.tmp 45) (.tmp 47) 23 rfl 5 i0 Try.underlying23 hi hz0 hz1 hz2 w.heap.size _ _ rfl ho23 A4 gm c4 M rfl hM (by rw [List.length_append]; omega) hb3.size ?_; intro v4 w4 ho4 hg4 _ _)
      have hb4 := OwnB.step hb3 ho23 hg4 hb3.size
      clear hb3 ho23 hg4 hM
      refine (cR _ (h1.below hb4)).mono ?_
      rintro e w5 ⟨A5, c5, rfl, hR, hb5⟩
      have ho45 := ho4.below hb5 (Nat.le_refl _)
      replace hb5 := hb4.trans (hb5.mono hb4.size)
      clear ho4 hb4
      go_wp2_with (first
        | (at_builtin; refine wpList_append_bytes _ rfl (.tmp 49) (.tmp 51) 23 rfl 5 i0 Try.underlying23 hi hz0 hz1 hz2 w.heap.size _ _ rfl ho45 A5 rn c5 R rfl hR (by rw [List.length_append, List.length_append]; omega) hb5.size ?_; intro v6 w6 ho6 hg6 _ _; have hb6 := OwnB.step hb5 ho45 hg6 hb5.size; obtain ⟨A6, c6, hv6, hB6⟩ := ho6.form; rw [N6e.out] at hv6; subst hv6)
        | (at_builtin; refine wpList_append_bytes _ rfl (.tmp 55) (.tmp 56) 23 rfl 5 i0 Try.underlying23 hi hz0 hz1 hz2 w.heap.size _ _ rfl ho6 A3 n3 c3 l3 rfl (h3.below hb6) (by rw [N6e.out]; omega) hb6.size ?_; intro v8 w8 ho8 hg8 _ _; have hb8 := OwnB.step hb6 ho6 hg8 hb6.size; obtain ⟨A8, c8, hv8, hB8⟩ := ho8.form; rw [N8e.out] at hv8 hB8; subst hv8))
      clear hg6 hg8 ho6 ho8 ho45 hB6 hb5 hb6 hR
      refine (cGM _ _ _ HAT.out N2e.out N8e.out hB8).mono ?_
      rintro e w9 ⟨rfl, rfl⟩
      go_wp2_with fail
      refine (cGR _ _ _ N2e.out N6e.out N8e.out hB8 q8).mono ?_
      rintro e w9 ⟨A9, c9, rfl, hB9, hb9⟩
      have hb89 := hb8.trans (hb9.mono hb8.size)
      have k1 := h1.below hb89
      go_wp2_with fail
      refine (same_true _ _ _ _ _ _ _ _ hB9 k1).mono ?_
      rintro e w10 ⟨rfl, rfl⟩
      go_wp2_with fail
      refine (lives_any _).mono ?_
      rintro e w10 ⟨rfl, hb10⟩
      go_wp2_with fail
      go_ret
      exact ⟨rfl, hb89.trans (hb10.mono hb89.size)⟩
    · refine (put_yes x s _ hp).mono ?_
      rintro e w0 ⟨v0, rfl, ho0, hb0⟩
      obtain ⟨Aa, da, rfl, hP⟩ := ho0.form
      obtain ⟨P, hP0⟩ : ∃ P : List UInt8, P = leBytes x s := ⟨_, rfl⟩
      rw [← hP0] at hP ⊢
      have hPl : P.length = s := by rw [hP0, leBytes_length]
      rw [hPl] at hP ⊢
      have qP : P.length ≤ 8 := by omega
      have HAT : Hid (((l2 ++ P).length : Int) = (n2 : Int) + s) := Lib.hid (by rw [List.length_append, E2.out, hPl]; omega)
      have HP := Lib.hid hP0
      have HPO := Lib.hid hp
      clear hp H8' hP0 ho0 hPl
      obtain ⟨N6, hN6⟩ : ∃ N6, (l2 ++ P ++ M ++ R).length = N6 := ⟨_, rfl⟩
      obtain ⟨N2, hN2⟩ : ∃ N2, (l2 ++ P ++ M).length = N2 := ⟨_, rfl⟩
      have N2e := Lib.hid hN2
      obtain ⟨N8, hN8⟩ : ∃ N8, (l2 ++ P ++ M ++ R ++ l3).length = N8 := ⟨_, rfl⟩
      have q6 : N6 ≤ 2097200 := by rw [← hN6]; simp; omega
      have q8 : N8 ≤ 140737488355320 := by rw [← hN8]; simp; omega
      have N6e := Lib.hid hN6
      have N8e := Lib.hid hN8
      clear hN2 hN6 hN8
      go_wp2_with fail
      refine (copy_any A2 n2 c2 l2 _ (h2.below hb0) (by omega)).mono ?_
      rintro e w1 ⟨v1, rfl, ho1', hb1⟩
      have ho1 := ho1'.mono hb0.size
      have hP1 := hP.below hb1
      replace hb1 := hb0.trans (hb1.mono hb0.size)
      clear ho1' hb0 hP
      go_wp2_with (at_builtin; refine wpList_append_bytes _ rfl (.tmp 42) (.tmp 43) 23 rfl 5 i0 Try.underlying23 hi hz0 hz1 hz2 w.heap.size _ _ rfl ho1 Aa s da P rfl hP1 (by omega) hb1.size ?_; intro v2 w2 ho2 hg2 _ _)
      have hb2 := OwnB.step hb1 ho1 hg2 hb1.size
      clear hb1 ho1 hg2 hP1
      refine (cM _).mono ?_
      rintro e w3 ⟨A4, c4, rfl, hM, hb3⟩
      have ho23 := ho2.below hb3 (Nat.le_refl _)
      replace hb3 := hb2.trans (hb3.mono hb2.size)
      clear ho2 hb2
      go_wp2_with (at_builtin; refine wpList_append_bytes _ rfl (.tmp 45) (.tmp 47) 23 rfl 5 i0 Try.underlying23 hi hz0 hz1 hz2 w.heap.size _ _ rfl ho23 A4 gm c4 M rfl hM (by rw [List.length_append]; omega) hb3.size ?_; intro v4 w4 ho4 hg4 _ _)
      have hb4 := OwnB.step hb3 ho23 hg4 hb3.size
      clear hb3 ho23 hg4 hM
      refine (cR _ (h1.below hb4)).mono ?_
      rintro e w5 ⟨A5, c5, rfl, hR, hb5⟩
      have ho45 := ho4.below hb5 (Nat.le_refl _)
      replace hb5 := hb4.trans (hb5.mono hb4.size)
      clear ho4 hb4
      go_wp2_with (first
        | (at_builtin; refine wpList_append_bytes _ rfl (.tmp 49) (.tmp 51) 23 rfl 5 i0 Try.underlying23 hi hz0 hz1 hz2 w.heap.size _ _ rfl ho45 A5 rn c5 R rfl hR (by rw [List.length_append, List.length_append]; omega) hb5.size ?_; intro v6 w6 ho6 hg6 _ _; have hb6 := OwnB.step hb5 ho45 hg6 hb5.size; obtain ⟨A6, c6, hv6, hB6⟩ := ho6.form; rw [N6e.out] at hv6; subst hv6)
        | (at_builtin; refine wpList_append_bytes _ rfl (.tmp 55) (.tmp 56) 23 rfl 5 i0 Try.underlying23 hi hz0 hz1 hz2 w.heap.size _ _ rfl ho6 A3 n3 c3 l3 rfl (h3.below hb6) (by rw [N6e.out]; omega) hb6.size ?_; intro v8 w8 ho8 hg8 _ _; have hb8 := OwnB.step hb6 ho6 hg8 hb6.size; obtain ⟨A8, c8, hv8, hB8⟩ := ho8.form; rw [N8e.out] at hv8 hB8; subst hv8))
      clear hg6 hg8 ho6 ho8 ho45 hB6 hb5 hb6 hR
      refine (cG _ _ _ HPO.out HP.out N8e.out hB8).mono ?_
      rintro e w9 ⟨rfl, rfl⟩
      go_wp2_with fail
      refine (cGM _ _ _ HAT.out N2e.out N8e.out hB8).mono ?_
      rintro e w9 ⟨rfl, rfl⟩
      go_wp2_with fail
      refine (cGR _ _ _ N2e.out N6e.out N8e.out hB8 q8).mono ?_
      rintro e w9 ⟨A9, c9, rfl, hB9, hb9⟩
      have hb89 := hb8.trans (hb9.mono hb8.size)
      have k1 := h1.below hb89
      go_wp2_with fail
      refine (same_true _ _ _ _ _ _ _ _ hB9 k1).mono ?_
      rintro e w10 ⟨rfl, rfl⟩
      go_wp2_with fail
      refine (lives_any _).mono ?_
      rintro e w10 ⟨rfl, hb10⟩
      go_wp2_with fail
      go_ret
      exact ⟨rfl, hb89.trans (hb10.mono hb89.size)⟩

end Go.Proofs.Yteblbnelbdimbaa
