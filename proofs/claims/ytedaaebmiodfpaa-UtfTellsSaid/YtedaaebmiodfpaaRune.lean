/-
  RUNES: contracts of utf.begin, isSurrogate, Rune and of cardexref02.Bytes, Rune.
-/
import Derived.Test.YtedaaebmiodfpaaRows
import Derived.Test.YtedaaebmiodfpaaCore
namespace Go.Proofs.Ytedaaebmiodfpaa
open Go.RowKit

/-- what a rune's first byte tells: its highest bits, how many bytes it has, the least one of so many -/
def beginR (a : Nat) : Nat × Nat × Nat :=
  if a < 128 then (a, 1, 1) else if a < 192 then (0, 0, 0) else if a < 224 then (a % 32, 2, 128) else if a < 240 then (a % 16, 3, 2048) else if a < 248 then (a % 8, 4, 65536) else (0, 0, 0)
/-- k bytes more -/
def runeGo : Nat → Nat → List UInt8 → Option Nat
  | r, 0, _ => some r
  | _, _ + 1, [] => none
  | r, k + 1, c :: t => if 128 ≤ c.toNat ∧ c.toNat < 192 then runeGo (64 * r + c.toNat % 64) k t else none
def goodRune (least r : Nat) : Bool := decide (least ≤ r) && decide (r ≤ 1114111) && !(decide (55296 ≤ r) && decide (r ≤ 57343))
/-- the rune that bytes begin with, and how many bytes it has -/
def runeR : List UInt8 → Nat × Nat
  | [] => (0, 0)
  | a :: t =>
    if (beginR a.toNat).2.1 = 0 then (0, 0) else
      match runeGo (beginR a.toNat).1 ((beginR a.toNat).2.1 - 1) t with
      | none => (0, 0)
      | some r => if goodRune (beginR a.toNat).2.2 r then (r, (beginR a.toNat).2.1) else (0, 0)

theorem runeGo_short : ∀ (k r : Nat) (t : List UInt8), t.length < k → runeGo r k t = none
  | 0, _, _, h => by omega
  | k + 1, _, [], _ => rfl
  | k + 1, r, c :: t, h => by
    simp only [runeGo]
    split
    · exact runeGo_short k _ t (by simp at h; omega)
    · rfl
theorem beginR_cases (a : Nat) : (beginR a).2.1 = 0 ∨ ((beginR a).2.1 ≤ 4 ∧ 1 ≤ (beginR a).2.1 ∧ (beginR a).1 < 128 ∧ 1 ≤ (beginR a).2.2 ∧ (beginR a).2.2 ≤ 65536) := by
  unfold beginR
  repeat' split
  all_goals simp
  all_goals omega

theorem i32_in (x : Int) (h : -2147483648 ≤ x ∧ x ≤ 2147483647) : IntKind.i32.wrap x = x := by
  simp [IntKind.wrap, IntKind.bits, IntKind.signed]
  omega

theorem andNot63 (x : Nat) (hx : x < 256) : bits .andNot .u8 (x : Int) 63 = ((x / 64 * 64 : Nat) : Int) := by
  have : ∀ x : Fin 256, x.val &&& 192 = x.val / 64 * 64 := by decide +kernel
  rw [show (63 : Int) = ((63 : Nat) : Int) from rfl, u8_andNot_nat x 63 hx (by omega), show 255 - 63 = 192 from rfl, this ⟨x, hx⟩]

theorem isSurrogate_any (r : Nat) (w : World) (hr : r < 2147483648) :
    Calls Try.prog 20 #[.int .i32 r] w fun e w' => e = .returned (.bool (decide (55296 ≤ r) && decide (r ≤ 57343))) ∧ w = w' := by
  have hb : (decide (55296 ≤ (r : Int)) && decide ((r : Int) ≤ 57343)) = (decide (55296 ≤ r) && decide (r ≤ 57343)) := by
    congr 1 <;> (apply decide_eq_decide.2; omega)
  have HB := Lib.hid hb
  clear hb
  by_cases h1 : (55296 : Int) ≤ r
  · have HB' := Lib.hid (show (decide ((r : Int) ≤ 57343)) = (decide (55296 ≤ r) && decide (r ≤ 57343)) by rw [← HB.out, decide_eq_true h1, Bool.true_and])
    clear HB
    go_enter Try.func20, Try.ntmps20
    go_wp2
    go_ret
    exact ⟨ret_bool HB'.out, rfl⟩
  · have HB' := Lib.hid (show false = (decide (55296 ≤ r) && decide (r ≤ 57343)) by rw [← HB.out, decide_eq_false h1, Bool.false_and])
    clear HB
    go_enter Try.func20, Try.ntmps20
    go_wp2
    go_ret
    exact ⟨ret_bool HB'.out, rfl⟩

set_option maxRecDepth 100000 in
theorem begin_any (a : Nat) (w : World) (ha : a < 256) :
    Calls Try.prog 19 #[.int .u8 a] w fun e w' => e = .returned (.tuple #[.int .i32 (beginR a).1, .int .i64 (beginR a).2.1, .int .i32 (beginR a).2.2]) ∧ w = w' := by
  by_cases h1 : a < 128
  · have hb : beginR a = (a, 1, 1) := by simp [beginR, h1]
    rw [hb]
    clear hb
    go_enter Try.func19, Try.ntmps19
    go_wp2
    go_ret3
    exact ⟨rfl, rfl⟩
  by_cases h2 : a < 192
  · have hb : beginR a = (0, 0, 0) := by simp [beginR, h1, h2]
    rw [hb]
    clear hb
    go_enter Try.func19, Try.ntmps19
    go_wp2
    go_ret3
    exact ⟨rfl, rfl⟩
  by_cases h3 : a < 224
  · have hb : beginR a = (a % 32, 2, 128) := by simp [beginR, h1, h2, h3]
    rw [hb]
    clear hb
    go_enter Try.func19, Try.ntmps19
    go_wp2
    go_ret3
    exact ⟨rfl, rfl⟩
  by_cases h4 : a < 240
  · have hb : beginR a = (a % 16, 3, 2048) := by simp [beginR, h1, h2, h3, h4]
    rw [hb]
    clear hb
    go_enter Try.func19, Try.ntmps19
    go_wp2
    go_ret3
    exact ⟨rfl, rfl⟩
  by_cases h5 : a < 248
  · have hb : beginR a = (a % 8, 4, 65536) := by simp [beginR, h1, h2, h3, h4, h5]
    rw [hb]
    clear hb
    go_enter Try.func19, Try.ntmps19
    go_wp2
    go_ret3
    exact ⟨rfl, rfl⟩
  · have hb : beginR a = (0, 0, 0) := by simp [beginR, h1, h2, h3, h4, h5]
    rw [hb]
    clear hb
    go_enter Try.func19, Try.ntmps19
    go_wp2
    go_ret3
    exact ⟨rfl, rfl⟩

theorem and63 (x : Nat) (hx : x < 256) : bits .and .u8 (x : Int) 63 = ((x % 64 : Nat) : Int) := by
  have : ∀ x : Fin 256, x.val &&& 63 = x.val % 64 := by decide +kernel
  rw [show (63 : Int) = ((63 : Nat) : Int) from rfl, u8_and_nat x 63 hx (by omega), this ⟨x, hx⟩]

theorem rune_empty (A : Option Addr) (c : Nat) (w : World) : Calls Try.prog 8 #[.slice A 0 c] w fun e w' => e = .returned (.tuple #[.int .i32 0, .int .i64 0]) ∧ w = w' := by
  go_enter Try.func8, Try.ntmps8
  go_wp2
  go_ret2
  exact ⟨rfl, rfl⟩

set_option maxRecDepth 100000 in
theorem rune_any (A : Option Addr) (n c : Nat) (l : List UInt8) (w : World) (h : BS w A n c l) :
    Calls Try.prog 8 #[.slice A n c] w fun e w' => e = .returned (.tuple #[.int .i32 (runeR l).1, .int .i64 (runeR l).2]) ∧ w = w' := by
  have hcap := h.cap
  have hmax := h.max
  have hsm := h.small
  have hl := h.len
  cases l with
  | nil =>
    obtain rfl : n = 0 := by simpa using hl.symm
    exact rune_empty A c w
  | cons a t =>
    simp only [List.length_cons] at hl
    have hn : 0 < n := by omega
    obtain ⟨b, o, rfl, _, hcell⟩ := h.has (by omega)
    have h0 := hcell 0 (by simp)
    simp only [List.getElem_cons_zero, Nat.add_zero] at h0
    have ha := a.toNat_lt
    have cB := fun W => begin_any a.toNat W ha
    have hcs := beginR_cases a.toNat
    obtain ⟨⟨hi, s, least⟩, hb⟩ : ∃ x, beginR a.toNat = x := ⟨_, rfl⟩
    simp only [hb] at cB hcs
    by_cases hs : s = 0
    · have hr : runeR (a :: t) = (0, 0) := by simp [runeR, hb, hs]
      rw [hr]
      subst hs
      clear hr hb hl hcs
      go_enter Try.func8, Try.ntmps8
      go_wp2_with (go_at_call 19; refine (cB _).mono ?_; rintro e w' ⟨rfl, rfl⟩)
      go_ret2
      exact ⟨rfl, rfl⟩
    · obtain ⟨hs4, hs1, hhi, hle1, hle2⟩ := hcs.resolve_left hs
      by_cases hsn : n < s
      · have hr : runeR (a :: t) = (0, 0) := by simp [runeR, hb, runeGo_short (s - 1) hi t (by omega)]
        rw [hr]
        have hne : ((s : Int) == 0) = false := by rw [beq_eq_false_iff_ne]; omega
        clear hr hb hl hcell
        go_enter Try.func8, Try.ntmps8
        go_wp2_with (go_at_call 19; refine (cB _).mono ?_; rintro e w' ⟨rfl, rfl⟩)
        go_ret2
        exact ⟨rfl, rfl⟩
      · have hne : ((s : Int) == 0) = false := by rw [beq_eq_false_iff_ne]; omega
        have hsn' : s ≤ n := by omega
        have hr : runeR (a :: t) = match runeGo hi (s - 1) t with | none => (0, 0) | some r => if goodRune least r then (r, s) else (0, 0) := by simp [runeR, hb, hs]
        obtain ⟨R, hR⟩ : ∃ R, R = runeR (a :: t) := ⟨_, rfl⟩
        rw [← hR] at hr ⊢
        have HR := Lib.hid hr
        have HC := Lib.hid hcell
        have HL := Lib.hid hl
        clear hr hb hl hcell hR
        go_enter Try.func8, Try.ntmps8
        go_wp2_with (go_at_call 19; refine (cB _).mono ?_; rintro e w' ⟨rfl, rfl⟩)
        all_goals
          go_loop [2, 3, 6, 30] (fun r z _ i => ∃ (j q : Nat), j ≤ s - 1 ∧ r = .int .i32 (q : Int) ∧ z = .int .i64 (s : Int) ∧ q < 33554432 ∧ Hid (q < 128 * 64 ^ j) ∧ Hid (runeGo hi (s - 1) t = runeGo q (s - 1 - j) (t.drop j)) ∧ i = .int .i64 j) (fun _ _ _ i => s - (intOf i).toNat)
          case atStart => exact ⟨0, hi, by omega, rfl, rfl, by omega, Lib.hid (by simpa using hhi), Lib.hid (by simp), rfl⟩
        all_goals
          obtain ⟨j, q, hj, rfl, rfl, hq, HB, HQ, rfl⟩ := hrel
          by_cases hlt : j < s - 1
        · exfalso; omega
        rotate_left
        · have hx := HC.out (j + 1) (by simp only [List.length_cons]; rw [HL.out]; omega)
          rw [show o + (j + 1) = o + 1 + j by omega] at hx
          simp only [List.getElem_cons_succ] at hx
          have hjt : j < t.length := by have := HL.out; omega
          generalize hy : t[j] = y at hx
          have hdr : t.drop j = y :: t.drop (j + 1) := by rw [List.drop_eq_getElem_cons hjt, hy]
          have hyb := y.toNat_lt
          have hA := andNot63 y.toNat hyb
          have HM := Lib.hid (and63 y.toNat hyb)
          have hk : s - 1 - j = (s - 1 - (j + 1)) + 1 := by omega
          have hgo : runeGo hi (s - 1) t = if 128 ≤ y.toNat ∧ y.toNat < 192 then runeGo (64 * q + y.toNat % 64) (s - 1 - (j + 1)) (t.drop (j + 1)) else none := by
            rw [HQ.out, hdr, hk, runeGo]
          have HG := Lib.hid hgo
          clear hgo hk hdr hy
          by_cases hg : 128 ≤ y.toNat ∧ y.toNat < 192
          · have hN : (bits .andNot .u8 (y.toNat : Int) 63 != 128) = false := by rw [hA, bne_eq_false_iff_eq]; omega
            clear hA
            go_wp2
            go_round
            case rel =>
              have hq1 : 64 * q + y.toNat % 64 < 128 * 64 ^ (j + 1) := by have := HB.out; rw [Nat.pow_succ]; omega
              have hq2 : 128 * 64 ^ (j + 1) ≤ 128 * 64 ^ 3 := Nat.mul_le_mul_left _ (Nat.pow_le_pow_right (by omega) (by omega))
              exact ⟨j + 1, 64 * q + y.toNat % 64, by omega, by go_num, rfl, by omega, Lib.hid hq1, Lib.hid (by rw [HG.out, if_pos hg]), by go_num⟩
            case measure => simp [intOf]; omega
          · have hN : (bits .andNot .u8 (y.toNat : Int) 63 != 128) = true := by rw [hA, bne_iff_ne]; omega
            clear hA
            rw [if_neg hg] at HG
            have hR := HR.out
            rw [HG.out] at hR
            subst hR
            clear HR HG HQ
            go_wp2
            go_ret2
            exact ⟨rfl, rfl⟩
        all_goals
          obtain rfl : j = s - 1 := by omega
          have hR := HR.out
          rw [HQ.out, Nat.sub_self, runeGo] at hR
          clear HR HQ HC
          by_cases hg : goodRune least q = true
          · simp only [hg, if_true] at hR
            have hg' := hg
            simp only [goodRune, Bool.and_eq_true, decide_eq_true_eq, Bool.not_eq_true'] at hg'
            obtain ⟨⟨hg1, hg2⟩, hg3⟩ := hg'
            subst hR
            have cS := fun W => isSurrogate_any q W (by omega)
            rw [hg3] at cS
            clear hg hg3
            go_wp2_with (go_at_call 20; refine (cS _).mono ?_; rintro e w' ⟨rfl, rfl⟩)
            go_ret2
            exact ⟨rfl, rfl⟩
          · simp only [hg] at hR
            have hg' : q < least ∨ 1114111 < q ∨ (least ≤ q ∧ q ≤ 1114111 ∧ (decide (55296 ≤ q) && decide (q ≤ 57343)) = true) := by
              rcases Nat.lt_or_ge q least with h1 | h1
              · exact .inl h1
              · rcases Nat.lt_or_ge 1114111 q with h2 | h2
                · exact .inr (.inl h2)
                · refine .inr (.inr ⟨h1, h2, ?_⟩)
                  simp only [goodRune, decide_eq_true h1, decide_eq_true h2, Bool.true_and] at hg
                  simpa using hg
            simp only [Bool.false_eq_true, if_false] at hR
            subst hR
            clear hg
            rcases hg' with hg | hg | ⟨hg1, hg2, hg3⟩
            · go_wp2_with fail
              go_ret2
              exact ⟨rfl, rfl⟩
            · by_cases hlq : q < least
              · omega
              · go_wp2_with fail
                go_ret2
                exact ⟨rfl, rfl⟩
            · have cS := fun W => isSurrogate_any q W (by omega)
              rw [hg3] at cS
              clear hg3
              go_wp2_with (go_at_call 20; refine (cS _).mono ?_; rintro e w' ⟨rfl, rfl⟩)
              go_ret2
              exact ⟨rfl, rfl⟩

/-- a rune's bytes -/
def bytesR (r : Int) : List UInt8 :=
  if r < 1 ∨ 1114111 < r ∨ (55296 ≤ r ∧ r ≤ 57343) then [] else
    if r < 128 then [UInt8.ofNat r.toNat] else
      if r < 2048 then [UInt8.ofNat (192 + r.toNat / 64), UInt8.ofNat (128 + r.toNat % 64)] else
        if r < 65536 then [UInt8.ofNat (224 + r.toNat / 4096), UInt8.ofNat (128 + r.toNat / 64 % 64), UInt8.ofNat (128 + r.toNat % 64)] else
          [UInt8.ofNat (240 + r.toNat / 262144), UInt8.ofNat (128 + r.toNat / 4096 % 64), UInt8.ofNat (128 + r.toNat / 64 % 64), UInt8.ofNat (128 + r.toNat % 64)]

set_option maxRecDepth 100000 in
theorem rbytes_any (r : Int) (w : World) (hr : -2147483648 ≤ r ∧ r ≤ 2147483647) :
    Calls Try.prog 18 #[.int .i32 r] w (OwnEnd 5 (bytesR r) w) := by
  have hnil : OwnEnd 5 [] w (.returned (.slice none 0 0)) w := ⟨_, rfl, OwnB.nil_ _ _ _, Below.refl _ _⟩
  have Hnil := Lib.hid hnil
  clear hnil
  by_cases h1 : r < 1
  · have hb : bytesR r = [] := by simp [bytesR, h1]
    rw [hb]
    clear hb
    go_enter Try.func18, Try.ntmps18
    go_wp2
    go_ret
    exact Hnil.out
  by_cases h2 : r > 1114111
  · have hb : bytesR r = [] := by simp [bytesR, h2]
    rw [hb]
    clear hb
    go_enter Try.func18, Try.ntmps18
    go_wp2
    go_ret
    exact Hnil.out
  by_cases h3 : 55296 ≤ r ∧ r ≤ 57343
  · have hb : bytesR r = [] := by simp [bytesR, h3]
    rw [hb]
    obtain ⟨h3, h4⟩ := h3
    clear hb
    go_enter Try.func18, Try.ntmps18
    go_wp2
    go_ret
    exact Hnil.out
  have hb : bytesR r = if r < 128 then [UInt8.ofNat r.toNat] else
      if r < 2048 then [UInt8.ofNat (192 + r.toNat / 64), UInt8.ofNat (128 + r.toNat % 64)] else
        if r < 65536 then [UInt8.ofNat (224 + r.toNat / 4096), UInt8.ofNat (128 + r.toNat / 64 % 64), UInt8.ofNat (128 + r.toNat % 64)] else
          [UInt8.ofNat (240 + r.toNat / 262144), UInt8.ofNat (128 + r.toNat / 4096 % 64), UInt8.ofNat (128 + r.toNat / 64 % 64), UInt8.ofNat (128 + r.toNat % 64)] := by
    rw [bytesR, if_neg (by omega)]
  obtain ⟨n, rfl⟩ : ∃ n : Nat, r = n := ⟨r.toNat, by omega⟩
  simp only [Int.toNat_natCast] at hb
  by_cases k1 : (n : Int) < 128
  · rw [if_pos k1] at hb
    have HB := Lib.hid hb
    clear hb
    by_cases k0 : (n : Int) ≥ 55296
    · omega
    go_enter Try.func18, Try.ntmps18
    go_wp2
    go_ret
    rw [HB.out]
    refine own_lit w _ _ _ ?_ _ rfl (by simp)
    simp only [List.map_cons, List.map_nil, bv, UInt8.toNat_ofNat']
    congr <;> omega
  by_cases k2 : (n : Int) < 2048
  · rw [if_neg k1, if_pos k2] at hb
    have HB := Lib.hid hb
    clear hb
    by_cases k0 : (n : Int) ≥ 55296
    · omega
    go_enter Try.func18, Try.ntmps18
    go_wp2
    go_ret
    rw [HB.out]
    refine own_lit w _ _ _ ?_ _ rfl (by simp)
    simp only [List.map_cons, List.map_nil, bv, UInt8.toNat_ofNat']
    congr <;> omega
  by_cases k3 : (n : Int) < 65536
  · rw [if_neg k1, if_neg k2, if_pos k3] at hb
    have HB := Lib.hid hb
    clear hb
    by_cases k0 : (n : Int) ≥ 55296
    · by_cases k4 : (n : Int) ≤ 57343
      · exact absurd ⟨k0, k4⟩ h3
      go_enter Try.func18, Try.ntmps18
      go_wp2
      go_ret
      rw [HB.out]
      refine own_lit w _ _ _ ?_ _ rfl (by simp)
      simp only [List.map_cons, List.map_nil, bv, UInt8.toNat_ofNat']
      congr <;> omega
    · go_enter Try.func18, Try.ntmps18
      go_wp2
      go_ret
      rw [HB.out]
      refine own_lit w _ _ _ ?_ _ rfl (by simp)
      simp only [List.map_cons, List.map_nil, bv, UInt8.toNat_ofNat']
      congr <;> omega
  rw [if_neg k1, if_neg k2, if_neg k3] at hb
  have HB := Lib.hid hb
  clear hb
  by_cases k4 : (n : Int) ≤ 57343
  · omega
  by_cases k0 : (n : Int) ≥ 55296
  · go_enter Try.func18, Try.ntmps18
    go_wp2
    go_ret
    rw [HB.out]
    refine own_lit w _ _ _ ?_ _ rfl (by simp)
    simp only [List.map_cons, List.map_nil, bv, UInt8.toNat_ofNat']
    congr <;> omega
  · omega

end Go.Proofs.Ytedaaebmiodfpaa
