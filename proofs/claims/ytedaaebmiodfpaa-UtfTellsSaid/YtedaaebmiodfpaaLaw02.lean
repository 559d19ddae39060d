/-
  THE WALKS OF cardexlaw02's LAWS UtfRunes, UtfBehind, UtfCuts: each answers true.
-/
import Derived.Test.YtedaaebmiodfpaaText
namespace Go.Proofs.Ytedaaebmiodfpaa
open Go.RowKit

theorem rune_lit (w : World) (l : List UInt8) (cs : Array Value) (hcs : cs = (l.map bv).toArray) (n : Nat) (hn : n = l.length) (hs : n ≤ 281474976710656) (r s : Nat) (hr : runeR l = (r, s)) :
    Calls Try.prog 8 #[.slice (some ⟨w.heap.size, 0, none⟩) n n] (w.alloc (.cells cs 5)) fun e w' => e = .returned (.tuple #[.int .i32 r, .int .i64 s]) ∧ Below w.heap.size w w' :=
  (rune_any _ _ _ _ _ (BS.lit w 5 l cs hcs n hn hs)).mono fun e w' h => by
    rw [hr] at h
    exact ⟨h.1, h.2 ▸ (Below.refl _ _).alloc (Nat.le_refl _) _⟩
theorem is_lit (w : World) (l : List UInt8) (cs : Array Value) (hcs : cs = (l.map bv).toArray) (n : Nat) (hn : n = l.length) (hs : n ≤ 281474976710656) (r : Bool) (hr : isR l = r) :
    Calls Try.prog 10 #[.slice (some ⟨w.heap.size, 0, none⟩) n n] (w.alloc (.cells cs 5)) fun e w' => e = .returned (.bool r) ∧ Below w.heap.size w w' :=
  (is_any _ _ _ _ _ (BS.lit w 5 l cs hcs n hn hs)).mono fun e w' h => by
    rw [hr] at h
    exact ⟨h.1, h.2 ▸ (Below.refl _ _).alloc (Nat.le_refl _) _⟩

set_option maxRecDepth 100000 in
theorem lives_any (w : World) : Calls Try.prog 7 #[] w fun e w' => e = .returned (.bool true) ∧ Below w.heap.size w w' := by
  have r1 : runeR [0xc3, 0xa4] = (0xe4, 2) := by decide
  have r2 : runeR [0xc0, 0x80] = (0, 0) := by decide
  have t0 : runeR [0xe2, 0x82] = (0, 0) := by decide
  have i1 : isR [] = true := by rw [isR, textR_nil]; rfl
  have i2 : isR [0xe2, 0x82] = false := by rw [isR, textR_no (by rw [t0])]; rfl
  have k1 : checkR [97, 98, 99] 2 = 3 := rfl
  have i3 : isR [0] = false := by rw [isR, textR_no (by decide)]; rfl
  have k2 : checkR [0] 9 = 12 := by rw [checkR, i3]; rfl
  have e1 : runeR [97, 226, 130, 172] = (97, 1) := by decide
  have e2 : runeR [226, 130, 172] = (8364, 3) := by decide
  have k3 : (textR [97, 226, 130, 172]).2 = 2 := by
    rw [textR_yes (by rw [e1]; decide), e1]
    show (textR [226, 130, 172]).2 + 1 = 2
    rw [textR_yes (by rw [e2]; decide), e2]
    show (textR []).2 + 1 + 1 = 2
    rw [textR_nil]
  go_enter Try.func7, Try.ntmps7
  go_wp2_with fail
  refine (rune_lit _ [0xc3, 0xa4] _ rfl 2 rfl (by omega) _ _ r1).mono ?_
  rintro e w1 ⟨rfl, hb1⟩
  go_wp2_with fail
  refine (rune_lit _ [0xc0, 0x80] _ rfl 2 rfl (by omega) _ _ r2).mono ?_
  rintro e w2 ⟨rfl, hb2⟩
  have hb12 := hb1.trans (hb2.mono hb1.size)
  clear hb1 hb2
  go_wp2_with fail
  refine (is_any _ _ _ [] _ (BS.nil_ _)).mono ?_
  rw [i1]
  rintro e w3 ⟨rfl, rfl⟩
  go_wp2_with fail
  refine (is_lit _ [0xe2, 0x82] _ rfl 2 rfl (by omega) _ i2).mono ?_
  rintro e w4 ⟨rfl, hb4⟩
  have hb14 := hb12.trans (hb4.mono hb12.size)
  clear hb12 hb4
  go_wp2_with fail
  refine (check_any [97, 98, 99] 2 _ (by simp)).mono ?_
  rw [k1]
  rintro e w5 ⟨rfl, hb5⟩
  have hb15 := hb14.trans (hb5.mono hb14.size)
  clear hb14 hb5
  go_wp2_with fail
  refine (check_any [0] 9 _ (by simp)).mono ?_
  rw [k2]
  rintro e w6 ⟨rfl, hb6⟩
  have hb16 := hb15.trans (hb6.mono hb15.size)
  clear hb15 hb6
  go_wp2_with fail
  refine (count_any [97, 226, 130, 172] _ (by simp)).mono ?_
  rw [k3]
  rintro e w7 ⟨rfl, hb7⟩
  have hb17 := hb16.trans (hb7.mono hb16.size)
  clear hb16 hb7
  go_wp2_with fail
  go_ret
  exact ⟨rfl, hb17⟩

set_option maxRecDepth 100000 in
theorem walk_UtfRunes (r : Int) (A : Option Addr) (n c : Nat) (l : List UInt8) (w : World) (wr : (Lit.int .i32 r).wf = true) (h : BS w A n c l) (hn : n ≤ 140737488351232) :
    Calls Try.prog 4 #[.int .i32 r, .slice A n c] w fun e w' => e = .returned (.bool true) ∧ Below w.heap.size w w' := by
  obtain ⟨i0, hi, hz0, hz1, hz2⟩ := info_parts info_u8
  have hr := i32_range wr
  clear wr
  have cB := fun W => rbytes_any r W hr
  by_cases hb : bytesR r = []
  · have hx : r < 1 ∨ 1114111 < r ∨ (55296 ≤ r ∧ r ≤ 57343) := by
      rcases Classical.em (r < 1 ∨ 1114111 < r ∨ (55296 ≤ r ∧ r ≤ 57343)) with h | h
      · exact h
      · rw [bytesR, if_neg h] at hb
        repeat' split at hb
        all_goals simp at hb
    rw [hb] at cB
    clear hb
    go_enter Try.func4, Try.ntmps4
    go_wp2_with fail
    refine (cB _).mono ?_
    rintro e w1 ⟨v, rfl, ho, hb1⟩
    obtain ⟨A1, c1, rfl, hB⟩ := ho.form
    simp only [List.length_nil] at hB ⊢
    clear hB
    by_cases h1 : r < 1
    · go_wp2_with fail
      refine (lives_any _).mono ?_
      rintro e w2 ⟨rfl, hb2⟩
      go_wp2_with fail
      go_ret
      exact ⟨rfl, hb1.trans (hb2.mono hb1.size)⟩
    by_cases h2 : r > 1114111
    · go_wp2_with fail
      refine (lives_any _).mono ?_
      rintro e w2 ⟨rfl, hb2⟩
      go_wp2_with fail
      go_ret
      exact ⟨rfl, hb1.trans (hb2.mono hb1.size)⟩
    have h3 : r ≥ 55296 := by omega
    have h4 : r < 57344 := by omega
    go_wp2_with fail
    refine (lives_any _).mono ?_
    rintro e w2 ⟨rfl, hb2⟩
    go_wp2_with fail
    go_ret
    exact ⟨rfl, hb1.trans (hb2.mono hb1.size)⟩
  · obtain ⟨ho1, ho2, ho3⟩ := rune_own r l hb
    obtain ⟨L, hL⟩ : ∃ L, L = bytesR r := ⟨_, rfl⟩
    rw [← hL] at cB ho1 hb
    have hlen : 1 ≤ L.length := List.length_pos_iff.2 hb
    have hl4 : L.length ≤ 4 := by
      have := (rune_le (L ++ l)).2
      rw [ho1] at this
      exact this
    clear hL hb
    have HR := Lib.hid ho1
    clear ho1
    obtain ⟨n', rfl⟩ : ∃ n' : Nat, r = n' := ⟨r.toNat, by omega⟩
    obtain ⟨N, hN⟩ : ∃ N, (L ++ l).length = N := ⟨_, rfl⟩
    have NE := Lib.hid hN
    clear hN
    have hne : ((L.length : Int) == 0) = false := by rw [beq_eq_false_iff_ne]; omega
    go_enter Try.func4, Try.ntmps4
    go_wp2_with fail
    refine (cB _).mono ?_
    rintro e w1 ⟨v, rfl, ho, hb1⟩
    obtain ⟨A1, c1, rfl, hB⟩ := ho.form
    go_wp2_with (at_builtin; refine wpList_append_bytes _ rfl (.tmp 31) (.tmp 32) 22 rfl 5 i0 Try.underlying22 hi hz0 hz1 hz2 w.heap.size _ _ rfl ho A n c l rfl (h.below hb1) (by omega) hb1.size ?_; intro v2 w2 ho2 hg2 _ _; have hb2 := OwnB.step hb1 ho hg2 hb1.size; obtain ⟨A2, c2, hv2, hB2⟩ := ho2.form; rw [NE.out] at hv2 hB2; subst hv2)
    have cR := rune_any _ _ _ _ _ hB2
    rw [HR.out] at cR
    refine cR.mono ?_
    rintro e w3 ⟨rfl, rfl⟩
    go_wp2_with fail
    refine (lives_any _).mono ?_
    rintro e w4 ⟨rfl, hb4⟩
    go_wp2_with fail
    go_ret
    exact ⟨rfl, hb2.trans (hb4.mono hb2.size)⟩

set_option maxRecDepth 100000 in
theorem walk_UtfBehind (la lb : List UInt8) (w : World) (ha : la.length ≤ 140737488351232) (hb : lb.length ≤ 140737488351232) :
    Calls Try.prog 5 #[str la, str lb] w fun e w' => e = .returned (.bool true) ∧ Below w.heap.size w w' := by
  have ka := fun W => run_convert_str (P := Try.prog) W 9 22 5 la Try.underlying9 Try.underlying22 Try.underlying5
  have kb := fun W => run_convert_str (P := Try.prog) W 9 22 5 lb Try.underlying9 Try.underlying22 Try.underlying5
  have cA := fun W => is_any _ _ _ _ _ (bytesW_bs 5 W la (by omega))
  have cB := fun W => is_any _ _ _ _ _ (bytesW_bs 5 W lb (by omega))
  have bA := fun W => bytesW_below 5 W la _ (Nat.le_refl _)
  have bB := fun W => bytesW_below 5 W lb _ (Nat.le_refl _)
  have KA := Lib.hid cA
  have KB := Lib.hid cB
  rcases hIa : isR la with _ | _
  · simp only [hIa] at cA
    go_enter Try.func5, Try.ntmps5
    go_wp2_with fail
    refine (cA _).mono ?_
    rintro e w1 ⟨rfl, rfl⟩
    go_wp2_with fail
    refine (lives_any _).mono ?_
    rintro e w2 ⟨rfl, hb2⟩
    go_wp2_with fail
    go_ret
    exact ⟨rfl, (bA w).trans (hb2.mono (bA w).size)⟩
  · rcases hIb : isR lb with _ | _
    · simp only [hIa] at cA
      simp only [hIb] at cB
      go_enter Try.func5, Try.ntmps5
      go_wp2_with fail
      refine (cA _).mono ?_
      rintro e w1 ⟨rfl, rfl⟩
      go_wp2_with fail
      refine (cB _).mono ?_
      rintro e w1 ⟨rfl, rfl⟩
      go_wp2_with fail
      refine (lives_any _).mono ?_
      rintro e w2 ⟨rfl, hb2⟩
      go_wp2_with fail
      go_ret
      have h1 := (bA w).trans ((bB (bytesW 5 w la)).mono (bA w).size)
      exact ⟨rfl, h1.trans (hb2.mono h1.size)⟩
    · simp only [hIa] at cA
      simp only [hIb] at cB
      obtain ⟨hI, hC⟩ := isR_behind hIa hIb
      obtain ⟨L, hL⟩ : ∃ L, L = la ++ lb := ⟨_, rfl⟩
      have hLl : L.length ≤ 281474976710656 := by rw [hL, List.length_append]; omega
      have hap : (ByteArray.mk la.toArray) ++ (ByteArray.mk lb.toArray) = ⟨L.toArray⟩ := by
        rw [hL]
        apply ByteArray.ext
        simp
      rw [← hL] at hI hC
      have kl := fun W => run_convert_str (P := Try.prog) W 9 22 5 L Try.underlying9 Try.underlying22 Try.underlying5
      have cL := fun W => is_any _ _ _ _ _ (bytesW_bs 5 W L hLl)
      have bL := fun W => bytesW_below 5 W L _ (Nat.le_refl _)
      simp only [hI] at cL
      have qa := text_le la
      have qb := text_le lb
      have nL := fun W => count_any L W hLl
      have na := fun W => count_any la W (by omega)
      have nb := fun W => count_any lb W (by omega)
      rw [hC] at nL
      obtain ⟨x, hx⟩ : ∃ x, x = (textR la).2 := ⟨_, rfl⟩
      obtain ⟨y, hy⟩ : ∃ y, y = (textR lb).2 := ⟨_, rfl⟩
      rw [← hx] at nL na qa
      rw [← hy] at nL nb qb
      have hqx : x ≤ 140737488351232 := by omega
      have hqy : y ≤ 140737488351232 := by omega
      clear hC hI hIa hIb hL hx hy qa qb
      go_enter Try.func5, Try.ntmps5
      go_wp2_with fail
      refine (cA _).mono ?_
      rintro e w1 ⟨rfl, rfl⟩
      go_wp2_with fail
      refine (cB _).mono ?_
      rintro e w1 ⟨rfl, rfl⟩
      have h1 := (bA w).trans ((bB (bytesW 5 w la)).mono (bA w).size)
      obtain ⟨w1, hw1⟩ : ∃ w1, w1 = bytesW 5 (bytesW 5 w la) lb := ⟨_, rfl⟩
      rw [← hw1] at h1 ⊢
      clear hw1 cA cB KA KB bA bB ka kb
      go_wp2_with fail
      refine (cL w1).mono ?_
      rintro e w2 ⟨rfl, rfl⟩
      have h2 := h1.trans ((bL w1).mono h1.size)
      go_wp2_with fail
      refine (nL _).mono ?_
      rintro e w3 ⟨rfl, hb3⟩
      have h3 := h2.trans (hb3.mono h2.size)
      clear kl bL cL
      go_wp2_with fail
      refine (na _).mono ?_
      rintro e w4 ⟨rfl, hb4⟩
      have h4 := h3.trans (hb4.mono h3.size)
      go_wp2_with fail
      refine (nb _).mono ?_
      rintro e w5 ⟨rfl, hb5⟩
      have h5 := h4.trans (hb5.mono h4.size)
      have hxy : ((x + y : Nat) : Int) = (x : Int) + y := by omega
      go_wp2_with fail
      refine (lives_any _).mono ?_
      rintro e w6 ⟨rfl, hb6⟩
      go_wp2_with fail
      go_ret
      exact ⟨rfl, h5.trans (hb6.mono h5.size)⟩

set_option maxRecDepth 100000 in
theorem walk_UtfCuts (l : List UInt8) (most : Int) (w : World) (hl : l.length ≤ 140737488351232) (hm : (Lit.int .i64 most).wf = true) :
    Calls Try.prog 6 #[str l, .int .i64 most] w fun e w' => e = .returned (.bool true) ∧ Below w.heap.size w w' := by
  have hmr := i64_range hm
  obtain ⟨c, hc⟩ : ∃ c, c = cutR l most := ⟨_, rfl⟩
  have cC := fun W => ucut_any l most W (by omega)
  obtain ⟨q1, q2, q3⟩ := cutR_len l most
  have q4 := cutR_is l most
  have q5 := cutR_all l most
  have q6 := cutR_lacks l most
  rw [← hc] at cC q1 q2 q3 q4 q5 q6
  have hex : (ByteArray.mk l.toArray).extract 0 c.length = ⟨c.toArray⟩ := by
    rw [ByteArray.extract_mk]
    simp [← q3]
  have kc := fun W => run_convert_str (P := Try.prog) W 9 22 5 c Try.underlying9 Try.underlying22 Try.underlying5
  have cI := fun W => is_any _ _ _ _ _ (bytesW_bs 5 W c (by omega))
  have bI := fun W => bytesW_below 5 W c _ (Nat.le_refl _)
  simp only [q4] at cI
  have kl := fun W => run_convert_str (P := Try.prog) W 9 22 5 l Try.underlying9 Try.underlying22 Try.underlying5
  have cL := fun W => is_any _ _ _ _ _ (bytesW_bs 5 W l (by omega))
  have bL := fun W => bytesW_below 5 W l _ (Nat.le_refl _)
  have Q2 := Lib.hid q2
  have Q5 := Lib.hid q5
  have Q6 := Lib.hid q6
  clear hc q2 q3 q4 q5 q6 hm
  by_cases hmn : most < 0
  · have hc0 : c.length = 0 := by have := Q2.out; omega
    obtain rfl : c = [] := List.eq_nil_of_length_eq_zero hc0
    simp only [List.length_nil] at *
    clear hc0 Q2 Q5 Q6
    go_enter Try.func6, Try.ntmps6
    go_wp2_with fail
    refine (cC _).mono ?_
    rintro e w1 ⟨rfl, hb1⟩
    clear cC
    go_wp2_with fail
    refine (cI _).mono ?_
    rintro e w2 ⟨rfl, rfl⟩
    have hb2 := hb1.trans ((bI w1).mono hb1.size)
    obtain ⟨w2, hw2⟩ : ∃ w2, w2 = bytesW 5 w1 [] := ⟨_, rfl⟩
    rw [← hw2] at hb2 ⊢
    clear hw2 hb1 cI bI kc
    rcases hI : isR l with _ | _
    all_goals
      simp only [hI] at cL
      clear hI
      go_wp2_with fail
      refine (cL _).mono ?_
      rintro e w3 ⟨rfl, rfl⟩
      have hb3 := hb2.trans ((bL w2).mono hb2.size)
      go_wp2_with fail
      refine (lives_any _).mono ?_
      rintro e w4 ⟨rfl, hb4⟩
      go_wp2_with fail
      go_ret
      exact ⟨rfl, hb3.trans (hb4.mono hb3.size)⟩
  · have hmc : (c.length : Int) ≤ most := by have := Q2.out; omega
    go_enter Try.func6, Try.ntmps6
    go_wp2_with fail
    refine (cC _).mono ?_
    rintro e w1 ⟨rfl, hb1⟩
    clear cC
    go_wp2_with fail
    refine (cI _).mono ?_
    rintro e w2 ⟨rfl, rfl⟩
    have hb2 := hb1.trans ((bI w1).mono hb1.size)
    obtain ⟨w2, hw2⟩ : ∃ w2, w2 = bytesW 5 w1 c := ⟨_, rfl⟩
    rw [← hw2] at hb2 ⊢
    clear hw2 hb1 cI bI kc
    rcases hI : isR l with _ | _
    · simp only [hI] at cL
      clear hI
      go_wp2_with fail
      refine (cL _).mono ?_
      rintro e w3 ⟨rfl, rfl⟩
      have hb3 := hb2.trans ((bL w2).mono hb2.size)
      go_wp2_with fail
      refine (lives_any _).mono ?_
      rintro e w4 ⟨rfl, hb4⟩
      go_wp2_with fail
      go_ret
      exact ⟨rfl, hb3.trans (hb4.mono hb3.size)⟩
    · simp only [hI] at cL
      by_cases hle : (l.length : Int) ≤ most
      · obtain rfl := Q5.out hI hle
        clear hI
        go_wp2_with fail
        refine (cL _).mono ?_
        rintro e w3 ⟨rfl, rfl⟩
        have hb3 := hb2.trans ((bL w2).mono hb2.size)
        go_wp2_with fail
        refine (lives_any _).mono ?_
        rintro e w4 ⟨rfl, hb4⟩
        go_wp2_with fail
        go_ret
        exact ⟨rfl, hb3.trans (hb4.mono hb3.size)⟩
      · have hlk := Q6.out hI (by omega)
        clear hI
        go_wp2_with fail
        refine (cL _).mono ?_
        rintro e w3 ⟨rfl, rfl⟩
        have hb3 := hb2.trans ((bL w2).mono hb2.size)
        have hlk' : (c.length : Int) + 4 > most := by omega
        go_wp2_with fail
        refine (lives_any _).mono ?_
        rintro e w4 ⟨rfl, hb4⟩
        go_wp2_with fail
        go_ret
        exact ⟨rfl, hb3.trans (hb4.mono hb3.size)⟩

end Go.Proofs.Ytedaaebmiodfpaa
