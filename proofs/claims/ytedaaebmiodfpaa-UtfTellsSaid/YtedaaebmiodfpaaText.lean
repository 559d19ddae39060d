/-
  TEXTS: contracts of utf.text, Is, Check, Count, Cut and of cardexref02's.
-/
import Derived.Test.YtedaaebmiodfpaaTextL
import Derived.Test.YtedaaebmiodfpaaStr
import Derived.WalkMore
namespace Go.Proofs.Ytedaaebmiodfpaa
open Go.RowKit

set_option maxRecDepth 100000 in
theorem text_any (A : Option Addr) (n c : Nat) (l : List UInt8) (w : World) (h : BS w A n c l) :
    Calls Try.prog 21 #[.slice A n c] w fun e w' => e = .returned (.tuple #[.int .i64 (textR l).1, .int .i64 (textR l).2]) ∧ w = w' := by
  have hcap := h.cap
  have hmax := h.max
  have hsm := h.small
  have HL := Lib.hid h.len
  have ht := text_le l
  rw [HL.out] at ht
  obtain ⟨⟨T1, T2⟩, hT⟩ : ∃ x, textR l = x := ⟨_, rfl⟩
  rw [hT] at ht ⊢
  simp only at ht ⊢
  have HT := Lib.hid hT
  clear hT
  go_enter Try.func21, Try.ntmps21
  go_wp2_with fail
  go_step3
  go_wp2_with fail
  go_step3
  go_wp2_with fail
  go_loop [2, 3, 4, 5, 17, 23] (fun s k _ _ _ _ => ∃ (j m : Nat), j ≤ n ∧ m ≤ j ∧ s = .int .i64 j ∧ k = .int .i64 m ∧ Hid (T1 = j + (textR (l.drop j)).1) ∧ Hid (T2 = m + (textR (l.drop j)).2)) (fun s _ _ _ _ _ => n - (intOf s).toNat)
  case atStart => exact ⟨0, 0, by omega, by omega, rfl, rfl, Lib.hid (by simp [HT.out]), Lib.hid (by simp [HT.out])⟩
  case round =>
    obtain ⟨j, m, hj, hm, rfl, rfl, H1, H2⟩ := hrel
    by_cases hlt : j < n
    · obtain ⟨b, o, rfl, _, _⟩ := h.has (by omega)
      have hd := drop_bs h hlt
      simp only [Option.map_some, Addr.add_lit] at hd
      have cR := rune_any _ _ _ _ w hd
      obtain ⟨⟨r, s⟩, hx⟩ : ∃ x, runeR (l.drop j) = x := ⟨_, rfl⟩
      have hle := (rune_le (l.drop j)).1
      rw [List.length_drop, HL.out] at hle
      rw [hx] at cR hle
      simp only at cR hle
      by_cases hs : s = 0
      · subst hs
        have ht0 := textR_no (l := l.drop j) (by rw [hx])
        obtain rfl : T1 = j := by rw [H1.out, ht0]; simp
        obtain rfl : T2 = m := by rw [H2.out, ht0]; simp
        clear H1 H2 ht0 hx HT
        go_wp2_with (go_at_call 8; refine cR.mono ?_; rintro e w' ⟨rfl, rfl⟩)
        try rw [Exit.noGoto_ret]
        go_ret2
        exact ⟨rfl, rfl⟩
      · have hs0 : ((s : Int) == 0) = false := by rw [beq_eq_false_iff_ne]; omega
        have ht0 := textR_yes (l := l.drop j) (by rw [hx]; exact hs)
        rw [hx, List.drop_drop] at ht0
        have h1 : T1 = j + s + (textR (l.drop (j + s))).1 := by rw [H1.out, ht0]; simp only; omega
        have h2 : T2 = m + 1 + (textR (l.drop (j + s))).2 := by rw [H2.out, ht0]; simp only; omega
        have K1 := Lib.hid h1
        have K2 := Lib.hid h2
        clear H1 H2 ht0 hx HT h1 h2
        go_wp2_with (go_at_call 8; refine cR.mono ?_; rintro e w' ⟨rfl, rfl⟩)
        go_round
        case rel => exact ⟨j + s, m + 1, by omega, by omega, by go_num, by go_num, K1, K2⟩
        case measure => simp [intOf]; omega
    · obtain rfl : j = n := by omega
      have hT0 := textR_nil
      rw [← List.drop_of_length_le (l := l) (i := j) (by rw [HL.out]; exact Nat.le_refl _)] at hT0
      obtain rfl : T1 = j := by rw [H1.out, hT0]; simp
      obtain rfl : T2 = m := by rw [H2.out, hT0]; simp
      clear H1 H2 hT0 HT
      go_wp2_with fail
      try rw [Exit.noGoto_ret]
      go_ret2
      exact ⟨rfl, rfl⟩

theorem is_any (A : Option Addr) (n c : Nat) (l : List UInt8) (w : World) (h : BS w A n c l) :
    Calls Try.prog 10 #[.slice A n c] w fun e w' => e = .returned (.bool (isR l)) ∧ w = w' := by
  have hsm := h.small
  have cT := fun W hW => text_any A n c l W hW
  have ht := text_le l
  have HI := Lib.hid (show decide (((textR l).1 : Int) = (n : Int)) = isR l by rw [isR, h.len]; exact decide_eq_decide.2 (by omega))
  obtain ⟨⟨T1, T2⟩, hT⟩ : ∃ x, textR l = x := ⟨_, rfl⟩
  rw [hT] at cT HI
  simp only at cT HI
  clear hT ht
  go_enter Try.func10, Try.ntmps10
  go_wp2_with (go_at_call 21; refine (cT _ h).mono ?_; rintro e w' ⟨rfl, rfl⟩)
  go_ret
  exact ⟨ret_bool (by rw [← HI.out]; rfl), rfl⟩

/-- what Check answers -/
def checkR (l : List UInt8) (most : Int) : Int := if most < l.length then 3 else if isR l then 0 else 12
theorem check_any (l : List UInt8) (most : Int) (w : World) (hl : l.length ≤ 281474976710656) :
    Calls Try.prog 12 #[str l, .int .i64 most] w fun e w' => e = .returned (.int .i64 (checkR l most)) ∧ Below w.heap.size w w' := by
  have kc := fun W => run_convert_str (P := Try.prog) W 9 22 5 l Try.underlying9 Try.underlying22 Try.underlying5
  have hB := bytesW_bs 5 w l hl
  have hb := bytesW_below 5 w l _ (Nat.le_refl _)
  have cI := is_any _ _ _ _ _ hB
  by_cases h1 : most < l.length
  · have hr : checkR l most = 3 := by rw [checkR, if_pos h1]
    rw [hr]
    clear hr
    go_enter Try.func12, Try.ntmps12
    go_wp2_with fail
    go_ret
    exact ⟨rfl, Below.refl _ _⟩
  · have hr : checkR l most = if isR l then 0 else 12 := by rw [checkR, if_neg h1]
    rw [hr]
    clear hr
    rcases hI : isR l with _ | _ <;> rw [hI] at cI <;> clear hI
    · go_enter Try.func12, Try.ntmps12
      go_wp2_with (go_at_call 10; refine cI.mono ?_; rintro e w' ⟨rfl, rfl⟩)
      go_ret
      exact ⟨rfl, hb⟩
    · go_enter Try.func12, Try.ntmps12
      go_wp2_with (go_at_call 10; refine cI.mono ?_; rintro e w' ⟨rfl, rfl⟩)
      go_ret
      exact ⟨rfl, hb⟩

theorem count_any (l : List UInt8) (w : World) (hl : l.length ≤ 281474976710656) :
    Calls Try.prog 14 #[str l] w fun e w' => e = .returned (.int .i64 (textR l).2) ∧ Below w.heap.size w w' := by
  have kc := fun W => run_convert_str (P := Try.prog) W 9 22 5 l Try.underlying9 Try.underlying22 Try.underlying5
  have hB := bytesW_bs 5 w l hl
  have hb := bytesW_below 5 w l _ (Nat.le_refl _)
  have cT := text_any _ _ _ _ _ hB
  go_enter Try.func14, Try.ntmps14
  go_wp2_with (go_at_call 21; refine cT.mono ?_; rintro e w' ⟨rfl, rfl⟩)
  go_ret
  exact ⟨rfl, hb⟩

theorem ucut_any (l : List UInt8) (most : Int) (w : World) (hl : l.length ≤ 281474976710656) :
    Calls Try.prog 16 #[str l, .int .i64 most] w fun e w' => e = .returned (str (cutR l most)) ∧ Below w.heap.size w w' := by
  obtain ⟨N, hN⟩ : ∃ N, N = min l.length most.toNat := ⟨_, rfl⟩
  have hNi : (min (l.length : Int) (max most 0)) = (N : Int) := by omega
  have hNl : N ≤ l.length := by omega
  have hc : cutR l most = (l.take N).take (textR (l.take N)).1 := by
    have h1 : l.take most.toNat = l.take N := by
      rcases Nat.le_total l.length most.toNat with h | h
      · rw [hN, Nat.min_eq_left h, List.take_of_length_le h, List.take_of_length_le (Nat.le_refl _)]
      · rw [hN, Nat.min_eq_right h]
    have h2 := (text_le (l.take N)).1
    rw [cutR, h1, List.take_take, Nat.min_eq_left (by rw [List.length_take] at h2; omega)]
  rw [hc]
  have hL : (l.take N).length = N := by rw [List.length_take]; omega
  obtain ⟨L, hLe⟩ : ∃ L, L = l.take N := ⟨_, rfl⟩
  rw [← hLe] at hL ⊢
  have kc := fun W => run_convert_str (P := Try.prog) W 9 22 5 L Try.underlying9 Try.underlying22 Try.underlying5
  have hB := bytesW_bs 5 w L (by omega)
  have hb := bytesW_below 5 w L _ (Nat.le_refl _)
  have cT := text_any _ _ _ _ _ hB
  have ht := (text_le L).1
  obtain ⟨⟨T1, T2⟩, hT⟩ : ∃ x, textR L = x := ⟨_, rfl⟩
  rw [hT] at cT ht ⊢
  simp only at cT ht ⊢
  have kd := run_convert_bs (P := Try.prog) (hB.take ht) 22 5 9 Try.underlying22 Try.underlying5 Try.underlying9
  have hcp := hB.cap
  have hmx := hB.max
  have hex : ∀ k, k = N → (ByteArray.mk l.toArray).extract 0 k = ⟨L.toArray⟩ := by rintro k rfl; rw [ByteArray.extract_mk, hLe]; simp
  by_cases hm : most < 0
  · by_cases h0 : 0 < l.length
    · have hx : ByteArray.empty = ⟨L.toArray⟩ := by
        rw [List.eq_nil_of_length_eq_zero (l := L) (by omega)]
        rfl
      rw [← hx] at kc
      clear hT hex hc hN hLe hx hL hNi hNl
      go_enter Try.func16, Try.ntmps16
      go_wp2_with (go_at_call 21; refine cT.mono ?_; rintro e w' ⟨rfl, rfl⟩)
      go_ret
      exact ⟨rfl, hb⟩
    · rw [← hex l.length (by omega)] at kc
      clear hT hex hc hN hLe hL hNi hNl
      go_enter Try.func16, Try.ntmps16
      go_wp2_with (go_at_call 21; refine cT.mono ?_; rintro e w' ⟨rfl, rfl⟩)
      go_ret
      exact ⟨rfl, hb⟩
  · by_cases h0 : most < l.length
    · rw [← hex most.toNat (by omega)] at kc
      clear hT hex hc hN hLe hL hNi hNl
      go_enter Try.func16, Try.ntmps16
      go_wp2_with (go_at_call 21; refine cT.mono ?_; rintro e w' ⟨rfl, rfl⟩)
      go_ret
      exact ⟨rfl, hb⟩
    · rw [← hex l.length (by omega)] at kc
      clear hT hex hc hN hLe hL hNi hNl
      go_enter Try.func16, Try.ntmps16
      go_wp2_with (go_at_call 21; refine cT.mono ?_; rintro e w' ⟨rfl, rfl⟩)
      go_ret
      exact ⟨rfl, hb⟩

end Go.Proofs.Ytedaaebmiodfpaa
