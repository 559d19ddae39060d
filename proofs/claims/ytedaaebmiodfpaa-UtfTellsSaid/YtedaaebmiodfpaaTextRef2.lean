/-
  THE DOCUMENT's TEXTS: contracts of cardexref02's Is, Check, Count, Cut.
-/
import Derived.Test.YtedaaebmiodfpaaTextRef
namespace Go.Proofs.Ytedaaebmiodfpaa
open Go.RowKit

theorem ris_any (A : Option Addr) (n c : Nat) (l : List UInt8) (w : World) (h : BS w A n c l) :
    Calls Try.prog 11 #[.slice A n c] w fun e w' => e = .returned (.bool (isR l)) ∧ Below w.heap.size w w' := by
  have hsm := h.small
  have cT := fun W hW => rrunes_any A n c l W hW
  have HI := Lib.hid (show decide (((textR l).1 : Int) = (n : Int)) = isR l by rw [isR, h.len]; exact decide_eq_decide.2 (by omega))
  obtain ⟨⟨T1, T2⟩, hT⟩ : ∃ x, textR l = x := ⟨_, rfl⟩
  rw [hT] at cT HI
  simp only at cT HI
  clear hT
  go_enter Try.func11, Try.ntmps11
  go_wp2_with (go_at_call 22; refine (cT _ h).mono ?_; rintro e w1 ⟨rfl, hb1⟩)
  go_ret
  exact ⟨ret_bool (by rw [← HI.out]; rfl), hb1⟩

theorem rcheck_any (l : List UInt8) (most : Int) (w : World) (hl : l.length ≤ 281474976710656) :
    Calls Try.prog 13 #[str l, .int .i64 most] w fun e w' => e = .returned (.int .i64 (checkR l most)) ∧ Below w.heap.size w w' := by
  have kc := fun W => run_convert_str (P := Try.prog) W 9 22 5 l Try.underlying9 Try.underlying22 Try.underlying5
  have hB := bytesW_bs 5 w l hl
  have hb := bytesW_below 5 w l _ (Nat.le_refl _)
  have cI := ris_any _ _ _ _ _ hB
  by_cases h1 : most < l.length
  · have hr : checkR l most = 3 := by rw [checkR, if_pos h1]
    rw [hr]
    clear hr
    go_enter Try.func13, Try.ntmps13
    go_wp2_with fail
    go_ret
    exact ⟨rfl, Below.refl _ _⟩
  · have hr : checkR l most = if isR l then 0 else 12 := by rw [checkR, if_neg h1]
    rw [hr]
    clear hr
    rcases hI : isR l with _ | _ <;> rw [hI] at cI <;> clear hI
    · go_enter Try.func13, Try.ntmps13
      go_wp2_with (go_at_call 11; refine cI.mono ?_; rintro e w1 ⟨rfl, hb1⟩)
      go_ret
      exact ⟨rfl, hb.trans (hb1.mono hb.size)⟩
    · go_enter Try.func13, Try.ntmps13
      go_wp2_with (go_at_call 11; refine cI.mono ?_; rintro e w1 ⟨rfl, hb1⟩)
      go_ret
      exact ⟨rfl, hb.trans (hb1.mono hb.size)⟩

theorem rcount_any (l : List UInt8) (w : World) (hl : l.length ≤ 281474976710656) :
    Calls Try.prog 15 #[str l] w fun e w' => e = .returned (.int .i64 (textR l).2) ∧ Below w.heap.size w w' := by
  have kc := fun W => run_convert_str (P := Try.prog) W 9 22 5 l Try.underlying9 Try.underlying22 Try.underlying5
  have hB := bytesW_bs 5 w l hl
  have hb := bytesW_below 5 w l _ (Nat.le_refl _)
  have cT := rrunes_any _ _ _ _ _ hB
  go_enter Try.func15, Try.ntmps15
  go_wp2_with (go_at_call 22; refine cT.mono ?_; rintro e w1 ⟨rfl, hb1⟩)
  go_ret
  exact ⟨rfl, hb.trans (hb1.mono hb.size)⟩

set_option maxRecDepth 100000 in
theorem rcut_any (l : List UInt8) (most : Int) (w : World) (hl : l.length ≤ 281474976710656) :
    Calls Try.prog 17 #[str l, .int .i64 most] w fun e w' => e = .returned (str (cutR l most)) ∧ Below w.heap.size w w' := by
  obtain ⟨q1, q2, q3⟩ := cutR_len l most
  have q4 := cutR_is l most
  have q5 := cutR_most l most
  obtain ⟨C, hC⟩ : ∃ C, C = cutR l most := ⟨_, rfl⟩
  rw [← hC] at q1 q2 q3 q4 q5 ⊢
  have Q := Lib.hid (And.intro q1 (And.intro q2 (And.intro q3 (And.intro q4 q5))))
  clear hC q1 q2 q3 q4 q5
  go_enter Try.func17, Try.ntmps17
  go_wp2_with fail
  go_loopw [4, 5] (fun _ i wr => ∃ n : Nat, n ≤ l.length ∧ i = .int .i64 n ∧ Hid (∀ q : Nat, n < q → q ≤ l.length → (q : Int) ≤ most → isR (l.take q) = false) ∧ Below w.heap.size w wr) (fun _ i _ => (intOf i).toNat)
  case atStart => exact ⟨l.length, Nat.le_refl _, rfl, Lib.hid (fun q h1 h2 => by omega), Below.refl _ _⟩
  case round =>
    obtain ⟨n, hn, rfl, HN, hb⟩ := hrel
    by_cases h0 : 0 < n
    · by_cases hm : (n : Int) ≤ most
      · obtain ⟨L, hL⟩ : ∃ L, L = l.take n := ⟨_, rfl⟩
        have hLl : L.length = n := by rw [hL, List.length_take]; omega
        have hex : (ByteArray.mk l.toArray).extract 0 n = ⟨L.toArray⟩ := by rw [ByteArray.extract_mk, hL]; simp
        have kc := fun W => run_convert_str (P := Try.prog) W 9 22 5 L Try.underlying9 Try.underlying22 Try.underlying5
        have hB := bytesW_bs 5 wr L (by omega)
        have hbL := bytesW_below 5 wr L _ (Nat.le_refl _)
        have cI := ris_any _ _ _ _ _ hB
        have hb2 := hb.trans (hbL.mono hb.size)
        rcases hI : isR L with _ | _
        · rw [hI] at cI
          have HN' : Hid (∀ q : Nat, n - 1 < q → q ≤ l.length → (q : Int) ≤ most → isR (l.take q) = false) := Lib.hid (fun q h1 h2 h3 => by
            rcases Nat.lt_or_ge n q with h | h
            · exact HN.out q h h2 h3
            · obtain rfl : q = n := by omega
              rw [← hL]
              exact hI)
          clear HN hI hL hLl hB hbL
          go_wp2_with (go_at_call 11; refine cI.mono ?_; rintro e w1 ⟨rfl, hb1⟩)
          go_roundw
          case rel => exact ⟨n - 1, by omega, by go_num, HN', hb2.trans (hb1.mono hb2.size)⟩
          case measure => simp [intOf]; omega
        · rw [hI] at cI
          have hCL : L = C := by
            obtain ⟨q1, q2, q3, q4, q5⟩ := Q.out
            have h1 := q5 n hn hm (by rw [← hL]; exact hI)
            have h2 : C.length = n := by
              rcases Nat.lt_or_ge n C.length with h | h
              · have := HN.out C.length h q1 (by omega)
                rw [← q3, q4] at this
                cases this
              · omega
            rw [hL, q3, h2]
          subst hCL
          clear HN hI hL hLl hB hbL Q
          go_wp2_with (go_at_call 11; refine cI.mono ?_; rintro e w1 ⟨rfl, hb1⟩)
          go_ret
          exact ⟨rfl, hb2.trans (hb1.mono hb2.size)⟩
      · have HN' : Hid (∀ q : Nat, n - 1 < q → q ≤ l.length → (q : Int) ≤ most → isR (l.take q) = false) := Lib.hid (fun q h1 h2 h3 => HN.out q (by omega) h2 h3)
        clear HN
        go_wp2_with fail
        go_roundw
        case rel => exact ⟨n - 1, by omega, by go_num, HN', hb⟩
        case measure => simp [intOf]; omega
    · obtain rfl : n = 0 := by omega
      have hC0 : C = [] := by
        obtain ⟨q1, q2, q3, q4, q5⟩ := Q.out
        rcases Nat.eq_zero_or_pos C.length with h | h
        · exact List.eq_nil_of_length_eq_zero h
        · have := HN.out C.length h q1 (by omega)
          rw [← q3, q4] at this
          cases this
      subst hC0
      clear HN Q
      go_wp2_with fail
      go_ret
      exact ⟨rfl, hb⟩

end Go.Proofs.Ytedaaebmiodfpaa
