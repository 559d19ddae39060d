/-
  THE DOCUMENT's TEXTS: contracts of cardexref02's Rune, runes, Is, Check, Count, Cut.
-/
import Derived.Test.YtedaaebmiodfpaaText
import Derived.StillTailTactics
import Derived.Deep.DeepCutAuto
import Derived.Deep.RegionWith
namespace Go.Proofs.Ytedaaebmiodfpaa
open Go.RowKit

theorem firstR_at (s : Nat) (h1 : 1 ≤ s) (h4 : s ≤ 4) : [Value.int IntKind.i64 0, Value.int IntKind.i64 0, Value.int IntKind.i64 192, Value.int IntKind.i64 224, Value.int IntKind.i64 240][s]? = some (.int .i64 (firstR s)) := by
  rcases (show s = 1 ∨ s = 2 ∨ s = 3 ∨ s = 4 by omega) with rfl | rfl | rfl | rfl <;> rfl
theorem firstR_le (s : Nat) : 0 ≤ firstR s ∧ firstR s ≤ 240 := by
  unfold firstR
  repeat' split
  all_goals omega

set_option maxHeartbeats 4000000 in
set_option maxRecDepth 100000 in
theorem rrune_any (A : Option Addr) (n c : Nat) (l : List UInt8) (w : World) (h : BS w A n c l) :
    Calls Try.prog 9 #[.slice A n c] w fun e w' => e = .returned (.tuple #[.int .i32 (runeR l).1, .int .i64 (runeR l).2]) ∧ Below w.heap.size w w' := by
  have hcap := h.cap
  have hmax := h.max
  have hsm := h.small
  have HL := Lib.hid h.len
  obtain ⟨⟨R, S⟩, hR⟩ : ∃ x, runeR l = x := ⟨_, rfl⟩
  rw [hR]
  have HR := Lib.hid hR
  clear hR
  go_enter Try.func9, Try.ntmps9
  go_wp2_with fail
  go_loopw [2, 3, 4, 5, 6, 7] (fun _ _ z _ _ _ wr => ∃ s : Nat, 1 ≤ s ∧ s ≤ 5 ∧ z = .int .i64 s ∧ Hid (∀ q, 1 ≤ q → q < s → q ≤ n → bytesR (refVal l q) ≠ l.take q) ∧ Below w.heap.size w wr) (fun _ _ z _ _ _ _ => 5 - (intOf z).toNat)
  case atStart => exact ⟨1, by omega, by omega, rfl, Lib.hid (fun q h1 h2 => by omega), Below.refl _ _⟩
  case round =>
    obtain ⟨s, hs1, hs5, rfl, HS, hb⟩ := hrel
    have hbs := h.below hb
    by_cases hlt : s ≤ 4 ∧ s ≤ n
    · obtain ⟨hs4, hsn⟩ := hlt
      obtain ⟨b, o, rfl, hbl, hcell⟩ := hbs.has (by omega)
      have h0 := hcell 0 (by rw [HL.out]; omega)
      simp only [Nat.add_zero] at h0
      have HC := Lib.hid hcell
      clear hcell
      have hfl := firstR_at s hs1 hs4
      have hfb := firstR_le s
      have hv0 : refVal l s = refGo ((l[0]'(by rw [HL.out]; omega)).toNat - firstR s) (s - 1) (l.drop 1) := by
        obtain _ | ⟨a, t⟩ := l
        · have := HL.out; simp at this; omega
        · rfl
      generalize l[0]'(by rw [HL.out]; omega) = a at hv0 h0
      obtain ⟨f, hf⟩ : ∃ f, f = firstR s := ⟨_, rfl⟩
      rw [← hf] at hfl hfb hv0
      have HV0 := Lib.hid hv0
      have ha := a.toNat_lt
      clear hf hv0
      go_wp2_with fail
      go_loop [6, 7] (fun r i => ∃ (j : Nat) (x : Int), 1 ≤ j ∧ j ≤ s ∧ r = .int .i32 x ∧ i = .int .i64 j ∧ -(68157440 : Int) ≤ x ∧ x ≤ 68157440 ∧ Hid (3 - 260 * 64 ^ (j - 1) ≤ x ∧ x ≤ 260 * 64 ^ (j - 1) - 3) ∧ Hid (refVal l s = refGo x (s - j) (l.drop j))) (fun _ i => s - (intOf i).toNat)
      case atStart => exact ⟨1, a.toNat - f, by omega, by omega, by go_num, rfl, by omega, by omega, Lib.hid (by simp; omega), HV0⟩
      case round =>
        obtain ⟨j, x, hj1, hjs, rfl, rfl, hx1, hx2, HX, HV⟩ := hrel
        by_cases hlt : j < s
        · have hjl : j < l.length := by rw [HL.out]; omega
          have hc := HC.out j hjl
          have hdr : l.drop j = l[j] :: l.drop (j + 1) := List.drop_eq_getElem_cons hjl
          generalize l[j] = y at hc hdr
          have hyb := y.toNat_lt
          have hv : refVal l s = refGo (64 * x + (y.toNat - 128)) (s - (j + 1)) (l.drop (j + 1)) := by
            rw [HV.out, hdr, show s - j = (s - (j + 1)) + 1 by omega, refGo]
          have hp : (260 : Int) * 64 ^ (j + 1 - 1) = 64 * (260 * 64 ^ (j - 1)) := by
            rw [show j + 1 - 1 = (j - 1) + 1 by omega, Int.pow_succ]
            omega
          have hp4 : (260 : Int) * 64 ^ (j + 1 - 1) ≤ 68157440 := by
            rcases (show j = 1 ∨ j = 2 ∨ j = 3 by omega) with rfl | rfl | rfl <;> decide
          have HV' := Lib.hid hv
          have hX' : 3 - 260 * 64 ^ (j + 1 - 1) ≤ 64 * x + ((y.toNat : Int) - 128) ∧ 64 * x + ((y.toNat : Int) - 128) ≤ 260 * 64 ^ (j + 1 - 1) - 3 := by
            rw [hp]
            have := HX.out
            generalize (260 : Int) * 64 ^ (j - 1) = z at this
            omega
          have hx1' : -(68157440 : Int) ≤ 64 * x + ((y.toNat : Int) - 128) := by
            generalize (260 : Int) * 64 ^ (j + 1 - 1) = z at hX' hp4
            omega
          have hx2' : 64 * x + ((y.toNat : Int) - 128) ≤ 68157440 := by
            generalize (260 : Int) * 64 ^ (j + 1 - 1) = z at hX' hp4
            omega
          have HX' := Lib.hid hX'
          clear hdr hv hp hp4 hX'
          go_wp2_with fail
          go_round
          case rel => exact ⟨j + 1, 64 * x + ((y.toNat : Int) - 128), by omega, by omega, by go_num, by go_num, hx1', hx2', HX', HV'⟩
          case measure => simp [intOf]; omega
        · obtain rfl : j = s := by omega
          have HVx := Lib.hid (show refVal l j = x by rw [HV.out, Nat.sub_self, refGo])
          have hS := (hbs.alloc (.cells #[.int .i64 0, .int .i64 0, .int .i64 192, .int .i64 224, .int .i64 240] 3)).take hsn
          have hbw := hb.alloc hb.size (.cells #[.int .i64 0, .int .i64 0, .int .i64 192, .int .i64 224, .int .i64 240] 3)
          obtain ⟨w0, hw0⟩ : ∃ w0, w0 = wr.alloc (.cells #[.int .i64 0, .int .i64 0, .int .i64 192, .int .i64 224, .int .i64 240] 3) := ⟨_, rfl⟩
          rw [← hw0] at hS hbw ⊢
          have kd := run_convert_bs (P := Try.prog) hS.drew 22 5 9 Try.underlying22 Try.underlying5 Try.underlying9
          have kd' := run_convert_bs (P := Try.prog) hS 22 5 9 Try.underlying22 Try.underlying5 Try.underlying9
          clear hw0 HV0 HC h0 hfl hfb HV HX hbs h
          go_wp2_with fail
          go_region_with (go_at_call 18; refine (rbytes_any x _ (by omega)).mono ?_; rintro e w1 ⟨v, rfl, ho, hb1⟩; obtain ⟨A1, c1, rfl, hB1⟩ := ho.form; have k1 := run_convert_bs (P := Try.prog) hB1 22 5 9 Try.underlying22 Try.underlying5 Try.underlying9; have k2 := run_convert_bs (P := Try.prog) (hS.drew.below hb1) 22 5 9 Try.underlying22 Try.underlying5 Try.underlying9)
          all_goals
            have hb2 := hbw.drew.trans (hb1.mono hbw.size)
            clear k1 k2 kd kd' hB1 ho hb1 hbw hS
            generalize hq : (bytesR x == l.take j) = q
            cases q
            · have heq : ¬ bytesR x = l.take j := by simpa using hq
              have HS' : Hid (∀ q, 1 ≤ q → q < j + 1 → q ≤ n → bytesR (refVal l q) ≠ l.take q) := Lib.hid (fun q h1 h2 h3 => by
                rcases Nat.lt_or_ge q j with h | h
                · exact HS.out q h1 h h3
                · obtain rfl : q = j := by omega
                  rw [HVx.out]
                  exact heq)
              clear HS heq HVx HR hq
              go_wp2_with fail
              go_roundw
              case rel => exact ⟨j + 1, by omega, by omega, by go_num, HS', hb2⟩
              case measure => simp [intOf]; omega
            · have heq : bytesR x = l.take j := by simpa using hq
              have hh := ref_hit l j ⟨hj1, hs4⟩ (by rw [HL.out]; exact hsn) (by rw [HVx.out]; exact heq)
              rw [HR.out, HVx.out] at hh
              simp only [Prod.mk.injEq] at hh
              obtain ⟨⟨hh1, rfl⟩, hh2⟩ := hh
              obtain ⟨x, rfl⟩ : ∃ k : Nat, x = k := ⟨x.toNat, by omega⟩
              simp only [Int.toNat_natCast] at hh1
              subst hh1
              clear HS heq HVx HR hq
              go_wp2_with fail
              go_ret2
              exact ⟨rfl, hb2⟩
    · have h00 : R = 0 ∧ S = 0 := by
        rcases rune_bytes l R S HR.out with h0 | ⟨h1, h2, h3, h4, h5⟩
        · omega
        · rw [HL.out] at h3
          exact absurd (by rw [h4, h5]) (HS.out S h1 (by omega) h3)
      obtain ⟨rfl, rfl⟩ := h00
      clear HS HR
      by_cases h4 : s ≤ 4
      · go_wp2_with fail
        go_ret2
        exact ⟨rfl, hb⟩
      · go_wp2_with fail
        go_ret2
        exact ⟨rfl, hb⟩

theorem bs_after {w : World} {b o n c : Nat} {l : List UInt8} (h : BS w (some ⟨b, o, none⟩) n c l) {j : Nat} (hj : j ≤ n) : BS w (some ⟨b, o + j, none⟩) (n - j) (c - j) (l.drop j) := by
  rcases Nat.lt_or_ge j n with h1 | h1
  · have := drop_bs h h1
    simpa [Addr.add_lit] using this
  · obtain rfl : j = n := by omega
    have hl := h.len
    rw [Nat.sub_self, List.drop_of_length_le (by omega)]
    exact BS.empty (by have := h.max; omega)

set_option maxRecDepth 100000 in
theorem rrunes_any (A : Option Addr) (n c : Nat) (l : List UInt8) (w : World) (h : BS w A n c l) :
    Calls Try.prog 22 #[.slice A n c] w fun e w' => e = .returned (.tuple #[.int .i64 (textR l).1, .int .i64 (textR l).2]) ∧ Below w.heap.size w w' := by
  have hcap := h.cap
  have hmax := h.max
  have hsm := h.small
  have HL := Lib.hid h.len
  have ht := text_le l
  rw [HL.out] at ht
  obtain ⟨⟨T1, T2⟩, hT⟩ : ∃ x, textR l = x := ⟨_, rfl⟩
  rw [hT] at ht ⊢
  simp only at ht ⊢
  have HT := Lib.hid hT
  clear hT
  go_enter Try.func22, Try.ntmps22
  go_wp2_with fail
  go_loopw [2, 3, 4, 5, 6, 7] (fun _ _ s k _ _ wr => ∃ (j m : Nat), j ≤ n ∧ m ≤ j ∧ s = .int .i64 j ∧ k = .int .i64 m ∧ Hid (T1 = j + (textR (l.drop j)).1) ∧ Hid (T2 = m + (textR (l.drop j)).2) ∧ Below w.heap.size w wr) (fun _ _ s _ _ _ _ => n - (intOf s).toNat)
  case atStart => exact ⟨0, 0, by omega, by omega, rfl, rfl, Lib.hid (by simp [HT.out]), Lib.hid (by simp [HT.out]), Below.refl _ _⟩
  case round =>
    obtain ⟨j, m, hj, hm, rfl, rfl, H1, H2, hb⟩ := hrel
    obtain ⟨⟨r, s⟩, hx⟩ : ∃ x, runeR (l.drop j) = x := ⟨_, rfl⟩
    have hle := (rune_le (l.drop j)).1
    rw [List.length_drop, HL.out, hx] at hle
    simp only at hle
    have cR : ∀ A', BS wr A' (n - j) (c - j) (l.drop j) → Calls Try.prog 9 #[.slice A' (n - j) (c - j)] wr fun e w' => e = .returned (.tuple #[.int .i32 r, .int .i64 s]) ∧ Below wr.heap.size wr w' := fun A' hA => by
      have := rrune_any A' _ _ _ wr hA
      rw [hx] at this
      exact this
    have hbs := h.below hb
    by_cases hs : s = 0
    · subst hs
      have ht0 := textR_no (l := l.drop j) (by rw [hx])
      obtain rfl : T1 = j := by rw [H1.out, ht0]; simp
      obtain rfl : T2 = m := by rw [H2.out, ht0]; simp
      clear H1 H2 ht0 hx HT
      by_cases hjn : T1 < n
      · obtain ⟨b, o, rfl, _, _⟩ := hbs.has (by omega)
        have cR := cR _ (bs_after hbs hj)
        go_wp2_with (go_at_call 9; refine cR.mono ?_; rintro e w1 ⟨rfl, hb1⟩)
        go_ret2
        exact ⟨rfl, hb.trans (hb1.mono hb.size)⟩
      · obtain rfl : T1 = n := by omega
        have cR := fun A' => cR A' (by rw [Nat.sub_self, List.drop_of_length_le (by rw [HL.out]; exact Nat.le_refl _)]; exact BS.empty (by omega))
        simp only [Nat.sub_self] at cR
        by_cases hc : c = T1
        · subst hc
          simp only [Nat.sub_self] at cR
          go_wp2_with (go_at_call 9; refine (cR _).mono ?_; rintro e w1 ⟨rfl, hb1⟩)
          go_ret2
          exact ⟨rfl, hb.trans (hb1.mono hb.size)⟩
        · go_wp2_with (go_at_call 9; refine (cR _).mono ?_; rintro e w1 ⟨rfl, hb1⟩)
          go_ret2
          exact ⟨rfl, hb.trans (hb1.mono hb.size)⟩
    · have hs0 : ((s : Int) == 0) = false := by rw [beq_eq_false_iff_ne]; omega
      have ht0 := textR_yes (l := l.drop j) (by rw [hx]; exact hs)
      rw [hx, List.drop_drop] at ht0
      have h1 : T1 = j + s + (textR (l.drop (j + s))).1 := by rw [H1.out, ht0]; simp only; omega
      have h2 : T2 = m + 1 + (textR (l.drop (j + s))).2 := by rw [H2.out, ht0]; simp only; omega
      have K1 := Lib.hid h1
      have K2 := Lib.hid h2
      clear H1 H2 ht0 hx HT h1 h2
      have hjn : j < n := by omega
      obtain ⟨b, o, rfl, _, _⟩ := hbs.has (by omega)
      have cR := cR _ (bs_after hbs hj)
      go_wp2_with (go_at_call 9; refine cR.mono ?_; rintro e w1 ⟨rfl, hb1⟩)
      go_roundw
      case rel => exact ⟨j + s, m + 1, by omega, by omega, by go_num, by go_num, K1, K2, hb.trans (hb1.mono hb.size)⟩
      case measure => simp [intOf]; omega

end Go.Proofs.Ytedaaebmiodfpaa
