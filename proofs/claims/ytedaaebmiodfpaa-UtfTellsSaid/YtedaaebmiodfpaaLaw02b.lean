/-
  THE WALK OF cardexlaw02's LAW UtfTells: it answers true.
-/
import Derived.Test.YtedaaebmiodfpaaLaw02
import Derived.Test.YtedaaebmiodfpaaTextRef2
namespace Go.Proofs.Ytedaaebmiodfpaa
open Go.RowKit

set_option maxHeartbeats 4000000 in
set_option maxRecDepth 100000 in
theorem walk_UtfTells (A : Option Addr) (n c : Nat) (l : List UInt8) (most : Int) (w : World) (h : BS w A n c l) (hn : n ≤ 140737488351232) (hm : (Lit.int .i64 most).wf = true) :
    Calls Try.prog 3 #[.slice A n c, .int .i64 most] w fun e w' => e = .returned (.bool true) ∧ Below w.heap.size w w' := by
  have hmr := i64_range hm
  clear hm
  by_cases h3 : n > 300
  · go_enter Try.func3, Try.ntmps3
    go_wp2_with fail
    refine (lives_any _).mono ?_
    rintro e w2 ⟨rfl, hb2⟩
    go_wp2_with fail
    go_ret
    exact ⟨rfl, hb2⟩
  · have hl : l.length ≤ 281474976710656 := by rw [h.len]; omega
    have cR := fun W hW => rune_any A n c l W hW
    have dR := fun W hW => rrune_any A n c l W hW
    have cI := fun W hW => is_any A n c l W hW
    have dI := fun W hW => ris_any A n c l W hW
    have cK := fun W => check_any l most W hl
    have dK := fun W => rcheck_any l most W hl
    have cN := fun W => count_any l W hl
    have dN := fun W => rcount_any l W hl
    have cC := fun W => ucut_any l most W hl
    have dC := fun W => rcut_any l most W hl
    have kd : ∀ W, BS W A n c l → (convert 22 9 (.slice A n c)).run Try.prog W = .ok (str l) W := fun W hW => run_convert_bs (P := Try.prog) hW 22 5 9 Try.underlying22 Try.underlying5 Try.underlying9
    obtain ⟨⟨r, s⟩, hr⟩ : ∃ x, x = runeR l := ⟨_, rfl⟩
    rw [← hr] at cR dR
    obtain ⟨I, hI⟩ : ∃ x, x = isR l := ⟨_, rfl⟩
    rw [← hI] at cI dI
    obtain ⟨K, hK⟩ : ∃ x, x = checkR l most := ⟨_, rfl⟩
    rw [← hK] at cK dK
    obtain ⟨N, hN⟩ : ∃ x, x = (textR l).2 := ⟨_, rfl⟩
    rw [← hN] at cN dN
    obtain ⟨C, hC⟩ : ∃ x, x = cutR l most := ⟨_, rfl⟩
    rw [← hC] at cC dC
    clear hr hI hK hN hC
    go_enter Try.func3, Try.ntmps3
    go_wp2_with fail
    refine (cR _ h).mono ?_
    rintro e w1 ⟨rfl, rfl⟩
    clear cR
    go_wp2_with fail
    refine (dR _ h).mono ?_
    rintro e w1 ⟨rfl, hb1⟩
    clear dR
    have h1 := h.below hb1
    have k1 := kd _ h1
    clear kd
    go_wp2_with fail
    refine (cI _ h1).mono ?_
    rintro e w2 ⟨rfl, rfl⟩
    clear cI
    go_wp2_with fail
    refine (dI _ h1).mono ?_
    rintro e w2 ⟨rfl, hb2⟩
    clear dI
    have hb12 := hb1.trans (hb2.mono hb1.size)
    clear hb1 hb2
    go_wp2_with fail
    refine (cK _).mono ?_
    rintro e w3 ⟨rfl, hb3⟩
    clear cK
    have hb13 := hb12.trans (hb3.mono hb12.size)
    clear hb12 hb3
    go_wp2_with fail
    refine (dK _).mono ?_
    rintro e w4 ⟨rfl, hb4⟩
    clear dK
    have hb14 := hb13.trans (hb4.mono hb13.size)
    clear hb13 hb4
    go_wp2_with fail
    refine (cN _).mono ?_
    rintro e w5 ⟨rfl, hb5⟩
    clear cN
    have hb15 := hb14.trans (hb5.mono hb14.size)
    clear hb14 hb5
    go_wp2_with fail
    refine (dN _).mono ?_
    rintro e w6 ⟨rfl, hb6⟩
    clear dN
    have hb16 := hb15.trans (hb6.mono hb15.size)
    clear hb15 hb6
    go_wp2_with fail
    refine (cC _).mono ?_
    rintro e w7 ⟨rfl, hb7⟩
    clear cC
    have hb17 := hb16.trans (hb7.mono hb16.size)
    clear hb16 hb7
    go_wp2_with fail
    refine (dC _).mono ?_
    rintro e w8 ⟨rfl, hb8⟩
    clear dC
    have hb18 := hb17.trans (hb8.mono hb17.size)
    clear hb17 hb8
    go_wp2_with fail
    refine (lives_any _).mono ?_
    rintro e w9 ⟨rfl, hb9⟩
    have hb19 := hb18.trans (hb9.mono hb18.size)
    go_wp2_with fail
    go_ret
    exact ⟨rfl, hb19⟩

end Go.Proofs.Ytedaaebmiodfpaa
