/-
  cardexref08's Whole.
-/
import Derived.Test.YtlchfadfbepapaaBatchB
namespace Go.Proofs.Ytlchfadfbepapaa
open Go.RowKit
theorem TS.nil_ (w : World) : TS w none 0 0 [] := ⟨rfl, Nat.le_refl _, by omega, fun h => absurd h (by omega)⟩
set_option maxRecDepth 100000 in
theorem rwhole_any (B : Option Addr) (m d : Nat) (b : List bt.R) (w : World) (hl : TS w B m d b) (hk2 : ∀ r ∈ b, r.key.length ≤ 9223372036854775807) (hn : m ≤ 1099511627774) : Calls Try.prog 28 #[.slice B m d] w fun e w' => (∃ A' c', e = .returned (.tuple #[.slice A' (bt.between [] b).1.length c', .int .i64 (bt.between [] b).2]) ∧ CS w' A' (bt.between [] b).1.length c' (bt.between [] b).1) ∧ Below w.heap.size w w' := by
  have HB := Lib.hid (rbetween_any none 0 0 [] B m d b w (TS.nil_ w) hl (fun r hr => by cases hr) hk2 (by omega))
  clear hl hk2
  obtain ⟨R, hR⟩ : ∃ R, bt.between [] b = R := ⟨_, rfl⟩
  rw [hR] at HB ⊢
  obtain ⟨l, e0⟩ := R
  simp only at HB ⊢
  obtain ⟨q, hq⟩ : ∃ q, l.length = q := ⟨_, rfl⟩
  rw [hq] at HB ⊢
  clear hR hq
  go_enter Try.func28, Try.ntmps28
  go_wp2_with (go_at_call 26; refine HB.out.mono ?_; rintro e w1 ⟨⟨A', c', rfl, hcs⟩, hb1⟩)
  go_ret2
  exact ⟨⟨A', c', rfl, hcs⟩, hb1⟩
end Go.Proofs.Ytlchfadfbepapaa
