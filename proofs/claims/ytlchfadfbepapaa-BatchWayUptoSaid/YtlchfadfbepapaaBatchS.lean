/-
  BYTES THAT MAY BE SPOILT, wherever in a block of bytes they lie: f0.Spoil.
-/
import Derived.Test.YtlchfadfbepapaaRef00
import Derived.Test.YtlchfadfbepapaaFoot
namespace Go.Proofs.Ytlchfadfbepapaa
open Go.RowKit
/-- a block of s bytes -/
def BB (w : World) (g s : Nat) : Prop := ∃ r : List UInt8, r.length = s ∧ RowB 5 w g r
theorem BB.lt {w : World} {g s : Nat} (h : BB w g s) : g < w.heap.size := h.elim fun _ x => x.2.lt
theorem BB.keep {w w' : World} {g s : Nat} (h : BB w g s) (hk : w'.heap[g]? = w.heap[g]?) : BB w' g s := by
  obtain ⟨r, h1, h2⟩ := h
  exact ⟨r, h1, hk.trans h2⟩
theorem OwnB.bb {w : World} {base : Nat} {A : Option Addr} {n c : Nat} {l : List UInt8} (h : OwnB 5 w base (.slice A n c) l) : n ≤ c ∧ c ≤ 9223372036854775807 ∧ (c = 0 ∧ A = none ∨ ∃ g p s, A = some ⟨g, p, none⟩ ∧ base ≤ g ∧ p + c ≤ s ∧ BB w g s) := by
  rcases h with ⟨he, rfl⟩ | ⟨g, r, he, hb, hr, hm, hs⟩
  · injection he with h1 h2 h3
    subst h1 h2 h3
    exact ⟨Nat.le_refl _, by omega, .inl ⟨rfl, rfl⟩⟩
  · injection he with h1 h2 h3
    subst h1 h2 h3
    exact ⟨by omega, hm, .inr ⟨g, 0, l.length + r.length, rfl, hb, by omega, l ++ r, by simp, hr⟩⟩
set_option maxHeartbeats 4000000 in
theorem spoilG_any (A : Option Addr) (n c : Nat) (x : UInt8) (w : World) (hn : n ≤ c) (hc : c ≤ 9223372036854775807) (h : c = 0 ∧ A = none ∨ ∃ g p s, A = some ⟨g, p, none⟩ ∧ p + c ≤ s ∧ BB w g s) :
    Calls Try.prog 20 #[.slice A n c, .int .u8 (x.toNat : Int)] w fun e w' => e = .returned (.tuple #[]) ∧ (∃ F, Chg w w' F ∧ ∀ k ∈ F, ∃ p, A = some ⟨k, p, none⟩) ∧ ∀ g s, BB w g s → BB w' g s := by
  have hx := x.toNat_lt
  rcases h with ⟨rfl, rfl⟩ | ⟨g, p, S, rfl, hps, l0, hl0, hr0⟩
  · obtain rfl : n = 0 := by omega
    go_enter Try.func20, Try.ntmps20
    go_wp2_with fail
    go_loop [5] (fun i => i = .int .i64 0) (fun _ => 0)
    case atStart => rfl
    case round =>
      subst hrel
      go_wp2
      go_end0
      exact ⟨rfl, ⟨[], Chg.refl _ _, by simp⟩, fun _ _ h => h⟩
  · go_enter Try.func20, Try.ntmps20
    go_wp2_with fail
    go_loopw [5] (fun i wr => ∃ (j : Nat) (s : List UInt8), j ≤ c ∧ s.length = S ∧ i = .int .i64 j ∧ RowB 5 wr g s ∧ Chg w wr [g]) (fun i _ => c - (intOf i).toNat)
    case atStart => exact ⟨0, l0, by omega, hl0, rfl, hr0, Chg.refl _ _⟩
    case round =>
      obtain ⟨j, s, hj, hs, rfl, hr, hg⟩ := hrel
      have HS := Lib.hid hs
      clear hs
      by_cases hlt : j < c
      · have hce := hr.cell (i := p + j) (by rw [HS.out]; omega)
        generalize hy : s[p + j]'(by rw [HS.out]; omega) = y at hce
        clear hy
        have hf := hr.frozen (p + j)
        have hyb := y.toNat_lt
        go_wp2
        go_roundw
        case rel =>
          refine ⟨j + 1, s.set (p + j) (y ^^^ x), by omega, by rw [List.length_set, HS.out], by go_num, ?_, hg.trans (Chg.setCell _ _ _ _) (fun k hk => .inl hk)⟩
          have h1 := hr.set_ (p + j) (y ^^^ x)
          rw [← xor_bv] at h1
          exact h1
        case measure => simp [intOf]; omega
      · go_wp2
        go_end0
        refine ⟨rfl, ⟨[g], hg, fun k hk => ⟨p, by rw [List.mem_singleton] at hk; rw [hk]⟩⟩, fun g' s' hB => ?_⟩
        by_cases hgg : g' = g
        · subst hgg
          obtain ⟨l1, hl1, hr1⟩ := hB
          have e : l1 = l0 := by
            unfold RowB at hr1 hr0
            rw [hr0] at hr1
            injection hr1 with hr1
            injection hr1 with hr1
            have h1 : l0.map bv = l1.map bv := by simpa using hr1
            have : ∀ a b : UInt8, bv a = bv b → a = b := fun a b h => by
              injection h with _ h
              exact UInt8.toNat_inj.1 (by exact_mod_cast h)
            exact (List.map_inj_right this).1 h1.symm
          exact ⟨s, by rw [HS.out, ← hl0, ← e, hl1], hr⟩
        · exact hB.keep (hg.block g' hB.lt (by rw [List.mem_singleton]; exact hgg))
end Go.Proofs.Ytlchfadfbepapaa
