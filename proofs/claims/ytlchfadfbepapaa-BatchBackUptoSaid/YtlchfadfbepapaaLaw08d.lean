/-
  cardexlaw08: BatchBack.
-/
import Derived.Test.YtlchfadfbepapaaLaw08a
namespace Go.Proofs.Ytlchfadfbepapaa
open Go.RowKit
namespace bt
theorem getN_nil (b : List UInt8) : ∀ (n a : Nat) (acc : List C), (getN b n a acc).2 ≠ 0 → (getN b n a acc).1 = []
  | 0, a, acc => by
    rw [getN_zero]
    split
    · intro h; exact absurd rfl h
    · intro _; rfl
  | n + 1, a, acc => by
    rw [getN_next]
    split
    · intro _; rfl
    · split
      · exact getN_nil b n _ _
      · intro _; rfl
theorem get_nil {b : List UInt8} (h : (get b).2 ≠ 0) : (get b).1 = [] := by
  unfold get at h ⊢
  split at h
  · rename_i h1
    rw [if_pos h1]
  · rename_i h1
    rw [if_neg h1]
    exact getN_nil _ _ _ _ h
end bt
set_option maxHeartbeats 4000000 in
set_option maxRecDepth 100000 in
theorem walk_BatchBack (B : Option Addr) (m d : Nat) (l : List bt.C) (A : Option Addr) (n c : Nat) (b : List UInt8) (w : World) (h2 : CS w B m d l) (hm : m ≤ 1048576) (hs2 : ∀ r ∈ l, r.key.length ≤ 1048576 ∧ r.val.length ≤ 1048576) (h : BS w A n c b) (hn : n ≤ 1048576) :
    Calls Try.prog 6 #[.slice B m d, .slice A n c] w fun e w' => e = .returned (.bool true) ∧ Below w.heap.size w w' := by
  have hk2 : ∀ r ∈ l, r.key.length ≤ 9223372036854775807 := fun r hr => Nat.le_trans (hs2 r hr).1 (by omega)
  have hlm := h2.len
  have hln := h.len
  have hsz := bt.bytes_size (by rw [hlm]; exact hm) hs2
  have HP := Lib.hid (cb_put l h2 hk2 (by omega) (fun _ => hsz))
  have HG := Lib.hid (fun W (x : Below w.heap.size w W) => cb_get b (h.below x) (by omega))
  -- the second half
  have tail : ∀ W, Below w.heap.size w W → (bt.get b).2 = 0 → ∀ (A' : Option Addr) (c' : Nat), CS W A' (bt.get b).1.length c' (bt.get b).1 → Calls Try.prog 8 #[.slice A' (bt.get b).1.length c'] W fun e w' =>
      ∃ v, e = .returned (.tuple #[v, .int .i64 0]) ∧ OwnB 5 w' W.heap.size v b ∧ Below W.heap.size W w' := fun W x h0 A' c' hc => by
    obtain ⟨g1, g2, g3⟩ := bt.bytes_get (b := b) (l := (bt.get b).1) (Prod.ext rfl h0)
    have := cb_put (bt.get b).1 hc (fun r hr => Nat.le_trans (bt.mayC_all _ none g2 r hr).1 (by omega)) g3 (fun _ => by rw [g1, hln]; omega)
    rw [g2, if_pos rfl, if_pos rfl, g1] at this
    exact this.mono fun e w' ⟨⟨v, e1, e2⟩, e3⟩ => ⟨v, e1, e2, e3⟩
  have TL := Lib.hid tail
  have NL := Lib.hid (bt.get_nil (b := b))
  obtain ⟨X, hX⟩ : ∃ X, (bt.get b).1 = X := ⟨_, rfl⟩
  obtain ⟨E, hE⟩ : ∃ X, (bt.get b).2 = X := ⟨_, rfl⟩
  rw [hX, hE] at HG TL NL
  have last : ∀ W, Below w.heap.size w W → Below w.heap.size w W := fun _ x => x
  clear tail hX hE last
  by_cases hmy : bt.mayC l = true
  · have hgb := bt.get_bytes hmy (by omega)
    rw [hmy, if_pos rfl, if_pos rfl] at HP
    have HG1 := Lib.hid (fun (A : Option Addr) (n c : Nat) (W : World) (x : BS W A n c (bt.bytes l)) => (cb_get (bt.bytes l) x (by have := x.len; omega)))
    rw [hgb] at HG1
    clear hgb hmy hs2 hk2 hsz
    by_cases h0 : E = 0
    · have h0' : (E != 0) = false := by simp [h0]
      have TL2 := Lib.hid (fun W x => TL.out W x h0)
      clear TL NL h0
      go_enter Try.func6, Try.ntmps6
      go_wp2_with fail
      refine HP.out.mono ?_
      rintro e w1 ⟨⟨v1, rfl, o1⟩, b1⟩
      obtain ⟨A1, c1, rfl, B1⟩ := o1.form
      go_wp2_with fail
      refine (HG1.out _ _ _ w1 B1).mono ?_
      rintro e w2 ⟨v2, rfl, G2, b2⟩
      obtain ⟨A2, c2, rfl, C2, -⟩ := G2
      have b12 := b1.trans (b2.mono b1.size)
      have L2 := h2.below b12
      rw [hlm] at C2 ⊢
      go_wp2_with fail
      refine (changes_any C2 L2).mono ?_
      rintro e w3 ⟨rfl, b3⟩
      rw [decide_eq_true (rfl : l = l)]
      have b13 := b12.trans (b3.mono b12.size)
      clear HP HG1 C2 L2 b1 b2 b3 b12
      go_wp2_with fail
      refine (HG.out w3 b13).mono ?_
      rintro e w4 ⟨v4, rfl, G4, b4⟩
      obtain ⟨A4, c4, rfl, C4, -⟩ := G4
      have b14 := b13.trans (b4.mono b13.size)
      go_wp2_with fail
      refine (TL2.out w4 b14 A4 c4 C4).mono ?_
      rintro e w5 ⟨v5, rfl, o5, b5⟩
      have b15 := b14.trans (b5.mono b14.size)
      obtain ⟨A5, c5, rfl, B5⟩ := o5.form
      rw [hln] at B5 ⊢
      have B5' := h.below b15
      go_wp2_with fail
      refine (same_any _ _ _ _ _ _ _ _ w5 B5 B5').mono ?_
      rintro e w6 ⟨rfl, rfl⟩
      rw [decide_eq_true (rfl : b = b)]
      go_wp2_with fail
      refine (lives08_any w5).mono ?_
      rintro e w7 ⟨rfl, b7⟩
      go_wp2_with fail
      go_ret
      exact ⟨rfl, b15.trans (b7.mono b15.size)⟩
    · have h0' : (E != 0) = true := by simp [h0]
      have hx := NL.out h0
      subst hx
      clear TL NL h0
      go_enter Try.func6, Try.ntmps6
      go_wp2_with fail
      refine HP.out.mono ?_
      rintro e w1 ⟨⟨v1, rfl, o1⟩, b1⟩
      obtain ⟨A1, c1, rfl, B1⟩ := o1.form
      go_wp2_with fail
      refine (HG1.out _ _ _ w1 B1).mono ?_
      rintro e w2 ⟨v2, rfl, G2, b2⟩
      obtain ⟨A2, c2, rfl, C2, -⟩ := G2
      have b12 := b1.trans (b2.mono b1.size)
      have L2 := h2.below b12
      rw [hlm] at C2 ⊢
      go_wp2_with fail
      refine (changes_any C2 L2).mono ?_
      rintro e w3 ⟨rfl, b3⟩
      rw [decide_eq_true (rfl : l = l)]
      have b13 := b12.trans (b3.mono b12.size)
      clear HP HG1 C2 L2 b1 b2 b3 b12
      go_wp2_with fail
      refine (HG.out w3 b13).mono ?_
      rintro e w4 ⟨v4, rfl, G4, b4⟩
      obtain ⟨A4, c4, rfl, C4, -⟩ := G4
      have b14 := b13.trans (b4.mono b13.size)
      rw [List.length_nil]
      go_wp2_with fail
      refine (lives08_any w4).mono ?_
      rintro e w7 ⟨rfl, b7⟩
      go_wp2_with fail
      go_ret
      exact ⟨rfl, b14.trans (b7.mono b14.size)⟩
  · rw [if_neg hmy, if_neg hmy] at HP
    by_cases h0 : E = 0
    · have h0' : (E != 0) = false := by simp [h0]
      have TL2 := Lib.hid (fun W x => TL.out W x h0)
      clear TL NL h0 hmy
      go_enter Try.func6, Try.ntmps6
      go_wp2_with fail
      refine HP.out.mono ?_
      rintro e w3 ⟨⟨v1, rfl, -⟩, b13⟩
      go_wp2_with fail
      refine (HG.out w3 b13).mono ?_
      rintro e w4 ⟨v4, rfl, G4, b4⟩
      obtain ⟨A4, c4, rfl, C4, -⟩ := G4
      have b14 := b13.trans (b4.mono b13.size)
      go_wp2_with fail
      refine (TL2.out w4 b14 A4 c4 C4).mono ?_
      rintro e w5 ⟨v5, rfl, o5, b5⟩
      have b15 := b14.trans (b5.mono b14.size)
      obtain ⟨A5, c5, rfl, B5⟩ := o5.form
      rw [hln] at B5 ⊢
      have B5' := h.below b15
      go_wp2_with fail
      refine (same_any _ _ _ _ _ _ _ _ w5 B5 B5').mono ?_
      rintro e w6 ⟨rfl, rfl⟩
      rw [decide_eq_true (rfl : b = b)]
      go_wp2_with fail
      refine (lives08_any w5).mono ?_
      rintro e w7 ⟨rfl, b7⟩
      go_wp2_with fail
      go_ret
      exact ⟨rfl, b15.trans (b7.mono b15.size)⟩
    · have h0' : (E != 0) = true := by simp [h0]
      have hx := NL.out h0
      subst hx
      clear TL NL h0 hmy
      go_enter Try.func6, Try.ntmps6
      go_wp2_with fail
      refine HP.out.mono ?_
      rintro e w3 ⟨⟨v1, rfl, -⟩, b13⟩
      go_wp2_with fail
      refine (HG.out w3 b13).mono ?_
      rintro e w4 ⟨v4, rfl, G4, b4⟩
      obtain ⟨A4, c4, rfl, C4, -⟩ := G4
      have b14 := b13.trans (b4.mono b13.size)
      rw [List.length_nil]
      go_wp2_with fail
      refine (lives08_any w4).mono ?_
      rintro e w7 ⟨rfl, b7⟩
      go_wp2_with fail
      go_ret
      exact ⟨rfl, b14.trans (b7.mono b14.size)⟩
end Go.Proofs.Ytlchfadfbepapaa
