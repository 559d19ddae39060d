/-
  cardexlaw08: BatchGets.
-/
import Derived.Test.YtlchfadfbepapaaLives08
namespace Go.Proofs.Ytlchfadfbepapaa
open Go.RowKit
theorem wide_bs {w : World} {g n : Nat} {l : List UInt8} (hl : l.length = n) (hn : n ≤ 281474976710656) (hr : RowB 5 w g (l ++ [7, 7, 7])) : BS w (some ⟨g, 0, none⟩) n (n + 3) l :=
  ⟨hl, by omega, by omega, hn, fun _ => ⟨g, 0, rfl, hr.lt, fun i hi => by
    rw [Nat.zero_add, hr.cell (i := i) (by simp; omega)]
    simp [List.getElem_append_left, hi]⟩⟩
set_option maxHeartbeats 4000000 in
set_option maxRecDepth 100000 in
theorem walk_BatchGets (A : Option Addr) (n c : Nat) (l : List UInt8) (w : World) (h : BS w A n c l) (hn : n ≤ 140737488351232) :
    Calls Try.prog 4 #[.slice A n c] w fun e w' => e = .returned (.bool true) ∧ Below w.heap.size w w' := by
  have hl := h.len
  have HG := Lib.hid (fun (A : Option Addr) (c : Nat) (W : World) (g : BS W A n c l) => cb_get l g (by omega))
  have HR := Lib.hid (fun (W : World) (g : BS W A n c l) => rget8_any A n c l W g (by omega))
  obtain ⟨X, hX⟩ : ∃ X, (bt.get l).1 = X := ⟨_, rfl⟩
  obtain ⟨E, hE⟩ : ∃ E, (bt.get l).2 = E := ⟨_, rfl⟩
  rw [hX, hE] at HG HR
  have hEE : (E == E) = true := by simp
  clear hX hE
  go_enter Try.func4, Try.ntmps4
  go_wp2_with fail
  refine (wide_any A n c l _ h (by omega)).mono ?_
  rintro e w1 ⟨rfl, r1, b1⟩
  have h1 := h.below b1
  go_wp2_with fail
  refine (HG.out _ _ w1 (wide_bs hl (by omega) r1)).mono ?_
  rintro e w2 ⟨v2, rfl, G2, b2⟩
  have h2 := h1.below b2
  go_wp2_with fail
  refine (HR.out w2 h2).mono ?_
  rintro e w3 ⟨v3, rfl, O3, b3⟩
  have b23 := b2.trans (b3.mono b2.size)
  have G3 := G2.below b3
  obtain ⟨A2, c2, rfl, C2, V2, O2c⟩ := G3
  obtain ⟨A3, c3, rfl, C3⟩ := O3.cs
  go_wp2_with fail
  refine (changes_any C2 C3).mono ?_
  rintro e w4 ⟨rfl, b4⟩
  rw [decide_eq_true (rfl : X = X)]
  have b24 := b23.trans (b4.mono b23.size)
  have C4 := C2.below b4
  have V4 : ∀ b o, A2 = some ⟨b, o, none⟩ → GV w4 w1.heap.size b o X.length := (GC.below (base := w1.heap.size) ⟨A2, c2, rfl, C2, V2, O2c⟩ b4).elim fun A' hh => by
    obtain ⟨c', e1, _, e3, _⟩ := hh
    injection e1 with e1 e2
    rw [e1]
    exact e3
  have hcap := C4.cap
  have hmax := C4.max
  obtain ⟨N, hN⟩ : ∃ N, X.length = N := ⟨_, rfl⟩
  rw [hN] at C4 V4 hcap ⊢
  have hA2 : 0 < N → ∃ b o, A2 = some ⟨b, o, none⟩ := fun h0 => by
    obtain ⟨b, o, e, _⟩ := C4.has h0
    exact ⟨b, o, e⟩
  clear C2 C3 C4 V2 O3 G2 b2 b3 b4 b23 HG HR
  go_wp2_with fail
  go_loopw [9] (fun t wr => ∃ i : Nat, t = .int .i64 i ∧ i ≤ N ∧ (∀ b o, A2 = some ⟨b, o, none⟩ → GV wr w1.heap.size b o N) ∧ Below w1.heap.size w1 wr) (fun t _ => N - (intOf t).toNat)
  case atStart => exact ⟨0, rfl, by omega, V4, b24⟩
  case round =>
    clear V4 b24
    obtain ⟨i, rfl, hi, V, b⟩ := hrel
    by_cases hlt : i < N
    · obtain ⟨gb, go, rfl⟩ := hA2 (by omega)
      have hV := V gb go rfl
      obtain ⟨Ai, mi, ci, q1, q2, q3, q4⟩ := hV i hlt
      have hbl := World.block_lt_of_cell? _ _ q1
      have hS := spoilG_any Ai mi ci 5 wr q2 q3 (q4.imp id fun ⟨g, p, s, e, _, _, k3, k4⟩ => ⟨g, p, s, e, k3, k4⟩)
      rw [show (((5 : UInt8).toNat : Nat) : Int) = 5 from rfl] at hS
      have HS := Lib.hid hS
      clear hS
      go_wp2_with fail
      refine HS.out.mono ?_
      rintro e w5 ⟨rfl, ⟨F, cF, hF⟩, hBB⟩
      have hF2 : ∀ k ∈ F, w1.heap.size ≤ k ∧ k ≠ gb := fun k hk => by
        obtain ⟨p, e⟩ := hF k hk
        rcases q4 with ⟨_, e2⟩ | ⟨g, p2, s, e2, k1, k2, _, _⟩
        · rw [e] at e2; cases e2
        · rw [e] at e2
          injection e2 with e2
          injection e2 with e2
          rw [e2]
          exact ⟨k1, k2⟩
      go_wp2_with fail
      go_roundw
      case rel =>
        refine ⟨i + 1, by go_num, by omega, fun b o e => ?_, b.trans (cF.below b.size (fun k hk => (hF2 k hk).1))⟩
        injection e with e
        injection e with e1 e2
        subst e1 e2
        exact GV.step hV cF (fun hm => (hF2 _ hm).2 rfl) hBB
      case measure => simp [intOf]; omega
    · have r5 := r1.below b r1.lt
      have h5 := h1.below b
      go_wp2_with fail
      refine (left_any A n c _ l wr r5 h5 (by omega)).mono ?_
      rintro e w5 ⟨rfl, rfl⟩
      go_wp2_with fail
      refine (lives08_any wr).mono ?_
      rintro e w6 ⟨rfl, b6⟩
      go_wp2_with fail
      go_ret
      exact ⟨rfl, (b1.trans (b.mono b1.size)).trans (b6.mono (b1.trans (b.mono b1.size)).size)⟩
end Go.Proofs.Ytlchfadfbepapaa
