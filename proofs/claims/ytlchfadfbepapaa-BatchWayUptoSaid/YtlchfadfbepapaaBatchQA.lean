/-
  THE PROGRAM's batch: which of two lists is ahead (ahead); two sorted lists gone through at once (both), as states of its loop.
-/
import Derived.Test.YtlchfadfbepapaaBatchX
namespace Go.Proofs.Ytlchfadfbepapaa
open Go.RowKit Go.Shelf
namespace bt
/-- which of two lists is ahead -/
def ahead : List C → List C → Int
  | [], _ => 1
  | _ :: _, [] => -1
  | x :: _, y :: _ => cmp x.key y.key
end bt
set_option maxHeartbeats 2000000 in
set_option maxRecDepth 100000 in
theorem ahead_any (A B : Option Addr) (n c m d : Nat) (l k : List bt.C) (w : World) (h : CS w A n c l) (h2 : CS w B m d k) :
    Calls Try.prog 71 #[.slice A n c, .slice B m d] w fun e w' => e = .returned (.int .i64 (bt.ahead l k)) ∧ Below w.heap.size w w' := by
  have hl := h.len
  have hl2 := h2.len
  cases l with
  | nil =>
    have h0 : n = 0 := by rw [← hl]; rfl
    subst h0
    rw [show bt.ahead [] k = 1 by rfl]
    clear h h2
    go_enter Try.func71, Try.ntmps71
    go_wp2_with fail
    go_ret
    exact ⟨rfl, Below.refl _ _⟩
  | cons x l =>
    have hn : 0 < n := by rw [← hl]; simp
    have hn0 : ((n : Int) == 0) = false := beq_eq_false_iff_ne.2 (by omega)
    have hn1 : ¬ n = 0 := by omega
    cases k with
    | nil =>
      have h0 : m = 0 := by rw [← hl2]; rfl
      subst h0
      rw [show bt.ahead (x :: l) [] = -1 by rfl]
      clear h h2
      go_enter Try.func71, Try.ntmps71
      go_wp2_with fail
      go_ret
      exact ⟨rfl, Below.refl _ _⟩
    | cons y k =>
      have hm : 0 < m := by rw [← hl2]; simp
      have hm0 : ((m : Int) == 0) = false := beq_eq_false_iff_ne.2 (by omega)
      have hm1 : ¬ m = 0 := by omega
      obtain ⟨b1, o1, rfl, hb1, hr1⟩ := h.has hn
      obtain ⟨b2, o2, rfl, hb2, hr2⟩ := h2.has hm
      obtain ⟨p1, r1, X, cx, q1, -⟩ := hr1 0 (by simp)
      obtain ⟨p2, r2, Y, cy, q2, -⟩ := hr2 0 (by simp)
      simp only [List.getElem_cons_zero, Nat.zero_mul, Nat.add_zero] at p1 r1 q1 p2 r2 q2
      rw [show bt.ahead (x :: l) (y :: k) = bt.cmp x.key y.key by rfl]
      obtain ⟨kx, hkx⟩ : ∃ k, x.key = k := ⟨_, rfl⟩
      obtain ⟨ky, hky⟩ : ∃ k, y.key = k := ⟨_, rfl⟩
      obtain ⟨mx, hmx⟩ : ∃ m, x.val.length = m := ⟨_, rfl⟩
      obtain ⟨my, hmy⟩ : ∃ m, y.val.length = m := ⟨_, rfl⟩
      obtain ⟨gx, hgx⟩ : ∃ g, x.gone = g := ⟨_, rfl⟩
      obtain ⟨gy, hgy⟩ : ∃ g, y.gone = g := ⟨_, rfl⟩
      rw [hkx] at p1
      rw [hky] at p2
      rw [hmx] at q1
      rw [hmy] at q2
      rw [hgx] at r1
      rw [hgy] at r2
      rw [hkx, hky]
      have HB := Lib.hid (fun W => byKey_any kx ky (.slice X mx cx) (.bool gx) (.slice Y my cy) (.bool gy) W)
      clear h h2 hr1 hr2 hkx hky hmx hmy hgx hgy
      go_enter Try.func71, Try.ntmps71
      go_wp2_with fail
      refine wp_region_held_drew (S := fun W => Below w.heap.size w W) (by kernel_rfl) (Below.refl _ _).drew (fun hHeld => ?_)
      refine wpAnyH_take (i := 0) (v := ?_) rfl (by kernel_rfl) (by kernel_rfl) (by kernel_rfl) (fun _ _ _ h => h) (Or.inl ⟨by rfl, ?_⟩) hHeld ?_
      rotate_left
      · intro w hSw; have f0 := (hSw.cell (p := ⟨b1, o1, none⟩) hb1).trans p1; have f1 := (hSw.cell (p := ⟨b1, o1 + 1, none⟩) hb1).trans q1; have f2 := (hSw.cell (p := ⟨b1, o1 + 2, none⟩) hb1).trans r1; have f3 := (hSw.cell (p := ⟨b2, o2, none⟩) hb2).trans p2; have f4 := (hSw.cell (p := ⟨b2, o2 + 1, none⟩) hb2).trans q2; have f5 := (hSw.cell (p := ⟨b2, o2 + 2, none⟩) hb2).trans r2; clear hSw; go_simp; try rfl
      simp only [List.getElem_toArray, List.getElem_cons_zero, Act.put, List.setIfInBounds_toArray, List.set_cons_zero, List.set_cons_succ]
      refine wpAnyH_take (i := 1) (v := ?_) rfl (by kernel_rfl) (by kernel_rfl) (by kernel_rfl) (fun _ _ _ h => h) (Or.inl ⟨by rfl, ?_⟩) hHeld ?_
      rotate_left
      · intro w hSw; have f0 := (hSw.cell (p := ⟨b1, o1, none⟩) hb1).trans p1; have f1 := (hSw.cell (p := ⟨b1, o1 + 1, none⟩) hb1).trans q1; have f2 := (hSw.cell (p := ⟨b1, o1 + 2, none⟩) hb1).trans r1; have f3 := (hSw.cell (p := ⟨b2, o2, none⟩) hb2).trans p2; have f4 := (hSw.cell (p := ⟨b2, o2 + 1, none⟩) hb2).trans q2; have f5 := (hSw.cell (p := ⟨b2, o2 + 2, none⟩) hb2).trans r2; clear hSw; go_simp; try rfl
      simp only [List.getElem_toArray, List.getElem_cons_zero, List.getElem_cons_succ, Act.put, List.setIfInBounds_toArray, List.set_cons_zero, List.set_cons_succ]
      refine wpAnyH_take (i := 2) (v := ?_) rfl (by kernel_rfl) (by kernel_rfl) (by kernel_rfl) (fun _ _ _ h => h) (Or.inl ⟨by rfl, ?_⟩) hHeld ?_
      rotate_left
      · intro w hSw; have f0 := (hSw.cell (p := ⟨b1, o1, none⟩) hb1).trans p1; have f1 := (hSw.cell (p := ⟨b1, o1 + 1, none⟩) hb1).trans q1; have f2 := (hSw.cell (p := ⟨b1, o1 + 2, none⟩) hb1).trans r1; have f3 := (hSw.cell (p := ⟨b2, o2, none⟩) hb2).trans p2; have f4 := (hSw.cell (p := ⟨b2, o2 + 1, none⟩) hb2).trans q2; have f5 := (hSw.cell (p := ⟨b2, o2 + 2, none⟩) hb2).trans r2; clear hSw; go_simp; try rfl
      simp only [List.getElem_toArray, List.getElem_cons_zero, List.getElem_cons_succ, Act.put, List.setIfInBounds_toArray, List.set_cons_zero, List.set_cons_succ]
      refine wpAnyH_take (i := 3) (v := ?_) rfl (by kernel_rfl) (by kernel_rfl) (by kernel_rfl) (fun _ _ _ h => h) (Or.inl ⟨by rfl, ?_⟩) hHeld ?_
      rotate_left
      · intro w hSw; have f0 := (hSw.cell (p := ⟨b1, o1, none⟩) hb1).trans p1; have f1 := (hSw.cell (p := ⟨b1, o1 + 1, none⟩) hb1).trans q1; have f2 := (hSw.cell (p := ⟨b1, o1 + 2, none⟩) hb1).trans r1; have f3 := (hSw.cell (p := ⟨b2, o2, none⟩) hb2).trans p2; have f4 := (hSw.cell (p := ⟨b2, o2 + 1, none⟩) hb2).trans q2; have f5 := (hSw.cell (p := ⟨b2, o2 + 2, none⟩) hb2).trans r2; clear hSw; go_simp; try rfl
      simp only [List.getElem_toArray, List.getElem_cons_zero, List.getElem_cons_succ, Act.put, List.setIfInBounds_toArray, List.set_cons_zero, List.set_cons_succ]
      refine wpAnyH_take (i := 4) (v := ?_) rfl (by kernel_rfl) (by kernel_rfl) (by kernel_rfl) (fun _ _ _ h => h) (Or.inl ⟨by rfl, ?_⟩) hHeld ?_
      rotate_left
      · intro w hSw; have f0 := (hSw.cell (p := ⟨b1, o1, none⟩) hb1).trans p1; have f1 := (hSw.cell (p := ⟨b1, o1 + 1, none⟩) hb1).trans q1; have f2 := (hSw.cell (p := ⟨b1, o1 + 2, none⟩) hb1).trans r1; have f3 := (hSw.cell (p := ⟨b2, o2, none⟩) hb2).trans p2; have f4 := (hSw.cell (p := ⟨b2, o2 + 1, none⟩) hb2).trans q2; have f5 := (hSw.cell (p := ⟨b2, o2 + 2, none⟩) hb2).trans r2; clear hSw; go_simp; try rfl
      simp only [List.getElem_toArray, List.getElem_cons_zero, List.getElem_cons_succ, Act.put, List.setIfInBounds_toArray, List.set_cons_zero, List.set_cons_succ]
      refine wpAnyH_take (i := 5) (v := ?_) rfl (by kernel_rfl) (by kernel_rfl) (by kernel_rfl) (fun _ _ _ h => h) (Or.inl ⟨by rfl, ?_⟩) hHeld ?_
      rotate_left
      · intro w hSw; have f0 := (hSw.cell (p := ⟨b1, o1, none⟩) hb1).trans p1; have f1 := (hSw.cell (p := ⟨b1, o1 + 1, none⟩) hb1).trans q1; have f2 := (hSw.cell (p := ⟨b1, o1 + 2, none⟩) hb1).trans r1; have f3 := (hSw.cell (p := ⟨b2, o2, none⟩) hb2).trans p2; have f4 := (hSw.cell (p := ⟨b2, o2 + 1, none⟩) hb2).trans q2; have f5 := (hSw.cell (p := ⟨b2, o2 + 2, none⟩) hb2).trans r2; clear hSw; go_simp; try rfl
      simp only [List.getElem_toArray, List.getElem_cons_zero, List.getElem_cons_succ, Act.put, List.setIfInBounds_toArray, List.set_cons_zero, List.set_cons_succ]
      refine wpAnyH_ready (rs := [6]) (by kernel_rfl) (by simp) ?_
      refine AllReadyH.cons rfl (fun K hK => ?_) AllReadyH.nil
      rw [if_pos (by rfl)]
      go_simp
      refine (HB.out _).mono ?_
      rintro e w3 ⟨rfl, hb3⟩
      have hb4 := hHeld.trans (hb3.mono hHeld.size)
      refine hK.out _ _ hb4 (fun hHeld => ?_)
      clear hK K
      refine wpAnyH_take (i := 7) (v := ?_) rfl (by kernel_rfl) (by kernel_rfl) (by kernel_rfl) (fun _ _ _ h => h) (Or.inl ⟨by rfl, ?_⟩) hHeld ?_
      rotate_left
      · intro w hSw; clear hSw; go_simp; try rfl
      simp only [List.getElem_toArray, List.getElem_cons_zero, List.getElem_cons_succ, Act.put, List.setIfInBounds_toArray, List.set_cons_zero, List.set_cons_succ]
      refine wpAnyH_done (by kernel_rfl) ?_ _
      go_wp2_with fail
      go_ret
      exact ⟨rfl, hHeld⟩
end Go.Proofs.Ytlchfadfbepapaa
