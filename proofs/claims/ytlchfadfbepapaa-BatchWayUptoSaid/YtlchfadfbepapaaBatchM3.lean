/-
  cardexref00's Rows and Changes: equality of whole lists.
-/
import Derived.Test.YtlchfadfbepapaaBatchM
namespace Go.Proofs.Ytlchfadfbepapaa
open Go.RowKit
set_option maxHeartbeats 4000000 in
set_option maxRecDepth 100000 in
/-- the same rows? -/
theorem rows_any {A1 A2 : Option Addr} {n1 c1 n2 c2 : Nat} {l1 l2 : List bt.R} {w : World} (h1 : TS w A1 n1 c1 l1) (h2 : TS w A2 n2 c2 l2) : Calls Try.prog 24 #[.slice A1 n1 c1, .slice A2 n2 c2] w fun e w' => e = .returned (.bool (decide (l1 = l2))) ∧ Below w.heap.size w w' := by
  have hlen1 := h1.len
  have hlen2 := h2.len
  by_cases hn : n1 = n2
  · subst hn
    have hnb : ((n1 : Int) != (n1 : Int)) = false := by simp
    have H1 := Lib.hid h1
    have H2 := Lib.hid h2
    have hcap1 := h1.cap
    have hmax1 := h1.max
    have hcap2 := h2.cap
    have hmax2 := h2.max
    clear h1 h2
    go_enter Try.func24, Try.ntmps24
    go_wp2_with fail
    go_loopw [5] (fun t wr => ∃ (i : Nat), t = .int .i64 i ∧ i ≤ n1 ∧ Hid (∀ k, k < i → l1[k]? = l2[k]?) ∧ Below w.heap.size w wr) (fun t _ => n1 - (intOf t).toNat)
    case atStart => exact ⟨0, rfl, by omega, fun k hk => by omega, Below.refl _ _⟩
    case round =>
      obtain ⟨i, rfl, hin, hz, hb⟩ := hrel
      by_cases hi : i < n1
      · have hi' : (i : Int) < (n1 : Int) := by omega
        have r1 := H1.out.below hb
        have r2 := H2.out.below hb
        obtain ⟨b1, o1, rfl, -, hr1⟩ := r1.has (by omega)
        obtain ⟨b2, o2, rfl, -, hr2⟩ := r2.has (by omega)
        obtain ⟨p1, X1, c1, q1, g1⟩ := hr1 i (by omega)
        obtain ⟨p2, X2, c2, q2, g2⟩ := hr2 i (by omega)
        have e1 : l1[i]? = some l1[i] := List.getElem?_eq_getElem (by omega)
        have e2 : l2[i]? = some l2[i] := List.getElem?_eq_getElem (by omega)
        obtain ⟨x1, hx1⟩ : ∃ x, l1[i] = x := ⟨_, rfl⟩
        obtain ⟨x2, hx2⟩ : ∃ x, l2[i] = x := ⟨_, rfl⟩
        rw [hx1] at p1 q1 g1 e1
        rw [hx2] at p2 q2 g2 e2
        have hxx : x1 ≠ x2 → decide (l1 = l2) = false := fun hne => decide_eq_false (fun e => hne (Option.some.inj (e1.symm.trans ((congrArg (fun l => l[i]?) e).trans e2))))
        have hxe : x1 = x2 → ∀ k, k < i + 1 → l1[k]? = l2[k]? := fun e k hk => by
          by_cases hk2 : k < i
          · exact hz.out k hk2
          · obtain rfl : k = i := by omega
            rw [e1, e2, e]
        clear r1 r2 hr1 hr2 hx1 hx2 e1 e2
        obtain ⟨ka, va⟩ := x1
        obtain ⟨kb, vb⟩ := x2
        simp only at p1 q1 g1 p2 q2 g2
        have HS := Lib.hid (fun W (G1 : BS W X1 va.length c1 va) (G2 : BS W X2 vb.length c2 vb) => same_any _ _ _ _ _ _ va vb W G1 G2)
        obtain ⟨m1, hm1⟩ : ∃ m, va.length = m := ⟨_, rfl⟩
        obtain ⟨m2, hm2⟩ : ∃ m, vb.length = m := ⟨_, rfl⟩
        rw [hm1, hm2] at HS
        rw [hm1] at q1 g1
        rw [hm2] at q2 g2
        clear hm1 hm2
        by_cases hk : ka = kb
        · subst hk
          by_cases ha : va = vb
          · subst ha
            rw [decide_eq_true rfl] at HS
            have hz2 := Lib.hid (hxe rfl)
            clear hxx hxe hz
            go_wp2_with fail
            refine wp_region_held_drew (S := fun W => (W.cell? ⟨b1, o1 + i * 2, none⟩ = some (str ka) ∧ W.cell? ⟨b2, o2 + i * 2, none⟩ = some (str ka) ∧ W.cell? ⟨b1, o1 + i * 2 + 1, none⟩ = some (.slice X1 m1 c1) ∧ W.cell? ⟨b2, o2 + i * 2 + 1, none⟩ = some (.slice X2 m2 c2)) ∧ BS W X1 m1 c1 va ∧ BS W X2 m2 c2 va) (by kernel_rfl) ⟨⟨p1, p2, q1, q2⟩, ⟨g1.len, g1.cap, g1.max, g1.small, g1.has⟩, ⟨g2.len, g2.cap, g2.max, g2.small, g2.has⟩⟩ (fun hHeld => ?_)
            refine wpAnyH_take (i := 0) (v := ?_) rfl (by kernel_rfl) (by kernel_rfl) (by kernel_rfl) (fun _ _ _ h => h) (Or.inl ⟨by rfl, ?_⟩) hHeld ?_
            rotate_left
            · intro w hSw; have f0 := hSw.1.1; have f1 := hSw.1.2.1; have f2 := hSw.1.2.2.1; have f3 := hSw.1.2.2.2; clear hSw; go_simp; try rfl
            simp only [List.getElem_toArray, List.getElem_cons_zero, Act.put, List.setIfInBounds_toArray, List.set_cons_zero, List.set_cons_succ]
            refine wpAnyH_take (i := 1) (v := ?_) rfl (by kernel_rfl) (by kernel_rfl) (by kernel_rfl) (fun _ _ _ h => h) (Or.inl ⟨by rfl, ?_⟩) hHeld ?_
            rotate_left
            · intro w hSw; have f0 := hSw.1.1; have f1 := hSw.1.2.1; have f2 := hSw.1.2.2.1; have f3 := hSw.1.2.2.2; clear hSw; go_simp; try rfl
            simp only [List.getElem_toArray, List.getElem_cons_zero, List.getElem_cons_succ, Act.put, List.setIfInBounds_toArray, List.set_cons_zero, List.set_cons_succ]
            refine wpAnyH_take (i := 2) (v := ?_) rfl (by kernel_rfl) (by kernel_rfl) (by kernel_rfl) (fun _ _ _ h => h) (Or.inl ⟨by rfl, ?_⟩) hHeld ?_
            rotate_left
            · intro w hSw; have f0 := hSw.1.1; have f1 := hSw.1.2.1; have f2 := hSw.1.2.2.1; have f3 := hSw.1.2.2.2; clear hSw; go_simp; try rfl
            simp only [List.getElem_toArray, List.getElem_cons_zero, List.getElem_cons_succ, Act.put, List.setIfInBounds_toArray, List.set_cons_zero, List.set_cons_succ]
            refine wpAnyH_take (i := 3) (v := ?_) rfl (by kernel_rfl) (by kernel_rfl) (by kernel_rfl) (fun _ _ _ h => h) (Or.inl ⟨by rfl, ?_⟩) hHeld ?_
            rotate_left
            · intro w hSw; have f0 := hSw.1.1; have f1 := hSw.1.2.1; have f2 := hSw.1.2.2.1; have f3 := hSw.1.2.2.2; clear hSw; go_simp; try rfl
            simp only [List.getElem_toArray, List.getElem_cons_zero, List.getElem_cons_succ, Act.put, List.setIfInBounds_toArray, List.set_cons_zero, List.set_cons_succ]
            refine wpAnyH_take (i := 4) (v := ?_) rfl (by kernel_rfl) (by kernel_rfl) (by kernel_rfl) (fun _ _ _ h => h) (Or.inl ⟨by rfl, ?_⟩) hHeld ?_
            rotate_left
            · intro w hSw; have f0 := hSw.1.1; have f1 := hSw.1.2.1; have f2 := hSw.1.2.2.1; have f3 := hSw.1.2.2.2; clear hSw; go_simp; try rfl
            simp only [List.getElem_toArray, List.getElem_cons_zero, List.getElem_cons_succ, Act.put, List.setIfInBounds_toArray, List.set_cons_zero, List.set_cons_succ]
            refine wpAnyH_take (i := 5) (v := ?_) rfl (by kernel_rfl) (by kernel_rfl) (by kernel_rfl) (fun _ _ _ h => h) (Or.inl ⟨by rfl, ?_⟩) hHeld ?_
            rotate_left
            · intro w hSw; have f0 := hSw.1.1; have f1 := hSw.1.2.1; have f2 := hSw.1.2.2.1; have f3 := hSw.1.2.2.2; clear hSw; go_simp; try rfl
            simp only [List.getElem_toArray, List.getElem_cons_zero, List.getElem_cons_succ, Act.put, List.setIfInBounds_toArray, List.set_cons_zero, List.set_cons_succ]
            refine wpAnyH_take (i := 6) (v := ?_) rfl (by kernel_rfl) (by kernel_rfl) (by kernel_rfl) (fun _ _ _ h => h) (Or.inl ⟨by rfl, ?_⟩) hHeld ?_
            rotate_left
            · intro w hSw; have f0 := hSw.1.1; have f1 := hSw.1.2.1; have f2 := hSw.1.2.2.1; have f3 := hSw.1.2.2.2; clear hSw; go_simp; try rfl
            simp only [List.getElem_toArray, List.getElem_cons_zero, List.getElem_cons_succ, Act.put, List.setIfInBounds_toArray, List.set_cons_zero, List.set_cons_succ]
            refine wpAnyH_take (i := 7) (v := ?_) rfl (by kernel_rfl) (by kernel_rfl) (by kernel_rfl) (fun _ _ _ h => h) (Or.inl ⟨by rfl, ?_⟩) hHeld ?_
            rotate_left
            · intro w hSw; have f0 := hSw.1.1; have f1 := hSw.1.2.1; have f2 := hSw.1.2.2.1; have f3 := hSw.1.2.2.2; clear hSw; go_simp; try rfl
            simp only [List.getElem_toArray, List.getElem_cons_zero, List.getElem_cons_succ, Act.put, List.setIfInBounds_toArray, List.set_cons_zero, List.set_cons_succ]
            refine wpAnyH_take (i := 8) (v := ?_) rfl (by kernel_rfl) (by kernel_rfl) (by kernel_rfl) (fun _ _ _ h => h) (Or.inl ⟨by rfl, ?_⟩) hHeld ?_
            rotate_left
            · intro w hSw; have f0 := hSw.1.1; have f1 := hSw.1.2.1; have f2 := hSw.1.2.2.1; have f3 := hSw.1.2.2.2; clear hSw; go_simp; try rfl
            simp only [List.getElem_toArray, List.getElem_cons_zero, List.getElem_cons_succ, Act.put, List.setIfInBounds_toArray, List.set_cons_zero, List.set_cons_succ]
            refine wpAnyH_take (i := 9) (v := ?_) rfl (by kernel_rfl) (by kernel_rfl) (by kernel_rfl) (fun _ _ _ h => h) (Or.inl ⟨by rfl, ?_⟩) hHeld ?_
            rotate_left
            · intro w hSw; have f0 := hSw.1.1; have f1 := hSw.1.2.1; have f2 := hSw.1.2.2.1; have f3 := hSw.1.2.2.2; clear hSw; go_simp; try rfl
            simp only [List.getElem_toArray, List.getElem_cons_zero, List.getElem_cons_succ, Act.put, List.setIfInBounds_toArray, List.set_cons_zero, List.set_cons_succ]
            refine wpAnyH_take (i := 10) (v := ?_) rfl (by kernel_rfl) (by kernel_rfl) (by kernel_rfl) (fun _ _ _ h => h) (Or.inl ⟨by rfl, ?_⟩) hHeld ?_
            rotate_left
            · intro w hSw; have f0 := hSw.1.1; have f1 := hSw.1.2.1; have f2 := hSw.1.2.2.1; have f3 := hSw.1.2.2.2; clear hSw; go_simp; try rfl
            simp only [List.getElem_toArray, List.getElem_cons_zero, List.getElem_cons_succ, Act.put, List.setIfInBounds_toArray, List.set_cons_zero, List.set_cons_succ]
            refine wpAnyH_take (i := 11) (v := ?_) rfl (by kernel_rfl) (by kernel_rfl) (by kernel_rfl) (fun _ _ _ h => h) (Or.inl ⟨by rfl, ?_⟩) hHeld ?_
            rotate_left
            · intro w hSw; have f0 := hSw.1.1; have f1 := hSw.1.2.1; have f2 := hSw.1.2.2.1; have f3 := hSw.1.2.2.2; clear hSw; go_simp; try rfl
            simp only [List.getElem_toArray, List.getElem_cons_zero, List.getElem_cons_succ, Act.put, List.setIfInBounds_toArray, List.set_cons_zero, List.set_cons_succ]
            refine wpAnyH_take (i := 12) (v := ?_) rfl (by kernel_rfl) (by kernel_rfl) (by kernel_rfl) (fun _ _ _ h => h) (Or.inl ⟨by rfl, ?_⟩) hHeld ?_
            rotate_left
            · intro w hSw; have f0 := hSw.1.1; have f1 := hSw.1.2.1; have f2 := hSw.1.2.2.1; have f3 := hSw.1.2.2.2; clear hSw; go_simp; try rfl
            simp only [List.getElem_toArray, List.getElem_cons_zero, List.getElem_cons_succ, Act.put, List.setIfInBounds_toArray, List.set_cons_zero, List.set_cons_succ]
            refine wpAnyH_take (i := 13) (v := ?_) rfl (by kernel_rfl) (by kernel_rfl) (by kernel_rfl) (fun _ _ _ h => h) (Or.inl ⟨by rfl, ?_⟩) hHeld ?_
            rotate_left
            · intro w hSw; have f0 := hSw.1.1; have f1 := hSw.1.2.1; have f2 := hSw.1.2.2.1; have f3 := hSw.1.2.2.2; clear hSw; go_simp; try rfl
            simp only [List.getElem_toArray, List.getElem_cons_zero, List.getElem_cons_succ, Act.put, List.setIfInBounds_toArray, List.set_cons_zero, List.set_cons_succ]
            refine wpAnyH_take (i := 14) (v := ?_) rfl (by kernel_rfl) (by kernel_rfl) (by kernel_rfl) (fun _ _ _ h => h) (Or.inl ⟨by rfl, ?_⟩) hHeld ?_
            rotate_left
            · intro w hSw; have f0 := hSw.1.1; have f1 := hSw.1.2.1; have f2 := hSw.1.2.2.1; have f3 := hSw.1.2.2.2; clear hSw; go_simp; try rfl
            simp only [List.getElem_toArray, List.getElem_cons_zero, List.getElem_cons_succ, Act.put, List.setIfInBounds_toArray, List.set_cons_zero, List.set_cons_succ]
            refine wpAnyH_take (i := 15) (v := ?_) rfl (by kernel_rfl) (by kernel_rfl) (by kernel_rfl) (fun _ _ _ h => h) (Or.inl ⟨by rfl, ?_⟩) hHeld ?_
            rotate_left
            · intro w hSw; have f0 := hSw.1.1; have f1 := hSw.1.2.1; have f2 := hSw.1.2.2.1; have f3 := hSw.1.2.2.2; clear hSw; go_simp; try rfl
            simp only [List.getElem_toArray, List.getElem_cons_zero, List.getElem_cons_succ, Act.put, List.setIfInBounds_toArray, List.set_cons_zero, List.set_cons_succ]
            refine wpAnyH_take (i := 16) (v := ?_) rfl (by kernel_rfl) (by kernel_rfl) (by kernel_rfl) (fun _ _ _ h => h) (Or.inl ⟨by rfl, ?_⟩) hHeld ?_
            rotate_left
            · intro w hSw; have f0 := hSw.1.1; have f1 := hSw.1.2.1; have f2 := hSw.1.2.2.1; have f3 := hSw.1.2.2.2; clear hSw; go_simp; try rfl
            simp only [List.getElem_toArray, List.getElem_cons_zero, List.getElem_cons_succ, Act.put, List.setIfInBounds_toArray, List.set_cons_zero, List.set_cons_succ]
            refine wpAnyH_take (i := 17) (v := ?_) rfl (by kernel_rfl) (by kernel_rfl) (by kernel_rfl) (fun _ _ _ h => h) (Or.inl ⟨by rfl, ?_⟩) hHeld ?_
            rotate_left
            · intro w hSw; have f0 := hSw.1.1; have f1 := hSw.1.2.1; have f2 := hSw.1.2.2.1; have f3 := hSw.1.2.2.2; clear hSw; go_simp; try rfl
            simp only [List.getElem_toArray, List.getElem_cons_zero, List.getElem_cons_succ, Act.put, List.setIfInBounds_toArray, List.set_cons_zero, List.set_cons_succ]
            refine wpAnyH_take (i := 18) (v := ?_) rfl (by kernel_rfl) (by kernel_rfl) (by kernel_rfl) (fun _ _ _ h => h) (Or.inl ⟨by rfl, ?_⟩) hHeld ?_
            rotate_left
            · intro w hSw; have f0 := hSw.1.1; have f1 := hSw.1.2.1; have f2 := hSw.1.2.2.1; have f3 := hSw.1.2.2.2; clear hSw; go_simp; try rfl
            simp only [List.getElem_toArray, List.getElem_cons_zero, List.getElem_cons_succ, Act.put, List.setIfInBounds_toArray, List.set_cons_zero, List.set_cons_succ]
            refine wpAnyH_take (i := 19) (v := ?_) rfl (by kernel_rfl) (by kernel_rfl) (by kernel_rfl) (fun _ _ _ h => h) (Or.inl ⟨by rfl, ?_⟩) hHeld ?_
            rotate_left
            · intro w hSw; have f0 := hSw.1.1; have f1 := hSw.1.2.1; have f2 := hSw.1.2.2.1; have f3 := hSw.1.2.2.2; clear hSw; go_simp; try rfl
            simp only [List.getElem_toArray, List.getElem_cons_zero, List.getElem_cons_succ, Act.put, List.setIfInBounds_toArray, List.set_cons_zero, List.set_cons_succ]
            refine wpAnyH_take (i := 20) (v := ?_) rfl (by kernel_rfl) (by kernel_rfl) (by kernel_rfl) (fun _ _ _ h => h) (Or.inl ⟨by rfl, ?_⟩) hHeld ?_
            rotate_left
            · intro w hSw; have f0 := hSw.1.1; have f1 := hSw.1.2.1; have f2 := hSw.1.2.2.1; have f3 := hSw.1.2.2.2; clear hSw; go_simp; try rfl
            simp only [List.getElem_toArray, List.getElem_cons_zero, List.getElem_cons_succ, Act.put, List.setIfInBounds_toArray, List.set_cons_zero, List.set_cons_succ]
            refine wpAnyH_take (i := 21) (v := ?_) rfl (by kernel_rfl) (by kernel_rfl) (by kernel_rfl) (fun _ _ _ h => h) (Or.inl ⟨by rfl, ?_⟩) hHeld ?_
            rotate_left
            · intro w hSw; have f0 := hSw.1.1; have f1 := hSw.1.2.1; have f2 := hSw.1.2.2.1; have f3 := hSw.1.2.2.2; clear hSw; go_simp; try rfl
            simp only [List.getElem_toArray, List.getElem_cons_zero, List.getElem_cons_succ, Act.put, List.setIfInBounds_toArray, List.set_cons_zero, List.set_cons_succ]
            refine wpAnyH_ready (rs := [22]) (by kernel_rfl) (by simp) ?_
            refine AllReadyH.cons rfl (fun K hK => ?_) AllReadyH.nil
            rw [if_pos (by rfl)]
            go_simp
            refine (HS.out _ hHeld.2.1 hHeld.2.2).mono ?_
            rintro e w2 ⟨rfl, rfl⟩
            refine hK.out _ _ hHeld (fun hHeld => ?_)
            clear hK K
            refine wpAnyH_take (i := 23) (v := ?_) rfl (by kernel_rfl) (by kernel_rfl) (by kernel_rfl) (fun _ _ _ h => h) (Or.inl ⟨by rfl, ?_⟩) hHeld ?_
            rotate_left
            · intro w hSw; have f0 := hSw.1.1; have f1 := hSw.1.2.1; have f2 := hSw.1.2.2.1; have f3 := hSw.1.2.2.2; clear hSw; go_simp; try rfl
            simp only [List.getElem_toArray, List.getElem_cons_zero, List.getElem_cons_succ, Act.put, List.setIfInBounds_toArray, List.set_cons_zero, List.set_cons_succ]
            refine wpAnyH_take (i := 24) (v := ?_) rfl (by kernel_rfl) (by kernel_rfl) (by kernel_rfl) (fun _ _ _ h => h) (Or.inl ⟨by rfl, ?_⟩) hHeld ?_
            rotate_left
            · intro w hSw; have f0 := hSw.1.1; have f1 := hSw.1.2.1; have f2 := hSw.1.2.2.1; have f3 := hSw.1.2.2.2; clear hSw; go_simp; try rfl
            simp only [List.getElem_toArray, List.getElem_cons_zero, List.getElem_cons_succ, Act.put, List.setIfInBounds_toArray, List.set_cons_zero, List.set_cons_succ]
            refine wpAnyH_done (by kernel_rfl) ?_ _
            go_wp2_with fail
            go_roundw
            case rel => exact ⟨i + 1, by go_num, by omega, hz2, hb.drew⟩
            case measure => simp [intOf]; omega
          · rw [decide_eq_false ha] at HS
            have HDD := Lib.hid (hxx (fun e => ha (congrArg bt.R.val e)))
            clear hxx hxe hz
            go_wp2_with fail
            refine wp_region_held_drew (S := fun W => (W.cell? ⟨b1, o1 + i * 2, none⟩ = some (str ka) ∧ W.cell? ⟨b2, o2 + i * 2, none⟩ = some (str ka) ∧ W.cell? ⟨b1, o1 + i * 2 + 1, none⟩ = some (.slice X1 m1 c1) ∧ W.cell? ⟨b2, o2 + i * 2 + 1, none⟩ = some (.slice X2 m2 c2)) ∧ BS W X1 m1 c1 va ∧ BS W X2 m2 c2 vb) (by kernel_rfl) ⟨⟨p1, p2, q1, q2⟩, ⟨g1.len, g1.cap, g1.max, g1.small, g1.has⟩, ⟨g2.len, g2.cap, g2.max, g2.small, g2.has⟩⟩ (fun hHeld => ?_)
            refine wpAnyH_take (i := 0) (v := ?_) rfl (by kernel_rfl) (by kernel_rfl) (by kernel_rfl) (fun _ _ _ h => h) (Or.inl ⟨by rfl, ?_⟩) hHeld ?_
            rotate_left
            · intro w hSw; have f0 := hSw.1.1; have f1 := hSw.1.2.1; have f2 := hSw.1.2.2.1; have f3 := hSw.1.2.2.2; clear hSw; go_simp; try rfl
            simp only [List.getElem_toArray, List.getElem_cons_zero, Act.put, List.setIfInBounds_toArray, List.set_cons_zero, List.set_cons_succ]
            refine wpAnyH_take (i := 1) (v := ?_) rfl (by kernel_rfl) (by kernel_rfl) (by kernel_rfl) (fun _ _ _ h => h) (Or.inl ⟨by rfl, ?_⟩) hHeld ?_
            rotate_left
            · intro w hSw; have f0 := hSw.1.1; have f1 := hSw.1.2.1; have f2 := hSw.1.2.2.1; have f3 := hSw.1.2.2.2; clear hSw; go_simp; try rfl
            simp only [List.getElem_toArray, List.getElem_cons_zero, List.getElem_cons_succ, Act.put, List.setIfInBounds_toArray, List.set_cons_zero, List.set_cons_succ]
            refine wpAnyH_take (i := 2) (v := ?_) rfl (by kernel_rfl) (by kernel_rfl) (by kernel_rfl) (fun _ _ _ h => h) (Or.inl ⟨by rfl, ?_⟩) hHeld ?_
            rotate_left
            · intro w hSw; have f0 := hSw.1.1; have f1 := hSw.1.2.1; have f2 := hSw.1.2.2.1; have f3 := hSw.1.2.2.2; clear hSw; go_simp; try rfl
            simp only [List.getElem_toArray, List.getElem_cons_zero, List.getElem_cons_succ, Act.put, List.setIfInBounds_toArray, List.set_cons_zero, List.set_cons_succ]
            refine wpAnyH_take (i := 3) (v := ?_) rfl (by kernel_rfl) (by kernel_rfl) (by kernel_rfl) (fun _ _ _ h => h) (Or.inl ⟨by rfl, ?_⟩) hHeld ?_
            rotate_left
            · intro w hSw; have f0 := hSw.1.1; have f1 := hSw.1.2.1; have f2 := hSw.1.2.2.1; have f3 := hSw.1.2.2.2; clear hSw; go_simp; try rfl
            simp only [List.getElem_toArray, List.getElem_cons_zero, List.getElem_cons_succ, Act.put, List.setIfInBounds_toArray, List.set_cons_zero, List.set_cons_succ]
            refine wpAnyH_take (i := 4) (v := ?_) rfl (by kernel_rfl) (by kernel_rfl) (by kernel_rfl) (fun _ _ _ h => h) (Or.inl ⟨by rfl, ?_⟩) hHeld ?_
            rotate_left
            · intro w hSw; have f0 := hSw.1.1; have f1 := hSw.1.2.1; have f2 := hSw.1.2.2.1; have f3 := hSw.1.2.2.2; clear hSw; go_simp; try rfl
            simp only [List.getElem_toArray, List.getElem_cons_zero, List.getElem_cons_succ, Act.put, List.setIfInBounds_toArray, List.set_cons_zero, List.set_cons_succ]
            refine wpAnyH_take (i := 5) (v := ?_) rfl (by kernel_rfl) (by kernel_rfl) (by kernel_rfl) (fun _ _ _ h => h) (Or.inl ⟨by rfl, ?_⟩) hHeld ?_
            rotate_left
            · intro w hSw; have f0 := hSw.1.1; have f1 := hSw.1.2.1; have f2 := hSw.1.2.2.1; have f3 := hSw.1.2.2.2; clear hSw; go_simp; try rfl
            simp only [List.getElem_toArray, List.getElem_cons_zero, List.getElem_cons_succ, Act.put, List.setIfInBounds_toArray, List.set_cons_zero, List.set_cons_succ]
            refine wpAnyH_take (i := 6) (v := ?_) rfl (by kernel_rfl) (by kernel_rfl) (by kernel_rfl) (fun _ _ _ h => h) (Or.inl ⟨by rfl, ?_⟩) hHeld ?_
            rotate_left
            · intro w hSw; have f0 := hSw.1.1; have f1 := hSw.1.2.1; have f2 := hSw.1.2.2.1; have f3 := hSw.1.2.2.2; clear hSw; go_simp; try rfl
            simp only [List.getElem_toArray, List.getElem_cons_zero, List.getElem_cons_succ, Act.put, List.setIfInBounds_toArray, List.set_cons_zero, List.set_cons_succ]
            refine wpAnyH_take (i := 7) (v := ?_) rfl (by kernel_rfl) (by kernel_rfl) (by kernel_rfl) (fun _ _ _ h => h) (Or.inl ⟨by rfl, ?_⟩) hHeld ?_
            rotate_left
            · intro w hSw; have f0 := hSw.1.1; have f1 := hSw.1.2.1; have f2 := hSw.1.2.2.1; have f3 := hSw.1.2.2.2; clear hSw; go_simp; try rfl
            simp only [List.getElem_toArray, List.getElem_cons_zero, List.getElem_cons_succ, Act.put, List.setIfInBounds_toArray, List.set_cons_zero, List.set_cons_succ]
            refine wpAnyH_take (i := 8) (v := ?_) rfl (by kernel_rfl) (by kernel_rfl) (by kernel_rfl) (fun _ _ _ h => h) (Or.inl ⟨by rfl, ?_⟩) hHeld ?_
            rotate_left
            · intro w hSw; have f0 := hSw.1.1; have f1 := hSw.1.2.1; have f2 := hSw.1.2.2.1; have f3 := hSw.1.2.2.2; clear hSw; go_simp; try rfl
            simp only [List.getElem_toArray, List.getElem_cons_zero, List.getElem_cons_succ, Act.put, List.setIfInBounds_toArray, List.set_cons_zero, List.set_cons_succ]
            refine wpAnyH_take (i := 9) (v := ?_) rfl (by kernel_rfl) (by kernel_rfl) (by kernel_rfl) (fun _ _ _ h => h) (Or.inl ⟨by rfl, ?_⟩) hHeld ?_
            rotate_left
            · intro w hSw; have f0 := hSw.1.1; have f1 := hSw.1.2.1; have f2 := hSw.1.2.2.1; have f3 := hSw.1.2.2.2; clear hSw; go_simp; try rfl
            simp only [List.getElem_toArray, List.getElem_cons_zero, List.getElem_cons_succ, Act.put, List.setIfInBounds_toArray, List.set_cons_zero, List.set_cons_succ]
            refine wpAnyH_take (i := 10) (v := ?_) rfl (by kernel_rfl) (by kernel_rfl) (by kernel_rfl) (fun _ _ _ h => h) (Or.inl ⟨by rfl, ?_⟩) hHeld ?_
            rotate_left
            · intro w hSw; have f0 := hSw.1.1; have f1 := hSw.1.2.1; have f2 := hSw.1.2.2.1; have f3 := hSw.1.2.2.2; clear hSw; go_simp; try rfl
            simp only [List.getElem_toArray, List.getElem_cons_zero, List.getElem_cons_succ, Act.put, List.setIfInBounds_toArray, List.set_cons_zero, List.set_cons_succ]
            refine wpAnyH_take (i := 11) (v := ?_) rfl (by kernel_rfl) (by kernel_rfl) (by kernel_rfl) (fun _ _ _ h => h) (Or.inl ⟨by rfl, ?_⟩) hHeld ?_
            rotate_left
            · intro w hSw; have f0 := hSw.1.1; have f1 := hSw.1.2.1; have f2 := hSw.1.2.2.1; have f3 := hSw.1.2.2.2; clear hSw; go_simp; try rfl
            simp only [List.getElem_toArray, List.getElem_cons_zero, List.getElem_cons_succ, Act.put, List.setIfInBounds_toArray, List.set_cons_zero, List.set_cons_succ]
            refine wpAnyH_take (i := 12) (v := ?_) rfl (by kernel_rfl) (by kernel_rfl) (by kernel_rfl) (fun _ _ _ h => h) (Or.inl ⟨by rfl, ?_⟩) hHeld ?_
            rotate_left
            · intro w hSw; have f0 := hSw.1.1; have f1 := hSw.1.2.1; have f2 := hSw.1.2.2.1; have f3 := hSw.1.2.2.2; clear hSw; go_simp; try rfl
            simp only [List.getElem_toArray, List.getElem_cons_zero, List.getElem_cons_succ, Act.put, List.setIfInBounds_toArray, List.set_cons_zero, List.set_cons_succ]
            refine wpAnyH_take (i := 13) (v := ?_) rfl (by kernel_rfl) (by kernel_rfl) (by kernel_rfl) (fun _ _ _ h => h) (Or.inl ⟨by rfl, ?_⟩) hHeld ?_
            rotate_left
            · intro w hSw; have f0 := hSw.1.1; have f1 := hSw.1.2.1; have f2 := hSw.1.2.2.1; have f3 := hSw.1.2.2.2; clear hSw; go_simp; try rfl
            simp only [List.getElem_toArray, List.getElem_cons_zero, List.getElem_cons_succ, Act.put, List.setIfInBounds_toArray, List.set_cons_zero, List.set_cons_succ]
            refine wpAnyH_take (i := 14) (v := ?_) rfl (by kernel_rfl) (by kernel_rfl) (by kernel_rfl) (fun _ _ _ h => h) (Or.inl ⟨by rfl, ?_⟩) hHeld ?_
            rotate_left
            · intro w hSw; have f0 := hSw.1.1; have f1 := hSw.1.2.1; have f2 := hSw.1.2.2.1; have f3 := hSw.1.2.2.2; clear hSw; go_simp; try rfl
            simp only [List.getElem_toArray, List.getElem_cons_zero, List.getElem_cons_succ, Act.put, List.setIfInBounds_toArray, List.set_cons_zero, List.set_cons_succ]
            refine wpAnyH_take (i := 15) (v := ?_) rfl (by kernel_rfl) (by kernel_rfl) (by kernel_rfl) (fun _ _ _ h => h) (Or.inl ⟨by rfl, ?_⟩) hHeld ?_
            rotate_left
            · intro w hSw; have f0 := hSw.1.1; have f1 := hSw.1.2.1; have f2 := hSw.1.2.2.1; have f3 := hSw.1.2.2.2; clear hSw; go_simp; try rfl
            simp only [List.getElem_toArray, List.getElem_cons_zero, List.getElem_cons_succ, Act.put, List.setIfInBounds_toArray, List.set_cons_zero, List.set_cons_succ]
            refine wpAnyH_take (i := 16) (v := ?_) rfl (by kernel_rfl) (by kernel_rfl) (by kernel_rfl) (fun _ _ _ h => h) (Or.inl ⟨by rfl, ?_⟩) hHeld ?_
            rotate_left
            · intro w hSw; have f0 := hSw.1.1; have f1 := hSw.1.2.1; have f2 := hSw.1.2.2.1; have f3 := hSw.1.2.2.2; clear hSw; go_simp; try rfl
            simp only [List.getElem_toArray, List.getElem_cons_zero, List.getElem_cons_succ, Act.put, List.setIfInBounds_toArray, List.set_cons_zero, List.set_cons_succ]
            refine wpAnyH_take (i := 17) (v := ?_) rfl (by kernel_rfl) (by kernel_rfl) (by kernel_rfl) (fun _ _ _ h => h) (Or.inl ⟨by rfl, ?_⟩) hHeld ?_
            rotate_left
            · intro w hSw; have f0 := hSw.1.1; have f1 := hSw.1.2.1; have f2 := hSw.1.2.2.1; have f3 := hSw.1.2.2.2; clear hSw; go_simp; try rfl
            simp only [List.getElem_toArray, List.getElem_cons_zero, List.getElem_cons_succ, Act.put, List.setIfInBounds_toArray, List.set_cons_zero, List.set_cons_succ]
            refine wpAnyH_take (i := 18) (v := ?_) rfl (by kernel_rfl) (by kernel_rfl) (by kernel_rfl) (fun _ _ _ h => h) (Or.inl ⟨by rfl, ?_⟩) hHeld ?_
            rotate_left
            · intro w hSw; have f0 := hSw.1.1; have f1 := hSw.1.2.1; have f2 := hSw.1.2.2.1; have f3 := hSw.1.2.2.2; clear hSw; go_simp; try rfl
            simp only [List.getElem_toArray, List.getElem_cons_zero, List.getElem_cons_succ, Act.put, List.setIfInBounds_toArray, List.set_cons_zero, List.set_cons_succ]
            refine wpAnyH_take (i := 19) (v := ?_) rfl (by kernel_rfl) (by kernel_rfl) (by kernel_rfl) (fun _ _ _ h => h) (Or.inl ⟨by rfl, ?_⟩) hHeld ?_
            rotate_left
            · intro w hSw; have f0 := hSw.1.1; have f1 := hSw.1.2.1; have f2 := hSw.1.2.2.1; have f3 := hSw.1.2.2.2; clear hSw; go_simp; try rfl
            simp only [List.getElem_toArray, List.getElem_cons_zero, List.getElem_cons_succ, Act.put, List.setIfInBounds_toArray, List.set_cons_zero, List.set_cons_succ]
            refine wpAnyH_take (i := 20) (v := ?_) rfl (by kernel_rfl) (by kernel_rfl) (by kernel_rfl) (fun _ _ _ h => h) (Or.inl ⟨by rfl, ?_⟩) hHeld ?_
            rotate_left
            · intro w hSw; have f0 := hSw.1.1; have f1 := hSw.1.2.1; have f2 := hSw.1.2.2.1; have f3 := hSw.1.2.2.2; clear hSw; go_simp; try rfl
            simp only [List.getElem_toArray, List.getElem_cons_zero, List.getElem_cons_succ, Act.put, List.setIfInBounds_toArray, List.set_cons_zero, List.set_cons_succ]
            refine wpAnyH_take (i := 21) (v := ?_) rfl (by kernel_rfl) (by kernel_rfl) (by kernel_rfl) (fun _ _ _ h => h) (Or.inl ⟨by rfl, ?_⟩) hHeld ?_
            rotate_left
            · intro w hSw; have f0 := hSw.1.1; have f1 := hSw.1.2.1; have f2 := hSw.1.2.2.1; have f3 := hSw.1.2.2.2; clear hSw; go_simp; try rfl
            simp only [List.getElem_toArray, List.getElem_cons_zero, List.getElem_cons_succ, Act.put, List.setIfInBounds_toArray, List.set_cons_zero, List.set_cons_succ]
            refine wpAnyH_ready (rs := [22]) (by kernel_rfl) (by simp) ?_
            refine AllReadyH.cons rfl (fun K hK => ?_) AllReadyH.nil
            rw [if_pos (by rfl)]
            go_simp
            refine (HS.out _ hHeld.2.1 hHeld.2.2).mono ?_
            rintro e w2 ⟨rfl, rfl⟩
            refine hK.out _ _ hHeld (fun hHeld => ?_)
            clear hK K
            refine wpAnyH_take (i := 23) (v := ?_) rfl (by kernel_rfl) (by kernel_rfl) (by kernel_rfl) (fun _ _ _ h => h) (Or.inl ⟨by rfl, ?_⟩) hHeld ?_
            rotate_left
            · intro w hSw; have f0 := hSw.1.1; have f1 := hSw.1.2.1; have f2 := hSw.1.2.2.1; have f3 := hSw.1.2.2.2; clear hSw; go_simp; try rfl
            simp only [List.getElem_toArray, List.getElem_cons_zero, List.getElem_cons_succ, Act.put, List.setIfInBounds_toArray, List.set_cons_zero, List.set_cons_succ]
            refine wpAnyH_take (i := 24) (v := ?_) rfl (by kernel_rfl) (by kernel_rfl) (by kernel_rfl) (fun _ _ _ h => h) (Or.inl ⟨by rfl, ?_⟩) hHeld ?_
            rotate_left
            · intro w hSw; have f0 := hSw.1.1; have f1 := hSw.1.2.1; have f2 := hSw.1.2.2.1; have f3 := hSw.1.2.2.2; clear hSw; go_simp; try rfl
            simp only [List.getElem_toArray, List.getElem_cons_zero, List.getElem_cons_succ, Act.put, List.setIfInBounds_toArray, List.set_cons_zero, List.set_cons_succ]
            refine wpAnyH_done (by kernel_rfl) ?_ _
            go_wp2_with fail
            go_ret
            exact ⟨ret_bool HDD.out.symm, hb.drew⟩
        · have HDD := Lib.hid (hxx (fun e => hk (congrArg bt.R.key e)))
          have hke : (ka == kb) = false := beq_eq_false_iff_ne.2 hk
          clear hxx hxe hz HS
          go_wp2_with fail
          refine wp_region_held_drew (S := fun W => (W.cell? ⟨b1, o1 + i * 2, none⟩ = some (str ka) ∧ W.cell? ⟨b2, o2 + i * 2, none⟩ = some (str kb) ∧ W.cell? ⟨b1, o1 + i * 2 + 1, none⟩ = some (.slice X1 m1 c1) ∧ W.cell? ⟨b2, o2 + i * 2 + 1, none⟩ = some (.slice X2 m2 c2)) ∧ BS W X1 m1 c1 va ∧ BS W X2 m2 c2 vb) (by kernel_rfl) ⟨⟨p1, p2, q1, q2⟩, ⟨g1.len, g1.cap, g1.max, g1.small, g1.has⟩, ⟨g2.len, g2.cap, g2.max, g2.small, g2.has⟩⟩ (fun hHeld => ?_)
          refine wpAnyH_take (i := 0) (v := ?_) rfl (by kernel_rfl) (by kernel_rfl) (by kernel_rfl) (fun _ _ _ h => h) (Or.inl ⟨by rfl, ?_⟩) hHeld ?_
          rotate_left
          · intro w hSw; have f0 := hSw.1.1; have f1 := hSw.1.2.1; have f2 := hSw.1.2.2.1; have f3 := hSw.1.2.2.2; clear hSw; go_simp; try rfl
          simp only [List.getElem_toArray, List.getElem_cons_zero, Act.put, List.setIfInBounds_toArray, List.set_cons_zero, List.set_cons_succ]
          refine wpAnyH_take (i := 1) (v := ?_) rfl (by kernel_rfl) (by kernel_rfl) (by kernel_rfl) (fun _ _ _ h => h) (Or.inl ⟨by rfl, ?_⟩) hHeld ?_
          rotate_left
          · intro w hSw; have f0 := hSw.1.1; have f1 := hSw.1.2.1; have f2 := hSw.1.2.2.1; have f3 := hSw.1.2.2.2; clear hSw; go_simp; try rfl
          simp only [List.getElem_toArray, List.getElem_cons_zero, List.getElem_cons_succ, Act.put, List.setIfInBounds_toArray, List.set_cons_zero, List.set_cons_succ]
          refine wpAnyH_take (i := 2) (v := ?_) rfl (by kernel_rfl) (by kernel_rfl) (by kernel_rfl) (fun _ _ _ h => h) (Or.inl ⟨by rfl, ?_⟩) hHeld ?_
          rotate_left
          · intro w hSw; have f0 := hSw.1.1; have f1 := hSw.1.2.1; have f2 := hSw.1.2.2.1; have f3 := hSw.1.2.2.2; clear hSw; go_simp; try rfl
          simp only [List.getElem_toArray, List.getElem_cons_zero, List.getElem_cons_succ, Act.put, List.setIfInBounds_toArray, List.set_cons_zero, List.set_cons_succ]
          refine wpAnyH_take (i := 3) (v := ?_) rfl (by kernel_rfl) (by kernel_rfl) (by kernel_rfl) (fun _ _ _ h => h) (Or.inl ⟨by rfl, ?_⟩) hHeld ?_
          rotate_left
          · intro w hSw; have f0 := hSw.1.1; have f1 := hSw.1.2.1; have f2 := hSw.1.2.2.1; have f3 := hSw.1.2.2.2; clear hSw; go_simp; try rfl
          simp only [List.getElem_toArray, List.getElem_cons_zero, List.getElem_cons_succ, Act.put, List.setIfInBounds_toArray, List.set_cons_zero, List.set_cons_succ]
          refine wpAnyH_take (i := 4) (v := ?_) rfl (by kernel_rfl) (by kernel_rfl) (by kernel_rfl) (fun _ _ _ h => h) (Or.inl ⟨by rfl, ?_⟩) hHeld ?_
          rotate_left
          · intro w hSw; have f0 := hSw.1.1; have f1 := hSw.1.2.1; have f2 := hSw.1.2.2.1; have f3 := hSw.1.2.2.2; clear hSw; go_simp; try rfl
          simp only [List.getElem_toArray, List.getElem_cons_zero, List.getElem_cons_succ, Act.put, List.setIfInBounds_toArray, List.set_cons_zero, List.set_cons_succ]
          refine wpAnyH_take (i := 5) (v := ?_) rfl (by kernel_rfl) (by kernel_rfl) (by kernel_rfl) (fun _ _ _ h => h) (Or.inl ⟨by rfl, ?_⟩) hHeld ?_
          rotate_left
          · intro w hSw; have f0 := hSw.1.1; have f1 := hSw.1.2.1; have f2 := hSw.1.2.2.1; have f3 := hSw.1.2.2.2; clear hSw; go_simp; try rfl
          simp only [List.getElem_toArray, List.getElem_cons_zero, List.getElem_cons_succ, Act.put, List.setIfInBounds_toArray, List.set_cons_zero, List.set_cons_succ]
          refine wpAnyH_take (i := 6) (v := ?_) rfl (by kernel_rfl) (by kernel_rfl) (by kernel_rfl) (fun _ _ _ h => h) (Or.inl ⟨by rfl, ?_⟩) hHeld ?_
          rotate_left
          · intro w hSw; have f0 := hSw.1.1; have f1 := hSw.1.2.1; have f2 := hSw.1.2.2.1; have f3 := hSw.1.2.2.2; clear hSw; go_simp; try rfl
          simp only [List.getElem_toArray, List.getElem_cons_zero, List.getElem_cons_succ, Act.put, List.setIfInBounds_toArray, List.set_cons_zero, List.set_cons_succ]
          refine wpAnyH_take (i := 7) (v := ?_) rfl (by kernel_rfl) (by kernel_rfl) (by kernel_rfl) (fun _ _ _ h => h) (Or.inl ⟨by rfl, ?_⟩) hHeld ?_
          rotate_left
          · intro w hSw; have f0 := hSw.1.1; have f1 := hSw.1.2.1; have f2 := hSw.1.2.2.1; have f3 := hSw.1.2.2.2; clear hSw; go_simp; try rfl
          simp only [List.getElem_toArray, List.getElem_cons_zero, List.getElem_cons_succ, Act.put, List.setIfInBounds_toArray, List.set_cons_zero, List.set_cons_succ]
          refine wpAnyH_take (i := 8) (v := ?_) rfl (by kernel_rfl) (by kernel_rfl) (by kernel_rfl) (fun _ _ _ h => h) (Or.inl ⟨by rfl, ?_⟩) hHeld ?_
          rotate_left
          · intro w hSw; have f0 := hSw.1.1; have f1 := hSw.1.2.1; have f2 := hSw.1.2.2.1; have f3 := hSw.1.2.2.2; clear hSw; go_simp; try rfl
          simp only [List.getElem_toArray, List.getElem_cons_zero, List.getElem_cons_succ, Act.put, List.setIfInBounds_toArray, List.set_cons_zero, List.set_cons_succ]
          refine wpAnyH_take (i := 9) (v := ?_) rfl (by kernel_rfl) (by kernel_rfl) (by kernel_rfl) (fun _ _ _ h => h) (Or.inl ⟨by rfl, ?_⟩) hHeld ?_
          rotate_left
          · intro w hSw; have f0 := hSw.1.1; have f1 := hSw.1.2.1; have f2 := hSw.1.2.2.1; have f3 := hSw.1.2.2.2; clear hSw; go_simp; try rfl
          simp only [List.getElem_toArray, List.getElem_cons_zero, List.getElem_cons_succ, Act.put, List.setIfInBounds_toArray, List.set_cons_zero, List.set_cons_succ]
          refine wpAnyH_take (i := 10) (v := ?_) rfl (by kernel_rfl) (by kernel_rfl) (by kernel_rfl) (fun _ _ _ h => h) (Or.inl ⟨by rfl, ?_⟩) hHeld ?_
          rotate_left
          · intro w hSw; have f0 := hSw.1.1; have f1 := hSw.1.2.1; have f2 := hSw.1.2.2.1; have f3 := hSw.1.2.2.2; clear hSw; go_simp; try rfl
          simp only [List.getElem_toArray, List.getElem_cons_zero, List.getElem_cons_succ, Act.put, List.setIfInBounds_toArray, List.set_cons_zero, List.set_cons_succ]
          refine wpAnyH_take (i := 11) (v := ?_) rfl (by kernel_rfl) (by kernel_rfl) (by kernel_rfl) (fun _ _ _ h => h) (Or.inl ⟨by rfl, ?_⟩) hHeld ?_
          rotate_left
          · intro w hSw; have f0 := hSw.1.1; have f1 := hSw.1.2.1; have f2 := hSw.1.2.2.1; have f3 := hSw.1.2.2.2; clear hSw; go_simp; try rfl
          simp only [List.getElem_toArray, List.getElem_cons_zero, List.getElem_cons_succ, Act.put, List.setIfInBounds_toArray, List.set_cons_zero, List.set_cons_succ]
          refine wpAnyH_take (i := 12) (v := undef) rfl (by kernel_rfl) (by kernel_rfl) (by kernel_rfl) (fun _ _ _ h => h) (Or.inr ⟨by rfl, rfl⟩) hHeld ?_
          simp only [List.getElem_toArray, List.getElem_cons_zero, List.getElem_cons_succ, Act.put, List.setIfInBounds_toArray, List.set_cons_zero, List.set_cons_succ]
          refine wpAnyH_take (i := 13) (v := undef) rfl (by kernel_rfl) (by kernel_rfl) (by kernel_rfl) (fun _ _ _ h => h) (Or.inr ⟨by rfl, rfl⟩) hHeld ?_
          simp only [List.getElem_toArray, List.getElem_cons_zero, List.getElem_cons_succ, Act.put, List.setIfInBounds_toArray, List.set_cons_zero, List.set_cons_succ]
          refine wpAnyH_take (i := 14) (v := undef) rfl (by kernel_rfl) (by kernel_rfl) (by kernel_rfl) (fun _ _ _ h => h) (Or.inr ⟨by rfl, rfl⟩) hHeld ?_
          simp only [List.getElem_toArray, List.getElem_cons_zero, List.getElem_cons_succ, Act.put, List.setIfInBounds_toArray, List.set_cons_zero, List.set_cons_succ]
          refine wpAnyH_take (i := 15) (v := undef) rfl (by kernel_rfl) (by kernel_rfl) (by kernel_rfl) (fun _ _ _ h => h) (Or.inr ⟨by rfl, rfl⟩) hHeld ?_
          simp only [List.getElem_toArray, List.getElem_cons_zero, List.getElem_cons_succ, Act.put, List.setIfInBounds_toArray, List.set_cons_zero, List.set_cons_succ]
          refine wpAnyH_take (i := 16) (v := undef) rfl (by kernel_rfl) (by kernel_rfl) (by kernel_rfl) (fun _ _ _ h => h) (Or.inr ⟨by rfl, rfl⟩) hHeld ?_
          simp only [List.getElem_toArray, List.getElem_cons_zero, List.getElem_cons_succ, Act.put, List.setIfInBounds_toArray, List.set_cons_zero, List.set_cons_succ]
          refine wpAnyH_take (i := 17) (v := undef) rfl (by kernel_rfl) (by kernel_rfl) (by kernel_rfl) (fun _ _ _ h => h) (Or.inr ⟨by rfl, rfl⟩) hHeld ?_
          simp only [List.getElem_toArray, List.getElem_cons_zero, List.getElem_cons_succ, Act.put, List.setIfInBounds_toArray, List.set_cons_zero, List.set_cons_succ]
          refine wpAnyH_take (i := 18) (v := undef) rfl (by kernel_rfl) (by kernel_rfl) (by kernel_rfl) (fun _ _ _ h => h) (Or.inr ⟨by rfl, rfl⟩) hHeld ?_
          simp only [List.getElem_toArray, List.getElem_cons_zero, List.getElem_cons_succ, Act.put, List.setIfInBounds_toArray, List.set_cons_zero, List.set_cons_succ]
          refine wpAnyH_take (i := 19) (v := undef) rfl (by kernel_rfl) (by kernel_rfl) (by kernel_rfl) (fun _ _ _ h => h) (Or.inr ⟨by rfl, rfl⟩) hHeld ?_
          simp only [List.getElem_toArray, List.getElem_cons_zero, List.getElem_cons_succ, Act.put, List.setIfInBounds_toArray, List.set_cons_zero, List.set_cons_succ]
          refine wpAnyH_take (i := 20) (v := undef) rfl (by kernel_rfl) (by kernel_rfl) (by kernel_rfl) (fun _ _ _ h => h) (Or.inr ⟨by rfl, rfl⟩) hHeld ?_
          simp only [List.getElem_toArray, List.getElem_cons_zero, List.getElem_cons_succ, Act.put, List.setIfInBounds_toArray, List.set_cons_zero, List.set_cons_succ]
          refine wpAnyH_take (i := 21) (v := undef) rfl (by kernel_rfl) (by kernel_rfl) (by kernel_rfl) (fun _ _ _ h => h) (Or.inr ⟨by rfl, rfl⟩) hHeld ?_
          simp only [List.getElem_toArray, List.getElem_cons_zero, List.getElem_cons_succ, Act.put, List.setIfInBounds_toArray, List.set_cons_zero, List.set_cons_succ]
          refine wpAnyH_take (i := 22) (v := undef) rfl (by kernel_rfl) (by kernel_rfl) (by kernel_rfl) (fun _ _ _ h => h) (Or.inr ⟨by rfl, rfl⟩) hHeld ?_
          simp only [List.getElem_toArray, List.getElem_cons_zero, List.getElem_cons_succ, Act.put, List.setIfInBounds_toArray, List.set_cons_zero, List.set_cons_succ]
          refine wpAnyH_take (i := 23) (v := undef) rfl (by kernel_rfl) (by kernel_rfl) (by kernel_rfl) (fun _ _ _ h => h) (Or.inr ⟨by rfl, rfl⟩) hHeld ?_
          simp only [List.getElem_toArray, List.getElem_cons_zero, List.getElem_cons_succ, Act.put, List.setIfInBounds_toArray, List.set_cons_zero, List.set_cons_succ]
          refine wpAnyH_take (i := 24) (v := ?_) rfl (by kernel_rfl) (by kernel_rfl) (by kernel_rfl) (fun _ _ _ h => h) (Or.inl ⟨by rfl, ?_⟩) hHeld ?_
          rotate_left
          · intro w hSw; have f0 := hSw.1.1; have f1 := hSw.1.2.1; have f2 := hSw.1.2.2.1; have f3 := hSw.1.2.2.2; clear hSw; go_simp; try rfl
          simp only [List.getElem_toArray, List.getElem_cons_zero, List.getElem_cons_succ, Act.put, List.setIfInBounds_toArray, List.set_cons_zero, List.set_cons_succ]
          refine wpAnyH_done (by kernel_rfl) ?_ _
          go_wp2_with fail
          go_ret
          exact ⟨ret_bool HDD.out.symm, hb.drew⟩
      · have hi' : ¬ (i : Int) < (n1 : Int) := by omega
        have hd : decide (l1 = l2) = true := by
          rw [decide_eq_true_eq]
          refine List.ext_getElem? fun k => ?_
          by_cases hk : k < n1
          · exact hz.out k (by omega)
          · rw [List.getElem?_eq_none (by omega), List.getElem?_eq_none (by omega)]
        have HDD := Lib.hid hd
        clear hd
        go_wp2_with fail
        go_ret
        exact ⟨ret_bool HDD.out.symm, hb⟩
  · have hnb : ((n1 : Int) != (n2 : Int)) = true := by rw [bne_iff_ne]; omega
    have hd : decide (l1 = l2) = false := by
      rw [decide_eq_false_iff_not]
      intro e
      rw [e] at hlen1
      omega
    rw [hd]
    clear h1 h2
    go_enter Try.func24, Try.ntmps24
    go_wp2_with fail
    go_ret
    exact ⟨rfl, Below.refl _ _⟩
set_option maxHeartbeats 4000000 in
set_option maxRecDepth 100000 in
/-- the same changes? -/
theorem changes_any {A1 A2 : Option Addr} {n1 c1 n2 c2 : Nat} {l1 l2 : List bt.C} {w : World} (h1 : CS w A1 n1 c1 l1) (h2 : CS w A2 n2 c2 l2) : Calls Try.prog 19 #[.slice A1 n1 c1, .slice A2 n2 c2] w fun e w' => e = .returned (.bool (decide (l1 = l2))) ∧ Below w.heap.size w w' := by
  have hlen1 := h1.len
  have hlen2 := h2.len
  by_cases hn : n1 = n2
  · subst hn
    have hnb : ((n1 : Int) != (n1 : Int)) = false := by simp
    have H1 := Lib.hid h1
    have H2 := Lib.hid h2
    have hcap1 := h1.cap
    have hmax1 := h1.max
    have hcap2 := h2.cap
    have hmax2 := h2.max
    clear h1 h2
    go_enter Try.func19, Try.ntmps19
    go_wp2_with fail
    go_loopw [5] (fun t wr => ∃ (i : Nat), t = .int .i64 i ∧ i ≤ n1 ∧ Hid (∀ k, k < i → l1[k]? = l2[k]?) ∧ Below w.heap.size w wr) (fun t _ => n1 - (intOf t).toNat)
    case atStart => exact ⟨0, rfl, by omega, fun k hk => by omega, Below.refl _ _⟩
    case round =>
      obtain ⟨i, rfl, hin, hz, hb⟩ := hrel
      by_cases hi : i < n1
      · have hi' : (i : Int) < (n1 : Int) := by omega
        have t1 := H1.out.below hb
        have t2 := H2.out.below hb
        obtain ⟨b1, o1, rfl, -, hr1⟩ := t1.has (by omega)
        obtain ⟨b2, o2, rfl, -, hr2⟩ := t2.has (by omega)
        obtain ⟨p1, r1, X1, c1, q1, g1⟩ := hr1 i (by omega)
        obtain ⟨p2, r2, X2, c2, q2, g2⟩ := hr2 i (by omega)
        have e1 : l1[i]? = some l1[i] := List.getElem?_eq_getElem (by omega)
        have e2 : l2[i]? = some l2[i] := List.getElem?_eq_getElem (by omega)
        obtain ⟨x1, hx1⟩ : ∃ x, l1[i] = x := ⟨_, rfl⟩
        obtain ⟨x2, hx2⟩ : ∃ x, l2[i] = x := ⟨_, rfl⟩
        rw [hx1] at p1 q1 g1 e1 r1
        rw [hx2] at p2 q2 g2 e2 r2
        have hxx : x1 ≠ x2 → decide (l1 = l2) = false := fun hne => decide_eq_false (fun e => hne (Option.some.inj (e1.symm.trans ((congrArg (fun l => l[i]?) e).trans e2))))
        have hxe : x1 = x2 → ∀ k, k < i + 1 → l1[k]? = l2[k]? := fun e k hk => by
          by_cases hk2 : k < i
          · exact hz.out k hk2
          · obtain rfl : k = i := by omega
            rw [e1, e2, e]
        clear t1 t2 hr1 hr2 hx1 hx2 e1 e2
        obtain ⟨ka, va, ga⟩ := x1
        obtain ⟨kb, vb, gb⟩ := x2
        simp only at p1 q1 g1 r1 p2 q2 g2 r2
        have HS := Lib.hid (fun W (G1 : BS W X1 va.length c1 va) (G2 : BS W X2 vb.length c2 vb) => same_any _ _ _ _ _ _ va vb W G1 G2)
        obtain ⟨m1, hm1⟩ : ∃ m, va.length = m := ⟨_, rfl⟩
        obtain ⟨m2, hm2⟩ : ∃ m, vb.length = m := ⟨_, rfl⟩
        rw [hm1, hm2] at HS
        rw [hm1] at q1 g1
        rw [hm2] at q2 g2
        clear hm1 hm2
        by_cases hk : ka = kb
        · subst hk
          by_cases hg : ga = gb
          · subst hg
            by_cases ha : va = vb
            · subst ha
              rw [decide_eq_true rfl] at HS
              have hz2 := Lib.hid (hxe rfl)
              clear hxx hxe hz
              go_wp2_with fail
              refine wp_region_held_drew (S := fun W => (W.cell? ⟨b1, o1 + i * 3, none⟩ = some (str ka) ∧ W.cell? ⟨b2, o2 + i * 3, none⟩ = some (str ka) ∧ W.cell? ⟨b1, o1 + i * 3 + 1, none⟩ = some (.slice X1 m1 c1) ∧ W.cell? ⟨b2, o2 + i * 3 + 1, none⟩ = some (.slice X2 m2 c2) ∧ W.cell? ⟨b1, o1 + i * 3 + 2, none⟩ = some (.bool ga) ∧ W.cell? ⟨b2, o2 + i * 3 + 2, none⟩ = some (.bool ga)) ∧ BS W X1 m1 c1 va ∧ BS W X2 m2 c2 va) (by kernel_rfl) ⟨⟨p1, p2, q1, q2, r1, r2⟩, ⟨g1.len, g1.cap, g1.max, g1.small, g1.has⟩, ⟨g2.len, g2.cap, g2.max, g2.small, g2.has⟩⟩ (fun hHeld => ?_)
              refine wpAnyH_take (i := 0) (v := ?_) rfl (by kernel_rfl) (by kernel_rfl) (by kernel_rfl) (fun _ _ _ h => h) (Or.inl ⟨by rfl, ?_⟩) hHeld ?_
              rotate_left
              · intro w hSw; have f0 := hSw.1.1; have f1 := hSw.1.2.1; have f2 := hSw.1.2.2.1; have f3 := hSw.1.2.2.2.1; have f4 := hSw.1.2.2.2.2.1; have f5 := hSw.1.2.2.2.2.2; clear hSw; go_simp; try rfl
              simp only [List.getElem_toArray, List.getElem_cons_zero, Act.put, List.setIfInBounds_toArray, List.set_cons_zero, List.set_cons_succ]
              refine wpAnyH_take (i := 1) (v := ?_) rfl (by kernel_rfl) (by kernel_rfl) (by kernel_rfl) (fun _ _ _ h => h) (Or.inl ⟨by rfl, ?_⟩) hHeld ?_
              rotate_left
              · intro w hSw; have f0 := hSw.1.1; have f1 := hSw.1.2.1; have f2 := hSw.1.2.2.1; have f3 := hSw.1.2.2.2.1; have f4 := hSw.1.2.2.2.2.1; have f5 := hSw.1.2.2.2.2.2; clear hSw; go_simp; try rfl
              simp only [List.getElem_toArray, List.getElem_cons_zero, List.getElem_cons_succ, Act.put, List.setIfInBounds_toArray, List.set_cons_zero, List.set_cons_succ]
              refine wpAnyH_take (i := 2) (v := ?_) rfl (by kernel_rfl) (by kernel_rfl) (by kernel_rfl) (fun _ _ _ h => h) (Or.inl ⟨by rfl, ?_⟩) hHeld ?_
              rotate_left
              · intro w hSw; have f0 := hSw.1.1; have f1 := hSw.1.2.1; have f2 := hSw.1.2.2.1; have f3 := hSw.1.2.2.2.1; have f4 := hSw.1.2.2.2.2.1; have f5 := hSw.1.2.2.2.2.2; clear hSw; go_simp; try rfl
              simp only [List.getElem_toArray, List.getElem_cons_zero, List.getElem_cons_succ, Act.put, List.setIfInBounds_toArray, List.set_cons_zero, List.set_cons_succ]
              refine wpAnyH_take (i := 3) (v := ?_) rfl (by kernel_rfl) (by kernel_rfl) (by kernel_rfl) (fun _ _ _ h => h) (Or.inl ⟨by rfl, ?_⟩) hHeld ?_
              rotate_left
              · intro w hSw; have f0 := hSw.1.1; have f1 := hSw.1.2.1; have f2 := hSw.1.2.2.1; have f3 := hSw.1.2.2.2.1; have f4 := hSw.1.2.2.2.2.1; have f5 := hSw.1.2.2.2.2.2; clear hSw; go_simp; try rfl
              simp only [List.getElem_toArray, List.getElem_cons_zero, List.getElem_cons_succ, Act.put, List.setIfInBounds_toArray, List.set_cons_zero, List.set_cons_succ]
              refine wpAnyH_take (i := 4) (v := ?_) rfl (by kernel_rfl) (by kernel_rfl) (by kernel_rfl) (fun _ _ _ h => h) (Or.inl ⟨by rfl, ?_⟩) hHeld ?_
              rotate_left
              · intro w hSw; have f0 := hSw.1.1; have f1 := hSw.1.2.1; have f2 := hSw.1.2.2.1; have f3 := hSw.1.2.2.2.1; have f4 := hSw.1.2.2.2.2.1; have f5 := hSw.1.2.2.2.2.2; clear hSw; go_simp; try rfl
              simp only [List.getElem_toArray, List.getElem_cons_zero, List.getElem_cons_succ, Act.put, List.setIfInBounds_toArray, List.set_cons_zero, List.set_cons_succ]
              refine wpAnyH_take (i := 5) (v := ?_) rfl (by kernel_rfl) (by kernel_rfl) (by kernel_rfl) (fun _ _ _ h => h) (Or.inl ⟨by rfl, ?_⟩) hHeld ?_
              rotate_left
              · intro w hSw; have f0 := hSw.1.1; have f1 := hSw.1.2.1; have f2 := hSw.1.2.2.1; have f3 := hSw.1.2.2.2.1; have f4 := hSw.1.2.2.2.2.1; have f5 := hSw.1.2.2.2.2.2; clear hSw; go_simp; try rfl
              simp only [List.getElem_toArray, List.getElem_cons_zero, List.getElem_cons_succ, Act.put, List.setIfInBounds_toArray, List.set_cons_zero, List.set_cons_succ]
              refine wpAnyH_take (i := 6) (v := ?_) rfl (by kernel_rfl) (by kernel_rfl) (by kernel_rfl) (fun _ _ _ h => h) (Or.inl ⟨by rfl, ?_⟩) hHeld ?_
              rotate_left
              · intro w hSw; have f0 := hSw.1.1; have f1 := hSw.1.2.1; have f2 := hSw.1.2.2.1; have f3 := hSw.1.2.2.2.1; have f4 := hSw.1.2.2.2.2.1; have f5 := hSw.1.2.2.2.2.2; clear hSw; go_simp; try rfl
              simp only [List.getElem_toArray, List.getElem_cons_zero, List.getElem_cons_succ, Act.put, List.setIfInBounds_toArray, List.set_cons_zero, List.set_cons_succ]
              refine wpAnyH_take (i := 7) (v := ?_) rfl (by kernel_rfl) (by kernel_rfl) (by kernel_rfl) (fun _ _ _ h => h) (Or.inl ⟨by rfl, ?_⟩) hHeld ?_
              rotate_left
              · intro w hSw; have f0 := hSw.1.1; have f1 := hSw.1.2.1; have f2 := hSw.1.2.2.1; have f3 := hSw.1.2.2.2.1; have f4 := hSw.1.2.2.2.2.1; have f5 := hSw.1.2.2.2.2.2; clear hSw; go_simp; try rfl
              simp only [List.getElem_toArray, List.getElem_cons_zero, List.getElem_cons_succ, Act.put, List.setIfInBounds_toArray, List.set_cons_zero, List.set_cons_succ]
              refine wpAnyH_take (i := 8) (v := ?_) rfl (by kernel_rfl) (by kernel_rfl) (by kernel_rfl) (fun _ _ _ h => h) (Or.inl ⟨by rfl, ?_⟩) hHeld ?_
              rotate_left
              · intro w hSw; have f0 := hSw.1.1; have f1 := hSw.1.2.1; have f2 := hSw.1.2.2.1; have f3 := hSw.1.2.2.2.1; have f4 := hSw.1.2.2.2.2.1; have f5 := hSw.1.2.2.2.2.2; clear hSw; go_simp; try rfl
              simp only [List.getElem_toArray, List.getElem_cons_zero, List.getElem_cons_succ, Act.put, List.setIfInBounds_toArray, List.set_cons_zero, List.set_cons_succ]
              refine wpAnyH_take (i := 9) (v := ?_) rfl (by kernel_rfl) (by kernel_rfl) (by kernel_rfl) (fun _ _ _ h => h) (Or.inl ⟨by rfl, ?_⟩) hHeld ?_
              rotate_left
              · intro w hSw; have f0 := hSw.1.1; have f1 := hSw.1.2.1; have f2 := hSw.1.2.2.1; have f3 := hSw.1.2.2.2.1; have f4 := hSw.1.2.2.2.2.1; have f5 := hSw.1.2.2.2.2.2; clear hSw; go_simp; try rfl
              simp only [List.getElem_toArray, List.getElem_cons_zero, List.getElem_cons_succ, Act.put, List.setIfInBounds_toArray, List.set_cons_zero, List.set_cons_succ]
              refine wpAnyH_take (i := 10) (v := ?_) rfl (by kernel_rfl) (by kernel_rfl) (by kernel_rfl) (fun _ _ _ h => h) (Or.inl ⟨by rfl, ?_⟩) hHeld ?_
              rotate_left
              · intro w hSw; have f0 := hSw.1.1; have f1 := hSw.1.2.1; have f2 := hSw.1.2.2.1; have f3 := hSw.1.2.2.2.1; have f4 := hSw.1.2.2.2.2.1; have f5 := hSw.1.2.2.2.2.2; clear hSw; go_simp; try rfl
              simp only [List.getElem_toArray, List.getElem_cons_zero, List.getElem_cons_succ, Act.put, List.setIfInBounds_toArray, List.set_cons_zero, List.set_cons_succ]
              refine wpAnyH_take (i := 11) (v := ?_) rfl (by kernel_rfl) (by kernel_rfl) (by kernel_rfl) (fun _ _ _ h => h) (Or.inl ⟨by rfl, ?_⟩) hHeld ?_
              rotate_left
              · intro w hSw; have f0 := hSw.1.1; have f1 := hSw.1.2.1; have f2 := hSw.1.2.2.1; have f3 := hSw.1.2.2.2.1; have f4 := hSw.1.2.2.2.2.1; have f5 := hSw.1.2.2.2.2.2; clear hSw; go_simp; try rfl
              simp only [List.getElem_toArray, List.getElem_cons_zero, List.getElem_cons_succ, Act.put, List.setIfInBounds_toArray, List.set_cons_zero, List.set_cons_succ]
              refine wpAnyH_take (i := 12) (v := ?_) rfl (by kernel_rfl) (by kernel_rfl) (by kernel_rfl) (fun _ _ _ h => h) (Or.inl ⟨by rfl, ?_⟩) hHeld ?_
              rotate_left
              · intro w hSw; have f0 := hSw.1.1; have f1 := hSw.1.2.1; have f2 := hSw.1.2.2.1; have f3 := hSw.1.2.2.2.1; have f4 := hSw.1.2.2.2.2.1; have f5 := hSw.1.2.2.2.2.2; clear hSw; go_simp; try rfl
              simp only [List.getElem_toArray, List.getElem_cons_zero, List.getElem_cons_succ, Act.put, List.setIfInBounds_toArray, List.set_cons_zero, List.set_cons_succ]
              refine wpAnyH_take (i := 13) (v := ?_) rfl (by kernel_rfl) (by kernel_rfl) (by kernel_rfl) (fun _ _ _ h => h) (Or.inl ⟨by rfl, ?_⟩) hHeld ?_
              rotate_left
              · intro w hSw; have f0 := hSw.1.1; have f1 := hSw.1.2.1; have f2 := hSw.1.2.2.1; have f3 := hSw.1.2.2.2.1; have f4 := hSw.1.2.2.2.2.1; have f5 := hSw.1.2.2.2.2.2; clear hSw; go_simp; try rfl
              simp only [List.getElem_toArray, List.getElem_cons_zero, List.getElem_cons_succ, Act.put, List.setIfInBounds_toArray, List.set_cons_zero, List.set_cons_succ]
              refine wpAnyH_take (i := 14) (v := ?_) rfl (by kernel_rfl) (by kernel_rfl) (by kernel_rfl) (fun _ _ _ h => h) (Or.inl ⟨by rfl, ?_⟩) hHeld ?_
              rotate_left
              · intro w hSw; have f0 := hSw.1.1; have f1 := hSw.1.2.1; have f2 := hSw.1.2.2.1; have f3 := hSw.1.2.2.2.1; have f4 := hSw.1.2.2.2.2.1; have f5 := hSw.1.2.2.2.2.2; clear hSw; go_simp; try rfl
              simp only [List.getElem_toArray, List.getElem_cons_zero, List.getElem_cons_succ, Act.put, List.setIfInBounds_toArray, List.set_cons_zero, List.set_cons_succ]
              refine wpAnyH_take (i := 15) (v := ?_) rfl (by kernel_rfl) (by kernel_rfl) (by kernel_rfl) (fun _ _ _ h => h) (Or.inl ⟨by rfl, ?_⟩) hHeld ?_
              rotate_left
              · intro w hSw; have f0 := hSw.1.1; have f1 := hSw.1.2.1; have f2 := hSw.1.2.2.1; have f3 := hSw.1.2.2.2.1; have f4 := hSw.1.2.2.2.2.1; have f5 := hSw.1.2.2.2.2.2; clear hSw; go_simp; try rfl
              simp only [List.getElem_toArray, List.getElem_cons_zero, List.getElem_cons_succ, Act.put, List.setIfInBounds_toArray, List.set_cons_zero, List.set_cons_succ]
              refine wpAnyH_take (i := 16) (v := ?_) rfl (by kernel_rfl) (by kernel_rfl) (by kernel_rfl) (fun _ _ _ h => h) (Or.inl ⟨by rfl, ?_⟩) hHeld ?_
              rotate_left
              · intro w hSw; have f0 := hSw.1.1; have f1 := hSw.1.2.1; have f2 := hSw.1.2.2.1; have f3 := hSw.1.2.2.2.1; have f4 := hSw.1.2.2.2.2.1; have f5 := hSw.1.2.2.2.2.2; clear hSw; go_simp; try rfl
              simp only [List.getElem_toArray, List.getElem_cons_zero, List.getElem_cons_succ, Act.put, List.setIfInBounds_toArray, List.set_cons_zero, List.set_cons_succ]
              refine wpAnyH_take (i := 17) (v := ?_) rfl (by kernel_rfl) (by kernel_rfl) (by kernel_rfl) (fun _ _ _ h => h) (Or.inl ⟨by rfl, ?_⟩) hHeld ?_
              rotate_left
              · intro w hSw; have f0 := hSw.1.1; have f1 := hSw.1.2.1; have f2 := hSw.1.2.2.1; have f3 := hSw.1.2.2.2.1; have f4 := hSw.1.2.2.2.2.1; have f5 := hSw.1.2.2.2.2.2; clear hSw; go_simp; try rfl
              simp only [List.getElem_toArray, List.getElem_cons_zero, List.getElem_cons_succ, Act.put, List.setIfInBounds_toArray, List.set_cons_zero, List.set_cons_succ]
              refine wpAnyH_take (i := 18) (v := ?_) rfl (by kernel_rfl) (by kernel_rfl) (by kernel_rfl) (fun _ _ _ h => h) (Or.inl ⟨by rfl, ?_⟩) hHeld ?_
              rotate_left
              · intro w hSw; have f0 := hSw.1.1; have f1 := hSw.1.2.1; have f2 := hSw.1.2.2.1; have f3 := hSw.1.2.2.2.1; have f4 := hSw.1.2.2.2.2.1; have f5 := hSw.1.2.2.2.2.2; clear hSw; go_simp; try rfl
              simp only [List.getElem_toArray, List.getElem_cons_zero, List.getElem_cons_succ, Act.put, List.setIfInBounds_toArray, List.set_cons_zero, List.set_cons_succ]
              refine wpAnyH_take (i := 19) (v := ?_) rfl (by kernel_rfl) (by kernel_rfl) (by kernel_rfl) (fun _ _ _ h => h) (Or.inl ⟨by rfl, ?_⟩) hHeld ?_
              rotate_left
              · intro w hSw; have f0 := hSw.1.1; have f1 := hSw.1.2.1; have f2 := hSw.1.2.2.1; have f3 := hSw.1.2.2.2.1; have f4 := hSw.1.2.2.2.2.1; have f5 := hSw.1.2.2.2.2.2; clear hSw; go_simp; try rfl
              simp only [List.getElem_toArray, List.getElem_cons_zero, List.getElem_cons_succ, Act.put, List.setIfInBounds_toArray, List.set_cons_zero, List.set_cons_succ]
              refine wpAnyH_take (i := 20) (v := ?_) rfl (by kernel_rfl) (by kernel_rfl) (by kernel_rfl) (fun _ _ _ h => h) (Or.inl ⟨by rfl, ?_⟩) hHeld ?_
              rotate_left
              · intro w hSw; have f0 := hSw.1.1; have f1 := hSw.1.2.1; have f2 := hSw.1.2.2.1; have f3 := hSw.1.2.2.2.1; have f4 := hSw.1.2.2.2.2.1; have f5 := hSw.1.2.2.2.2.2; clear hSw; go_simp; try rfl
              simp only [List.getElem_toArray, List.getElem_cons_zero, List.getElem_cons_succ, Act.put, List.setIfInBounds_toArray, List.set_cons_zero, List.set_cons_succ]
              refine wpAnyH_take (i := 21) (v := ?_) rfl (by kernel_rfl) (by kernel_rfl) (by kernel_rfl) (fun _ _ _ h => h) (Or.inl ⟨by rfl, ?_⟩) hHeld ?_
              rotate_left
              · intro w hSw; have f0 := hSw.1.1; have f1 := hSw.1.2.1; have f2 := hSw.1.2.2.1; have f3 := hSw.1.2.2.2.1; have f4 := hSw.1.2.2.2.2.1; have f5 := hSw.1.2.2.2.2.2; clear hSw; go_simp; try rfl
              simp only [List.getElem_toArray, List.getElem_cons_zero, List.getElem_cons_succ, Act.put, List.setIfInBounds_toArray, List.set_cons_zero, List.set_cons_succ]
              refine wpAnyH_take (i := 22) (v := ?_) rfl (by kernel_rfl) (by kernel_rfl) (by kernel_rfl) (fun _ _ _ h => h) (Or.inl ⟨by rfl, ?_⟩) hHeld ?_
              rotate_left
              · intro w hSw; have f0 := hSw.1.1; have f1 := hSw.1.2.1; have f2 := hSw.1.2.2.1; have f3 := hSw.1.2.2.2.1; have f4 := hSw.1.2.2.2.2.1; have f5 := hSw.1.2.2.2.2.2; clear hSw; go_simp; try rfl
              simp only [List.getElem_toArray, List.getElem_cons_zero, List.getElem_cons_succ, Act.put, List.setIfInBounds_toArray, List.set_cons_zero, List.set_cons_succ]
              refine wpAnyH_take (i := 23) (v := ?_) rfl (by kernel_rfl) (by kernel_rfl) (by kernel_rfl) (fun _ _ _ h => h) (Or.inl ⟨by rfl, ?_⟩) hHeld ?_
              rotate_left
              · intro w hSw; have f0 := hSw.1.1; have f1 := hSw.1.2.1; have f2 := hSw.1.2.2.1; have f3 := hSw.1.2.2.2.1; have f4 := hSw.1.2.2.2.2.1; have f5 := hSw.1.2.2.2.2.2; clear hSw; go_simp; try rfl
              simp only [List.getElem_toArray, List.getElem_cons_zero, List.getElem_cons_succ, Act.put, List.setIfInBounds_toArray, List.set_cons_zero, List.set_cons_succ]
              refine wpAnyH_take (i := 24) (v := ?_) rfl (by kernel_rfl) (by kernel_rfl) (by kernel_rfl) (fun _ _ _ h => h) (Or.inl ⟨by rfl, ?_⟩) hHeld ?_
              rotate_left
              · intro w hSw; have f0 := hSw.1.1; have f1 := hSw.1.2.1; have f2 := hSw.1.2.2.1; have f3 := hSw.1.2.2.2.1; have f4 := hSw.1.2.2.2.2.1; have f5 := hSw.1.2.2.2.2.2; clear hSw; go_simp; try rfl
              simp only [List.getElem_toArray, List.getElem_cons_zero, List.getElem_cons_succ, Act.put, List.setIfInBounds_toArray, List.set_cons_zero, List.set_cons_succ]
              refine wpAnyH_take (i := 25) (v := ?_) rfl (by kernel_rfl) (by kernel_rfl) (by kernel_rfl) (fun _ _ _ h => h) (Or.inl ⟨by rfl, ?_⟩) hHeld ?_
              rotate_left
              · intro w hSw; have f0 := hSw.1.1; have f1 := hSw.1.2.1; have f2 := hSw.1.2.2.1; have f3 := hSw.1.2.2.2.1; have f4 := hSw.1.2.2.2.2.1; have f5 := hSw.1.2.2.2.2.2; clear hSw; go_simp; try rfl
              simp only [List.getElem_toArray, List.getElem_cons_zero, List.getElem_cons_succ, Act.put, List.setIfInBounds_toArray, List.set_cons_zero, List.set_cons_succ]
              refine wpAnyH_take (i := 26) (v := ?_) rfl (by kernel_rfl) (by kernel_rfl) (by kernel_rfl) (fun _ _ _ h => h) (Or.inl ⟨by rfl, ?_⟩) hHeld ?_
              rotate_left
              · intro w hSw; have f0 := hSw.1.1; have f1 := hSw.1.2.1; have f2 := hSw.1.2.2.1; have f3 := hSw.1.2.2.2.1; have f4 := hSw.1.2.2.2.2.1; have f5 := hSw.1.2.2.2.2.2; clear hSw; go_simp; try rfl
              simp only [List.getElem_toArray, List.getElem_cons_zero, List.getElem_cons_succ, Act.put, List.setIfInBounds_toArray, List.set_cons_zero, List.set_cons_succ]
              refine wpAnyH_take (i := 27) (v := ?_) rfl (by kernel_rfl) (by kernel_rfl) (by kernel_rfl) (fun _ _ _ h => h) (Or.inl ⟨by rfl, ?_⟩) hHeld ?_
              rotate_left
              · intro w hSw; have f0 := hSw.1.1; have f1 := hSw.1.2.1; have f2 := hSw.1.2.2.1; have f3 := hSw.1.2.2.2.1; have f4 := hSw.1.2.2.2.2.1; have f5 := hSw.1.2.2.2.2.2; clear hSw; go_simp; try rfl
              simp only [List.getElem_toArray, List.getElem_cons_zero, List.getElem_cons_succ, Act.put, List.setIfInBounds_toArray, List.set_cons_zero, List.set_cons_succ]
              refine wpAnyH_take (i := 28) (v := ?_) rfl (by kernel_rfl) (by kernel_rfl) (by kernel_rfl) (fun _ _ _ h => h) (Or.inl ⟨by rfl, ?_⟩) hHeld ?_
              rotate_left
              · intro w hSw; have f0 := hSw.1.1; have f1 := hSw.1.2.1; have f2 := hSw.1.2.2.1; have f3 := hSw.1.2.2.2.1; have f4 := hSw.1.2.2.2.2.1; have f5 := hSw.1.2.2.2.2.2; clear hSw; go_simp; try rfl
              simp only [List.getElem_toArray, List.getElem_cons_zero, List.getElem_cons_succ, Act.put, List.setIfInBounds_toArray, List.set_cons_zero, List.set_cons_succ]
              refine wpAnyH_take (i := 29) (v := ?_) rfl (by kernel_rfl) (by kernel_rfl) (by kernel_rfl) (fun _ _ _ h => h) (Or.inl ⟨by rfl, ?_⟩) hHeld ?_
              rotate_left
              · intro w hSw; have f0 := hSw.1.1; have f1 := hSw.1.2.1; have f2 := hSw.1.2.2.1; have f3 := hSw.1.2.2.2.1; have f4 := hSw.1.2.2.2.2.1; have f5 := hSw.1.2.2.2.2.2; clear hSw; go_simp; try rfl
              simp only [List.getElem_toArray, List.getElem_cons_zero, List.getElem_cons_succ, Act.put, List.setIfInBounds_toArray, List.set_cons_zero, List.set_cons_succ]
              refine wpAnyH_take (i := 30) (v := ?_) rfl (by kernel_rfl) (by kernel_rfl) (by kernel_rfl) (fun _ _ _ h => h) (Or.inl ⟨by rfl, ?_⟩) hHeld ?_
              rotate_left
              · intro w hSw; have f0 := hSw.1.1; have f1 := hSw.1.2.1; have f2 := hSw.1.2.2.1; have f3 := hSw.1.2.2.2.1; have f4 := hSw.1.2.2.2.2.1; have f5 := hSw.1.2.2.2.2.2; clear hSw; go_simp; try rfl
              simp only [List.getElem_toArray, List.getElem_cons_zero, List.getElem_cons_succ, Act.put, List.setIfInBounds_toArray, List.set_cons_zero, List.set_cons_succ]
              refine wpAnyH_take (i := 31) (v := ?_) rfl (by kernel_rfl) (by kernel_rfl) (by kernel_rfl) (fun _ _ _ h => h) (Or.inl ⟨by rfl, ?_⟩) hHeld ?_
              rotate_left
              · intro w hSw; have f0 := hSw.1.1; have f1 := hSw.1.2.1; have f2 := hSw.1.2.2.1; have f3 := hSw.1.2.2.2.1; have f4 := hSw.1.2.2.2.2.1; have f5 := hSw.1.2.2.2.2.2; clear hSw; go_simp; try rfl
              simp only [List.getElem_toArray, List.getElem_cons_zero, List.getElem_cons_succ, Act.put, List.setIfInBounds_toArray, List.set_cons_zero, List.set_cons_succ]
              refine wpAnyH_take (i := 32) (v := ?_) rfl (by kernel_rfl) (by kernel_rfl) (by kernel_rfl) (fun _ _ _ h => h) (Or.inl ⟨by rfl, ?_⟩) hHeld ?_
              rotate_left
              · intro w hSw; have f0 := hSw.1.1; have f1 := hSw.1.2.1; have f2 := hSw.1.2.2.1; have f3 := hSw.1.2.2.2.1; have f4 := hSw.1.2.2.2.2.1; have f5 := hSw.1.2.2.2.2.2; clear hSw; go_simp; try rfl
              simp only [List.getElem_toArray, List.getElem_cons_zero, List.getElem_cons_succ, Act.put, List.setIfInBounds_toArray, List.set_cons_zero, List.set_cons_succ]
              refine wpAnyH_take (i := 33) (v := ?_) rfl (by kernel_rfl) (by kernel_rfl) (by kernel_rfl) (fun _ _ _ h => h) (Or.inl ⟨by rfl, ?_⟩) hHeld ?_
              rotate_left
              · intro w hSw; have f0 := hSw.1.1; have f1 := hSw.1.2.1; have f2 := hSw.1.2.2.1; have f3 := hSw.1.2.2.2.1; have f4 := hSw.1.2.2.2.2.1; have f5 := hSw.1.2.2.2.2.2; clear hSw; go_simp; try rfl
              simp only [List.getElem_toArray, List.getElem_cons_zero, List.getElem_cons_succ, Act.put, List.setIfInBounds_toArray, List.set_cons_zero, List.set_cons_succ]
              refine wpAnyH_take (i := 34) (v := ?_) rfl (by kernel_rfl) (by kernel_rfl) (by kernel_rfl) (fun _ _ _ h => h) (Or.inl ⟨by rfl, ?_⟩) hHeld ?_
              rotate_left
              · intro w hSw; have f0 := hSw.1.1; have f1 := hSw.1.2.1; have f2 := hSw.1.2.2.1; have f3 := hSw.1.2.2.2.1; have f4 := hSw.1.2.2.2.2.1; have f5 := hSw.1.2.2.2.2.2; clear hSw; go_simp; try rfl
              simp only [List.getElem_toArray, List.getElem_cons_zero, List.getElem_cons_succ, Act.put, List.setIfInBounds_toArray, List.set_cons_zero, List.set_cons_succ]
              refine wpAnyH_ready (rs := [35]) (by kernel_rfl) (by simp) ?_
              refine AllReadyH.cons rfl (fun K hK => ?_) AllReadyH.nil
              rw [if_pos (by rfl)]
              go_simp
              refine (HS.out _ hHeld.2.1 hHeld.2.2).mono ?_
              rintro e w2 ⟨rfl, rfl⟩
              refine hK.out _ _ hHeld (fun hHeld => ?_)
              clear hK K
              refine wpAnyH_take (i := 36) (v := ?_) rfl (by kernel_rfl) (by kernel_rfl) (by kernel_rfl) (fun _ _ _ h => h) (Or.inl ⟨by rfl, ?_⟩) hHeld ?_
              rotate_left
              · intro w hSw; have f0 := hSw.1.1; have f1 := hSw.1.2.1; have f2 := hSw.1.2.2.1; have f3 := hSw.1.2.2.2.1; have f4 := hSw.1.2.2.2.2.1; have f5 := hSw.1.2.2.2.2.2; clear hSw; go_simp; try rfl
              simp only [List.getElem_toArray, List.getElem_cons_zero, List.getElem_cons_succ, Act.put, List.setIfInBounds_toArray, List.set_cons_zero, List.set_cons_succ]
              refine wpAnyH_take (i := 37) (v := ?_) rfl (by kernel_rfl) (by kernel_rfl) (by kernel_rfl) (fun _ _ _ h => h) (Or.inl ⟨by rfl, ?_⟩) hHeld ?_
              rotate_left
              · intro w hSw; have f0 := hSw.1.1; have f1 := hSw.1.2.1; have f2 := hSw.1.2.2.1; have f3 := hSw.1.2.2.2.1; have f4 := hSw.1.2.2.2.2.1; have f5 := hSw.1.2.2.2.2.2; clear hSw; go_simp; try rfl
              simp only [List.getElem_toArray, List.getElem_cons_zero, List.getElem_cons_succ, Act.put, List.setIfInBounds_toArray, List.set_cons_zero, List.set_cons_succ]
              refine wpAnyH_done (by kernel_rfl) ?_ _
              go_wp2_with fail
              go_roundw
              case rel => exact ⟨i + 1, by go_num, by omega, hz2, hb.drew⟩
              case measure => simp [intOf]; omega
            · rw [decide_eq_false ha] at HS
              have HDD := Lib.hid (hxx (fun e => ha (congrArg bt.C.val e)))
              clear hxx hxe hz
              go_wp2_with fail
              refine wp_region_held_drew (S := fun W => (W.cell? ⟨b1, o1 + i * 3, none⟩ = some (str ka) ∧ W.cell? ⟨b2, o2 + i * 3, none⟩ = some (str ka) ∧ W.cell? ⟨b1, o1 + i * 3 + 1, none⟩ = some (.slice X1 m1 c1) ∧ W.cell? ⟨b2, o2 + i * 3 + 1, none⟩ = some (.slice X2 m2 c2) ∧ W.cell? ⟨b1, o1 + i * 3 + 2, none⟩ = some (.bool ga) ∧ W.cell? ⟨b2, o2 + i * 3 + 2, none⟩ = some (.bool ga)) ∧ BS W X1 m1 c1 va ∧ BS W X2 m2 c2 vb) (by kernel_rfl) ⟨⟨p1, p2, q1, q2, r1, r2⟩, ⟨g1.len, g1.cap, g1.max, g1.small, g1.has⟩, ⟨g2.len, g2.cap, g2.max, g2.small, g2.has⟩⟩ (fun hHeld => ?_)
              refine wpAnyH_take (i := 0) (v := ?_) rfl (by kernel_rfl) (by kernel_rfl) (by kernel_rfl) (fun _ _ _ h => h) (Or.inl ⟨by rfl, ?_⟩) hHeld ?_
              rotate_left
              · intro w hSw; have f0 := hSw.1.1; have f1 := hSw.1.2.1; have f2 := hSw.1.2.2.1; have f3 := hSw.1.2.2.2.1; have f4 := hSw.1.2.2.2.2.1; have f5 := hSw.1.2.2.2.2.2; clear hSw; go_simp; try rfl
              simp only [List.getElem_toArray, List.getElem_cons_zero, Act.put, List.setIfInBounds_toArray, List.set_cons_zero, List.set_cons_succ]
              refine wpAnyH_take (i := 1) (v := ?_) rfl (by kernel_rfl) (by kernel_rfl) (by kernel_rfl) (fun _ _ _ h => h) (Or.inl ⟨by rfl, ?_⟩) hHeld ?_
              rotate_left
              · intro w hSw; have f0 := hSw.1.1; have f1 := hSw.1.2.1; have f2 := hSw.1.2.2.1; have f3 := hSw.1.2.2.2.1; have f4 := hSw.1.2.2.2.2.1; have f5 := hSw.1.2.2.2.2.2; clear hSw; go_simp; try rfl
              simp only [List.getElem_toArray, List.getElem_cons_zero, List.getElem_cons_succ, Act.put, List.setIfInBounds_toArray, List.set_cons_zero, List.set_cons_succ]
              refine wpAnyH_take (i := 2) (v := ?_) rfl (by kernel_rfl) (by kernel_rfl) (by kernel_rfl) (fun _ _ _ h => h) (Or.inl ⟨by rfl, ?_⟩) hHeld ?_
              rotate_left
              · intro w hSw; have f0 := hSw.1.1; have f1 := hSw.1.2.1; have f2 := hSw.1.2.2.1; have f3 := hSw.1.2.2.2.1; have f4 := hSw.1.2.2.2.2.1; have f5 := hSw.1.2.2.2.2.2; clear hSw; go_simp; try rfl
              simp only [List.getElem_toArray, List.getElem_cons_zero, List.getElem_cons_succ, Act.put, List.setIfInBounds_toArray, List.set_cons_zero, List.set_cons_succ]
              refine wpAnyH_take (i := 3) (v := ?_) rfl (by kernel_rfl) (by kernel_rfl) (by kernel_rfl) (fun _ _ _ h => h) (Or.inl ⟨by rfl, ?_⟩) hHeld ?_
              rotate_left
              · intro w hSw; have f0 := hSw.1.1; have f1 := hSw.1.2.1; have f2 := hSw.1.2.2.1; have f3 := hSw.1.2.2.2.1; have f4 := hSw.1.2.2.2.2.1; have f5 := hSw.1.2.2.2.2.2; clear hSw; go_simp; try rfl
              simp only [List.getElem_toArray, List.getElem_cons_zero, List.getElem_cons_succ, Act.put, List.setIfInBounds_toArray, List.set_cons_zero, List.set_cons_succ]
              refine wpAnyH_take (i := 4) (v := ?_) rfl (by kernel_rfl) (by kernel_rfl) (by kernel_rfl) (fun _ _ _ h => h) (Or.inl ⟨by rfl, ?_⟩) hHeld ?_
              rotate_left
              · intro w hSw; have f0 := hSw.1.1; have f1 := hSw.1.2.1; have f2 := hSw.1.2.2.1; have f3 := hSw.1.2.2.2.1; have f4 := hSw.1.2.2.2.2.1; have f5 := hSw.1.2.2.2.2.2; clear hSw; go_simp; try rfl
              simp only [List.getElem_toArray, List.getElem_cons_zero, List.getElem_cons_succ, Act.put, List.setIfInBounds_toArray, List.set_cons_zero, List.set_cons_succ]
              refine wpAnyH_take (i := 5) (v := ?_) rfl (by kernel_rfl) (by kernel_rfl) (by kernel_rfl) (fun _ _ _ h => h) (Or.inl ⟨by rfl, ?_⟩) hHeld ?_
              rotate_left
              · intro w hSw; have f0 := hSw.1.1; have f1 := hSw.1.2.1; have f2 := hSw.1.2.2.1; have f3 := hSw.1.2.2.2.1; have f4 := hSw.1.2.2.2.2.1; have f5 := hSw.1.2.2.2.2.2; clear hSw; go_simp; try rfl
              simp only [List.getElem_toArray, List.getElem_cons_zero, List.getElem_cons_succ, Act.put, List.setIfInBounds_toArray, List.set_cons_zero, List.set_cons_succ]
              refine wpAnyH_take (i := 6) (v := ?_) rfl (by kernel_rfl) (by kernel_rfl) (by kernel_rfl) (fun _ _ _ h => h) (Or.inl ⟨by rfl, ?_⟩) hHeld ?_
              rotate_left
              · intro w hSw; have f0 := hSw.1.1; have f1 := hSw.1.2.1; have f2 := hSw.1.2.2.1; have f3 := hSw.1.2.2.2.1; have f4 := hSw.1.2.2.2.2.1; have f5 := hSw.1.2.2.2.2.2; clear hSw; go_simp; try rfl
              simp only [List.getElem_toArray, List.getElem_cons_zero, List.getElem_cons_succ, Act.put, List.setIfInBounds_toArray, List.set_cons_zero, List.set_cons_succ]
              refine wpAnyH_take (i := 7) (v := ?_) rfl (by kernel_rfl) (by kernel_rfl) (by kernel_rfl) (fun _ _ _ h => h) (Or.inl ⟨by rfl, ?_⟩) hHeld ?_
              rotate_left
              · intro w hSw; have f0 := hSw.1.1; have f1 := hSw.1.2.1; have f2 := hSw.1.2.2.1; have f3 := hSw.1.2.2.2.1; have f4 := hSw.1.2.2.2.2.1; have f5 := hSw.1.2.2.2.2.2; clear hSw; go_simp; try rfl
              simp only [List.getElem_toArray, List.getElem_cons_zero, List.getElem_cons_succ, Act.put, List.setIfInBounds_toArray, List.set_cons_zero, List.set_cons_succ]
              refine wpAnyH_take (i := 8) (v := ?_) rfl (by kernel_rfl) (by kernel_rfl) (by kernel_rfl) (fun _ _ _ h => h) (Or.inl ⟨by rfl, ?_⟩) hHeld ?_
              rotate_left
              · intro w hSw; have f0 := hSw.1.1; have f1 := hSw.1.2.1; have f2 := hSw.1.2.2.1; have f3 := hSw.1.2.2.2.1; have f4 := hSw.1.2.2.2.2.1; have f5 := hSw.1.2.2.2.2.2; clear hSw; go_simp; try rfl
              simp only [List.getElem_toArray, List.getElem_cons_zero, List.getElem_cons_succ, Act.put, List.setIfInBounds_toArray, List.set_cons_zero, List.set_cons_succ]
              refine wpAnyH_take (i := 9) (v := ?_) rfl (by kernel_rfl) (by kernel_rfl) (by kernel_rfl) (fun _ _ _ h => h) (Or.inl ⟨by rfl, ?_⟩) hHeld ?_
              rotate_left
              · intro w hSw; have f0 := hSw.1.1; have f1 := hSw.1.2.1; have f2 := hSw.1.2.2.1; have f3 := hSw.1.2.2.2.1; have f4 := hSw.1.2.2.2.2.1; have f5 := hSw.1.2.2.2.2.2; clear hSw; go_simp; try rfl
              simp only [List.getElem_toArray, List.getElem_cons_zero, List.getElem_cons_succ, Act.put, List.setIfInBounds_toArray, List.set_cons_zero, List.set_cons_succ]
              refine wpAnyH_take (i := 10) (v := ?_) rfl (by kernel_rfl) (by kernel_rfl) (by kernel_rfl) (fun _ _ _ h => h) (Or.inl ⟨by rfl, ?_⟩) hHeld ?_
              rotate_left
              · intro w hSw; have f0 := hSw.1.1; have f1 := hSw.1.2.1; have f2 := hSw.1.2.2.1; have f3 := hSw.1.2.2.2.1; have f4 := hSw.1.2.2.2.2.1; have f5 := hSw.1.2.2.2.2.2; clear hSw; go_simp; try rfl
              simp only [List.getElem_toArray, List.getElem_cons_zero, List.getElem_cons_succ, Act.put, List.setIfInBounds_toArray, List.set_cons_zero, List.set_cons_succ]
              refine wpAnyH_take (i := 11) (v := ?_) rfl (by kernel_rfl) (by kernel_rfl) (by kernel_rfl) (fun _ _ _ h => h) (Or.inl ⟨by rfl, ?_⟩) hHeld ?_
              rotate_left
              · intro w hSw; have f0 := hSw.1.1; have f1 := hSw.1.2.1; have f2 := hSw.1.2.2.1; have f3 := hSw.1.2.2.2.1; have f4 := hSw.1.2.2.2.2.1; have f5 := hSw.1.2.2.2.2.2; clear hSw; go_simp; try rfl
              simp only [List.getElem_toArray, List.getElem_cons_zero, List.getElem_cons_succ, Act.put, List.setIfInBounds_toArray, List.set_cons_zero, List.set_cons_succ]
              refine wpAnyH_take (i := 12) (v := ?_) rfl (by kernel_rfl) (by kernel_rfl) (by kernel_rfl) (fun _ _ _ h => h) (Or.inl ⟨by rfl, ?_⟩) hHeld ?_
              rotate_left
              · intro w hSw; have f0 := hSw.1.1; have f1 := hSw.1.2.1; have f2 := hSw.1.2.2.1; have f3 := hSw.1.2.2.2.1; have f4 := hSw.1.2.2.2.2.1; have f5 := hSw.1.2.2.2.2.2; clear hSw; go_simp; try rfl
              simp only [List.getElem_toArray, List.getElem_cons_zero, List.getElem_cons_succ, Act.put, List.setIfInBounds_toArray, List.set_cons_zero, List.set_cons_succ]
              refine wpAnyH_take (i := 13) (v := ?_) rfl (by kernel_rfl) (by kernel_rfl) (by kernel_rfl) (fun _ _ _ h => h) (Or.inl ⟨by rfl, ?_⟩) hHeld ?_
              rotate_left
              · intro w hSw; have f0 := hSw.1.1; have f1 := hSw.1.2.1; have f2 := hSw.1.2.2.1; have f3 := hSw.1.2.2.2.1; have f4 := hSw.1.2.2.2.2.1; have f5 := hSw.1.2.2.2.2.2; clear hSw; go_simp; try rfl
              simp only [List.getElem_toArray, List.getElem_cons_zero, List.getElem_cons_succ, Act.put, List.setIfInBounds_toArray, List.set_cons_zero, List.set_cons_succ]
              refine wpAnyH_take (i := 14) (v := ?_) rfl (by kernel_rfl) (by kernel_rfl) (by kernel_rfl) (fun _ _ _ h => h) (Or.inl ⟨by rfl, ?_⟩) hHeld ?_
              rotate_left
              · intro w hSw; have f0 := hSw.1.1; have f1 := hSw.1.2.1; have f2 := hSw.1.2.2.1; have f3 := hSw.1.2.2.2.1; have f4 := hSw.1.2.2.2.2.1; have f5 := hSw.1.2.2.2.2.2; clear hSw; go_simp; try rfl
              simp only [List.getElem_toArray, List.getElem_cons_zero, List.getElem_cons_succ, Act.put, List.setIfInBounds_toArray, List.set_cons_zero, List.set_cons_succ]
              refine wpAnyH_take (i := 15) (v := ?_) rfl (by kernel_rfl) (by kernel_rfl) (by kernel_rfl) (fun _ _ _ h => h) (Or.inl ⟨by rfl, ?_⟩) hHeld ?_
              rotate_left
              · intro w hSw; have f0 := hSw.1.1; have f1 := hSw.1.2.1; have f2 := hSw.1.2.2.1; have f3 := hSw.1.2.2.2.1; have f4 := hSw.1.2.2.2.2.1; have f5 := hSw.1.2.2.2.2.2; clear hSw; go_simp; try rfl
              simp only [List.getElem_toArray, List.getElem_cons_zero, List.getElem_cons_succ, Act.put, List.setIfInBounds_toArray, List.set_cons_zero, List.set_cons_succ]
              refine wpAnyH_take (i := 16) (v := ?_) rfl (by kernel_rfl) (by kernel_rfl) (by kernel_rfl) (fun _ _ _ h => h) (Or.inl ⟨by rfl, ?_⟩) hHeld ?_
              rotate_left
              · intro w hSw; have f0 := hSw.1.1; have f1 := hSw.1.2.1; have f2 := hSw.1.2.2.1; have f3 := hSw.1.2.2.2.1; have f4 := hSw.1.2.2.2.2.1; have f5 := hSw.1.2.2.2.2.2; clear hSw; go_simp; try rfl
              simp only [List.getElem_toArray, List.getElem_cons_zero, List.getElem_cons_succ, Act.put, List.setIfInBounds_toArray, List.set_cons_zero, List.set_cons_succ]
              refine wpAnyH_take (i := 17) (v := ?_) rfl (by kernel_rfl) (by kernel_rfl) (by kernel_rfl) (fun _ _ _ h => h) (Or.inl ⟨by rfl, ?_⟩) hHeld ?_
              rotate_left
              · intro w hSw; have f0 := hSw.1.1; have f1 := hSw.1.2.1; have f2 := hSw.1.2.2.1; have f3 := hSw.1.2.2.2.1; have f4 := hSw.1.2.2.2.2.1; have f5 := hSw.1.2.2.2.2.2; clear hSw; go_simp; try rfl
              simp only [List.getElem_toArray, List.getElem_cons_zero, List.getElem_cons_succ, Act.put, List.setIfInBounds_toArray, List.set_cons_zero, List.set_cons_succ]
              refine wpAnyH_take (i := 18) (v := ?_) rfl (by kernel_rfl) (by kernel_rfl) (by kernel_rfl) (fun _ _ _ h => h) (Or.inl ⟨by rfl, ?_⟩) hHeld ?_
              rotate_left
              · intro w hSw; have f0 := hSw.1.1; have f1 := hSw.1.2.1; have f2 := hSw.1.2.2.1; have f3 := hSw.1.2.2.2.1; have f4 := hSw.1.2.2.2.2.1; have f5 := hSw.1.2.2.2.2.2; clear hSw; go_simp; try rfl
              simp only [List.getElem_toArray, List.getElem_cons_zero, List.getElem_cons_succ, Act.put, List.setIfInBounds_toArray, List.set_cons_zero, List.set_cons_succ]
              refine wpAnyH_take (i := 19) (v := ?_) rfl (by kernel_rfl) (by kernel_rfl) (by kernel_rfl) (fun _ _ _ h => h) (Or.inl ⟨by rfl, ?_⟩) hHeld ?_
              rotate_left
              · intro w hSw; have f0 := hSw.1.1; have f1 := hSw.1.2.1; have f2 := hSw.1.2.2.1; have f3 := hSw.1.2.2.2.1; have f4 := hSw.1.2.2.2.2.1; have f5 := hSw.1.2.2.2.2.2; clear hSw; go_simp; try rfl
              simp only [List.getElem_toArray, List.getElem_cons_zero, List.getElem_cons_succ, Act.put, List.setIfInBounds_toArray, List.set_cons_zero, List.set_cons_succ]
              refine wpAnyH_take (i := 20) (v := ?_) rfl (by kernel_rfl) (by kernel_rfl) (by kernel_rfl) (fun _ _ _ h => h) (Or.inl ⟨by rfl, ?_⟩) hHeld ?_
              rotate_left
              · intro w hSw; have f0 := hSw.1.1; have f1 := hSw.1.2.1; have f2 := hSw.1.2.2.1; have f3 := hSw.1.2.2.2.1; have f4 := hSw.1.2.2.2.2.1; have f5 := hSw.1.2.2.2.2.2; clear hSw; go_simp; try rfl
              simp only [List.getElem_toArray, List.getElem_cons_zero, List.getElem_cons_succ, Act.put, List.setIfInBounds_toArray, List.set_cons_zero, List.set_cons_succ]
              refine wpAnyH_take (i := 21) (v := ?_) rfl (by kernel_rfl) (by kernel_rfl) (by kernel_rfl) (fun _ _ _ h => h) (Or.inl ⟨by rfl, ?_⟩) hHeld ?_
              rotate_left
              · intro w hSw; have f0 := hSw.1.1; have f1 := hSw.1.2.1; have f2 := hSw.1.2.2.1; have f3 := hSw.1.2.2.2.1; have f4 := hSw.1.2.2.2.2.1; have f5 := hSw.1.2.2.2.2.2; clear hSw; go_simp; try rfl
              simp only [List.getElem_toArray, List.getElem_cons_zero, List.getElem_cons_succ, Act.put, List.setIfInBounds_toArray, List.set_cons_zero, List.set_cons_succ]
              refine wpAnyH_take (i := 22) (v := ?_) rfl (by kernel_rfl) (by kernel_rfl) (by kernel_rfl) (fun _ _ _ h => h) (Or.inl ⟨by rfl, ?_⟩) hHeld ?_
              rotate_left
              · intro w hSw; have f0 := hSw.1.1; have f1 := hSw.1.2.1; have f2 := hSw.1.2.2.1; have f3 := hSw.1.2.2.2.1; have f4 := hSw.1.2.2.2.2.1; have f5 := hSw.1.2.2.2.2.2; clear hSw; go_simp; try rfl
              simp only [List.getElem_toArray, List.getElem_cons_zero, List.getElem_cons_succ, Act.put, List.setIfInBounds_toArray, List.set_cons_zero, List.set_cons_succ]
              refine wpAnyH_take (i := 23) (v := ?_) rfl (by kernel_rfl) (by kernel_rfl) (by kernel_rfl) (fun _ _ _ h => h) (Or.inl ⟨by rfl, ?_⟩) hHeld ?_
              rotate_left
              · intro w hSw; have f0 := hSw.1.1; have f1 := hSw.1.2.1; have f2 := hSw.1.2.2.1; have f3 := hSw.1.2.2.2.1; have f4 := hSw.1.2.2.2.2.1; have f5 := hSw.1.2.2.2.2.2; clear hSw; go_simp; try rfl
              simp only [List.getElem_toArray, List.getElem_cons_zero, List.getElem_cons_succ, Act.put, List.setIfInBounds_toArray, List.set_cons_zero, List.set_cons_succ]
              refine wpAnyH_take (i := 24) (v := ?_) rfl (by kernel_rfl) (by kernel_rfl) (by kernel_rfl) (fun _ _ _ h => h) (Or.inl ⟨by rfl, ?_⟩) hHeld ?_
              rotate_left
              · intro w hSw; have f0 := hSw.1.1; have f1 := hSw.1.2.1; have f2 := hSw.1.2.2.1; have f3 := hSw.1.2.2.2.1; have f4 := hSw.1.2.2.2.2.1; have f5 := hSw.1.2.2.2.2.2; clear hSw; go_simp; try rfl
              simp only [List.getElem_toArray, List.getElem_cons_zero, List.getElem_cons_succ, Act.put, List.setIfInBounds_toArray, List.set_cons_zero, List.set_cons_succ]
              refine wpAnyH_take (i := 25) (v := ?_) rfl (by kernel_rfl) (by kernel_rfl) (by kernel_rfl) (fun _ _ _ h => h) (Or.inl ⟨by rfl, ?_⟩) hHeld ?_
              rotate_left
              · intro w hSw; have f0 := hSw.1.1; have f1 := hSw.1.2.1; have f2 := hSw.1.2.2.1; have f3 := hSw.1.2.2.2.1; have f4 := hSw.1.2.2.2.2.1; have f5 := hSw.1.2.2.2.2.2; clear hSw; go_simp; try rfl
              simp only [List.getElem_toArray, List.getElem_cons_zero, List.getElem_cons_succ, Act.put, List.setIfInBounds_toArray, List.set_cons_zero, List.set_cons_succ]
              refine wpAnyH_take (i := 26) (v := ?_) rfl (by kernel_rfl) (by kernel_rfl) (by kernel_rfl) (fun _ _ _ h => h) (Or.inl ⟨by rfl, ?_⟩) hHeld ?_
              rotate_left
              · intro w hSw; have f0 := hSw.1.1; have f1 := hSw.1.2.1; have f2 := hSw.1.2.2.1; have f3 := hSw.1.2.2.2.1; have f4 := hSw.1.2.2.2.2.1; have f5 := hSw.1.2.2.2.2.2; clear hSw; go_simp; try rfl
              simp only [List.getElem_toArray, List.getElem_cons_zero, List.getElem_cons_succ, Act.put, List.setIfInBounds_toArray, List.set_cons_zero, List.set_cons_succ]
              refine wpAnyH_take (i := 27) (v := ?_) rfl (by kernel_rfl) (by kernel_rfl) (by kernel_rfl) (fun _ _ _ h => h) (Or.inl ⟨by rfl, ?_⟩) hHeld ?_
              rotate_left
              · intro w hSw; have f0 := hSw.1.1; have f1 := hSw.1.2.1; have f2 := hSw.1.2.2.1; have f3 := hSw.1.2.2.2.1; have f4 := hSw.1.2.2.2.2.1; have f5 := hSw.1.2.2.2.2.2; clear hSw; go_simp; try rfl
              simp only [List.getElem_toArray, List.getElem_cons_zero, List.getElem_cons_succ, Act.put, List.setIfInBounds_toArray, List.set_cons_zero, List.set_cons_succ]
              refine wpAnyH_take (i := 28) (v := ?_) rfl (by kernel_rfl) (by kernel_rfl) (by kernel_rfl) (fun _ _ _ h => h) (Or.inl ⟨by rfl, ?_⟩) hHeld ?_
              rotate_left
              · intro w hSw; have f0 := hSw.1.1; have f1 := hSw.1.2.1; have f2 := hSw.1.2.2.1; have f3 := hSw.1.2.2.2.1; have f4 := hSw.1.2.2.2.2.1; have f5 := hSw.1.2.2.2.2.2; clear hSw; go_simp; try rfl
              simp only [List.getElem_toArray, List.getElem_cons_zero, List.getElem_cons_succ, Act.put, List.setIfInBounds_toArray, List.set_cons_zero, List.set_cons_succ]
              refine wpAnyH_take (i := 29) (v := ?_) rfl (by kernel_rfl) (by kernel_rfl) (by kernel_rfl) (fun _ _ _ h => h) (Or.inl ⟨by rfl, ?_⟩) hHeld ?_
              rotate_left
              · intro w hSw; have f0 := hSw.1.1; have f1 := hSw.1.2.1; have f2 := hSw.1.2.2.1; have f3 := hSw.1.2.2.2.1; have f4 := hSw.1.2.2.2.2.1; have f5 := hSw.1.2.2.2.2.2; clear hSw; go_simp; try rfl
              simp only [List.getElem_toArray, List.getElem_cons_zero, List.getElem_cons_succ, Act.put, List.setIfInBounds_toArray, List.set_cons_zero, List.set_cons_succ]
              refine wpAnyH_take (i := 30) (v := ?_) rfl (by kernel_rfl) (by kernel_rfl) (by kernel_rfl) (fun _ _ _ h => h) (Or.inl ⟨by rfl, ?_⟩) hHeld ?_
              rotate_left
              · intro w hSw; have f0 := hSw.1.1; have f1 := hSw.1.2.1; have f2 := hSw.1.2.2.1; have f3 := hSw.1.2.2.2.1; have f4 := hSw.1.2.2.2.2.1; have f5 := hSw.1.2.2.2.2.2; clear hSw; go_simp; try rfl
              simp only [List.getElem_toArray, List.getElem_cons_zero, List.getElem_cons_succ, Act.put, List.setIfInBounds_toArray, List.set_cons_zero, List.set_cons_succ]
              refine wpAnyH_take (i := 31) (v := ?_) rfl (by kernel_rfl) (by kernel_rfl) (by kernel_rfl) (fun _ _ _ h => h) (Or.inl ⟨by rfl, ?_⟩) hHeld ?_
              rotate_left
              · intro w hSw; have f0 := hSw.1.1; have f1 := hSw.1.2.1; have f2 := hSw.1.2.2.1; have f3 := hSw.1.2.2.2.1; have f4 := hSw.1.2.2.2.2.1; have f5 := hSw.1.2.2.2.2.2; clear hSw; go_simp; try rfl
              simp only [List.getElem_toArray, List.getElem_cons_zero, List.getElem_cons_succ, Act.put, List.setIfInBounds_toArray, List.set_cons_zero, List.set_cons_succ]
              refine wpAnyH_take (i := 32) (v := ?_) rfl (by kernel_rfl) (by kernel_rfl) (by kernel_rfl) (fun _ _ _ h => h) (Or.inl ⟨by rfl, ?_⟩) hHeld ?_
              rotate_left
              · intro w hSw; have f0 := hSw.1.1; have f1 := hSw.1.2.1; have f2 := hSw.1.2.2.1; have f3 := hSw.1.2.2.2.1; have f4 := hSw.1.2.2.2.2.1; have f5 := hSw.1.2.2.2.2.2; clear hSw; go_simp; try rfl
              simp only [List.getElem_toArray, List.getElem_cons_zero, List.getElem_cons_succ, Act.put, List.setIfInBounds_toArray, List.set_cons_zero, List.set_cons_succ]
              refine wpAnyH_take (i := 33) (v := ?_) rfl (by kernel_rfl) (by kernel_rfl) (by kernel_rfl) (fun _ _ _ h => h) (Or.inl ⟨by rfl, ?_⟩) hHeld ?_
              rotate_left
              · intro w hSw; have f0 := hSw.1.1; have f1 := hSw.1.2.1; have f2 := hSw.1.2.2.1; have f3 := hSw.1.2.2.2.1; have f4 := hSw.1.2.2.2.2.1; have f5 := hSw.1.2.2.2.2.2; clear hSw; go_simp; try rfl
              simp only [List.getElem_toArray, List.getElem_cons_zero, List.getElem_cons_succ, Act.put, List.setIfInBounds_toArray, List.set_cons_zero, List.set_cons_succ]
              refine wpAnyH_take (i := 34) (v := ?_) rfl (by kernel_rfl) (by kernel_rfl) (by kernel_rfl) (fun _ _ _ h => h) (Or.inl ⟨by rfl, ?_⟩) hHeld ?_
              rotate_left
              · intro w hSw; have f0 := hSw.1.1; have f1 := hSw.1.2.1; have f2 := hSw.1.2.2.1; have f3 := hSw.1.2.2.2.1; have f4 := hSw.1.2.2.2.2.1; have f5 := hSw.1.2.2.2.2.2; clear hSw; go_simp; try rfl
              simp only [List.getElem_toArray, List.getElem_cons_zero, List.getElem_cons_succ, Act.put, List.setIfInBounds_toArray, List.set_cons_zero, List.set_cons_succ]
              refine wpAnyH_ready (rs := [35]) (by kernel_rfl) (by simp) ?_
              refine AllReadyH.cons rfl (fun K hK => ?_) AllReadyH.nil
              rw [if_pos (by rfl)]
              go_simp
              refine (HS.out _ hHeld.2.1 hHeld.2.2).mono ?_
              rintro e w2 ⟨rfl, rfl⟩
              refine hK.out _ _ hHeld (fun hHeld => ?_)
              clear hK K
              refine wpAnyH_take (i := 36) (v := ?_) rfl (by kernel_rfl) (by kernel_rfl) (by kernel_rfl) (fun _ _ _ h => h) (Or.inl ⟨by rfl, ?_⟩) hHeld ?_
              rotate_left
              · intro w hSw; have f0 := hSw.1.1; have f1 := hSw.1.2.1; have f2 := hSw.1.2.2.1; have f3 := hSw.1.2.2.2.1; have f4 := hSw.1.2.2.2.2.1; have f5 := hSw.1.2.2.2.2.2; clear hSw; go_simp; try rfl
              simp only [List.getElem_toArray, List.getElem_cons_zero, List.getElem_cons_succ, Act.put, List.setIfInBounds_toArray, List.set_cons_zero, List.set_cons_succ]
              refine wpAnyH_take (i := 37) (v := ?_) rfl (by kernel_rfl) (by kernel_rfl) (by kernel_rfl) (fun _ _ _ h => h) (Or.inl ⟨by rfl, ?_⟩) hHeld ?_
              rotate_left
              · intro w hSw; have f0 := hSw.1.1; have f1 := hSw.1.2.1; have f2 := hSw.1.2.2.1; have f3 := hSw.1.2.2.2.1; have f4 := hSw.1.2.2.2.2.1; have f5 := hSw.1.2.2.2.2.2; clear hSw; go_simp; try rfl
              simp only [List.getElem_toArray, List.getElem_cons_zero, List.getElem_cons_succ, Act.put, List.setIfInBounds_toArray, List.set_cons_zero, List.set_cons_succ]
              refine wpAnyH_done (by kernel_rfl) ?_ _
              go_wp2_with fail
              go_ret
              exact ⟨ret_bool HDD.out.symm, hb.drew⟩
          · have hge : (ga == gb) = false := beq_eq_false_iff_ne.2 hg
            have HDD := Lib.hid (hxx (fun e => hg (congrArg bt.C.gone e)))
            clear hxx hxe hz HS
            go_wp2_with fail
            refine wp_region_held_drew (S := fun W => (W.cell? ⟨b1, o1 + i * 3, none⟩ = some (str ka) ∧ W.cell? ⟨b2, o2 + i * 3, none⟩ = some (str ka) ∧ W.cell? ⟨b1, o1 + i * 3 + 1, none⟩ = some (.slice X1 m1 c1) ∧ W.cell? ⟨b2, o2 + i * 3 + 1, none⟩ = some (.slice X2 m2 c2) ∧ W.cell? ⟨b1, o1 + i * 3 + 2, none⟩ = some (.bool ga) ∧ W.cell? ⟨b2, o2 + i * 3 + 2, none⟩ = some (.bool gb)) ∧ BS W X1 m1 c1 va ∧ BS W X2 m2 c2 vb) (by kernel_rfl) ⟨⟨p1, p2, q1, q2, r1, r2⟩, ⟨g1.len, g1.cap, g1.max, g1.small, g1.has⟩, ⟨g2.len, g2.cap, g2.max, g2.small, g2.has⟩⟩ (fun hHeld => ?_)
            refine wpAnyH_take (i := 0) (v := ?_) rfl (by kernel_rfl) (by kernel_rfl) (by kernel_rfl) (fun _ _ _ h => h) (Or.inl ⟨by rfl, ?_⟩) hHeld ?_
            rotate_left
            · intro w hSw; have f0 := hSw.1.1; have f1 := hSw.1.2.1; have f2 := hSw.1.2.2.1; have f3 := hSw.1.2.2.2.1; have f4 := hSw.1.2.2.2.2.1; have f5 := hSw.1.2.2.2.2.2; clear hSw; go_simp; try rfl
            simp only [List.getElem_toArray, List.getElem_cons_zero, Act.put, List.setIfInBounds_toArray, List.set_cons_zero, List.set_cons_succ]
            refine wpAnyH_take (i := 1) (v := ?_) rfl (by kernel_rfl) (by kernel_rfl) (by kernel_rfl) (fun _ _ _ h => h) (Or.inl ⟨by rfl, ?_⟩) hHeld ?_
            rotate_left
            · intro w hSw; have f0 := hSw.1.1; have f1 := hSw.1.2.1; have f2 := hSw.1.2.2.1; have f3 := hSw.1.2.2.2.1; have f4 := hSw.1.2.2.2.2.1; have f5 := hSw.1.2.2.2.2.2; clear hSw; go_simp; try rfl
            simp only [List.getElem_toArray, List.getElem_cons_zero, List.getElem_cons_succ, Act.put, List.setIfInBounds_toArray, List.set_cons_zero, List.set_cons_succ]
            refine wpAnyH_take (i := 2) (v := ?_) rfl (by kernel_rfl) (by kernel_rfl) (by kernel_rfl) (fun _ _ _ h => h) (Or.inl ⟨by rfl, ?_⟩) hHeld ?_
            rotate_left
            · intro w hSw; have f0 := hSw.1.1; have f1 := hSw.1.2.1; have f2 := hSw.1.2.2.1; have f3 := hSw.1.2.2.2.1; have f4 := hSw.1.2.2.2.2.1; have f5 := hSw.1.2.2.2.2.2; clear hSw; go_simp; try rfl
            simp only [List.getElem_toArray, List.getElem_cons_zero, List.getElem_cons_succ, Act.put, List.setIfInBounds_toArray, List.set_cons_zero, List.set_cons_succ]
            refine wpAnyH_take (i := 3) (v := ?_) rfl (by kernel_rfl) (by kernel_rfl) (by kernel_rfl) (fun _ _ _ h => h) (Or.inl ⟨by rfl, ?_⟩) hHeld ?_
            rotate_left
            · intro w hSw; have f0 := hSw.1.1; have f1 := hSw.1.2.1; have f2 := hSw.1.2.2.1; have f3 := hSw.1.2.2.2.1; have f4 := hSw.1.2.2.2.2.1; have f5 := hSw.1.2.2.2.2.2; clear hSw; go_simp; try rfl
            simp only [List.getElem_toArray, List.getElem_cons_zero, List.getElem_cons_succ, Act.put, List.setIfInBounds_toArray, List.set_cons_zero, List.set_cons_succ]
            refine wpAnyH_take (i := 4) (v := ?_) rfl (by kernel_rfl) (by kernel_rfl) (by kernel_rfl) (fun _ _ _ h => h) (Or.inl ⟨by rfl, ?_⟩) hHeld ?_
            rotate_left
            · intro w hSw; have f0 := hSw.1.1; have f1 := hSw.1.2.1; have f2 := hSw.1.2.2.1; have f3 := hSw.1.2.2.2.1; have f4 := hSw.1.2.2.2.2.1; have f5 := hSw.1.2.2.2.2.2; clear hSw; go_simp; try rfl
            simp only [List.getElem_toArray, List.getElem_cons_zero, List.getElem_cons_succ, Act.put, List.setIfInBounds_toArray, List.set_cons_zero, List.set_cons_succ]
            refine wpAnyH_take (i := 5) (v := ?_) rfl (by kernel_rfl) (by kernel_rfl) (by kernel_rfl) (fun _ _ _ h => h) (Or.inl ⟨by rfl, ?_⟩) hHeld ?_
            rotate_left
            · intro w hSw; have f0 := hSw.1.1; have f1 := hSw.1.2.1; have f2 := hSw.1.2.2.1; have f3 := hSw.1.2.2.2.1; have f4 := hSw.1.2.2.2.2.1; have f5 := hSw.1.2.2.2.2.2; clear hSw; go_simp; try rfl
            simp only [List.getElem_toArray, List.getElem_cons_zero, List.getElem_cons_succ, Act.put, List.setIfInBounds_toArray, List.set_cons_zero, List.set_cons_succ]
            refine wpAnyH_take (i := 6) (v := ?_) rfl (by kernel_rfl) (by kernel_rfl) (by kernel_rfl) (fun _ _ _ h => h) (Or.inl ⟨by rfl, ?_⟩) hHeld ?_
            rotate_left
            · intro w hSw; have f0 := hSw.1.1; have f1 := hSw.1.2.1; have f2 := hSw.1.2.2.1; have f3 := hSw.1.2.2.2.1; have f4 := hSw.1.2.2.2.2.1; have f5 := hSw.1.2.2.2.2.2; clear hSw; go_simp; try rfl
            simp only [List.getElem_toArray, List.getElem_cons_zero, List.getElem_cons_succ, Act.put, List.setIfInBounds_toArray, List.set_cons_zero, List.set_cons_succ]
            refine wpAnyH_take (i := 7) (v := ?_) rfl (by kernel_rfl) (by kernel_rfl) (by kernel_rfl) (fun _ _ _ h => h) (Or.inl ⟨by rfl, ?_⟩) hHeld ?_
            rotate_left
            · intro w hSw; have f0 := hSw.1.1; have f1 := hSw.1.2.1; have f2 := hSw.1.2.2.1; have f3 := hSw.1.2.2.2.1; have f4 := hSw.1.2.2.2.2.1; have f5 := hSw.1.2.2.2.2.2; clear hSw; go_simp; try rfl
            simp only [List.getElem_toArray, List.getElem_cons_zero, List.getElem_cons_succ, Act.put, List.setIfInBounds_toArray, List.set_cons_zero, List.set_cons_succ]
            refine wpAnyH_take (i := 8) (v := ?_) rfl (by kernel_rfl) (by kernel_rfl) (by kernel_rfl) (fun _ _ _ h => h) (Or.inl ⟨by rfl, ?_⟩) hHeld ?_
            rotate_left
            · intro w hSw; have f0 := hSw.1.1; have f1 := hSw.1.2.1; have f2 := hSw.1.2.2.1; have f3 := hSw.1.2.2.2.1; have f4 := hSw.1.2.2.2.2.1; have f5 := hSw.1.2.2.2.2.2; clear hSw; go_simp; try rfl
            simp only [List.getElem_toArray, List.getElem_cons_zero, List.getElem_cons_succ, Act.put, List.setIfInBounds_toArray, List.set_cons_zero, List.set_cons_succ]
            refine wpAnyH_take (i := 9) (v := ?_) rfl (by kernel_rfl) (by kernel_rfl) (by kernel_rfl) (fun _ _ _ h => h) (Or.inl ⟨by rfl, ?_⟩) hHeld ?_
            rotate_left
            · intro w hSw; have f0 := hSw.1.1; have f1 := hSw.1.2.1; have f2 := hSw.1.2.2.1; have f3 := hSw.1.2.2.2.1; have f4 := hSw.1.2.2.2.2.1; have f5 := hSw.1.2.2.2.2.2; clear hSw; go_simp; try rfl
            simp only [List.getElem_toArray, List.getElem_cons_zero, List.getElem_cons_succ, Act.put, List.setIfInBounds_toArray, List.set_cons_zero, List.set_cons_succ]
            refine wpAnyH_take (i := 10) (v := ?_) rfl (by kernel_rfl) (by kernel_rfl) (by kernel_rfl) (fun _ _ _ h => h) (Or.inl ⟨by rfl, ?_⟩) hHeld ?_
            rotate_left
            · intro w hSw; have f0 := hSw.1.1; have f1 := hSw.1.2.1; have f2 := hSw.1.2.2.1; have f3 := hSw.1.2.2.2.1; have f4 := hSw.1.2.2.2.2.1; have f5 := hSw.1.2.2.2.2.2; clear hSw; go_simp; try rfl
            simp only [List.getElem_toArray, List.getElem_cons_zero, List.getElem_cons_succ, Act.put, List.setIfInBounds_toArray, List.set_cons_zero, List.set_cons_succ]
            refine wpAnyH_take (i := 11) (v := ?_) rfl (by kernel_rfl) (by kernel_rfl) (by kernel_rfl) (fun _ _ _ h => h) (Or.inl ⟨by rfl, ?_⟩) hHeld ?_
            rotate_left
            · intro w hSw; have f0 := hSw.1.1; have f1 := hSw.1.2.1; have f2 := hSw.1.2.2.1; have f3 := hSw.1.2.2.2.1; have f4 := hSw.1.2.2.2.2.1; have f5 := hSw.1.2.2.2.2.2; clear hSw; go_simp; try rfl
            simp only [List.getElem_toArray, List.getElem_cons_zero, List.getElem_cons_succ, Act.put, List.setIfInBounds_toArray, List.set_cons_zero, List.set_cons_succ]
            refine wpAnyH_take (i := 12) (v := ?_) rfl (by kernel_rfl) (by kernel_rfl) (by kernel_rfl) (fun _ _ _ h => h) (Or.inl ⟨by rfl, ?_⟩) hHeld ?_
            rotate_left
            · intro w hSw; have f0 := hSw.1.1; have f1 := hSw.1.2.1; have f2 := hSw.1.2.2.1; have f3 := hSw.1.2.2.2.1; have f4 := hSw.1.2.2.2.2.1; have f5 := hSw.1.2.2.2.2.2; clear hSw; go_simp; try rfl
            simp only [List.getElem_toArray, List.getElem_cons_zero, List.getElem_cons_succ, Act.put, List.setIfInBounds_toArray, List.set_cons_zero, List.set_cons_succ]
            refine wpAnyH_take (i := 13) (v := ?_) rfl (by kernel_rfl) (by kernel_rfl) (by kernel_rfl) (fun _ _ _ h => h) (Or.inl ⟨by rfl, ?_⟩) hHeld ?_
            rotate_left
            · intro w hSw; have f0 := hSw.1.1; have f1 := hSw.1.2.1; have f2 := hSw.1.2.2.1; have f3 := hSw.1.2.2.2.1; have f4 := hSw.1.2.2.2.2.1; have f5 := hSw.1.2.2.2.2.2; clear hSw; go_simp; try rfl
            simp only [List.getElem_toArray, List.getElem_cons_zero, List.getElem_cons_succ, Act.put, List.setIfInBounds_toArray, List.set_cons_zero, List.set_cons_succ]
            refine wpAnyH_take (i := 14) (v := ?_) rfl (by kernel_rfl) (by kernel_rfl) (by kernel_rfl) (fun _ _ _ h => h) (Or.inl ⟨by rfl, ?_⟩) hHeld ?_
            rotate_left
            · intro w hSw; have f0 := hSw.1.1; have f1 := hSw.1.2.1; have f2 := hSw.1.2.2.1; have f3 := hSw.1.2.2.2.1; have f4 := hSw.1.2.2.2.2.1; have f5 := hSw.1.2.2.2.2.2; clear hSw; go_simp; try rfl
            simp only [List.getElem_toArray, List.getElem_cons_zero, List.getElem_cons_succ, Act.put, List.setIfInBounds_toArray, List.set_cons_zero, List.set_cons_succ]
            refine wpAnyH_take (i := 15) (v := ?_) rfl (by kernel_rfl) (by kernel_rfl) (by kernel_rfl) (fun _ _ _ h => h) (Or.inl ⟨by rfl, ?_⟩) hHeld ?_
            rotate_left
            · intro w hSw; have f0 := hSw.1.1; have f1 := hSw.1.2.1; have f2 := hSw.1.2.2.1; have f3 := hSw.1.2.2.2.1; have f4 := hSw.1.2.2.2.2.1; have f5 := hSw.1.2.2.2.2.2; clear hSw; go_simp; try rfl
            simp only [List.getElem_toArray, List.getElem_cons_zero, List.getElem_cons_succ, Act.put, List.setIfInBounds_toArray, List.set_cons_zero, List.set_cons_succ]
            refine wpAnyH_take (i := 16) (v := ?_) rfl (by kernel_rfl) (by kernel_rfl) (by kernel_rfl) (fun _ _ _ h => h) (Or.inl ⟨by rfl, ?_⟩) hHeld ?_
            rotate_left
            · intro w hSw; have f0 := hSw.1.1; have f1 := hSw.1.2.1; have f2 := hSw.1.2.2.1; have f3 := hSw.1.2.2.2.1; have f4 := hSw.1.2.2.2.2.1; have f5 := hSw.1.2.2.2.2.2; clear hSw; go_simp; try rfl
            simp only [List.getElem_toArray, List.getElem_cons_zero, List.getElem_cons_succ, Act.put, List.setIfInBounds_toArray, List.set_cons_zero, List.set_cons_succ]
            refine wpAnyH_take (i := 17) (v := ?_) rfl (by kernel_rfl) (by kernel_rfl) (by kernel_rfl) (fun _ _ _ h => h) (Or.inl ⟨by rfl, ?_⟩) hHeld ?_
            rotate_left
            · intro w hSw; have f0 := hSw.1.1; have f1 := hSw.1.2.1; have f2 := hSw.1.2.2.1; have f3 := hSw.1.2.2.2.1; have f4 := hSw.1.2.2.2.2.1; have f5 := hSw.1.2.2.2.2.2; clear hSw; go_simp; try rfl
            simp only [List.getElem_toArray, List.getElem_cons_zero, List.getElem_cons_succ, Act.put, List.setIfInBounds_toArray, List.set_cons_zero, List.set_cons_succ]
            refine wpAnyH_take (i := 18) (v := ?_) rfl (by kernel_rfl) (by kernel_rfl) (by kernel_rfl) (fun _ _ _ h => h) (Or.inl ⟨by rfl, ?_⟩) hHeld ?_
            rotate_left
            · intro w hSw; have f0 := hSw.1.1; have f1 := hSw.1.2.1; have f2 := hSw.1.2.2.1; have f3 := hSw.1.2.2.2.1; have f4 := hSw.1.2.2.2.2.1; have f5 := hSw.1.2.2.2.2.2; clear hSw; go_simp; try rfl
            simp only [List.getElem_toArray, List.getElem_cons_zero, List.getElem_cons_succ, Act.put, List.setIfInBounds_toArray, List.set_cons_zero, List.set_cons_succ]
            refine wpAnyH_take (i := 19) (v := ?_) rfl (by kernel_rfl) (by kernel_rfl) (by kernel_rfl) (fun _ _ _ h => h) (Or.inl ⟨by rfl, ?_⟩) hHeld ?_
            rotate_left
            · intro w hSw; have f0 := hSw.1.1; have f1 := hSw.1.2.1; have f2 := hSw.1.2.2.1; have f3 := hSw.1.2.2.2.1; have f4 := hSw.1.2.2.2.2.1; have f5 := hSw.1.2.2.2.2.2; clear hSw; go_simp; try rfl
            simp only [List.getElem_toArray, List.getElem_cons_zero, List.getElem_cons_succ, Act.put, List.setIfInBounds_toArray, List.set_cons_zero, List.set_cons_succ]
            refine wpAnyH_take (i := 20) (v := ?_) rfl (by kernel_rfl) (by kernel_rfl) (by kernel_rfl) (fun _ _ _ h => h) (Or.inl ⟨by rfl, ?_⟩) hHeld ?_
            rotate_left
            · intro w hSw; have f0 := hSw.1.1; have f1 := hSw.1.2.1; have f2 := hSw.1.2.2.1; have f3 := hSw.1.2.2.2.1; have f4 := hSw.1.2.2.2.2.1; have f5 := hSw.1.2.2.2.2.2; clear hSw; go_simp; try rfl
            simp only [List.getElem_toArray, List.getElem_cons_zero, List.getElem_cons_succ, Act.put, List.setIfInBounds_toArray, List.set_cons_zero, List.set_cons_succ]
            refine wpAnyH_take (i := 21) (v := ?_) rfl (by kernel_rfl) (by kernel_rfl) (by kernel_rfl) (fun _ _ _ h => h) (Or.inl ⟨by rfl, ?_⟩) hHeld ?_
            rotate_left
            · intro w hSw; have f0 := hSw.1.1; have f1 := hSw.1.2.1; have f2 := hSw.1.2.2.1; have f3 := hSw.1.2.2.2.1; have f4 := hSw.1.2.2.2.2.1; have f5 := hSw.1.2.2.2.2.2; clear hSw; go_simp; try rfl
            simp only [List.getElem_toArray, List.getElem_cons_zero, List.getElem_cons_succ, Act.put, List.setIfInBounds_toArray, List.set_cons_zero, List.set_cons_succ]
            refine wpAnyH_take (i := 22) (v := ?_) rfl (by kernel_rfl) (by kernel_rfl) (by kernel_rfl) (fun _ _ _ h => h) (Or.inl ⟨by rfl, ?_⟩) hHeld ?_
            rotate_left
            · intro w hSw; have f0 := hSw.1.1; have f1 := hSw.1.2.1; have f2 := hSw.1.2.2.1; have f3 := hSw.1.2.2.2.1; have f4 := hSw.1.2.2.2.2.1; have f5 := hSw.1.2.2.2.2.2; clear hSw; go_simp; try rfl
            simp only [List.getElem_toArray, List.getElem_cons_zero, List.getElem_cons_succ, Act.put, List.setIfInBounds_toArray, List.set_cons_zero, List.set_cons_succ]
            refine wpAnyH_take (i := 23) (v := ?_) rfl (by kernel_rfl) (by kernel_rfl) (by kernel_rfl) (fun _ _ _ h => h) (Or.inl ⟨by rfl, ?_⟩) hHeld ?_
            rotate_left
            · intro w hSw; have f0 := hSw.1.1; have f1 := hSw.1.2.1; have f2 := hSw.1.2.2.1; have f3 := hSw.1.2.2.2.1; have f4 := hSw.1.2.2.2.2.1; have f5 := hSw.1.2.2.2.2.2; clear hSw; go_simp; try rfl
            simp only [List.getElem_toArray, List.getElem_cons_zero, List.getElem_cons_succ, Act.put, List.setIfInBounds_toArray, List.set_cons_zero, List.set_cons_succ]
            refine wpAnyH_take (i := 24) (v := ?_) rfl (by kernel_rfl) (by kernel_rfl) (by kernel_rfl) (fun _ _ _ h => h) (Or.inl ⟨by rfl, ?_⟩) hHeld ?_
            rotate_left
            · intro w hSw; have f0 := hSw.1.1; have f1 := hSw.1.2.1; have f2 := hSw.1.2.2.1; have f3 := hSw.1.2.2.2.1; have f4 := hSw.1.2.2.2.2.1; have f5 := hSw.1.2.2.2.2.2; clear hSw; go_simp; try rfl
            simp only [List.getElem_toArray, List.getElem_cons_zero, List.getElem_cons_succ, Act.put, List.setIfInBounds_toArray, List.set_cons_zero, List.set_cons_succ]
            refine wpAnyH_take (i := 25) (v := undef) rfl (by kernel_rfl) (by kernel_rfl) (by kernel_rfl) (fun _ _ _ h => h) (Or.inr ⟨by rfl, rfl⟩) hHeld ?_
            simp only [List.getElem_toArray, List.getElem_cons_zero, List.getElem_cons_succ, Act.put, List.setIfInBounds_toArray, List.set_cons_zero, List.set_cons_succ]
            refine wpAnyH_take (i := 26) (v := undef) rfl (by kernel_rfl) (by kernel_rfl) (by kernel_rfl) (fun _ _ _ h => h) (Or.inr ⟨by rfl, rfl⟩) hHeld ?_
            simp only [List.getElem_toArray, List.getElem_cons_zero, List.getElem_cons_succ, Act.put, List.setIfInBounds_toArray, List.set_cons_zero, List.set_cons_succ]
            refine wpAnyH_take (i := 27) (v := undef) rfl (by kernel_rfl) (by kernel_rfl) (by kernel_rfl) (fun _ _ _ h => h) (Or.inr ⟨by rfl, rfl⟩) hHeld ?_
            simp only [List.getElem_toArray, List.getElem_cons_zero, List.getElem_cons_succ, Act.put, List.setIfInBounds_toArray, List.set_cons_zero, List.set_cons_succ]
            refine wpAnyH_take (i := 28) (v := undef) rfl (by kernel_rfl) (by kernel_rfl) (by kernel_rfl) (fun _ _ _ h => h) (Or.inr ⟨by rfl, rfl⟩) hHeld ?_
            simp only [List.getElem_toArray, List.getElem_cons_zero, List.getElem_cons_succ, Act.put, List.setIfInBounds_toArray, List.set_cons_zero, List.set_cons_succ]
            refine wpAnyH_take (i := 29) (v := undef) rfl (by kernel_rfl) (by kernel_rfl) (by kernel_rfl) (fun _ _ _ h => h) (Or.inr ⟨by rfl, rfl⟩) hHeld ?_
            simp only [List.getElem_toArray, List.getElem_cons_zero, List.getElem_cons_succ, Act.put, List.setIfInBounds_toArray, List.set_cons_zero, List.set_cons_succ]
            refine wpAnyH_take (i := 30) (v := undef) rfl (by kernel_rfl) (by kernel_rfl) (by kernel_rfl) (fun _ _ _ h => h) (Or.inr ⟨by rfl, rfl⟩) hHeld ?_
            simp only [List.getElem_toArray, List.getElem_cons_zero, List.getElem_cons_succ, Act.put, List.setIfInBounds_toArray, List.set_cons_zero, List.set_cons_succ]
            refine wpAnyH_take (i := 31) (v := undef) rfl (by kernel_rfl) (by kernel_rfl) (by kernel_rfl) (fun _ _ _ h => h) (Or.inr ⟨by rfl, rfl⟩) hHeld ?_
            simp only [List.getElem_toArray, List.getElem_cons_zero, List.getElem_cons_succ, Act.put, List.setIfInBounds_toArray, List.set_cons_zero, List.set_cons_succ]
            refine wpAnyH_take (i := 32) (v := undef) rfl (by kernel_rfl) (by kernel_rfl) (by kernel_rfl) (fun _ _ _ h => h) (Or.inr ⟨by rfl, rfl⟩) hHeld ?_
            simp only [List.getElem_toArray, List.getElem_cons_zero, List.getElem_cons_succ, Act.put, List.setIfInBounds_toArray, List.set_cons_zero, List.set_cons_succ]
            refine wpAnyH_take (i := 33) (v := undef) rfl (by kernel_rfl) (by kernel_rfl) (by kernel_rfl) (fun _ _ _ h => h) (Or.inr ⟨by rfl, rfl⟩) hHeld ?_
            simp only [List.getElem_toArray, List.getElem_cons_zero, List.getElem_cons_succ, Act.put, List.setIfInBounds_toArray, List.set_cons_zero, List.set_cons_succ]
            refine wpAnyH_take (i := 34) (v := undef) rfl (by kernel_rfl) (by kernel_rfl) (by kernel_rfl) (fun _ _ _ h => h) (Or.inr ⟨by rfl, rfl⟩) hHeld ?_
            simp only [List.getElem_toArray, List.getElem_cons_zero, List.getElem_cons_succ, Act.put, List.setIfInBounds_toArray, List.set_cons_zero, List.set_cons_succ]
            refine wpAnyH_take (i := 35) (v := undef) rfl (by kernel_rfl) (by kernel_rfl) (by kernel_rfl) (fun _ _ _ h => h) (Or.inr ⟨by rfl, rfl⟩) hHeld ?_
            simp only [List.getElem_toArray, List.getElem_cons_zero, List.getElem_cons_succ, Act.put, List.setIfInBounds_toArray, List.set_cons_zero, List.set_cons_succ]
            refine wpAnyH_take (i := 36) (v := undef) rfl (by kernel_rfl) (by kernel_rfl) (by kernel_rfl) (fun _ _ _ h => h) (Or.inr ⟨by rfl, rfl⟩) hHeld ?_
            simp only [List.getElem_toArray, List.getElem_cons_zero, List.getElem_cons_succ, Act.put, List.setIfInBounds_toArray, List.set_cons_zero, List.set_cons_succ]
            refine wpAnyH_take (i := 37) (v := ?_) rfl (by kernel_rfl) (by kernel_rfl) (by kernel_rfl) (fun _ _ _ h => h) (Or.inl ⟨by rfl, ?_⟩) hHeld ?_
            rotate_left
            · intro w hSw; have f0 := hSw.1.1; have f1 := hSw.1.2.1; have f2 := hSw.1.2.2.1; have f3 := hSw.1.2.2.2.1; have f4 := hSw.1.2.2.2.2.1; have f5 := hSw.1.2.2.2.2.2; clear hSw; go_simp; try rfl
            simp only [List.getElem_toArray, List.getElem_cons_zero, List.getElem_cons_succ, Act.put, List.setIfInBounds_toArray, List.set_cons_zero, List.set_cons_succ]
            refine wpAnyH_done (by kernel_rfl) ?_ _
            go_wp2_with fail
            go_ret
            exact ⟨ret_bool HDD.out.symm, hb.drew⟩
        · have HDD := Lib.hid (hxx (fun e => hk (congrArg bt.C.key e)))
          have hke : (ka == kb) = false := beq_eq_false_iff_ne.2 hk
          clear hxx hxe hz HS
          go_wp2_with fail
          refine wp_region_held_drew (S := fun W => (W.cell? ⟨b1, o1 + i * 3, none⟩ = some (str ka) ∧ W.cell? ⟨b2, o2 + i * 3, none⟩ = some (str kb) ∧ W.cell? ⟨b1, o1 + i * 3 + 1, none⟩ = some (.slice X1 m1 c1) ∧ W.cell? ⟨b2, o2 + i * 3 + 1, none⟩ = some (.slice X2 m2 c2) ∧ W.cell? ⟨b1, o1 + i * 3 + 2, none⟩ = some (.bool ga) ∧ W.cell? ⟨b2, o2 + i * 3 + 2, none⟩ = some (.bool gb)) ∧ BS W X1 m1 c1 va ∧ BS W X2 m2 c2 vb) (by kernel_rfl) ⟨⟨p1, p2, q1, q2, r1, r2⟩, ⟨g1.len, g1.cap, g1.max, g1.small, g1.has⟩, ⟨g2.len, g2.cap, g2.max, g2.small, g2.has⟩⟩ (fun hHeld => ?_)
          refine wpAnyH_take (i := 0) (v := ?_) rfl (by kernel_rfl) (by kernel_rfl) (by kernel_rfl) (fun _ _ _ h => h) (Or.inl ⟨by rfl, ?_⟩) hHeld ?_
          rotate_left
          · intro w hSw; have f0 := hSw.1.1; have f1 := hSw.1.2.1; have f2 := hSw.1.2.2.1; have f3 := hSw.1.2.2.2.1; have f4 := hSw.1.2.2.2.2.1; have f5 := hSw.1.2.2.2.2.2; clear hSw; go_simp; try rfl
          simp only [List.getElem_toArray, List.getElem_cons_zero, Act.put, List.setIfInBounds_toArray, List.set_cons_zero, List.set_cons_succ]
          refine wpAnyH_take (i := 1) (v := ?_) rfl (by kernel_rfl) (by kernel_rfl) (by kernel_rfl) (fun _ _ _ h => h) (Or.inl ⟨by rfl, ?_⟩) hHeld ?_
          rotate_left
          · intro w hSw; have f0 := hSw.1.1; have f1 := hSw.1.2.1; have f2 := hSw.1.2.2.1; have f3 := hSw.1.2.2.2.1; have f4 := hSw.1.2.2.2.2.1; have f5 := hSw.1.2.2.2.2.2; clear hSw; go_simp; try rfl
          simp only [List.getElem_toArray, List.getElem_cons_zero, List.getElem_cons_succ, Act.put, List.setIfInBounds_toArray, List.set_cons_zero, List.set_cons_succ]
          refine wpAnyH_take (i := 2) (v := ?_) rfl (by kernel_rfl) (by kernel_rfl) (by kernel_rfl) (fun _ _ _ h => h) (Or.inl ⟨by rfl, ?_⟩) hHeld ?_
          rotate_left
          · intro w hSw; have f0 := hSw.1.1; have f1 := hSw.1.2.1; have f2 := hSw.1.2.2.1; have f3 := hSw.1.2.2.2.1; have f4 := hSw.1.2.2.2.2.1; have f5 := hSw.1.2.2.2.2.2; clear hSw; go_simp; try rfl
          simp only [List.getElem_toArray, List.getElem_cons_zero, List.getElem_cons_succ, Act.put, List.setIfInBounds_toArray, List.set_cons_zero, List.set_cons_succ]
          refine wpAnyH_take (i := 3) (v := ?_) rfl (by kernel_rfl) (by kernel_rfl) (by kernel_rfl) (fun _ _ _ h => h) (Or.inl ⟨by rfl, ?_⟩) hHeld ?_
          rotate_left
          · intro w hSw; have f0 := hSw.1.1; have f1 := hSw.1.2.1; have f2 := hSw.1.2.2.1; have f3 := hSw.1.2.2.2.1; have f4 := hSw.1.2.2.2.2.1; have f5 := hSw.1.2.2.2.2.2; clear hSw; go_simp; try rfl
          simp only [List.getElem_toArray, List.getElem_cons_zero, List.getElem_cons_succ, Act.put, List.setIfInBounds_toArray, List.set_cons_zero, List.set_cons_succ]
          refine wpAnyH_take (i := 4) (v := ?_) rfl (by kernel_rfl) (by kernel_rfl) (by kernel_rfl) (fun _ _ _ h => h) (Or.inl ⟨by rfl, ?_⟩) hHeld ?_
          rotate_left
          · intro w hSw; have f0 := hSw.1.1; have f1 := hSw.1.2.1; have f2 := hSw.1.2.2.1; have f3 := hSw.1.2.2.2.1; have f4 := hSw.1.2.2.2.2.1; have f5 := hSw.1.2.2.2.2.2; clear hSw; go_simp; try rfl
          simp only [List.getElem_toArray, List.getElem_cons_zero, List.getElem_cons_succ, Act.put, List.setIfInBounds_toArray, List.set_cons_zero, List.set_cons_succ]
          refine wpAnyH_take (i := 5) (v := ?_) rfl (by kernel_rfl) (by kernel_rfl) (by kernel_rfl) (fun _ _ _ h => h) (Or.inl ⟨by rfl, ?_⟩) hHeld ?_
          rotate_left
          · intro w hSw; have f0 := hSw.1.1; have f1 := hSw.1.2.1; have f2 := hSw.1.2.2.1; have f3 := hSw.1.2.2.2.1; have f4 := hSw.1.2.2.2.2.1; have f5 := hSw.1.2.2.2.2.2; clear hSw; go_simp; try rfl
          simp only [List.getElem_toArray, List.getElem_cons_zero, List.getElem_cons_succ, Act.put, List.setIfInBounds_toArray, List.set_cons_zero, List.set_cons_succ]
          refine wpAnyH_take (i := 6) (v := ?_) rfl (by kernel_rfl) (by kernel_rfl) (by kernel_rfl) (fun _ _ _ h => h) (Or.inl ⟨by rfl, ?_⟩) hHeld ?_
          rotate_left
          · intro w hSw; have f0 := hSw.1.1; have f1 := hSw.1.2.1; have f2 := hSw.1.2.2.1; have f3 := hSw.1.2.2.2.1; have f4 := hSw.1.2.2.2.2.1; have f5 := hSw.1.2.2.2.2.2; clear hSw; go_simp; try rfl
          simp only [List.getElem_toArray, List.getElem_cons_zero, List.getElem_cons_succ, Act.put, List.setIfInBounds_toArray, List.set_cons_zero, List.set_cons_succ]
          refine wpAnyH_take (i := 7) (v := ?_) rfl (by kernel_rfl) (by kernel_rfl) (by kernel_rfl) (fun _ _ _ h => h) (Or.inl ⟨by rfl, ?_⟩) hHeld ?_
          rotate_left
          · intro w hSw; have f0 := hSw.1.1; have f1 := hSw.1.2.1; have f2 := hSw.1.2.2.1; have f3 := hSw.1.2.2.2.1; have f4 := hSw.1.2.2.2.2.1; have f5 := hSw.1.2.2.2.2.2; clear hSw; go_simp; try rfl
          simp only [List.getElem_toArray, List.getElem_cons_zero, List.getElem_cons_succ, Act.put, List.setIfInBounds_toArray, List.set_cons_zero, List.set_cons_succ]
          refine wpAnyH_take (i := 8) (v := ?_) rfl (by kernel_rfl) (by kernel_rfl) (by kernel_rfl) (fun _ _ _ h => h) (Or.inl ⟨by rfl, ?_⟩) hHeld ?_
          rotate_left
          · intro w hSw; have f0 := hSw.1.1; have f1 := hSw.1.2.1; have f2 := hSw.1.2.2.1; have f3 := hSw.1.2.2.2.1; have f4 := hSw.1.2.2.2.2.1; have f5 := hSw.1.2.2.2.2.2; clear hSw; go_simp; try rfl
          simp only [List.getElem_toArray, List.getElem_cons_zero, List.getElem_cons_succ, Act.put, List.setIfInBounds_toArray, List.set_cons_zero, List.set_cons_succ]
          refine wpAnyH_take (i := 9) (v := ?_) rfl (by kernel_rfl) (by kernel_rfl) (by kernel_rfl) (fun _ _ _ h => h) (Or.inl ⟨by rfl, ?_⟩) hHeld ?_
          rotate_left
          · intro w hSw; have f0 := hSw.1.1; have f1 := hSw.1.2.1; have f2 := hSw.1.2.2.1; have f3 := hSw.1.2.2.2.1; have f4 := hSw.1.2.2.2.2.1; have f5 := hSw.1.2.2.2.2.2; clear hSw; go_simp; try rfl
          simp only [List.getElem_toArray, List.getElem_cons_zero, List.getElem_cons_succ, Act.put, List.setIfInBounds_toArray, List.set_cons_zero, List.set_cons_succ]
          refine wpAnyH_take (i := 10) (v := ?_) rfl (by kernel_rfl) (by kernel_rfl) (by kernel_rfl) (fun _ _ _ h => h) (Or.inl ⟨by rfl, ?_⟩) hHeld ?_
          rotate_left
          · intro w hSw; have f0 := hSw.1.1; have f1 := hSw.1.2.1; have f2 := hSw.1.2.2.1; have f3 := hSw.1.2.2.2.1; have f4 := hSw.1.2.2.2.2.1; have f5 := hSw.1.2.2.2.2.2; clear hSw; go_simp; try rfl
          simp only [List.getElem_toArray, List.getElem_cons_zero, List.getElem_cons_succ, Act.put, List.setIfInBounds_toArray, List.set_cons_zero, List.set_cons_succ]
          refine wpAnyH_take (i := 11) (v := ?_) rfl (by kernel_rfl) (by kernel_rfl) (by kernel_rfl) (fun _ _ _ h => h) (Or.inl ⟨by rfl, ?_⟩) hHeld ?_
          rotate_left
          · intro w hSw; have f0 := hSw.1.1; have f1 := hSw.1.2.1; have f2 := hSw.1.2.2.1; have f3 := hSw.1.2.2.2.1; have f4 := hSw.1.2.2.2.2.1; have f5 := hSw.1.2.2.2.2.2; clear hSw; go_simp; try rfl
          simp only [List.getElem_toArray, List.getElem_cons_zero, List.getElem_cons_succ, Act.put, List.setIfInBounds_toArray, List.set_cons_zero, List.set_cons_succ]
          refine wpAnyH_take (i := 12) (v := undef) rfl (by kernel_rfl) (by kernel_rfl) (by kernel_rfl) (fun _ _ _ h => h) (Or.inr ⟨by rfl, rfl⟩) hHeld ?_
          simp only [List.getElem_toArray, List.getElem_cons_zero, List.getElem_cons_succ, Act.put, List.setIfInBounds_toArray, List.set_cons_zero, List.set_cons_succ]
          refine wpAnyH_take (i := 13) (v := undef) rfl (by kernel_rfl) (by kernel_rfl) (by kernel_rfl) (fun _ _ _ h => h) (Or.inr ⟨by rfl, rfl⟩) hHeld ?_
          simp only [List.getElem_toArray, List.getElem_cons_zero, List.getElem_cons_succ, Act.put, List.setIfInBounds_toArray, List.set_cons_zero, List.set_cons_succ]
          refine wpAnyH_take (i := 14) (v := undef) rfl (by kernel_rfl) (by kernel_rfl) (by kernel_rfl) (fun _ _ _ h => h) (Or.inr ⟨by rfl, rfl⟩) hHeld ?_
          simp only [List.getElem_toArray, List.getElem_cons_zero, List.getElem_cons_succ, Act.put, List.setIfInBounds_toArray, List.set_cons_zero, List.set_cons_succ]
          refine wpAnyH_take (i := 15) (v := undef) rfl (by kernel_rfl) (by kernel_rfl) (by kernel_rfl) (fun _ _ _ h => h) (Or.inr ⟨by rfl, rfl⟩) hHeld ?_
          simp only [List.getElem_toArray, List.getElem_cons_zero, List.getElem_cons_succ, Act.put, List.setIfInBounds_toArray, List.set_cons_zero, List.set_cons_succ]
          refine wpAnyH_take (i := 16) (v := undef) rfl (by kernel_rfl) (by kernel_rfl) (by kernel_rfl) (fun _ _ _ h => h) (Or.inr ⟨by rfl, rfl⟩) hHeld ?_
          simp only [List.getElem_toArray, List.getElem_cons_zero, List.getElem_cons_succ, Act.put, List.setIfInBounds_toArray, List.set_cons_zero, List.set_cons_succ]
          refine wpAnyH_take (i := 17) (v := undef) rfl (by kernel_rfl) (by kernel_rfl) (by kernel_rfl) (fun _ _ _ h => h) (Or.inr ⟨by rfl, rfl⟩) hHeld ?_
          simp only [List.getElem_toArray, List.getElem_cons_zero, List.getElem_cons_succ, Act.put, List.setIfInBounds_toArray, List.set_cons_zero, List.set_cons_succ]
          refine wpAnyH_take (i := 18) (v := undef) rfl (by kernel_rfl) (by kernel_rfl) (by kernel_rfl) (fun _ _ _ h => h) (Or.inr ⟨by rfl, rfl⟩) hHeld ?_
          simp only [List.getElem_toArray, List.getElem_cons_zero, List.getElem_cons_succ, Act.put, List.setIfInBounds_toArray, List.set_cons_zero, List.set_cons_succ]
          refine wpAnyH_take (i := 19) (v := undef) rfl (by kernel_rfl) (by kernel_rfl) (by kernel_rfl) (fun _ _ _ h => h) (Or.inr ⟨by rfl, rfl⟩) hHeld ?_
          simp only [List.getElem_toArray, List.getElem_cons_zero, List.getElem_cons_succ, Act.put, List.setIfInBounds_toArray, List.set_cons_zero, List.set_cons_succ]
          refine wpAnyH_take (i := 20) (v := undef) rfl (by kernel_rfl) (by kernel_rfl) (by kernel_rfl) (fun _ _ _ h => h) (Or.inr ⟨by rfl, rfl⟩) hHeld ?_
          simp only [List.getElem_toArray, List.getElem_cons_zero, List.getElem_cons_succ, Act.put, List.setIfInBounds_toArray, List.set_cons_zero, List.set_cons_succ]
          refine wpAnyH_take (i := 21) (v := undef) rfl (by kernel_rfl) (by kernel_rfl) (by kernel_rfl) (fun _ _ _ h => h) (Or.inr ⟨by rfl, rfl⟩) hHeld ?_
          simp only [List.getElem_toArray, List.getElem_cons_zero, List.getElem_cons_succ, Act.put, List.setIfInBounds_toArray, List.set_cons_zero, List.set_cons_succ]
          refine wpAnyH_take (i := 22) (v := undef) rfl (by kernel_rfl) (by kernel_rfl) (by kernel_rfl) (fun _ _ _ h => h) (Or.inr ⟨by rfl, rfl⟩) hHeld ?_
          simp only [List.getElem_toArray, List.getElem_cons_zero, List.getElem_cons_succ, Act.put, List.setIfInBounds_toArray, List.set_cons_zero, List.set_cons_succ]
          refine wpAnyH_take (i := 23) (v := ?_) rfl (by kernel_rfl) (by kernel_rfl) (by kernel_rfl) (fun _ _ _ h => h) (Or.inl ⟨by rfl, ?_⟩) hHeld ?_
          rotate_left
          · intro w hSw; have f0 := hSw.1.1; have f1 := hSw.1.2.1; have f2 := hSw.1.2.2.1; have f3 := hSw.1.2.2.2.1; have f4 := hSw.1.2.2.2.2.1; have f5 := hSw.1.2.2.2.2.2; clear hSw; go_simp; try rfl
          simp only [List.getElem_toArray, List.getElem_cons_zero, List.getElem_cons_succ, Act.put, List.setIfInBounds_toArray, List.set_cons_zero, List.set_cons_succ]
          refine wpAnyH_take (i := 24) (v := ?_) rfl (by kernel_rfl) (by kernel_rfl) (by kernel_rfl) (fun _ _ _ h => h) (Or.inl ⟨by rfl, ?_⟩) hHeld ?_
          rotate_left
          · intro w hSw; have f0 := hSw.1.1; have f1 := hSw.1.2.1; have f2 := hSw.1.2.2.1; have f3 := hSw.1.2.2.2.1; have f4 := hSw.1.2.2.2.2.1; have f5 := hSw.1.2.2.2.2.2; clear hSw; go_simp; try rfl
          simp only [List.getElem_toArray, List.getElem_cons_zero, List.getElem_cons_succ, Act.put, List.setIfInBounds_toArray, List.set_cons_zero, List.set_cons_succ]
          refine wpAnyH_take (i := 25) (v := undef) rfl (by kernel_rfl) (by kernel_rfl) (by kernel_rfl) (fun _ _ _ h => h) (Or.inr ⟨by rfl, rfl⟩) hHeld ?_
          simp only [List.getElem_toArray, List.getElem_cons_zero, List.getElem_cons_succ, Act.put, List.setIfInBounds_toArray, List.set_cons_zero, List.set_cons_succ]
          refine wpAnyH_take (i := 26) (v := undef) rfl (by kernel_rfl) (by kernel_rfl) (by kernel_rfl) (fun _ _ _ h => h) (Or.inr ⟨by rfl, rfl⟩) hHeld ?_
          simp only [List.getElem_toArray, List.getElem_cons_zero, List.getElem_cons_succ, Act.put, List.setIfInBounds_toArray, List.set_cons_zero, List.set_cons_succ]
          refine wpAnyH_take (i := 27) (v := undef) rfl (by kernel_rfl) (by kernel_rfl) (by kernel_rfl) (fun _ _ _ h => h) (Or.inr ⟨by rfl, rfl⟩) hHeld ?_
          simp only [List.getElem_toArray, List.getElem_cons_zero, List.getElem_cons_succ, Act.put, List.setIfInBounds_toArray, List.set_cons_zero, List.set_cons_succ]
          refine wpAnyH_take (i := 28) (v := undef) rfl (by kernel_rfl) (by kernel_rfl) (by kernel_rfl) (fun _ _ _ h => h) (Or.inr ⟨by rfl, rfl⟩) hHeld ?_
          simp only [List.getElem_toArray, List.getElem_cons_zero, List.getElem_cons_succ, Act.put, List.setIfInBounds_toArray, List.set_cons_zero, List.set_cons_succ]
          refine wpAnyH_take (i := 29) (v := undef) rfl (by kernel_rfl) (by kernel_rfl) (by kernel_rfl) (fun _ _ _ h => h) (Or.inr ⟨by rfl, rfl⟩) hHeld ?_
          simp only [List.getElem_toArray, List.getElem_cons_zero, List.getElem_cons_succ, Act.put, List.setIfInBounds_toArray, List.set_cons_zero, List.set_cons_succ]
          refine wpAnyH_take (i := 30) (v := undef) rfl (by kernel_rfl) (by kernel_rfl) (by kernel_rfl) (fun _ _ _ h => h) (Or.inr ⟨by rfl, rfl⟩) hHeld ?_
          simp only [List.getElem_toArray, List.getElem_cons_zero, List.getElem_cons_succ, Act.put, List.setIfInBounds_toArray, List.set_cons_zero, List.set_cons_succ]
          refine wpAnyH_take (i := 31) (v := undef) rfl (by kernel_rfl) (by kernel_rfl) (by kernel_rfl) (fun _ _ _ h => h) (Or.inr ⟨by rfl, rfl⟩) hHeld ?_
          simp only [List.getElem_toArray, List.getElem_cons_zero, List.getElem_cons_succ, Act.put, List.setIfInBounds_toArray, List.set_cons_zero, List.set_cons_succ]
          refine wpAnyH_take (i := 32) (v := undef) rfl (by kernel_rfl) (by kernel_rfl) (by kernel_rfl) (fun _ _ _ h => h) (Or.inr ⟨by rfl, rfl⟩) hHeld ?_
          simp only [List.getElem_toArray, List.getElem_cons_zero, List.getElem_cons_succ, Act.put, List.setIfInBounds_toArray, List.set_cons_zero, List.set_cons_succ]
          refine wpAnyH_take (i := 33) (v := undef) rfl (by kernel_rfl) (by kernel_rfl) (by kernel_rfl) (fun _ _ _ h => h) (Or.inr ⟨by rfl, rfl⟩) hHeld ?_
          simp only [List.getElem_toArray, List.getElem_cons_zero, List.getElem_cons_succ, Act.put, List.setIfInBounds_toArray, List.set_cons_zero, List.set_cons_succ]
          refine wpAnyH_take (i := 34) (v := undef) rfl (by kernel_rfl) (by kernel_rfl) (by kernel_rfl) (fun _ _ _ h => h) (Or.inr ⟨by rfl, rfl⟩) hHeld ?_
          simp only [List.getElem_toArray, List.getElem_cons_zero, List.getElem_cons_succ, Act.put, List.setIfInBounds_toArray, List.set_cons_zero, List.set_cons_succ]
          refine wpAnyH_take (i := 35) (v := undef) rfl (by kernel_rfl) (by kernel_rfl) (by kernel_rfl) (fun _ _ _ h => h) (Or.inr ⟨by rfl, rfl⟩) hHeld ?_
          simp only [List.getElem_toArray, List.getElem_cons_zero, List.getElem_cons_succ, Act.put, List.setIfInBounds_toArray, List.set_cons_zero, List.set_cons_succ]
          refine wpAnyH_take (i := 36) (v := undef) rfl (by kernel_rfl) (by kernel_rfl) (by kernel_rfl) (fun _ _ _ h => h) (Or.inr ⟨by rfl, rfl⟩) hHeld ?_
          simp only [List.getElem_toArray, List.getElem_cons_zero, List.getElem_cons_succ, Act.put, List.setIfInBounds_toArray, List.set_cons_zero, List.set_cons_succ]
          refine wpAnyH_take (i := 37) (v := ?_) rfl (by kernel_rfl) (by kernel_rfl) (by kernel_rfl) (fun _ _ _ h => h) (Or.inl ⟨by rfl, ?_⟩) hHeld ?_
          rotate_left
          · intro w hSw; have f0 := hSw.1.1; have f1 := hSw.1.2.1; have f2 := hSw.1.2.2.1; have f3 := hSw.1.2.2.2.1; have f4 := hSw.1.2.2.2.2.1; have f5 := hSw.1.2.2.2.2.2; clear hSw; go_simp; try rfl
          simp only [List.getElem_toArray, List.getElem_cons_zero, List.getElem_cons_succ, Act.put, List.setIfInBounds_toArray, List.set_cons_zero, List.set_cons_succ]
          refine wpAnyH_done (by kernel_rfl) ?_ _
          go_wp2_with fail
          go_ret
          exact ⟨ret_bool HDD.out.symm, hb.drew⟩
      · have hi' : ¬ (i : Int) < (n1 : Int) := by omega
        have hd : decide (l1 = l2) = true := by
          rw [decide_eq_true_eq]
          refine List.ext_getElem? fun k => ?_
          by_cases hk : k < n1
          · exact hz.out k (by omega)
          · rw [List.getElem?_eq_none (by omega), List.getElem?_eq_none (by omega)]
        have HDD := Lib.hid hd
        clear hd
        go_wp2_with fail
        go_ret
        exact ⟨ret_bool HDD.out.symm, hb⟩
  · have hnb : ((n1 : Int) != (n2 : Int)) = true := by rw [bne_iff_ne]; omega
    have hd : decide (l1 = l2) = false := by
      rw [decide_eq_false_iff_not]
      intro e
      rw [e] at hlen1
      omega
    rw [hd]
    clear h1 h2
    go_enter Try.func19, Try.ntmps19
    go_wp2_with fail
    go_ret
    exact ⟨rfl, Below.refl _ _⟩
end Go.Proofs.Ytlchfadfbepapaa
