/-
  cardexlaw06's walks: HeadPuts.
-/
import Derived.Test.YtiiigbhkbpdciaaDoorLives06
import Derived.Deep.RegionHeldLaw
namespace Go.Proofs.YtiiigbhkbpdciaaDoor
open Go.RowKit

set_option maxHeartbeats 4000000 in
set_option maxRecDepth 100000 in
theorem walk_HeadPuts (n : Nat) (h : hd.H) (w : World) (hn : n < 18446744073709551616) (hok : h.Ok) (ht : Tabs w) :
    Calls Tryd.prog 3 #[.int .u64 n, hd.val h] w fun e w' => e = .returned (.bool true) ∧ Below w.heap.size w w' := by
  obtain ⟨hz, -⟩ := zero_of_info zero_blk
  have uB := Tryd.underlying27
  obtain ⟨S, hS⟩ : ∃ e, (hd.put n h).1 = e := ⟨_, rfl⟩
  obtain ⟨f, hf⟩ : ∃ e, (hd.put n h).2 = e := ⟨_, rfl⟩
  obtain ⟨q, hq⟩ : ∃ e, hd.may h = e := ⟨_, rfl⟩
  have hSl : S.length = 128 := by rw [← hS]; exact hd.put_len n h
  have iS := info_blk' hSl
  have HP := Lib.hid (fun W hT => ch_put n hn h hok W hT)
  have HR := Lib.hid (fun W => rput6_any n hn h hok W)
  have HM1 := Lib.hid (fun W => ch_may h hok W)
  have HM2 := Lib.hid (fun W => rmay_any h W)
  rw [hS, hf] at HP HR
  rw [hq] at HM1 HM2
  have hE := eq_blk S S hSl hSl
  rw [decide_eq_true rfl] at hE
  have m1 := HM.new w 25 h
  have b1 : Below w.heap.size w (w.alloc (.cells #[bv h.bank, .int .u32 h.blocks, .int .u32 h.batches] 25)) := (Below.refl _ _).alloc (Nat.le_refl _) _
  obtain ⟨W1, hW1⟩ : ∃ W1, w.alloc (.cells #[bv h.bank, .int .u32 h.blocks, .int .u32 h.batches] 25) = W1 := ⟨_, rfl⟩
  rw [hW1] at m1 b1
  obtain ⟨P, hP⟩ : ∃ P, w.heap.size = P := ⟨_, rfl⟩
  rw [hP] at m1
  have q0 := m1.c0
  have q1 := m1.c1
  have q2 := m1.c2
  clear hS hf hq
  go_enter Tryd.func3, Tryd.ntmps3
  go_wp2_with fail
  refine (HP.out _ (ht.below b1)).mono ?_
  rintro e w2 ⟨rfl, b2⟩
  have b12 := b1.trans (b2.mono b1.size)
  have m2 := m1.below b2 m1.lt
  have n2 := heap_alloc_new w2 (.cells (dk.cells dk.zero).toArray 27)
  obtain ⟨X1, hX1⟩ : ∃ X, w2.heap.size = X := ⟨_, rfl⟩
  rw [hX1] at n2
  clear q0 q1 q2 hW1 m1 b1 b2
  go_wp2_with (refine wp_st0 (.tmp 5) (.tmp 13) S n2 zero_len hSl rfl rfl rfl rfl ?_; intro w3 W3 c3; rw [← hX1] at c3; have b23 := new_chg c3; have b3 := b12.trans (b23.mono b12.size); have m3 := m2.below b23 m2.lt; have q0 := m3.c0; have q1 := m3.c1; have q2 := m3.c2)
  refine (HR.out _).mono ?_
  rintro e w4 ⟨rfl, b4⟩
  have b34 := b3.trans (b4.mono b3.size)
  have m4 := m3.below b4 m3.lt
  have W4 := (b4.block X1 (Array.getElem?_eq_some_iff.1 W3).1).trans W3
  have n4 := heap_alloc_new w4 (.cells (dk.cells dk.zero).toArray 27)
  obtain ⟨X2, hX2⟩ : ∃ X, w4.heap.size = X := ⟨_, rfl⟩
  rw [hX2] at n4
  clear q0 q1 q2 m2 m3 b12 b23 b3 b4 W3 c3 n2
  go_wp2_with (refine wp_st0 (.tmp 7) (.tmp 19) S n4 zero_len hSl rfl rfl rfl rfl ?_; intro w5 W5 c5; rw [← hX2] at c5; have b45 := new_chg c5)
  have b5 := b34.trans (b45.mono b34.size)
  have m5 := m4.below b45 m4.lt
  have V5 := (b45.block X1 (Array.getElem?_eq_some_iff.1 W4).1).trans W4
  have hl1 := (Array.getElem?_eq_some_iff.1 V5).1
  have hl2 := (Array.getElem?_eq_some_iff.1 W5).1
  have hl0 := m5.lt
  clear m4 W4 n4 c5 b34 b45
  have bw5 := b5.drew
  refine wp_region_held_drew (S := fun W => HM 25 W P h ∧ W.heap[X1]? = some (.cells (dk.cells S).toArray 27 (0, 0)) ∧ W.heap[X2]? = some (.cells (dk.cells S).toArray 27 (0, 0))) (by kernel_rfl) ⟨m5.drew, V5, W5⟩ (fun hHeld => ?_)
  refine wpAnyH_take (i := 0) (v := ?_) rfl (by kernel_rfl) (by kernel_rfl) (by kernel_rfl) (fun _ _ _ h => h) (Or.inl ⟨by rfl, ?_⟩) hHeld ?_
  rotate_left
  · intro w hSw; have q0 := hSw.1.c0; have q1 := hSw.1.c1; have q2 := hSw.1.c2; clear hSw; go_simp; try rfl
  simp only [List.getElem_toArray, List.getElem_cons_zero, Act.put, List.setIfInBounds_toArray, List.set_cons_zero, List.set_cons_succ]
  refine wpAnyH_take (i := 2) (v := ?_) rfl (by kernel_rfl) (by kernel_rfl) (by kernel_rfl) (fun _ _ _ h => h) (Or.inl ⟨by rfl, ?_⟩) hHeld ?_
  rotate_left
  · intro w hSw; have q0 := hSw.1.c0; have q1 := hSw.1.c1; have q2 := hSw.1.c2; clear hSw; go_simp; try rfl
  simp only [List.getElem_toArray, List.getElem_cons_zero, List.getElem_cons_succ, Act.put, List.setIfInBounds_toArray, List.set_cons_zero, List.set_cons_succ]
  refine wpAnyH_ready (rs := [1]) (by kernel_rfl) (by simp) ?_
  refine AllReadyH.cons rfl (fun K hK => ?_) AllReadyH.nil
  rw [if_pos (by rfl)]
  go_simp
  refine (HM1.out _).mono ?_
  rintro e w6 ⟨rfl, d⟩
  have bw6 := bw5.trans (d.mono bw5.size)
  have hSw6 : HM 25 w6 P h ∧ w6.heap[X1]? = some (.cells (dk.cells S).toArray 27 (0, 0)) ∧ w6.heap[X2]? = some (.cells (dk.cells S).toArray 27 (0, 0)) := ⟨hHeld.1.below d hHeld.1.lt, (d.block X1 (Array.getElem?_eq_some_iff.1 hHeld.2.1).1).trans hHeld.2.1, (d.block X2 (Array.getElem?_eq_some_iff.1 hHeld.2.2).1).trans hHeld.2.2⟩
  clear hHeld
  refine hK.out _ _ hSw6 (fun hHeld => ?_)
  clear hK K d
  refine wpAnyH_ready (rs := [3]) (by kernel_rfl) (by simp) ?_
  refine AllReadyH.cons rfl (fun K hK => ?_) AllReadyH.nil
  rw [if_pos (by rfl)]
  go_simp
  refine (HM2.out _).mono ?_
  rintro e w7 ⟨rfl, d⟩
  have bw7 := bw6.trans (d.mono bw6.size)
  have hSw7 : HM 25 w7 P h ∧ w7.heap[X1]? = some (.cells (dk.cells S).toArray 27 (0, 0)) ∧ w7.heap[X2]? = some (.cells (dk.cells S).toArray 27 (0, 0)) := ⟨hHeld.1.below d hHeld.1.lt, (d.block X1 (Array.getElem?_eq_some_iff.1 hHeld.2.1).1).trans hHeld.2.1, (d.block X2 (Array.getElem?_eq_some_iff.1 hHeld.2.2).1).trans hHeld.2.2⟩
  clear hHeld
  refine hK.out _ _ hSw7 (fun hHeld => ?_)
  clear hK K d
  refine wpAnyH_take (i := 4) (v := ?_) rfl (by kernel_rfl) (by kernel_rfl) (by kernel_rfl) (fun _ _ _ h => h) (Or.inl ⟨by rfl, ?_⟩) hHeld ?_
  rotate_left
  · intro w hSw; clear hSw; go_simp; try rfl
  simp only [List.getElem_toArray, List.getElem_cons_zero, List.getElem_cons_succ, Act.put, List.setIfInBounds_toArray, List.set_cons_zero, List.set_cons_succ]
  refine wpAnyH_take (i := 5) (v := ?_) rfl (by kernel_rfl) (by kernel_rfl) (by kernel_rfl) (fun _ _ _ h => h) (Or.inl ⟨by rfl, ?_⟩) hHeld ?_
  rotate_left
  · intro w hSw; clear hSw; go_simp; try rfl
  simp only [List.getElem_toArray, List.getElem_cons_zero, List.getElem_cons_succ, Act.put, List.setIfInBounds_toArray, List.set_cons_zero, List.set_cons_succ]
  refine wpAnyH_take (i := 6) (v := dk.val S) rfl (by kernel_rfl) (by kernel_rfl) (by kernel_rfl) (fun _ _ _ h => h) (yieldsIf_load_mid (by rfl) 27 (.tmp 5) rfl X1 (0) rfl (dk.cells S) _ (fun w h => blk_range h.2.1) uB rfl iS) hHeld ?_
  simp only [List.getElem_toArray, List.getElem_cons_zero, List.getElem_cons_succ, Act.put, List.setIfInBounds_toArray, List.set_cons_zero, List.set_cons_succ]
  refine wpAnyH_take (i := 7) (v := dk.val S) rfl (by kernel_rfl) (by kernel_rfl) (by kernel_rfl) (fun _ _ _ h => h) (yieldsIf_load_mid (by rfl) 27 (.tmp 7) rfl X2 (0) rfl (dk.cells S) _ (fun w h => blk_range h.2.2) uB rfl iS) hHeld ?_
  simp only [List.getElem_toArray, List.getElem_cons_zero, List.getElem_cons_succ, Act.put, List.setIfInBounds_toArray, List.set_cons_zero, List.set_cons_succ]
  refine wpAnyH_take (i := 8) (v := ?_) rfl (by kernel_rfl) (by kernel_rfl) (by kernel_rfl) (fun _ _ _ h => h) (Or.inl ⟨by rfl, ?_⟩) hHeld ?_
  rotate_left
  · intro w hSw; clear hSw; go_simp; try rfl
  simp only [List.getElem_toArray, List.getElem_cons_zero, List.getElem_cons_succ, Act.put, List.setIfInBounds_toArray, List.set_cons_zero, List.set_cons_succ]
  refine wpAnyH_take (i := 9) (v := ?_) rfl (by kernel_rfl) (by kernel_rfl) (by kernel_rfl) (fun _ _ _ h => h) (Or.inl ⟨by rfl, ?_⟩) hHeld ?_
  rotate_left
  · intro w hSw; clear hSw; go_simp; try rfl
  simp only [List.getElem_toArray, List.getElem_cons_zero, List.getElem_cons_succ, Act.put, List.setIfInBounds_toArray, List.set_cons_zero, List.set_cons_succ]
  refine wpAnyH_take (i := 10) (v := ?_) rfl (by kernel_rfl) (by kernel_rfl) (by kernel_rfl) (fun _ _ _ h => h) (Or.inl ⟨by rfl, ?_⟩) hHeld ?_
  rotate_left
  · intro w hSw; clear hSw; go_simp; try rfl
  simp only [List.getElem_toArray, List.getElem_cons_zero, List.getElem_cons_succ, Act.put, List.setIfInBounds_toArray, List.set_cons_zero, List.set_cons_succ]
  refine wpAnyH_take (i := 11) (v := ?_) rfl (by kernel_rfl) (by kernel_rfl) (by kernel_rfl) (fun _ _ _ h => h) (Or.inl ⟨by rfl, ?_⟩) hHeld ?_
  rotate_left
  · intro w hSw; clear hSw; go_simp; try rfl
  simp only [List.getElem_toArray, List.getElem_cons_zero, List.getElem_cons_succ, Act.put, List.setIfInBounds_toArray, List.set_cons_zero, List.set_cons_succ]
  refine wpAnyH_take (i := 12) (v := ?_) rfl (by kernel_rfl) (by kernel_rfl) (by kernel_rfl) (fun _ _ _ h => h) (Or.inl ⟨by rfl, ?_⟩) hHeld ?_
  rotate_left
  · intro w hSw; clear hSw; go_simp; try rfl
  simp only [List.getElem_toArray, List.getElem_cons_zero, List.getElem_cons_succ, Act.put, List.setIfInBounds_toArray, List.set_cons_zero, List.set_cons_succ]
  refine wpAnyH_take (i := 13) (v := ?_) rfl (by kernel_rfl) (by kernel_rfl) (by kernel_rfl) (fun _ _ _ h => h) (Or.inl ⟨by rfl, ?_⟩) hHeld ?_
  rotate_left
  · intro w hSw; clear hSw; go_simp; try rfl
  simp only [List.getElem_toArray, List.getElem_cons_zero, List.getElem_cons_succ, Act.put, List.setIfInBounds_toArray, List.set_cons_zero, List.set_cons_succ]
  refine wpAnyH_take (i := 14) (v := ?_) rfl (by kernel_rfl) (by kernel_rfl) (by kernel_rfl) (fun _ _ _ h => h) (Or.inl ⟨by rfl, ?_⟩) hHeld ?_
  rotate_left
  · intro w hSw; clear hSw; go_simp; try rfl
  simp only [List.getElem_toArray, List.getElem_cons_zero, List.getElem_cons_succ, Act.put, List.setIfInBounds_toArray, List.set_cons_zero, List.set_cons_succ]
  refine wpAnyH_take (i := 15) (v := ?_) rfl (by kernel_rfl) (by kernel_rfl) (by kernel_rfl) (fun _ _ _ h => h) (Or.inl ⟨by rfl, ?_⟩) hHeld ?_
  rotate_left
  · intro w hSw; clear hSw; go_simp; try rfl
  simp only [List.getElem_toArray, List.getElem_cons_zero, List.getElem_cons_succ, Act.put, List.setIfInBounds_toArray, List.set_cons_zero, List.set_cons_succ]
  refine wpAnyH_ready (rs := [16]) (by kernel_rfl) (by simp) ?_
  refine AllReadyH.cons rfl (fun K hK => ?_) AllReadyH.nil
  rw [if_pos (by rfl)]
  go_simp
  refine (lives06_any _ (ht.below bw7)).mono ?_
  rintro e w8 ⟨rfl, d⟩
  have bw8 := bw7.trans (d.mono bw7.size)
  have hSw8 : HM 25 w8 P h ∧ w8.heap[X1]? = some (.cells (dk.cells S).toArray 27 (0, 0)) ∧ w8.heap[X2]? = some (.cells (dk.cells S).toArray 27 (0, 0)) := ⟨hHeld.1.below d hHeld.1.lt, (d.block X1 (Array.getElem?_eq_some_iff.1 hHeld.2.1).1).trans hHeld.2.1, (d.block X2 (Array.getElem?_eq_some_iff.1 hHeld.2.2).1).trans hHeld.2.2⟩
  clear hHeld
  refine hK.out _ _ hSw8 (fun hHeld => ?_)
  clear hK K d
  refine wpAnyH_take (i := 17) (v := ?_) rfl (by kernel_rfl) (by kernel_rfl) (by kernel_rfl) (fun _ _ _ h => h) (Or.inl ⟨by rfl, ?_⟩) hHeld ?_
  rotate_left
  · intro w hSw; clear hSw; go_simp; try rfl
  simp only [List.getElem_toArray, List.getElem_cons_zero, List.getElem_cons_succ, Act.put, List.setIfInBounds_toArray, List.set_cons_zero, List.set_cons_succ]
  refine wpAnyH_take (i := 18) (v := ?_) rfl (by kernel_rfl) (by kernel_rfl) (by kernel_rfl) (fun _ _ _ h => h) (Or.inl ⟨by rfl, ?_⟩) hHeld ?_
  rotate_left
  · intro w hSw; clear hSw; go_simp; try rfl
  simp only [List.getElem_toArray, List.getElem_cons_zero, List.getElem_cons_succ, Act.put, List.setIfInBounds_toArray, List.set_cons_zero, List.set_cons_succ]
  refine wpAnyH_done (by kernel_rfl) ?_ _
  go_wp2_with fail
  go_ret
  exact ⟨rfl, bw8⟩
end Go.Proofs.YtiiigbhkbpdciaaDoor
