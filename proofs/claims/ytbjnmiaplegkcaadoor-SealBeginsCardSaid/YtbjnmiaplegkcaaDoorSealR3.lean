/-
  contracts of cardexref05: worth, Newest, Next.
-/
import Derived.Test.YtbjnmiaplegkcaaDoorSealR2
import Derived.Deep.RegionHeldLaw
namespace Go.Proofs.YtbjnmiaplegkcaaDoor
open Go.RowKit

namespace sl
theorem worth_lt (b : Blk) : worth b < 18446744073709551616 := by
  unfold worth get
  split
  · exact (by omega : 0 < 18446744073709551616)
  split
  · exact (by omega : 0 < 18446744073709551616)
  · exact number_lt b
end sl
set_option maxHeartbeats 4000000 in
set_option maxRecDepth 100000 in
theorem rworth_any (b : dk.Blk) (hb : b.length = 128) (w : World) : Calls Tryd.prog 30 #[dk.val b] w fun e w' => e = .returned (.int .u64 (sl.worth b)) ∧ Below w.heap.size w w' := by
  have hr1 := heap_alloc_new w (.cells (dk.cells b).toArray 25)
  have hb1 : Below w.heap.size w (w.alloc (.cells (dk.cells b).toArray 25)) := (Below.refl _ _).alloc (Nat.le_refl _) _
  have hrg := blk_range hr1
  go_enter Tryd.func30, Tryd.ntmps30
  go_wp2_with (refine wp_ld (.tmp 1) b hrg hb rfl rfl rfl ?_)
  refine (rget5_any b hb _).mono ?_
  rintro e w2 ⟨v, rfl, _, hb2⟩
  go_wp2_with fail
  go_ret
  exact ⟨rfl, hb1.trans (hb2.mono hb1.size)⟩

set_option maxHeartbeats 4000000 in
set_option maxRecDepth 100000 in
theorem rnewest_any (a b : dk.Blk) (ha : a.length = 128) (hb : b.length = 128) (w : World) : Calls Tryd.prog 16 #[dk.val a, dk.val b] w fun e w' => e = .returned (.tuple #[.int .i64 (sl.newest a b).1, .int .i64 (sl.newest a b).2]) ∧ Below w.heap.size w w' := by
  have uB := Tryd.underlying25
  have iA := info_blk' ha
  have iB := info_blk' hb
  obtain ⟨x, hx⟩ : ∃ x, sl.worth a = x := ⟨_, rfl⟩
  obtain ⟨y, hy⟩ : ∃ y, sl.worth b = y := ⟨_, rfl⟩
  have hxl := sl.worth_lt a
  have hyl := sl.worth_lt b
  rw [hx] at hxl
  rw [hy] at hyl
  have hca := fun W => rworth_any a ha W
  have hcb := fun W => rworth_any b hb W
  simp only [hx] at hca
  simp only [hy] at hcb
  have HA := Lib.hid hca
  have HB := Lib.hid hcb
  clear hca hcb
  have h1 := heap_alloc_new w (.cells (dk.cells a).toArray 25)
  have h1' := (Below.heap_alloc (w.alloc (.cells (dk.cells a).toArray 25)) (.cells (dk.cells b).toArray 25) w.heap.size (by simp)).trans h1
  have h2 := heap_alloc_new (w.alloc (.cells (dk.cells a).toArray 25)) (.cells (dk.cells b).toArray 25)
  rw [show (w.alloc (.cells (dk.cells a).toArray 25)).heap.size = w.heap.size + 1 from by simp] at h2
  have hb2 : Below w.heap.size w ((w.alloc (.cells (dk.cells a).toArray 25)).alloc (.cells (dk.cells b).toArray 25)) := ((Below.refl _ _).alloc (Nat.le_refl _) _).alloc (by simp) _
  have hnew : sl.newest a b = if x = 0 ∧ y = 0 then (0, 7) else if x < y then (1, 0) else (0, 0) := by rw [sl.newest, hx, hy]
  have HN := Lib.hid hnew
  have hsz2 : w.heap.size + 1 < ((w.alloc (.cells (dk.cells a).toArray 25)).alloc (.cells (dk.cells b).toArray 25)).heap.size := by simp
  obtain ⟨W2, hW2⟩ : ∃ W2, (w.alloc (.cells (dk.cells a).toArray 25)).alloc (.cells (dk.cells b).toArray 25) = W2 := ⟨_, rfl⟩
  obtain ⟨q, hq⟩ : ∃ q, (IntKind.u64.wrap ((x : Int) + (y : Int)) == 0) = q := ⟨_, rfl⟩
  have hq2 : q = decide ((x + y) % 18446744073709551616 = 0) := by
    rw [← hq, u64_add, Bool.eq_iff_iff, decide_eq_true_iff, beq_iff_eq]
    omega
  have HQ := Lib.hid hq2
  clear hnew hx hy h1 hq2
  go_enter Tryd.func16, Tryd.ntmps16
  go_wp2_with fail
  rw [hW2] at h1' h2 hb2 hsz2
  clear hW2
  have hbb_W2 := hb2
  have hS_W2 := And.intro h1' h2
  clear hb2 h1' h2
  refine wp_region_held_drew (S := fun w' => w'.heap[w.heap.size]? = some (.cells (dk.cells a).toArray 25 (0, 0)) ∧ w'.heap[w.heap.size + 1]? = some (.cells (dk.cells b).toArray 25 (0, 0))) (by kernel_rfl) hS_W2 (fun hHeld => ?_)
  refine wpAnyH_take (i := 0) (v := dk.val a) rfl (by kernel_rfl) (by kernel_rfl) (by kernel_rfl) (fun _ _ _ h => h) (yieldsIf_load_mid (by rfl) 25 (.tmp 2) rfl w.heap.size 0 rfl (dk.cells a) _ (fun w h => blk_range h.1) uB rfl iA) hHeld ?_
  simp only [List.getElem_toArray, List.getElem_cons_zero, Act.put, List.setIfInBounds_toArray, List.set_cons_zero, List.set_cons_succ]
  refine wpAnyH_take (i := 2) (v := dk.val b) rfl (by kernel_rfl) (by kernel_rfl) (by kernel_rfl) (fun _ _ _ h => h) (yieldsIf_load_mid (by rfl) 25 (.tmp 3) rfl (w.heap.size + 1) 0 rfl (dk.cells b) _ (fun w h => blk_range h.2) uB rfl iB) hHeld ?_
  simp only [List.getElem_toArray, List.getElem_cons_zero, List.getElem_cons_succ, Act.put, List.setIfInBounds_toArray, List.set_cons_zero, List.set_cons_succ]
  refine wpAnyH_ready (rs := [1]) (by kernel_rfl) (by simp) ?_
  refine AllReadyH.cons rfl (fun K hK => ?_) AllReadyH.nil
  rw [if_pos (by rfl)]
  go_simp
  refine (HA.out _).mono ?_
  rintro e w3 ⟨rfl, hb_w3⟩
  have hsz_w3 : W2.heap.size ≤ w3.heap.size := hb_w3.size
  have hS_w3 : w3.heap[w.heap.size]? = some (.cells (dk.cells a).toArray 25 (0, 0)) ∧ w3.heap[w.heap.size + 1]? = some (.cells (dk.cells b).toArray 25 (0, 0)) := ⟨(hb_w3.block _ (by show w.heap.size < W2.heap.size; omega)).trans hHeld.1, (hb_w3.block _ (by show w.heap.size + 1 < W2.heap.size; omega)).trans hHeld.2⟩
  have hbb_w3 := hbb_W2.drew.trans (hb_w3.mono hbb_W2.size)
  refine hK.out _ _ hS_w3 (fun hHeld => ?_)
  clear hK K
  refine wpAnyH_ready (rs := [3]) (by kernel_rfl) (by simp) ?_
  refine AllReadyH.cons rfl (fun K hK => ?_) AllReadyH.nil
  rw [if_pos (by rfl)]
  go_simp
  refine (HB.out _).mono ?_
  rintro e w4 ⟨rfl, hb_w4⟩
  have hsz_w4 : w3.heap.size ≤ w4.heap.size := hb_w4.size
  have hS_w4 : w4.heap[w.heap.size]? = some (.cells (dk.cells a).toArray 25 (0, 0)) ∧ w4.heap[w.heap.size + 1]? = some (.cells (dk.cells b).toArray 25 (0, 0)) := ⟨(hb_w4.block _ (by show w.heap.size < w3.heap.size; omega)).trans hHeld.1, (hb_w4.block _ (by show w.heap.size + 1 < w3.heap.size; omega)).trans hHeld.2⟩
  have hbb_w4 := hbb_w3.trans (hb_w4.mono hbb_w3.size)
  refine hK.out _ _ hS_w4 (fun hHeld => ?_)
  clear hK K
  refine wpAnyH_take (i := 4) (v := ?_) rfl (by kernel_rfl) (by kernel_rfl) (by kernel_rfl) (fun _ _ _ h => h) (Or.inl ⟨by rfl, ?_⟩) hHeld ?_
  rotate_left
  · intro w hSw; clear hSw; go_simp; try rfl
  simp only [List.getElem_toArray, List.getElem_cons_zero, List.getElem_cons_succ, Act.put, List.setIfInBounds_toArray, List.set_cons_zero, List.set_cons_succ]
  cases q
  · have hx0 : ¬ (x = 0 ∧ y = 0) := fun e => by have := HQ.out; rw [e.1, e.2] at this; simp at this
    have HX : Hid (sl.newest a b = if x < y then (1, 0) else (0, 0)) := by show _ = _; rw [HN.out, if_neg hx0]
    refine wpAnyH_take (i := 5) (v := ?_) rfl (by kernel_rfl) (by kernel_rfl) (by kernel_rfl) (fun _ _ _ h => h) (Or.inl ⟨by rfl, ?_⟩) hHeld ?_
    rotate_left
    · intro w hSw; clear hSw; go_simp; try rfl
    simp only [List.getElem_toArray, List.getElem_cons_zero, List.getElem_cons_succ, Act.put, List.setIfInBounds_toArray, List.set_cons_zero, List.set_cons_succ]
    refine wpAnyH_take (i := 6) (v := ?_) rfl (by kernel_rfl) (by kernel_rfl) (by kernel_rfl) (fun _ _ _ h => h) (Or.inl ⟨by rfl, ?_⟩) hHeld ?_
    rotate_left
    · intro w hSw; clear hSw; go_simp; try rfl
    simp only [List.getElem_toArray, List.getElem_cons_zero, List.getElem_cons_succ, Act.put, List.setIfInBounds_toArray, List.set_cons_zero, List.set_cons_succ]
    refine wpAnyH_take (i := 7) (v := undef) rfl (by kernel_rfl) (by kernel_rfl) (by kernel_rfl) (fun _ _ _ h => h) (Or.inr ⟨by rfl, rfl⟩) hHeld ?_
    simp only [List.getElem_toArray, List.getElem_cons_zero, List.getElem_cons_succ, Act.put, List.setIfInBounds_toArray, List.set_cons_zero, List.set_cons_succ]
    refine wpAnyH_take (i := 8) (v := undef) rfl (by kernel_rfl) (by kernel_rfl) (by kernel_rfl) (fun _ _ _ h => h) (Or.inr ⟨by rfl, rfl⟩) hHeld ?_
    simp only [List.getElem_toArray, List.getElem_cons_zero, List.getElem_cons_succ, Act.put, List.setIfInBounds_toArray, List.set_cons_zero, List.set_cons_succ]
    refine wpAnyH_take (i := 9) (v := undef) rfl (by kernel_rfl) (by kernel_rfl) (by kernel_rfl) (fun _ _ _ h => h) (Or.inr ⟨by rfl, rfl⟩) hHeld ?_
    simp only [List.getElem_toArray, List.getElem_cons_zero, List.getElem_cons_succ, Act.put, List.setIfInBounds_toArray, List.set_cons_zero, List.set_cons_succ]
    refine wpAnyH_take (i := 10) (v := ?_) rfl (by kernel_rfl) (by kernel_rfl) (by kernel_rfl) (fun _ _ _ h => h) (Or.inl ⟨by rfl, ?_⟩) hHeld ?_
    rotate_left
    · intro w hSw; clear hSw; go_simp; try rfl
    simp only [List.getElem_toArray, List.getElem_cons_zero, List.getElem_cons_succ, Act.put, List.setIfInBounds_toArray, List.set_cons_zero, List.set_cons_succ]
    refine wpAnyH_done (by kernel_rfl) ?_ _
    clear hq
    go_wp2_with fail
    refine wp_region_held_drew (S := fun w' => w'.heap[w.heap.size]? = some (.cells (dk.cells a).toArray 25 (0, 0)) ∧ w'.heap[w.heap.size + 1]? = some (.cells (dk.cells b).toArray 25 (0, 0))) (by kernel_rfl) hS_w4 (fun hHeld => ?_)
    refine wpAnyH_take (i := 0) (v := dk.val b) rfl (by kernel_rfl) (by kernel_rfl) (by kernel_rfl) (fun _ _ _ h => h) (yieldsIf_load_mid (by rfl) 25 (.tmp 3) rfl (w.heap.size + 1) 0 rfl (dk.cells b) _ (fun w h => blk_range h.2) uB rfl iB) hHeld ?_
    simp only [List.getElem_toArray, List.getElem_cons_zero, Act.put, List.setIfInBounds_toArray, List.set_cons_zero, List.set_cons_succ]
    refine wpAnyH_take (i := 2) (v := dk.val a) rfl (by kernel_rfl) (by kernel_rfl) (by kernel_rfl) (fun _ _ _ h => h) (yieldsIf_load_mid (by rfl) 25 (.tmp 2) rfl w.heap.size 0 rfl (dk.cells a) _ (fun w h => blk_range h.1) uB rfl iA) hHeld ?_
    simp only [List.getElem_toArray, List.getElem_cons_zero, List.getElem_cons_succ, Act.put, List.setIfInBounds_toArray, List.set_cons_zero, List.set_cons_succ]
    refine wpAnyH_ready (rs := [1]) (by kernel_rfl) (by simp) ?_
    refine AllReadyH.cons rfl (fun K hK => ?_) AllReadyH.nil
    rw [if_pos (by rfl)]
    go_simp
    refine (HB.out _).mono ?_
    rintro e u1 ⟨rfl, hb_u1⟩
    have hsz_u1 : w4.heap.size ≤ u1.heap.size := hb_u1.size
    have hS_u1 : u1.heap[w.heap.size]? = some (.cells (dk.cells a).toArray 25 (0, 0)) ∧ u1.heap[w.heap.size + 1]? = some (.cells (dk.cells b).toArray 25 (0, 0)) := ⟨(hb_u1.block _ (by show w.heap.size < w4.heap.size; omega)).trans hHeld.1, (hb_u1.block _ (by show w.heap.size + 1 < w4.heap.size; omega)).trans hHeld.2⟩
    have hbb_u1 := hbb_w4.drew.trans (hb_u1.mono hbb_w4.size)
    refine hK.out _ _ hS_u1 (fun hHeld => ?_)
    clear hK K
    refine wpAnyH_ready (rs := [3]) (by kernel_rfl) (by simp) ?_
    refine AllReadyH.cons rfl (fun K hK => ?_) AllReadyH.nil
    rw [if_pos (by rfl)]
    go_simp
    refine (HA.out _).mono ?_
    rintro e u2 ⟨rfl, hb_u2⟩
    have hsz_u2 : u1.heap.size ≤ u2.heap.size := hb_u2.size
    have hS_u2 : u2.heap[w.heap.size]? = some (.cells (dk.cells a).toArray 25 (0, 0)) ∧ u2.heap[w.heap.size + 1]? = some (.cells (dk.cells b).toArray 25 (0, 0)) := ⟨(hb_u2.block _ (by show w.heap.size < u1.heap.size; omega)).trans hHeld.1, (hb_u2.block _ (by show w.heap.size + 1 < u1.heap.size; omega)).trans hHeld.2⟩
    have hbb_u2 := hbb_u1.trans (hb_u2.mono hbb_u1.size)
    refine hK.out _ _ hS_u2 (fun hHeld => ?_)
    clear hK K
    refine wpAnyH_take (i := 4) (v := ?_) rfl (by kernel_rfl) (by kernel_rfl) (by kernel_rfl) (fun _ _ _ h => h) (Or.inl ⟨by rfl, ?_⟩) hHeld ?_
    rotate_left
    · intro w hSw; clear hSw; go_simp; try rfl
    simp only [List.getElem_toArray, List.getElem_cons_zero, List.getElem_cons_succ, Act.put, List.setIfInBounds_toArray, List.set_cons_zero, List.set_cons_succ]
    refine wpAnyH_done (by kernel_rfl) ?_ _
    by_cases hlt : x < y
    · have hlt' : (x : Int) < (y : Int) := by omega
      go_wp2_with fail
      go_ret2
      exact ⟨by rw [HX.out, if_pos hlt]; rfl, hbb_u2⟩
    · have hlt' : ¬ (x : Int) < (y : Int) := by omega
      go_wp2_with fail
      go_ret2
      exact ⟨by rw [HX.out, if_neg hlt]; rfl, hbb_u2⟩
  · by_cases hx0 : x = 0
    · have hy0 : y = 0 := by have := of_decide_eq_true HQ.out.symm; omega
      have HX : Hid (sl.newest a b = (0, 7)) := by show _ = _; rw [HN.out, if_pos ⟨hx0, hy0⟩]
      have hxq : ((x : Int) == 0) = true := by simp [hx0]
      clear hx0 hy0
      refine wpAnyH_take (i := 5) (v := ?_) rfl (by kernel_rfl) (by kernel_rfl) (by kernel_rfl) (fun _ _ _ h => h) (Or.inl ⟨by rfl, ?_⟩) hHeld ?_
      rotate_left
      · intro w hSw; clear hSw; go_simp; try rfl
      simp only [List.getElem_toArray, List.getElem_cons_zero, List.getElem_cons_succ, Act.put, List.setIfInBounds_toArray, List.set_cons_zero, List.set_cons_succ]
      refine wpAnyH_take (i := 6) (v := ?_) rfl (by kernel_rfl) (by kernel_rfl) (by kernel_rfl) (fun _ _ _ h => h) (Or.inl ⟨by rfl, ?_⟩) hHeld ?_
      rotate_left
      · intro w hSw; clear hSw; go_simp; try rfl
      simp only [List.getElem_toArray, List.getElem_cons_zero, List.getElem_cons_succ, Act.put, List.setIfInBounds_toArray, List.set_cons_zero, List.set_cons_succ]
      refine wpAnyH_take (i := 7) (v := dk.val a) rfl (by kernel_rfl) (by kernel_rfl) (by kernel_rfl) (fun _ _ _ h => h) (yieldsIf_load_mid (by rfl) 25 (.tmp 2) rfl w.heap.size 0 rfl (dk.cells a) _ (fun w h => blk_range h.1) uB rfl iA) hHeld ?_
      simp only [List.getElem_toArray, List.getElem_cons_zero, List.getElem_cons_succ, Act.put, List.setIfInBounds_toArray, List.set_cons_zero, List.set_cons_succ]
      refine wpAnyH_ready (rs := [8]) (by kernel_rfl) (by simp) ?_
      refine AllReadyH.cons rfl (fun K hK => ?_) AllReadyH.nil
      rw [if_pos (by rfl)]
      go_simp
      refine (HA.out _).mono ?_
      rintro e w5 ⟨rfl, hb_w5⟩
      have hsz_w5 : w4.heap.size ≤ w5.heap.size := hb_w5.size
      have hS_w5 : w5.heap[w.heap.size]? = some (.cells (dk.cells a).toArray 25 (0, 0)) ∧ w5.heap[w.heap.size + 1]? = some (.cells (dk.cells b).toArray 25 (0, 0)) := ⟨(hb_w5.block _ (by show w.heap.size < w4.heap.size; omega)).trans hHeld.1, (hb_w5.block _ (by show w.heap.size + 1 < w4.heap.size; omega)).trans hHeld.2⟩
      have hbb_w5 := hbb_w4.trans (hb_w5.mono hbb_w4.size)
      refine hK.out _ _ hS_w5 (fun hHeld => ?_)
      clear hK K
      refine wpAnyH_take (i := 9) (v := ?_) rfl (by kernel_rfl) (by kernel_rfl) (by kernel_rfl) (fun _ _ _ h => h) (Or.inl ⟨by rfl, ?_⟩) hHeld ?_
      rotate_left
      · intro w hSw; clear hSw; go_simp; try rfl
      simp only [List.getElem_toArray, List.getElem_cons_zero, List.getElem_cons_succ, Act.put, List.setIfInBounds_toArray, List.set_cons_zero, List.set_cons_succ]
      refine wpAnyH_take (i := 10) (v := ?_) rfl (by kernel_rfl) (by kernel_rfl) (by kernel_rfl) (fun _ _ _ h => h) (Or.inl ⟨by rfl, ?_⟩) hHeld ?_
      rotate_left
      · intro w hSw; clear hSw; go_simp; try rfl
      simp only [List.getElem_toArray, List.getElem_cons_zero, List.getElem_cons_succ, Act.put, List.setIfInBounds_toArray, List.set_cons_zero, List.set_cons_succ]
      refine wpAnyH_done (by kernel_rfl) ?_ _
      go_wp2_with fail
      go_ret2
      exact ⟨by rw [HX.out]; rfl, hbb_w5⟩
    · have HX : Hid (sl.newest a b = if x < y then (1, 0) else (0, 0)) := by show _ = _; rw [HN.out, if_neg (fun e => hx0 e.1)]
      have hxq : ((x : Int) == 0) = false := by simp [hx0]
      clear hx0
      refine wpAnyH_take (i := 5) (v := ?_) rfl (by kernel_rfl) (by kernel_rfl) (by kernel_rfl) (fun _ _ _ h => h) (Or.inl ⟨by rfl, ?_⟩) hHeld ?_
      rotate_left
      · intro w hSw; clear hSw; go_simp; try rfl
      simp only [List.getElem_toArray, List.getElem_cons_zero, List.getElem_cons_succ, Act.put, List.setIfInBounds_toArray, List.set_cons_zero, List.set_cons_succ]
      refine wpAnyH_take (i := 6) (v := ?_) rfl (by kernel_rfl) (by kernel_rfl) (by kernel_rfl) (fun _ _ _ h => h) (Or.inl ⟨by rfl, ?_⟩) hHeld ?_
      rotate_left
      · intro w hSw; clear hSw; go_simp; try rfl
      simp only [List.getElem_toArray, List.getElem_cons_zero, List.getElem_cons_succ, Act.put, List.setIfInBounds_toArray, List.set_cons_zero, List.set_cons_succ]
      refine wpAnyH_take (i := 7) (v := dk.val a) rfl (by kernel_rfl) (by kernel_rfl) (by kernel_rfl) (fun _ _ _ h => h) (yieldsIf_load_mid (by rfl) 25 (.tmp 2) rfl w.heap.size 0 rfl (dk.cells a) _ (fun w h => blk_range h.1) uB rfl iA) hHeld ?_
      simp only [List.getElem_toArray, List.getElem_cons_zero, List.getElem_cons_succ, Act.put, List.setIfInBounds_toArray, List.set_cons_zero, List.set_cons_succ]
      refine wpAnyH_ready (rs := [8]) (by kernel_rfl) (by simp) ?_
      refine AllReadyH.cons rfl (fun K hK => ?_) AllReadyH.nil
      rw [if_pos (by rfl)]
      go_simp
      refine (HA.out _).mono ?_
      rintro e w5 ⟨rfl, hb_w5⟩
      have hsz_w5 : w4.heap.size ≤ w5.heap.size := hb_w5.size
      have hS_w5 : w5.heap[w.heap.size]? = some (.cells (dk.cells a).toArray 25 (0, 0)) ∧ w5.heap[w.heap.size + 1]? = some (.cells (dk.cells b).toArray 25 (0, 0)) := ⟨(hb_w5.block _ (by show w.heap.size < w4.heap.size; omega)).trans hHeld.1, (hb_w5.block _ (by show w.heap.size + 1 < w4.heap.size; omega)).trans hHeld.2⟩
      have hbb_w5 := hbb_w4.trans (hb_w5.mono hbb_w4.size)
      refine hK.out _ _ hS_w5 (fun hHeld => ?_)
      clear hK K
      refine wpAnyH_take (i := 9) (v := ?_) rfl (by kernel_rfl) (by kernel_rfl) (by kernel_rfl) (fun _ _ _ h => h) (Or.inl ⟨by rfl, ?_⟩) hHeld ?_
      rotate_left
      · intro w hSw; clear hSw; go_simp; try rfl
      simp only [List.getElem_toArray, List.getElem_cons_zero, List.getElem_cons_succ, Act.put, List.setIfInBounds_toArray, List.set_cons_zero, List.set_cons_succ]
      refine wpAnyH_take (i := 10) (v := ?_) rfl (by kernel_rfl) (by kernel_rfl) (by kernel_rfl) (fun _ _ _ h => h) (Or.inl ⟨by rfl, ?_⟩) hHeld ?_
      rotate_left
      · intro w hSw; clear hSw; go_simp; try rfl
      simp only [List.getElem_toArray, List.getElem_cons_zero, List.getElem_cons_succ, Act.put, List.setIfInBounds_toArray, List.set_cons_zero, List.set_cons_succ]
      refine wpAnyH_done (by kernel_rfl) ?_ _
      clear hq hxq
      go_wp2_with fail
      refine wp_region_held_drew (S := fun w' => w'.heap[w.heap.size]? = some (.cells (dk.cells a).toArray 25 (0, 0)) ∧ w'.heap[w.heap.size + 1]? = some (.cells (dk.cells b).toArray 25 (0, 0))) (by kernel_rfl) hS_w5 (fun hHeld => ?_)
      refine wpAnyH_take (i := 0) (v := dk.val b) rfl (by kernel_rfl) (by kernel_rfl) (by kernel_rfl) (fun _ _ _ h => h) (yieldsIf_load_mid (by rfl) 25 (.tmp 3) rfl (w.heap.size + 1) 0 rfl (dk.cells b) _ (fun w h => blk_range h.2) uB rfl iB) hHeld ?_
      simp only [List.getElem_toArray, List.getElem_cons_zero, Act.put, List.setIfInBounds_toArray, List.set_cons_zero, List.set_cons_succ]
      refine wpAnyH_take (i := 2) (v := dk.val a) rfl (by kernel_rfl) (by kernel_rfl) (by kernel_rfl) (fun _ _ _ h => h) (yieldsIf_load_mid (by rfl) 25 (.tmp 2) rfl w.heap.size 0 rfl (dk.cells a) _ (fun w h => blk_range h.1) uB rfl iA) hHeld ?_
      simp only [List.getElem_toArray, List.getElem_cons_zero, List.getElem_cons_succ, Act.put, List.setIfInBounds_toArray, List.set_cons_zero, List.set_cons_succ]
      refine wpAnyH_ready (rs := [1]) (by kernel_rfl) (by simp) ?_
      refine AllReadyH.cons rfl (fun K hK => ?_) AllReadyH.nil
      rw [if_pos (by rfl)]
      go_simp
      refine (HB.out _).mono ?_
      rintro e u1 ⟨rfl, hb_u1⟩
      have hsz_u1 : w5.heap.size ≤ u1.heap.size := hb_u1.size
      have hS_u1 : u1.heap[w.heap.size]? = some (.cells (dk.cells a).toArray 25 (0, 0)) ∧ u1.heap[w.heap.size + 1]? = some (.cells (dk.cells b).toArray 25 (0, 0)) := ⟨(hb_u1.block _ (by show w.heap.size < w5.heap.size; omega)).trans hHeld.1, (hb_u1.block _ (by show w.heap.size + 1 < w5.heap.size; omega)).trans hHeld.2⟩
      have hbb_u1 := hbb_w5.drew.trans (hb_u1.mono hbb_w5.size)
      refine hK.out _ _ hS_u1 (fun hHeld => ?_)
      clear hK K
      refine wpAnyH_ready (rs := [3]) (by kernel_rfl) (by simp) ?_
      refine AllReadyH.cons rfl (fun K hK => ?_) AllReadyH.nil
      rw [if_pos (by rfl)]
      go_simp
      refine (HA.out _).mono ?_
      rintro e u2 ⟨rfl, hb_u2⟩
      have hsz_u2 : u1.heap.size ≤ u2.heap.size := hb_u2.size
      have hS_u2 : u2.heap[w.heap.size]? = some (.cells (dk.cells a).toArray 25 (0, 0)) ∧ u2.heap[w.heap.size + 1]? = some (.cells (dk.cells b).toArray 25 (0, 0)) := ⟨(hb_u2.block _ (by show w.heap.size < u1.heap.size; omega)).trans hHeld.1, (hb_u2.block _ (by show w.heap.size + 1 < u1.heap.size; omega)).trans hHeld.2⟩
      have hbb_u2 := hbb_u1.trans (hb_u2.mono hbb_u1.size)
      refine hK.out _ _ hS_u2 (fun hHeld => ?_)
      clear hK K
      refine wpAnyH_take (i := 4) (v := ?_) rfl (by kernel_rfl) (by kernel_rfl) (by kernel_rfl) (fun _ _ _ h => h) (Or.inl ⟨by rfl, ?_⟩) hHeld ?_
      rotate_left
      · intro w hSw; clear hSw; go_simp; try rfl
      simp only [List.getElem_toArray, List.getElem_cons_zero, List.getElem_cons_succ, Act.put, List.setIfInBounds_toArray, List.set_cons_zero, List.set_cons_succ]
      refine wpAnyH_done (by kernel_rfl) ?_ _
      by_cases hlt : x < y
      · have hlt' : (x : Int) < (y : Int) := by omega
        go_wp2_with fail
        go_ret2
        exact ⟨by rw [HX.out, if_pos hlt]; rfl, hbb_u2⟩
      · have hlt' : ¬ (x : Int) < (y : Int) := by omega
        go_wp2_with fail
        go_ret2
        exact ⟨by rw [HX.out, if_neg hlt]; rfl, hbb_u2⟩

set_option maxHeartbeats 4000000 in
set_option maxRecDepth 100000 in
theorem rnext_any (a b : dk.Blk) (ha : a.length = 128) (hb : b.length = 128) (w : World) : Calls Tryd.prog 18 #[dk.val a, dk.val b] w fun e w' => e = .returned (.int .i64 (sl.next a b)) ∧ Below w.heap.size w w' := by
  have uB := Tryd.underlying25
  have iA := info_blk' ha
  have iB := info_blk' hb
  obtain ⟨x, hx⟩ : ∃ x, sl.worth a = x := ⟨_, rfl⟩
  obtain ⟨y, hy⟩ : ∃ y, sl.worth b = y := ⟨_, rfl⟩
  have hxl := sl.worth_lt a
  have hyl := sl.worth_lt b
  rw [hx] at hxl
  rw [hy] at hyl
  have hca := fun W => rworth_any a ha W
  have hcb := fun W => rworth_any b hb W
  simp only [hx] at hca
  simp only [hy] at hcb
  have HA := Lib.hid hca
  have HB := Lib.hid hcb
  clear hca hcb
  have h1 := heap_alloc_new w (.cells (dk.cells a).toArray 25)
  have h1' := (Below.heap_alloc (w.alloc (.cells (dk.cells a).toArray 25)) (.cells (dk.cells b).toArray 25) w.heap.size (by simp)).trans h1
  have h2 := heap_alloc_new (w.alloc (.cells (dk.cells a).toArray 25)) (.cells (dk.cells b).toArray 25)
  rw [show (w.alloc (.cells (dk.cells a).toArray 25)).heap.size = w.heap.size + 1 from by simp] at h2
  have hb2 : Below w.heap.size w ((w.alloc (.cells (dk.cells a).toArray 25)).alloc (.cells (dk.cells b).toArray 25)) := ((Below.refl _ _).alloc (Nat.le_refl _) _).alloc (by simp) _
  have hnew : sl.next a b = if 0 < x ∧ y ≤ x then 1 else 0 := by rw [sl.next, hx, hy]
  have HN := Lib.hid hnew
  have hsz2 : w.heap.size + 1 < ((w.alloc (.cells (dk.cells a).toArray 25)).alloc (.cells (dk.cells b).toArray 25)).heap.size := by simp
  obtain ⟨W2, hW2⟩ : ∃ W2, (w.alloc (.cells (dk.cells a).toArray 25)).alloc (.cells (dk.cells b).toArray 25) = W2 := ⟨_, rfl⟩
  clear hnew hx hy h1
  go_enter Tryd.func18, Tryd.ntmps18
  go_wp2_with fail
  rw [hW2] at h1' h2 hb2 hsz2
  clear hW2
  have hbb_W2 := hb2
  have hS_W2 := And.intro h1' h2
  clear hb2 h1' h2
  refine wp_region_held_drew (S := fun w' => w'.heap[w.heap.size]? = some (.cells (dk.cells a).toArray 25 (0, 0)) ∧ w'.heap[w.heap.size + 1]? = some (.cells (dk.cells b).toArray 25 (0, 0))) (by kernel_rfl) hS_W2 (fun hHeld => ?_)
  refine wpAnyH_take (i := 0) (v := dk.val a) rfl (by kernel_rfl) (by kernel_rfl) (by kernel_rfl) (fun _ _ _ h => h) (yieldsIf_load_mid (by rfl) 25 (.tmp 2) rfl w.heap.size 0 rfl (dk.cells a) _ (fun w h => blk_range h.1) uB rfl iA) hHeld ?_
  simp only [List.getElem_toArray, List.getElem_cons_zero, Act.put, List.setIfInBounds_toArray, List.set_cons_zero, List.set_cons_succ]
  refine wpAnyH_ready (rs := [1]) (by kernel_rfl) (by simp) ?_
  refine AllReadyH.cons rfl (fun K hK => ?_) AllReadyH.nil
  rw [if_pos (by rfl)]
  go_simp
  refine (HA.out _).mono ?_
  rintro e w3 ⟨rfl, hb_w3⟩
  have hsz_w3 : W2.heap.size ≤ w3.heap.size := hb_w3.size
  have hS_w3 : w3.heap[w.heap.size]? = some (.cells (dk.cells a).toArray 25 (0, 0)) ∧ w3.heap[w.heap.size + 1]? = some (.cells (dk.cells b).toArray 25 (0, 0)) := ⟨(hb_w3.block _ (by show w.heap.size < W2.heap.size; omega)).trans hHeld.1, (hb_w3.block _ (by show w.heap.size + 1 < W2.heap.size; omega)).trans hHeld.2⟩
  have hbb_w3 := hbb_W2.drew.trans (hb_w3.mono hbb_W2.size)
  refine hK.out _ _ hS_w3 (fun hHeld => ?_)
  clear hK K
  by_cases hx0 : x = 0
  · have HX : Hid (sl.next a b = 0) := by show _ = _; rw [HN.out, if_neg (by omega)]
    have hxq : ¬ (0 : Int) < (x : Int) := by omega
    refine wpAnyH_take (i := 2) (v := ?_) rfl (by kernel_rfl) (by kernel_rfl) (by kernel_rfl) (fun _ _ _ h => h) (Or.inl ⟨by rfl, ?_⟩) hHeld ?_
    rotate_left
    · intro w hSw; clear hSw; go_simp; try rfl
    simp only [List.getElem_toArray, List.getElem_cons_zero, List.getElem_cons_succ, Act.put, List.setIfInBounds_toArray, List.set_cons_zero, List.set_cons_succ]
    refine wpAnyH_take (i := 3) (v := ?_) rfl (by kernel_rfl) (by kernel_rfl) (by kernel_rfl) (fun _ _ _ h => h) (Or.inl ⟨by rfl, ?_⟩) hHeld ?_
    rotate_left
    · intro w hSw; clear hSw; go_simp; try rfl
    simp only [List.getElem_toArray, List.getElem_cons_zero, List.getElem_cons_succ, Act.put, List.setIfInBounds_toArray, List.set_cons_zero, List.set_cons_succ]
    refine wpAnyH_take (i := 4) (v := undef) rfl (by kernel_rfl) (by kernel_rfl) (by kernel_rfl) (fun _ _ _ h => h) (Or.inr ⟨by rfl, rfl⟩) hHeld ?_
    simp only [List.getElem_toArray, List.getElem_cons_zero, List.getElem_cons_succ, Act.put, List.setIfInBounds_toArray, List.set_cons_zero, List.set_cons_succ]
    refine wpAnyH_take (i := 5) (v := undef) rfl (by kernel_rfl) (by kernel_rfl) (by kernel_rfl) (fun _ _ _ h => h) (Or.inr ⟨by rfl, rfl⟩) hHeld ?_
    simp only [List.getElem_toArray, List.getElem_cons_zero, List.getElem_cons_succ, Act.put, List.setIfInBounds_toArray, List.set_cons_zero, List.set_cons_succ]
    refine wpAnyH_take (i := 6) (v := undef) rfl (by kernel_rfl) (by kernel_rfl) (by kernel_rfl) (fun _ _ _ h => h) (Or.inr ⟨by rfl, rfl⟩) hHeld ?_
    simp only [List.getElem_toArray, List.getElem_cons_zero, List.getElem_cons_succ, Act.put, List.setIfInBounds_toArray, List.set_cons_zero, List.set_cons_succ]
    refine wpAnyH_take (i := 7) (v := undef) rfl (by kernel_rfl) (by kernel_rfl) (by kernel_rfl) (fun _ _ _ h => h) (Or.inr ⟨by rfl, rfl⟩) hHeld ?_
    simp only [List.getElem_toArray, List.getElem_cons_zero, List.getElem_cons_succ, Act.put, List.setIfInBounds_toArray, List.set_cons_zero, List.set_cons_succ]
    refine wpAnyH_take (i := 8) (v := undef) rfl (by kernel_rfl) (by kernel_rfl) (by kernel_rfl) (fun _ _ _ h => h) (Or.inr ⟨by rfl, rfl⟩) hHeld ?_
    simp only [List.getElem_toArray, List.getElem_cons_zero, List.getElem_cons_succ, Act.put, List.setIfInBounds_toArray, List.set_cons_zero, List.set_cons_succ]
    refine wpAnyH_take (i := 9) (v := ?_) rfl (by kernel_rfl) (by kernel_rfl) (by kernel_rfl) (fun _ _ _ h => h) (Or.inl ⟨by rfl, ?_⟩) hHeld ?_
    rotate_left
    · intro w hSw; clear hSw; go_simp; try rfl
    simp only [List.getElem_toArray, List.getElem_cons_zero, List.getElem_cons_succ, Act.put, List.setIfInBounds_toArray, List.set_cons_zero, List.set_cons_succ]
    refine wpAnyH_done (by kernel_rfl) ?_ _
    go_wp2_with fail
    go_ret
    exact ⟨by rw [HX.out]; rfl, hbb_w3⟩
  · have hxq : 0 < x := by omega
    have hxq2 : (0 : Int) < (x : Int) := by omega
    refine wpAnyH_take (i := 2) (v := ?_) rfl (by kernel_rfl) (by kernel_rfl) (by kernel_rfl) (fun _ _ _ h => h) (Or.inl ⟨by rfl, ?_⟩) hHeld ?_
    rotate_left
    · intro w hSw; clear hSw; go_simp; try rfl
    simp only [List.getElem_toArray, List.getElem_cons_zero, List.getElem_cons_succ, Act.put, List.setIfInBounds_toArray, List.set_cons_zero, List.set_cons_succ]
    refine wpAnyH_take (i := 3) (v := ?_) rfl (by kernel_rfl) (by kernel_rfl) (by kernel_rfl) (fun _ _ _ h => h) (Or.inl ⟨by rfl, ?_⟩) hHeld ?_
    rotate_left
    · intro w hSw; clear hSw; go_simp; try rfl
    simp only [List.getElem_toArray, List.getElem_cons_zero, List.getElem_cons_succ, Act.put, List.setIfInBounds_toArray, List.set_cons_zero, List.set_cons_succ]
    refine wpAnyH_take (i := 4) (v := dk.val a) rfl (by kernel_rfl) (by kernel_rfl) (by kernel_rfl) (fun _ _ _ h => h) (yieldsIf_load_mid (by rfl) 25 (.tmp 2) rfl w.heap.size 0 rfl (dk.cells a) _ (fun w h => blk_range h.1) uB rfl iA) hHeld ?_
    simp only [List.getElem_toArray, List.getElem_cons_zero, List.getElem_cons_succ, Act.put, List.setIfInBounds_toArray, List.set_cons_zero, List.set_cons_succ]
    refine wpAnyH_take (i := 6) (v := dk.val b) rfl (by kernel_rfl) (by kernel_rfl) (by kernel_rfl) (fun _ _ _ h => h) (yieldsIf_load_mid (by rfl) 25 (.tmp 3) rfl (w.heap.size + 1) 0 rfl (dk.cells b) _ (fun w h => blk_range h.2) uB rfl iB) hHeld ?_
    simp only [List.getElem_toArray, List.getElem_cons_zero, List.getElem_cons_succ, Act.put, List.setIfInBounds_toArray, List.set_cons_zero, List.set_cons_succ]
    refine wpAnyH_ready (rs := [5]) (by kernel_rfl) (by simp) ?_
    refine AllReadyH.cons rfl (fun K hK => ?_) AllReadyH.nil
    rw [if_pos (by rfl)]
    go_simp
    refine (HA.out _).mono ?_
    rintro e w4 ⟨rfl, hb_w4⟩
    have hsz_w4 : w3.heap.size ≤ w4.heap.size := hb_w4.size
    have hS_w4 : w4.heap[w.heap.size]? = some (.cells (dk.cells a).toArray 25 (0, 0)) ∧ w4.heap[w.heap.size + 1]? = some (.cells (dk.cells b).toArray 25 (0, 0)) := ⟨(hb_w4.block _ (by show w.heap.size < w3.heap.size; omega)).trans hHeld.1, (hb_w4.block _ (by show w.heap.size + 1 < w3.heap.size; omega)).trans hHeld.2⟩
    have hbb_w4 := hbb_w3.trans (hb_w4.mono hbb_w3.size)
    refine hK.out _ _ hS_w4 (fun hHeld => ?_)
    clear hK K
    refine wpAnyH_ready (rs := [7]) (by kernel_rfl) (by simp) ?_
    refine AllReadyH.cons rfl (fun K hK => ?_) AllReadyH.nil
    rw [if_pos (by rfl)]
    go_simp
    refine (HB.out _).mono ?_
    rintro e w5 ⟨rfl, hb_w5⟩
    have hsz_w5 : w4.heap.size ≤ w5.heap.size := hb_w5.size
    have hS_w5 : w5.heap[w.heap.size]? = some (.cells (dk.cells a).toArray 25 (0, 0)) ∧ w5.heap[w.heap.size + 1]? = some (.cells (dk.cells b).toArray 25 (0, 0)) := ⟨(hb_w5.block _ (by show w.heap.size < w4.heap.size; omega)).trans hHeld.1, (hb_w5.block _ (by show w.heap.size + 1 < w4.heap.size; omega)).trans hHeld.2⟩
    have hbb_w5 := hbb_w4.trans (hb_w5.mono hbb_w4.size)
    refine hK.out _ _ hS_w5 (fun hHeld => ?_)
    clear hK K
    by_cases hlt : y ≤ x
    · have HX : Hid (sl.next a b = 1) := by show _ = _; rw [HN.out, if_pos ⟨by omega, hlt⟩]
      have hlt' : (y : Int) ≤ (x : Int) := by omega
      refine wpAnyH_take (i := 8) (v := ?_) rfl (by kernel_rfl) (by kernel_rfl) (by kernel_rfl) (fun _ _ _ h => h) (Or.inl ⟨by rfl, ?_⟩) hHeld ?_
      rotate_left
      · intro w hSw; clear hSw; go_simp; try rfl
      simp only [List.getElem_toArray, List.getElem_cons_zero, List.getElem_cons_succ, Act.put, List.setIfInBounds_toArray, List.set_cons_zero, List.set_cons_succ]
      refine wpAnyH_take (i := 9) (v := ?_) rfl (by kernel_rfl) (by kernel_rfl) (by kernel_rfl) (fun _ _ _ h => h) (Or.inl ⟨by rfl, ?_⟩) hHeld ?_
      rotate_left
      · intro w hSw; clear hSw; go_simp; try rfl
      simp only [List.getElem_toArray, List.getElem_cons_zero, List.getElem_cons_succ, Act.put, List.setIfInBounds_toArray, List.set_cons_zero, List.set_cons_succ]
      refine wpAnyH_done (by kernel_rfl) ?_ _
      go_wp2_with fail
      go_ret
      exact ⟨by rw [HX.out]; rfl, hbb_w5⟩
    · have HX : Hid (sl.next a b = 0) := by show _ = _; rw [HN.out, if_neg (fun e => hlt e.2)]
      have hlt' : ¬ (y : Int) ≤ (x : Int) := by omega
      refine wpAnyH_take (i := 8) (v := ?_) rfl (by kernel_rfl) (by kernel_rfl) (by kernel_rfl) (fun _ _ _ h => h) (Or.inl ⟨by rfl, ?_⟩) hHeld ?_
      rotate_left
      · intro w hSw; clear hSw; go_simp; try rfl
      simp only [List.getElem_toArray, List.getElem_cons_zero, List.getElem_cons_succ, Act.put, List.setIfInBounds_toArray, List.set_cons_zero, List.set_cons_succ]
      refine wpAnyH_take (i := 9) (v := ?_) rfl (by kernel_rfl) (by kernel_rfl) (by kernel_rfl) (fun _ _ _ h => h) (Or.inl ⟨by rfl, ?_⟩) hHeld ?_
      rotate_left
      · intro w hSw; clear hSw; go_simp; try rfl
      simp only [List.getElem_toArray, List.getElem_cons_zero, List.getElem_cons_succ, Act.put, List.setIfInBounds_toArray, List.set_cons_zero, List.set_cons_succ]
      refine wpAnyH_done (by kernel_rfl) ?_ _
      go_wp2_with fail
      go_ret
      exact ⟨by rw [HX.out]; rfl, hbb_w5⟩
end Go.Proofs.YtbjnmiaplegkcaaDoor
