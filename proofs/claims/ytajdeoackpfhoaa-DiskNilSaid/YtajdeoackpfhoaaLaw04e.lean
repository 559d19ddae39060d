/-
  cardexlaw04's walk: both.
-/
import Derived.Test.YtajdeoackpfhoaaDiskC
import Derived.Test.YtajdeoackpfhoaaDiskE
import Derived.Test.YtajdeoackpfhoaaDiskO
import Derived.Deep.RegionHeldLaw
namespace Go.Proofs.Ytajdeoackpfhoaa
open Go.RowKit
variable {w w1 w2 w3 : World} {F F' G G' H : List Nat} {d r : Value} {s : dk.St}

/-- two calls, one behind the other, each of which changes its own -/
theorem two_done (hb : Below w.heap.size w w1) (_hF : Ther w F) (hG : Ther w G) (hA : Apt F G) (c1 : Chg w1 w2 F) (u1 : Sub w1 F' F) (hF' : Ther w2 F') (c2 : Chg w2 w3 G) (u2 : Sub w2 G' G) (hFH : ∀ k ∈ F, k ∈ H) (hGH : ∀ k ∈ G, k ∈ H) :
    Same w2 w3 F' ∧ Apt F' G' ∧ Chg w w3 H ∧ Sub w F' H ∧ Sub w G' H := by
  have hG1 : Ther w1 G := hG.mono hb.size
  have a1 : Apt F' G := hA.step u1 hG1
  have sF : Sub w F H := fun k hk => .inl (hFH k hk)
  have sG : Sub w G H := fun k hk => .inl (hGH k hk)
  refine ⟨c2.same a1.symm hF', (a1.symm.step u2 hF').symm, ?_, ?_, ?_⟩
  · exact ((Chg.of_below hb H).trans c1 sF).trans c2 sG
  · exact u1.trans sF hb.size
  · exact u2.trans sG (Nat.le_trans hb.size c1.size)
theorem AC.row4 {a : AC} {w : World} {g : Nat} {t : TypeId} (h : w.heap[g]? = some (.cells a.cells.toArray t)) : w.rangeAt g 4 (dk.cells a.b) := by
  refine range_of h 4 _ fun j v hj => ?_
  have hjl : j < (dk.cells a.b).length := (List.getElem?_eq_some_iff.1 hj).1
  rw [show 4 + j = j + 4 from by omega]
  simp only [AC.cells, List.getElem?_cons_succ]
  rw [List.getElem?_append_left hjl]
  exact hj
theorem AC.cell1 {a : AC} {w : World} {g : Nat} {t : TypeId} (h : w.heap[g]? = some (.cells a.cells.toArray t)) : w.cell? ⟨g, 1, none⟩ = some (.int .i64 a.n) := by rw [cell_of_row _ _ _ _ _ _ h]; rfl
theorem AC.cell2 {a : AC} {w : World} {g : Nat} {t : TypeId} (h : w.heap[g]? = some (.cells a.cells.toArray t)) : w.cell? ⟨g, 2, none⟩ = some (.int .i64 a.at_) := by rw [cell_of_row _ _ _ _ _ _ h]; rfl
theorem AC.cell3 {a : AC} {w : World} {g : Nat} {t : TypeId} (h : w.heap[g]? = some (.cells a.cells.toArray t)) : w.cell? ⟨g, 3, none⟩ = some (bv a.x) := by rw [cell_of_row _ _ _ _ _ _ h]; rfl
theorem AC.last? (a : AC) (hb : a.b.length = 128) : a.cells[132]? = some (.slice a.pA a.pn a.pc) := by
  simp only [AC.cells, List.getElem?_cons_succ]
  rw [List.getElem?_append_right (by simp [dk.cells, hb])]
  simp [dk.cells, hb]
theorem AC.cellp {a : AC} (hb : a.b.length = 128) {w : World} {g : Nat} {t : TypeId} (h : w.heap[g]? = some (.cells a.cells.toArray t)) : w.cell? ⟨g, 132, none⟩ = some (.slice a.pA a.pn a.pc) := by
  rw [cell_of_row _ _ _ _ _ _ h, List.getElem?_toArray]; exact a.last? hb
theorem dk.sure_len5 {s : dk.St} (h : s.Ok) (n : Int) : (dk.sure s n).1.length = 128 := by
  unfold dk.sure
  split
  · exact zero_len
  · exact dk.getD_len h.lenS _
theorem dk.read_len5 {s : dk.St} (h : s.Ok) (n : Int) : (dk.read s n).1.length = 128 := by
  unfold dk.read
  split
  · exact dk.look_len _ h.lenL _ _ (dk.getD_len h.lenS _)
  · exact zero_len
theorem AC.last (a : AC) (hb : a.b.length = 128) : a.cells[132]'(by rw [a.length hb]; decide) = .slice a.pA a.pn a.pc := by
  have h1 := a.last? hb
  exact (List.getElem?_eq_some_iff.1 h1).2
set_option maxHeartbeats 2000000 in
set_option maxRecDepth 100000 in
theorem both0 (a : AC) (ha : a.Ok w) (hk : a.kind = 0) (hC : CD w F d s) (hR : RD w G r s) (hA : Apt F G) (hf : s.Few) : Calls Try.prog 11 #[d, r, .agg a.cells.toArray] w fun e w' =>
    ∃ F' G', e = .returned (.bool true) ∧ CD w' F' d (dk.write s a.n a.b).2 ∧ RD w' G' r (dk.write s a.n a.b).2 ∧ Apt F' G' ∧ Chg w w' (F ++ G) ∧ Sub w F' (F ++ G) ∧ Sub w G' (F ++ G) := by
  have uB := Try.underlying33
  obtain ⟨p, rfl⟩ := hC.form
  obtain ⟨p', rfl⟩ := hR.form
  have hbl := ha.b
  have hlen := a.length hbl
  have hb1 : Below w.heap.size w (w.alloc (.cells a.cells.toArray 36)) := (Below.refl _ _).alloc (Nat.le_refl _) _
  have hr1 := heap_alloc_new w (.cells a.cells.toArray 36)
  have e0 : a.cells[0] = .int .i64 0 := by rw [← hk]; rfl
  have e1 : a.cells[1] = .int .i64 a.n := rfl
  have e2 : a.cells[2] = .int .i64 a.at_ := rfl
  have e3 : a.cells[3] = bv a.x := rfl
  have e132 : a.cells[132] = .slice a.pA a.pn a.pc := a.last hbl
  go_enter Try.func11, Try.ntmps11
  go_wp2_with fail
  have iB := info_blk' hbl
  have hbD : Below w.heap.size w (w.alloc (.cells a.cells.toArray 36)).drew := hb1.drew
  have hCD := hC.below hbD
  have HW := Lib.hid (cd_write a.n a.b hbl hCD hf)
  refine wp_region_held_drew (S := fun w' => w'.heap[w.heap.size]? = some (.cells a.cells.toArray 36)) (by kernel_rfl) hr1 (fun hHeld => ?_)
  refine wpAnyH_take (i := 0) (v := ?_) rfl (by kernel_rfl) (by kernel_rfl) (by kernel_rfl) (fun _ _ _ h => h) (Or.inl ⟨by rfl, ?_⟩) hHeld ?_
  rotate_left
  · intro w hSw; have t1 := AC.cell1 hSw; have t2 := AC.cell2 hSw; have t3 := AC.cell3 hSw; have t4 := AC.cellp hbl hSw; clear hSw; go_simp; try rfl
  simp only [List.getElem_toArray, List.getElem_cons_zero, Act.put, List.setIfInBounds_toArray, List.set_cons_zero, List.set_cons_succ]
  refine wpAnyH_take (i := 1) (v := ?_) rfl (by kernel_rfl) (by kernel_rfl) (by kernel_rfl) (fun _ _ _ h => h) (Or.inl ⟨by rfl, ?_⟩) hHeld ?_
  rotate_left
  · intro w hSw; have t1 := AC.cell1 hSw; have t2 := AC.cell2 hSw; have t3 := AC.cell3 hSw; have t4 := AC.cellp hbl hSw; clear hSw; go_simp; try rfl
  simp only [List.getElem_toArray, List.getElem_cons_zero, List.getElem_cons_succ, Act.put, List.setIfInBounds_toArray, List.set_cons_zero, List.set_cons_succ]
  refine wpAnyH_take (i := 2) (v := ?_) rfl (by kernel_rfl) (by kernel_rfl) (by kernel_rfl) (fun _ _ _ h => h) (Or.inl ⟨by rfl, ?_⟩) hHeld ?_
  rotate_left
  · intro w hSw; have t1 := AC.cell1 hSw; have t2 := AC.cell2 hSw; have t3 := AC.cell3 hSw; have t4 := AC.cellp hbl hSw; clear hSw; go_simp; try rfl
  simp only [List.getElem_toArray, List.getElem_cons_zero, List.getElem_cons_succ, Act.put, List.setIfInBounds_toArray, List.set_cons_zero, List.set_cons_succ]
  refine wpAnyH_take (i := 3) (v := ?_) rfl (by kernel_rfl) (by kernel_rfl) (by kernel_rfl) (fun _ _ _ h => h) (Or.inl ⟨by rfl, ?_⟩) hHeld ?_
  rotate_left
  · intro w hSw; have t1 := AC.cell1 hSw; have t2 := AC.cell2 hSw; have t3 := AC.cell3 hSw; have t4 := AC.cellp hbl hSw; clear hSw; go_simp; try rfl
  simp only [List.getElem_toArray, List.getElem_cons_zero, List.getElem_cons_succ, Act.put, List.setIfInBounds_toArray, List.set_cons_zero, List.set_cons_succ]
  refine wpAnyH_take (i := 4) (v := dk.val a.b) rfl (by kernel_rfl) (by kernel_rfl) (by kernel_rfl) (fun _ _ _ h => h) (yieldsIf_load_mid (by rfl) 33 (.tmp 22) rfl (w.heap.size) 4 rfl (dk.cells a.b) _ (fun w h => AC.row4 h) uB rfl iB) hHeld ?_
  simp only [List.getElem_toArray, List.getElem_cons_zero, List.getElem_cons_succ, Act.put, List.setIfInBounds_toArray, List.set_cons_zero, List.set_cons_succ]
  refine wpAnyH_take (i := 6) (v := ?_) rfl (by kernel_rfl) (by kernel_rfl) (by kernel_rfl) (fun _ _ _ h => h) (Or.inl ⟨by rfl, ?_⟩) hHeld ?_
  rotate_left
  · intro w hSw; have t1 := AC.cell1 hSw; have t2 := AC.cell2 hSw; have t3 := AC.cell3 hSw; have t4 := AC.cellp hbl hSw; clear hSw; go_simp; try rfl
  simp only [List.getElem_toArray, List.getElem_cons_zero, List.getElem_cons_succ, Act.put, List.setIfInBounds_toArray, List.set_cons_zero, List.set_cons_succ]
  refine wpAnyH_take (i := 7) (v := ?_) rfl (by kernel_rfl) (by kernel_rfl) (by kernel_rfl) (fun _ _ _ h => h) (Or.inl ⟨by rfl, ?_⟩) hHeld ?_
  rotate_left
  · intro w hSw; have t1 := AC.cell1 hSw; have t2 := AC.cell2 hSw; have t3 := AC.cell3 hSw; have t4 := AC.cellp hbl hSw; clear hSw; go_simp; try rfl
  simp only [List.getElem_toArray, List.getElem_cons_zero, List.getElem_cons_succ, Act.put, List.setIfInBounds_toArray, List.set_cons_zero, List.set_cons_succ]
  refine wpAnyH_take (i := 8) (v := ?_) rfl (by kernel_rfl) (by kernel_rfl) (by kernel_rfl) (fun _ _ _ h => h) (Or.inl ⟨by rfl, ?_⟩) hHeld ?_
  rotate_left
  · intro w hSw; have t1 := AC.cell1 hSw; have t2 := AC.cell2 hSw; have t3 := AC.cell3 hSw; have t4 := AC.cellp hbl hSw; clear hSw; go_simp; try rfl
  simp only [List.getElem_toArray, List.getElem_cons_zero, List.getElem_cons_succ, Act.put, List.setIfInBounds_toArray, List.set_cons_zero, List.set_cons_succ]
  refine wpAnyH_take (i := 9) (v := ?_) rfl (by kernel_rfl) (by kernel_rfl) (by kernel_rfl) (fun _ _ _ h => h) (Or.inl ⟨by rfl, ?_⟩) hHeld ?_
  rotate_left
  · intro w hSw; have t1 := AC.cell1 hSw; have t2 := AC.cell2 hSw; have t3 := AC.cell3 hSw; have t4 := AC.cellp hbl hSw; clear hSw; go_simp; try rfl
  simp only [List.getElem_toArray, List.getElem_cons_zero, List.getElem_cons_succ, Act.put, List.setIfInBounds_toArray, List.set_cons_zero, List.set_cons_succ]
  refine wpAnyH_take (i := 10) (v := dk.val a.b) rfl (by kernel_rfl) (by kernel_rfl) (by kernel_rfl) (fun _ _ _ h => h) (yieldsIf_load_mid (by rfl) 33 (.tmp 28) rfl (w.heap.size) 4 rfl (dk.cells a.b) _ (fun w h => AC.row4 h) uB rfl iB) hHeld ?_
  simp only [List.getElem_toArray, List.getElem_cons_zero, List.getElem_cons_succ, Act.put, List.setIfInBounds_toArray, List.set_cons_zero, List.set_cons_succ]
  refine wpAnyH_ready (rs := [5]) (by kernel_rfl) (by simp) ?_
  refine AllReadyH.cons rfl (fun K hK => ?_) AllReadyH.nil
  rw [if_pos (by rfl)]
  go_simp
  refine HW.out.mono ?_
  rintro e w2 ⟨F2, rfl, hC2, c2, u2⟩
  have hR2 := (hR.below hbD).keep (c2.same hA (hR.there.mono hbD.size))
  have hs1 : w.heap.size < (w.alloc (.cells a.cells.toArray 36)).drew.heap.size := Nat.lt_of_lt_of_eq (Nat.lt_succ_self _) (World.size_alloc w _).symm
  have x1 := (c2.block w.heap.size hs1 (fun hm => Nat.lt_irrefl _ (hC.there _ hm))).trans hHeld
  refine hK.out _ _ x1 (fun hHeld => ?_)
  clear hK K
  refine wpAnyH_ready (rs := [11]) (by kernel_rfl) (by simp) ?_
  refine AllReadyH.cons rfl (fun K hK => ?_) AllReadyH.nil
  rw [if_pos (by rfl)]
  go_simp
  refine (rd_write a.n a.b hbl hR2 hf).mono ?_
  rintro e w3 ⟨G3, rfl, hR3, c3, u3⟩
  obtain ⟨sF, aFG, cH, sF3, sG3⟩ := two_done (H := F ++ G) hbD hC.there hR.there hA c2 u2 hC2.there c3 u3 (fun k hk => List.mem_append_left _ hk) (fun k hk => List.mem_append_right _ hk)
  have hC3 := hC2.keep sF
  have x3 := (c3.block w.heap.size (Nat.lt_of_lt_of_le hs1 c2.size) (fun hm => Nat.lt_irrefl _ (hR.there _ hm))).trans hHeld
  refine hK.out _ _ x3 (fun hHeld => ?_)
  clear hK K
  refine wpAnyH_ready (rs := [12]) (by kernel_rfl) (by simp) ?_
  refine AllReadyH.cons rfl (fun K hK => ?_) AllReadyH.nil
  rw [if_pos (by rfl)]
  go_simp
  refine hK.out _ _ hHeld (fun hHeld => ?_)
  clear hK K
  refine wpAnyH_take (i := 13) (v := ?_) rfl (by kernel_rfl) (by kernel_rfl) (by kernel_rfl) (fun _ _ _ h => h) (Or.inl ⟨by rfl, ?_⟩) hHeld ?_
  rotate_left
  · intro w hSw; have t1 := AC.cell1 hSw; have t2 := AC.cell2 hSw; have t3 := AC.cell3 hSw; have t4 := AC.cellp hbl hSw; clear hSw; go_simp; try rfl
  simp only [List.getElem_toArray, List.getElem_cons_zero, List.getElem_cons_succ, Act.put, List.setIfInBounds_toArray, List.set_cons_zero, List.set_cons_succ]
  refine wpAnyH_done (by kernel_rfl) ?_ _
  clear HW hr1 x1 x3 hHeld c2 c3 u2 u3 hR2 hC2
  go_wp2_with fail
  go_ret
  exact ⟨F2, G3, rfl, hC3, hR3, aFG, cH, sF3, sG3⟩
set_option maxHeartbeats 2000000 in
set_option maxRecDepth 100000 in
theorem both3 (a : AC) (ha : a.Ok w) (hk : a.kind = 3) (hC : CD w F d s) (hR : RD w G r s) (hA : Apt F G) : Calls Try.prog 11 #[d, r, .agg a.cells.toArray] w fun e w' =>
    ∃ F' G', e = .returned (.bool true) ∧ CD w' F' d (dk.arm s a.n).2 ∧ RD w' G' r (dk.arm s a.n).2 ∧ Apt F' G' ∧ Chg w w' (F ++ G) ∧ Sub w F' (F ++ G) ∧ Sub w G' (F ++ G) := by
  have uB := Try.underlying33
  obtain ⟨p, rfl⟩ := hC.form
  obtain ⟨p', rfl⟩ := hR.form
  have hbl := ha.b
  have hlen := a.length hbl
  have hb1 : Below w.heap.size w (w.alloc (.cells a.cells.toArray 36)) := (Below.refl _ _).alloc (Nat.le_refl _) _
  have hr1 := heap_alloc_new w (.cells a.cells.toArray 36)
  have e0 : a.cells[0] = .int .i64 3 := by rw [← hk]; rfl
  have e1 : a.cells[1] = .int .i64 a.n := rfl
  have e2 : a.cells[2] = .int .i64 a.at_ := rfl
  have e3 : a.cells[3] = bv a.x := rfl
  have e132 : a.cells[132] = .slice a.pA a.pn a.pc := a.last hbl
  go_enter Try.func11, Try.ntmps11
  go_wp2_with fail
  have iB := info_blk' hbl
  have hbD : Below w.heap.size w (w.alloc (.cells a.cells.toArray 36)).drew := hb1.drew
  have hCD := hC.below hbD
  have HW := Lib.hid (cd_arm a.n ha.n.2 hCD)
  refine wp_region_held_drew (S := fun w' => w'.heap[w.heap.size]? = some (.cells a.cells.toArray 36)) (by kernel_rfl) hr1 (fun hHeld => ?_)
  refine wpAnyH_take (i := 0) (v := ?_) rfl (by kernel_rfl) (by kernel_rfl) (by kernel_rfl) (fun _ _ _ h => h) (Or.inl ⟨by rfl, ?_⟩) hHeld ?_
  rotate_left
  · intro w hSw; have t1 := AC.cell1 hSw; have t2 := AC.cell2 hSw; have t3 := AC.cell3 hSw; have t4 := AC.cellp hbl hSw; clear hSw; go_simp; try rfl
  simp only [List.getElem_toArray, List.getElem_cons_zero, Act.put, List.setIfInBounds_toArray, List.set_cons_zero, List.set_cons_succ]
  refine wpAnyH_take (i := 1) (v := ?_) rfl (by kernel_rfl) (by kernel_rfl) (by kernel_rfl) (fun _ _ _ h => h) (Or.inl ⟨by rfl, ?_⟩) hHeld ?_
  rotate_left
  · intro w hSw; have t1 := AC.cell1 hSw; have t2 := AC.cell2 hSw; have t3 := AC.cell3 hSw; have t4 := AC.cellp hbl hSw; clear hSw; go_simp; try rfl
  simp only [List.getElem_toArray, List.getElem_cons_zero, List.getElem_cons_succ, Act.put, List.setIfInBounds_toArray, List.set_cons_zero, List.set_cons_succ]
  refine wpAnyH_take (i := 2) (v := ?_) rfl (by kernel_rfl) (by kernel_rfl) (by kernel_rfl) (fun _ _ _ h => h) (Or.inl ⟨by rfl, ?_⟩) hHeld ?_
  rotate_left
  · intro w hSw; have t1 := AC.cell1 hSw; have t2 := AC.cell2 hSw; have t3 := AC.cell3 hSw; have t4 := AC.cellp hbl hSw; clear hSw; go_simp; try rfl
  simp only [List.getElem_toArray, List.getElem_cons_zero, List.getElem_cons_succ, Act.put, List.setIfInBounds_toArray, List.set_cons_zero, List.set_cons_succ]
  refine wpAnyH_take (i := 4) (v := ?_) rfl (by kernel_rfl) (by kernel_rfl) (by kernel_rfl) (fun _ _ _ h => h) (Or.inl ⟨by rfl, ?_⟩) hHeld ?_
  rotate_left
  · intro w hSw; have t1 := AC.cell1 hSw; have t2 := AC.cell2 hSw; have t3 := AC.cell3 hSw; have t4 := AC.cellp hbl hSw; clear hSw; go_simp; try rfl
  simp only [List.getElem_toArray, List.getElem_cons_zero, List.getElem_cons_succ, Act.put, List.setIfInBounds_toArray, List.set_cons_zero, List.set_cons_succ]
  refine wpAnyH_take (i := 5) (v := ?_) rfl (by kernel_rfl) (by kernel_rfl) (by kernel_rfl) (fun _ _ _ h => h) (Or.inl ⟨by rfl, ?_⟩) hHeld ?_
  rotate_left
  · intro w hSw; have t1 := AC.cell1 hSw; have t2 := AC.cell2 hSw; have t3 := AC.cell3 hSw; have t4 := AC.cellp hbl hSw; clear hSw; go_simp; try rfl
  simp only [List.getElem_toArray, List.getElem_cons_zero, List.getElem_cons_succ, Act.put, List.setIfInBounds_toArray, List.set_cons_zero, List.set_cons_succ]
  refine wpAnyH_take (i := 6) (v := ?_) rfl (by kernel_rfl) (by kernel_rfl) (by kernel_rfl) (fun _ _ _ h => h) (Or.inl ⟨by rfl, ?_⟩) hHeld ?_
  rotate_left
  · intro w hSw; have t1 := AC.cell1 hSw; have t2 := AC.cell2 hSw; have t3 := AC.cell3 hSw; have t4 := AC.cellp hbl hSw; clear hSw; go_simp; try rfl
  simp only [List.getElem_toArray, List.getElem_cons_zero, List.getElem_cons_succ, Act.put, List.setIfInBounds_toArray, List.set_cons_zero, List.set_cons_succ]
  refine wpAnyH_ready (rs := [3]) (by kernel_rfl) (by simp) ?_
  refine AllReadyH.cons rfl (fun K hK => ?_) AllReadyH.nil
  rw [if_pos (by rfl)]
  go_simp
  refine HW.out.mono ?_
  rintro e w2 ⟨F2, rfl, hC2, c2, u2⟩
  have hR2 := (hR.below hbD).keep (c2.same hA (hR.there.mono hbD.size))
  have hs1 : w.heap.size < (w.alloc (.cells a.cells.toArray 36)).drew.heap.size := Nat.lt_of_lt_of_eq (Nat.lt_succ_self _) (World.size_alloc w _).symm
  have x1 := (c2.block w.heap.size hs1 (fun hm => Nat.lt_irrefl _ (hC.there _ hm))).trans hHeld
  refine hK.out _ _ x1 (fun hHeld => ?_)
  clear hK K
  refine wpAnyH_ready (rs := [7]) (by kernel_rfl) (by simp) ?_
  refine AllReadyH.cons rfl (fun K hK => ?_) AllReadyH.nil
  rw [if_pos (by rfl)]
  go_simp
  refine (rd_arm a.n ha.n.2 hR2).mono ?_
  rintro e w3 ⟨G3, rfl, hR3, c3, u3⟩
  obtain ⟨sF, aFG, cH, sF3, sG3⟩ := two_done (H := F ++ G) hbD hC.there hR.there hA c2 u2 hC2.there c3 u3 (fun k hk => List.mem_append_left _ hk) (fun k hk => List.mem_append_right _ hk)
  have hC3 := hC2.keep sF
  have x3 := (c3.block w.heap.size (Nat.lt_of_lt_of_le hs1 c2.size) (fun hm => Nat.lt_irrefl _ (hR.there _ hm))).trans hHeld
  refine hK.out _ _ x3 (fun hHeld => ?_)
  clear hK K
  refine wpAnyH_ready (rs := [8]) (by kernel_rfl) (by simp) ?_
  refine AllReadyH.cons rfl (fun K hK => ?_) AllReadyH.nil
  rw [if_pos (by rfl)]
  go_simp
  refine hK.out _ _ hHeld (fun hHeld => ?_)
  clear hK K
  refine wpAnyH_take (i := 9) (v := ?_) rfl (by kernel_rfl) (by kernel_rfl) (by kernel_rfl) (fun _ _ _ h => h) (Or.inl ⟨by rfl, ?_⟩) hHeld ?_
  rotate_left
  · intro w hSw; have t1 := AC.cell1 hSw; have t2 := AC.cell2 hSw; have t3 := AC.cell3 hSw; have t4 := AC.cellp hbl hSw; clear hSw; go_simp; try rfl
  simp only [List.getElem_toArray, List.getElem_cons_zero, List.getElem_cons_succ, Act.put, List.setIfInBounds_toArray, List.set_cons_zero, List.set_cons_succ]
  refine wpAnyH_done (by kernel_rfl) ?_ _
  clear HW hr1 x1 x3 hHeld c2 c3 u2 u3 hR2 hC2
  go_wp2_with fail
  go_ret
  exact ⟨F2, G3, rfl, hC3, hR3, aFG, cH, sF3, sG3⟩
set_option maxHeartbeats 2000000 in
set_option maxRecDepth 100000 in
theorem both4 (a : AC) (ha : a.Ok w) (hk : a.kind = 4) (hC : CD w F d s) (hR : RD w G r s) (hA : Apt F G) (hp : 0 < a.pn → ∀ b o, a.pA = some ⟨b, o, none⟩ → b ∉ F ∧ b ∉ G) : Calls Try.prog 11 #[d, r, .agg a.cells.toArray] w fun e w' =>
    ∃ F' G', e = .returned (.bool true) ∧ CD w' F' d (dk.crash s a.pl) ∧ RD w' G' r (dk.crash s a.pl) ∧ Apt F' G' ∧ Chg w w' (F ++ G) ∧ Sub w F' (F ++ G) ∧ Sub w G' (F ++ G) := by
  have uB := Try.underlying33
  obtain ⟨p, rfl⟩ := hC.form
  obtain ⟨p', rfl⟩ := hR.form
  have hbl := ha.b
  have hlen := a.length hbl
  have hb1 : Below w.heap.size w (w.alloc (.cells a.cells.toArray 36)) := (Below.refl _ _).alloc (Nat.le_refl _) _
  have hr1 := heap_alloc_new w (.cells a.cells.toArray 36)
  have e0 : a.cells[0] = .int .i64 4 := by rw [← hk]; rfl
  have e1 : a.cells[1] = .int .i64 a.n := rfl
  have e2 : a.cells[2] = .int .i64 a.at_ := rfl
  have e3 : a.cells[3] = bv a.x := rfl
  have e132 : a.cells[132] = .slice a.pA a.pn a.pc := a.last hbl
  go_enter Try.func11, Try.ntmps11
  go_wp2_with fail
  have iB := info_blk' hbl
  have hbD : Below w.heap.size w (w.alloc (.cells a.cells.toArray 36)).drew := hb1.drew
  have hCD := hC.below hbD
  have HW := Lib.hid (cd_crash a.pA a.pn a.pc a.pl (ha.p.chg (Chg.of_below hbD []) (by simp)) (fun h b o e => (hp h b o e).1) hCD)
  refine wp_region_held_drew (S := fun w' => w'.heap[w.heap.size]? = some (.cells a.cells.toArray 36)) (by kernel_rfl) hr1 (fun hHeld => ?_)
  refine wpAnyH_take (i := 0) (v := ?_) rfl (by kernel_rfl) (by kernel_rfl) (by kernel_rfl) (fun _ _ _ h => h) (Or.inl ⟨by rfl, ?_⟩) hHeld ?_
  rotate_left
  · intro w hSw; have t1 := AC.cell1 hSw; have t2 := AC.cell2 hSw; have t3 := AC.cell3 hSw; have t4 := AC.cellp hbl hSw; clear hSw; go_simp; try rfl
  simp only [List.getElem_toArray, List.getElem_cons_zero, Act.put, List.setIfInBounds_toArray, List.set_cons_zero, List.set_cons_succ]
  refine wpAnyH_take (i := 1) (v := ?_) rfl (by kernel_rfl) (by kernel_rfl) (by kernel_rfl) (fun _ _ _ h => h) (Or.inl ⟨by rfl, ?_⟩) hHeld ?_
  rotate_left
  · intro w hSw; have t1 := AC.cell1 hSw; have t2 := AC.cell2 hSw; have t3 := AC.cell3 hSw; have t4 := AC.cellp hbl hSw; clear hSw; go_simp; try rfl
  simp only [List.getElem_toArray, List.getElem_cons_zero, List.getElem_cons_succ, Act.put, List.setIfInBounds_toArray, List.set_cons_zero, List.set_cons_succ]
  refine wpAnyH_take (i := 2) (v := ?_) rfl (by kernel_rfl) (by kernel_rfl) (by kernel_rfl) (fun _ _ _ h => h) (Or.inl ⟨by rfl, ?_⟩) hHeld ?_
  rotate_left
  · intro w hSw; have t1 := AC.cell1 hSw; have t2 := AC.cell2 hSw; have t3 := AC.cell3 hSw; have t4 := AC.cellp hbl hSw; clear hSw; go_simp; try rfl
  simp only [List.getElem_toArray, List.getElem_cons_zero, List.getElem_cons_succ, Act.put, List.setIfInBounds_toArray, List.set_cons_zero, List.set_cons_succ]
  refine wpAnyH_take (i := 4) (v := ?_) rfl (by kernel_rfl) (by kernel_rfl) (by kernel_rfl) (fun _ _ _ h => h) (Or.inl ⟨by rfl, ?_⟩) hHeld ?_
  rotate_left
  · intro w hSw; have t1 := AC.cell1 hSw; have t2 := AC.cell2 hSw; have t3 := AC.cell3 hSw; have t4 := AC.cellp hbl hSw; clear hSw; go_simp; try rfl
  simp only [List.getElem_toArray, List.getElem_cons_zero, List.getElem_cons_succ, Act.put, List.setIfInBounds_toArray, List.set_cons_zero, List.set_cons_succ]
  refine wpAnyH_take (i := 5) (v := ?_) rfl (by kernel_rfl) (by kernel_rfl) (by kernel_rfl) (fun _ _ _ h => h) (Or.inl ⟨by rfl, ?_⟩) hHeld ?_
  rotate_left
  · intro w hSw; have t1 := AC.cell1 hSw; have t2 := AC.cell2 hSw; have t3 := AC.cell3 hSw; have t4 := AC.cellp hbl hSw; clear hSw; go_simp; try rfl
  simp only [List.getElem_toArray, List.getElem_cons_zero, List.getElem_cons_succ, Act.put, List.setIfInBounds_toArray, List.set_cons_zero, List.set_cons_succ]
  refine wpAnyH_take (i := 6) (v := ?_) rfl (by kernel_rfl) (by kernel_rfl) (by kernel_rfl) (fun _ _ _ h => h) (Or.inl ⟨by rfl, ?_⟩) hHeld ?_
  rotate_left
  · intro w hSw; have t1 := AC.cell1 hSw; have t2 := AC.cell2 hSw; have t3 := AC.cell3 hSw; have t4 := AC.cellp hbl hSw; clear hSw; go_simp; try rfl
  simp only [List.getElem_toArray, List.getElem_cons_zero, List.getElem_cons_succ, Act.put, List.setIfInBounds_toArray, List.set_cons_zero, List.set_cons_succ]
  refine wpAnyH_ready (rs := [3]) (by kernel_rfl) (by simp) ?_
  refine AllReadyH.cons rfl (fun K hK => ?_) AllReadyH.nil
  rw [if_pos (by rfl)]
  go_simp
  refine HW.out.mono ?_
  rintro e w2 ⟨F2, rfl, hC2, c2, u2⟩
  have hR2 := (hR.below hbD).keep (c2.same hA (hR.there.mono hbD.size))
  have hs1 : w.heap.size < (w.alloc (.cells a.cells.toArray 36)).drew.heap.size := Nat.lt_of_lt_of_eq (Nat.lt_succ_self _) (World.size_alloc w _).symm
  have x1 := (c2.block w.heap.size hs1 (fun hm => Nat.lt_irrefl _ (hC.there _ hm))).trans hHeld
  refine hK.out _ _ x1 (fun hHeld => ?_)
  clear hK K
  refine wpAnyH_ready (rs := [7]) (by kernel_rfl) (by simp) ?_
  refine AllReadyH.cons rfl (fun K hK => ?_) AllReadyH.nil
  rw [if_pos (by rfl)]
  go_simp
  refine (rd_crash a.pA a.pn a.pc a.pl (ha.p.chg ((Chg.of_below hbD F).trans c2 (Sub.refl _ _)) (fun h b o e => (hp h b o e).1)) (fun h b o e => (hp h b o e).2) hR2).mono ?_
  rintro e w3 ⟨G3, rfl, hR3, c3, u3⟩
  obtain ⟨sF, aFG, cH, sF3, sG3⟩ := two_done (H := F ++ G) hbD hC.there hR.there hA c2 u2 hC2.there c3 u3 (fun k hk => List.mem_append_left _ hk) (fun k hk => List.mem_append_right _ hk)
  have hC3 := hC2.keep sF
  have x3 := (c3.block w.heap.size (Nat.lt_of_lt_of_le hs1 c2.size) (fun hm => Nat.lt_irrefl _ (hR.there _ hm))).trans hHeld
  refine hK.out _ _ x3 (fun hHeld => ?_)
  clear hK K
  refine wpAnyH_ready (rs := [8]) (by kernel_rfl) (by simp) ?_
  refine AllReadyH.cons rfl (fun K hK => ?_) AllReadyH.nil
  rw [if_pos (by rfl)]
  go_simp
  refine hK.out _ _ hHeld (fun hHeld => ?_)
  clear hK K
  refine wpAnyH_take (i := 9) (v := ?_) rfl (by kernel_rfl) (by kernel_rfl) (by kernel_rfl) (fun _ _ _ h => h) (Or.inl ⟨by rfl, ?_⟩) hHeld ?_
  rotate_left
  · intro w hSw; have t1 := AC.cell1 hSw; have t2 := AC.cell2 hSw; have t3 := AC.cell3 hSw; have t4 := AC.cellp hbl hSw; clear hSw; go_simp; try rfl
  simp only [List.getElem_toArray, List.getElem_cons_zero, List.getElem_cons_succ, Act.put, List.setIfInBounds_toArray, List.set_cons_zero, List.set_cons_succ]
  refine wpAnyH_done (by kernel_rfl) ?_ _
  clear HW hr1 x1 x3 hHeld c2 c3 u2 u3 hR2 hC2
  go_wp2_with fail
  go_ret
  exact ⟨F2, G3, rfl, hC3, hR3, aFG, cH, sF3, sG3⟩
set_option maxHeartbeats 2000000 in
set_option maxRecDepth 100000 in
theorem both6 (a : AC) (ha : a.Ok w) (k0 : ¬ a.kind = 0) (k1 : ¬ a.kind = 1) (k2 : ¬ a.kind = 2) (k3 : ¬ a.kind = 3) (k4 : ¬ a.kind = 4) (k5 : ¬ a.kind = 5) (hC : CD w F d s) (hR : RD w G r s) (hA : Apt F G) : Calls Try.prog 11 #[d, r, .agg a.cells.toArray] w fun e w' =>
    ∃ F' G', e = .returned (.bool true) ∧ CD w' F' d (dk.rot s a.n a.at_ a.x).2 ∧ RD w' G' r (dk.rot s a.n a.at_ a.x).2 ∧ Apt F' G' ∧ Chg w w' (F ++ G) ∧ Sub w F' (F ++ G) ∧ Sub w G' (F ++ G) := by
  have uB := Try.underlying33
  obtain ⟨p, rfl⟩ := hC.form
  obtain ⟨p', rfl⟩ := hR.form
  have hbl := ha.b
  have hlen := a.length hbl
  have hb1 : Below w.heap.size w (w.alloc (.cells a.cells.toArray 36)) := (Below.refl _ _).alloc (Nat.le_refl _) _
  have hr1 := heap_alloc_new w (.cells a.cells.toArray 36)
  have e0 : a.cells[0] = .int .i64 a.kind := rfl
  have e1 : a.cells[1] = .int .i64 a.n := rfl
  have e2 : a.cells[2] = .int .i64 a.at_ := rfl
  have e3 : a.cells[3] = bv a.x := rfl
  have e132 : a.cells[132] = .slice a.pA a.pn a.pc := a.last hbl
  go_enter Try.func11, Try.ntmps11
  go_wp2_with fail
  have iB := info_blk' hbl
  have hbD : Below w.heap.size w (w.alloc (.cells a.cells.toArray 36)).drew := hb1.drew
  have hCD := hC.below hbD
  have HW := Lib.hid (cd_rot a.n a.at_ a.x hCD)
  refine wp_region_held_drew (S := fun w' => w'.heap[w.heap.size]? = some (.cells a.cells.toArray 36)) (by kernel_rfl) hr1 (fun hHeld => ?_)
  refine wpAnyH_take (i := 0) (v := ?_) rfl (by kernel_rfl) (by kernel_rfl) (by kernel_rfl) (fun _ _ _ h => h) (Or.inl ⟨by rfl, ?_⟩) hHeld ?_
  rotate_left
  · intro w hSw; have t1 := AC.cell1 hSw; have t2 := AC.cell2 hSw; have t3 := AC.cell3 hSw; have t4 := AC.cellp hbl hSw; clear hSw; go_simp; try rfl
  simp only [List.getElem_toArray, List.getElem_cons_zero, Act.put, List.setIfInBounds_toArray, List.set_cons_zero, List.set_cons_succ]
  refine wpAnyH_take (i := 1) (v := ?_) rfl (by kernel_rfl) (by kernel_rfl) (by kernel_rfl) (fun _ _ _ h => h) (Or.inl ⟨by rfl, ?_⟩) hHeld ?_
  rotate_left
  · intro w hSw; have t1 := AC.cell1 hSw; have t2 := AC.cell2 hSw; have t3 := AC.cell3 hSw; have t4 := AC.cellp hbl hSw; clear hSw; go_simp; try rfl
  simp only [List.getElem_toArray, List.getElem_cons_zero, List.getElem_cons_succ, Act.put, List.setIfInBounds_toArray, List.set_cons_zero, List.set_cons_succ]
  refine wpAnyH_take (i := 2) (v := ?_) rfl (by kernel_rfl) (by kernel_rfl) (by kernel_rfl) (fun _ _ _ h => h) (Or.inl ⟨by rfl, ?_⟩) hHeld ?_
  rotate_left
  · intro w hSw; have t1 := AC.cell1 hSw; have t2 := AC.cell2 hSw; have t3 := AC.cell3 hSw; have t4 := AC.cellp hbl hSw; clear hSw; go_simp; try rfl
  simp only [List.getElem_toArray, List.getElem_cons_zero, List.getElem_cons_succ, Act.put, List.setIfInBounds_toArray, List.set_cons_zero, List.set_cons_succ]
  refine wpAnyH_take (i := 3) (v := ?_) rfl (by kernel_rfl) (by kernel_rfl) (by kernel_rfl) (fun _ _ _ h => h) (Or.inl ⟨by rfl, ?_⟩) hHeld ?_
  rotate_left
  · intro w hSw; have t1 := AC.cell1 hSw; have t2 := AC.cell2 hSw; have t3 := AC.cell3 hSw; have t4 := AC.cellp hbl hSw; clear hSw; go_simp; try rfl
  simp only [List.getElem_toArray, List.getElem_cons_zero, List.getElem_cons_succ, Act.put, List.setIfInBounds_toArray, List.set_cons_zero, List.set_cons_succ]
  refine wpAnyH_take (i := 4) (v := ?_) rfl (by kernel_rfl) (by kernel_rfl) (by kernel_rfl) (fun _ _ _ h => h) (Or.inl ⟨by rfl, ?_⟩) hHeld ?_
  rotate_left
  · intro w hSw; have t1 := AC.cell1 hSw; have t2 := AC.cell2 hSw; have t3 := AC.cell3 hSw; have t4 := AC.cellp hbl hSw; clear hSw; go_simp; try rfl
  simp only [List.getElem_toArray, List.getElem_cons_zero, List.getElem_cons_succ, Act.put, List.setIfInBounds_toArray, List.set_cons_zero, List.set_cons_succ]
  refine wpAnyH_take (i := 5) (v := ?_) rfl (by kernel_rfl) (by kernel_rfl) (by kernel_rfl) (fun _ _ _ h => h) (Or.inl ⟨by rfl, ?_⟩) hHeld ?_
  rotate_left
  · intro w hSw; have t1 := AC.cell1 hSw; have t2 := AC.cell2 hSw; have t3 := AC.cell3 hSw; have t4 := AC.cellp hbl hSw; clear hSw; go_simp; try rfl
  simp only [List.getElem_toArray, List.getElem_cons_zero, List.getElem_cons_succ, Act.put, List.setIfInBounds_toArray, List.set_cons_zero, List.set_cons_succ]
  refine wpAnyH_take (i := 6) (v := ?_) rfl (by kernel_rfl) (by kernel_rfl) (by kernel_rfl) (fun _ _ _ h => h) (Or.inl ⟨by rfl, ?_⟩) hHeld ?_
  rotate_left
  · intro w hSw; have t1 := AC.cell1 hSw; have t2 := AC.cell2 hSw; have t3 := AC.cell3 hSw; have t4 := AC.cellp hbl hSw; clear hSw; go_simp; try rfl
  simp only [List.getElem_toArray, List.getElem_cons_zero, List.getElem_cons_succ, Act.put, List.setIfInBounds_toArray, List.set_cons_zero, List.set_cons_succ]
  refine wpAnyH_take (i := 8) (v := ?_) rfl (by kernel_rfl) (by kernel_rfl) (by kernel_rfl) (fun _ _ _ h => h) (Or.inl ⟨by rfl, ?_⟩) hHeld ?_
  rotate_left
  · intro w hSw; have t1 := AC.cell1 hSw; have t2 := AC.cell2 hSw; have t3 := AC.cell3 hSw; have t4 := AC.cellp hbl hSw; clear hSw; go_simp; try rfl
  simp only [List.getElem_toArray, List.getElem_cons_zero, List.getElem_cons_succ, Act.put, List.setIfInBounds_toArray, List.set_cons_zero, List.set_cons_succ]
  refine wpAnyH_take (i := 9) (v := ?_) rfl (by kernel_rfl) (by kernel_rfl) (by kernel_rfl) (fun _ _ _ h => h) (Or.inl ⟨by rfl, ?_⟩) hHeld ?_
  rotate_left
  · intro w hSw; have t1 := AC.cell1 hSw; have t2 := AC.cell2 hSw; have t3 := AC.cell3 hSw; have t4 := AC.cellp hbl hSw; clear hSw; go_simp; try rfl
  simp only [List.getElem_toArray, List.getElem_cons_zero, List.getElem_cons_succ, Act.put, List.setIfInBounds_toArray, List.set_cons_zero, List.set_cons_succ]
  refine wpAnyH_take (i := 10) (v := ?_) rfl (by kernel_rfl) (by kernel_rfl) (by kernel_rfl) (fun _ _ _ h => h) (Or.inl ⟨by rfl, ?_⟩) hHeld ?_
  rotate_left
  · intro w hSw; have t1 := AC.cell1 hSw; have t2 := AC.cell2 hSw; have t3 := AC.cell3 hSw; have t4 := AC.cellp hbl hSw; clear hSw; go_simp; try rfl
  simp only [List.getElem_toArray, List.getElem_cons_zero, List.getElem_cons_succ, Act.put, List.setIfInBounds_toArray, List.set_cons_zero, List.set_cons_succ]
  refine wpAnyH_take (i := 11) (v := ?_) rfl (by kernel_rfl) (by kernel_rfl) (by kernel_rfl) (fun _ _ _ h => h) (Or.inl ⟨by rfl, ?_⟩) hHeld ?_
  rotate_left
  · intro w hSw; have t1 := AC.cell1 hSw; have t2 := AC.cell2 hSw; have t3 := AC.cell3 hSw; have t4 := AC.cellp hbl hSw; clear hSw; go_simp; try rfl
  simp only [List.getElem_toArray, List.getElem_cons_zero, List.getElem_cons_succ, Act.put, List.setIfInBounds_toArray, List.set_cons_zero, List.set_cons_succ]
  refine wpAnyH_take (i := 12) (v := ?_) rfl (by kernel_rfl) (by kernel_rfl) (by kernel_rfl) (fun _ _ _ h => h) (Or.inl ⟨by rfl, ?_⟩) hHeld ?_
  rotate_left
  · intro w hSw; have t1 := AC.cell1 hSw; have t2 := AC.cell2 hSw; have t3 := AC.cell3 hSw; have t4 := AC.cellp hbl hSw; clear hSw; go_simp; try rfl
  simp only [List.getElem_toArray, List.getElem_cons_zero, List.getElem_cons_succ, Act.put, List.setIfInBounds_toArray, List.set_cons_zero, List.set_cons_succ]
  refine wpAnyH_take (i := 13) (v := ?_) rfl (by kernel_rfl) (by kernel_rfl) (by kernel_rfl) (fun _ _ _ h => h) (Or.inl ⟨by rfl, ?_⟩) hHeld ?_
  rotate_left
  · intro w hSw; have t1 := AC.cell1 hSw; have t2 := AC.cell2 hSw; have t3 := AC.cell3 hSw; have t4 := AC.cellp hbl hSw; clear hSw; go_simp; try rfl
  simp only [List.getElem_toArray, List.getElem_cons_zero, List.getElem_cons_succ, Act.put, List.setIfInBounds_toArray, List.set_cons_zero, List.set_cons_succ]
  refine wpAnyH_take (i := 14) (v := ?_) rfl (by kernel_rfl) (by kernel_rfl) (by kernel_rfl) (fun _ _ _ h => h) (Or.inl ⟨by rfl, ?_⟩) hHeld ?_
  rotate_left
  · intro w hSw; have t1 := AC.cell1 hSw; have t2 := AC.cell2 hSw; have t3 := AC.cell3 hSw; have t4 := AC.cellp hbl hSw; clear hSw; go_simp; try rfl
  simp only [List.getElem_toArray, List.getElem_cons_zero, List.getElem_cons_succ, Act.put, List.setIfInBounds_toArray, List.set_cons_zero, List.set_cons_succ]
  refine wpAnyH_ready (rs := [7]) (by kernel_rfl) (by simp) ?_
  refine AllReadyH.cons rfl (fun K hK => ?_) AllReadyH.nil
  rw [if_pos (by rfl)]
  go_simp
  refine HW.out.mono ?_
  rintro e w2 ⟨F2, rfl, hC2, c2, u2⟩
  have hR2 := (hR.below hbD).keep (c2.same hA (hR.there.mono hbD.size))
  have hs1 : w.heap.size < (w.alloc (.cells a.cells.toArray 36)).drew.heap.size := Nat.lt_of_lt_of_eq (Nat.lt_succ_self _) (World.size_alloc w _).symm
  have x1 := (c2.block w.heap.size hs1 (fun hm => Nat.lt_irrefl _ (hC.there _ hm))).trans hHeld
  refine hK.out _ _ x1 (fun hHeld => ?_)
  clear hK K
  refine wpAnyH_ready (rs := [15]) (by kernel_rfl) (by simp) ?_
  refine AllReadyH.cons rfl (fun K hK => ?_) AllReadyH.nil
  rw [if_pos (by rfl)]
  go_simp
  refine (rd_rot a.n a.at_ a.x hR2).mono ?_
  rintro e w3 ⟨G3, rfl, hR3, c3, u3⟩
  obtain ⟨sF, aFG, cH, sF3, sG3⟩ := two_done (H := F ++ G) hbD hC.there hR.there hA c2 u2 hC2.there c3 u3 (fun k hk => List.mem_append_left _ hk) (fun k hk => List.mem_append_right _ hk)
  have hC3 := hC2.keep sF
  have x3 := (c3.block w.heap.size (Nat.lt_of_lt_of_le hs1 c2.size) (fun hm => Nat.lt_irrefl _ (hR.there _ hm))).trans hHeld
  refine hK.out _ _ x3 (fun hHeld => ?_)
  clear hK K
  refine wpAnyH_ready (rs := [16]) (by kernel_rfl) (by simp) ?_
  refine AllReadyH.cons rfl (fun K hK => ?_) AllReadyH.nil
  rw [if_pos (by rfl)]
  go_simp
  refine hK.out _ _ hHeld (fun hHeld => ?_)
  clear hK K
  refine wpAnyH_take (i := 17) (v := ?_) rfl (by kernel_rfl) (by kernel_rfl) (by kernel_rfl) (fun _ _ _ h => h) (Or.inl ⟨by rfl, ?_⟩) hHeld ?_
  rotate_left
  · intro w hSw; have t1 := AC.cell1 hSw; have t2 := AC.cell2 hSw; have t3 := AC.cell3 hSw; have t4 := AC.cellp hbl hSw; clear hSw; go_simp; try rfl
  simp only [List.getElem_toArray, List.getElem_cons_zero, List.getElem_cons_succ, Act.put, List.setIfInBounds_toArray, List.set_cons_zero, List.set_cons_succ]
  refine wpAnyH_done (by kernel_rfl) ?_ _
  clear HW hr1 x1 x3 hHeld c2 c3 u2 u3 hR2 hC2
  go_wp2_with fail
  go_ret
  exact ⟨F2, G3, rfl, hC3, hR3, aFG, cH, sF3, sG3⟩
set_option maxHeartbeats 2000000 in
set_option maxRecDepth 100000 in
theorem both2 (a : AC) (ha : a.Ok w) (hk : a.kind = 2) (hC : CD w F d s) (hR : RD w G r s) (hA : Apt F G) (hf : s.Few) : Calls Try.prog 11 #[d, r, .agg a.cells.toArray] w fun e w' =>
    ∃ F' G', e = .returned (.bool true) ∧ CD w' F' d (dk.flush s).2 ∧ RD w' G' r (dk.flush s).2 ∧ Apt F' G' ∧ Chg w w' (F ++ G) ∧ Sub w F' (F ++ G) ∧ Sub w G' (F ++ G) := by
  obtain ⟨p, rfl⟩ := hC.form
  obtain ⟨p', rfl⟩ := hR.form
  have hbl := ha.b
  have hlen := a.length hbl
  have hbD : Below w.heap.size w (w.alloc (.cells a.cells.toArray 36)) := (Below.refl _ _).alloc (Nat.le_refl _) _
  have hr1 := heap_alloc_new w (.cells a.cells.toArray 36)
  have e0 : a.cells[0] = .int .i64 2 := by rw [← hk]; rfl
  have e1 : a.cells[1] = .int .i64 a.n := rfl
  have hok := hC.ok
  have hsF : ∀ k ∈ F, k ∈ F ++ G := fun k hk => List.mem_append_left _ hk
  have hsG : ∀ k ∈ G, k ∈ F ++ G := fun k hk => List.mem_append_right _ hk
  have hCD := hC.below hbD
  have hRD := hR.below hbD
  have HW := Lib.hid (cd_flush hCD hf)
  go_enter Try.func11, Try.ntmps11
  go_wp2_with fail
  refine HW.out.mono ?_
  rintro e w2 ⟨F2, rfl, hC2, c2, u2⟩
  have hR2 := hRD.keep (c2.same hA hRD.there)
  go_wp2_with fail
  refine (rd_flush hR2 hf).mono ?_
  rintro e w3 ⟨G3, rfl, hR3, c3, u3⟩
  obtain ⟨sF, aFG, cH, sF3, sG3⟩ := two_done (H := F ++ G) hbD hC.there hR.there hA c2 u2 hC2.there c3 u3 hsF hsG
  have hC3 := hC2.keep sF
  clear HW hr1 c2 c3 u2 u3 hR2 hC2
  go_wp2_with fail
  go_ret
  exact ⟨F2, G3, rfl, hC3, hR3, aFG, cH, sF3, sG3⟩
set_option maxHeartbeats 2000000 in
set_option maxRecDepth 100000 in
theorem both1 (a : AC) (ha : a.Ok w) (hk : a.kind = 1) (hC : CD w F d s) (hR : RD w G r s) (hA : Apt F G) : Calls Try.prog 11 #[d, r, .agg a.cells.toArray] w fun e w' =>
    ∃ F' G', e = .returned (.bool true) ∧ CD w' F' d s ∧ RD w' G' r s ∧ Apt F' G' ∧ Chg w w' (F ++ G) ∧ Sub w F' (F ++ G) ∧ Sub w G' (F ++ G) := by
  obtain ⟨p, rfl⟩ := hC.form
  obtain ⟨p', rfl⟩ := hR.form
  have hbl := ha.b
  have hlen := a.length hbl
  have hbD : Below w.heap.size w (w.alloc (.cells a.cells.toArray 36)) := (Below.refl _ _).alloc (Nat.le_refl _) _
  have hr1 := heap_alloc_new w (.cells a.cells.toArray 36)
  have e0 : a.cells[0] = .int .i64 1 := by rw [← hk]; rfl
  have e1 : a.cells[1] = .int .i64 a.n := rfl
  have hok := hC.ok
  have hsF : ∀ k ∈ F, k ∈ F ++ G := fun k hk => List.mem_append_left _ hk
  have hsG : ∀ k ∈ G, k ∈ F ++ G := fun k hk => List.mem_append_right _ hk
  have hCD := hC.below hbD
  have hRD := hR.below hbD
  obtain ⟨hz, -⟩ := zero_of_info zero_blk
  obtain ⟨⟨x, ex⟩, hx⟩ : ∃ q, dk.read s a.n = q := ⟨_, rfl⟩
  have hxl := dk.read_len5 hok a.n
  rw [hx] at hxl
  simp only at hxl
  have eX := eq_blk x x hxl hxl
  rw [decide_eq_true rfl] at eX
  have c1 := cd_read a.n hCD
  rw [hx] at c1
  have HW := Lib.hid c1
  clear c1
  go_enter Try.func11, Try.ntmps11
  go_wp2_with fail
  refine HW.out.mono ?_
  rintro e w2 ⟨rfl, hb2⟩
  have hC2 := hCD.below hb2
  have hR2 := hRD.below hb2
  have hbb2 := hbD.trans (hb2.mono hbD.size)
  have hq2 := (hb2.block _ (Array.getElem?_eq_some_iff.1 hr1).1).trans hr1
  have hr2 := heap_alloc_new w2 (.cells (dk.cells dk.zero).toArray 33)
  clear hCD hRD hb2
  go_wp2_with (refine wp_st0 (.tmp 7) (.tmp 39) x hr2 zero_len hxl rfl rfl rfl rfl ?_; intro w3 hW3 hc3; have hb3 := new_chg hc3; have hC3 := hC2.below hb3; have hR3 := hR2.below hb3; have hbb3 := hbb2.trans (hb3.mono hbb2.size); have hq3 := AC.cell1 ((hb3.block _ (Array.getElem?_eq_some_iff.1 hq2).1).trans hq2); clear hr1 hq2 hr2 hb3 hbb2 hc3)
  have c2 := rd_read a.n hR3
  rw [hx] at c2
  refine c2.mono ?_
  rintro e w4 ⟨rfl, hb4⟩
  have hC4 := hC3.below hb4
  have hR4 := hR3.below hb4
  have hbb4 := hbb3.trans (hb4.mono hbb3.size)
  have hX4 := (hb4.block _ (Array.getElem?_eq_some_iff.1 hW3).1).trans hW3
  have hr4 := heap_alloc_new w4 (.cells (dk.cells dk.zero).toArray 33)
  clear hW3 hC2 hR2 hC3 hR3 c2 hb4 hq3
  go_wp2_with (first
    | (refine wp_st0 (.tmp 9) (.tmp 46) x hr4 zero_len hxl rfl rfl rfl rfl ?_; intro w5 hW5 hc5; have hb5 := new_chg hc5; have g1 := blk_range ((hb5.block _ (Array.getElem?_eq_some_iff.1 hX4).1).trans hX4); have g2 := blk_range hW5)
    | refine wp_ld (.tmp 7) x g1 hxl rfl rfl rfl ?_
    | refine wp_ld (.tmp 9) x g2 hxl rfl rfl rfl ?_)
  go_ret
  have hbb5 := hbb4.trans (hb5.mono hbb4.size)
  exact ⟨F, G, rfl, hC4.below hb5, hR4.below hb5, hA, Chg.of_below hbb5 _, fun k hk => .inl (hsF k hk), fun k hk => .inl (hsG k hk)⟩
set_option maxHeartbeats 2000000 in
set_option maxRecDepth 100000 in
theorem both5 (a : AC) (ha : a.Ok w) (hk : a.kind = 5) (hC : CD w F d s) (hR : RD w G r s) (hA : Apt F G) : Calls Try.prog 11 #[d, r, .agg a.cells.toArray] w fun e w' =>
    ∃ F' G', e = .returned (.bool true) ∧ CD w' F' d s ∧ RD w' G' r s ∧ Apt F' G' ∧ Chg w w' (F ++ G) ∧ Sub w F' (F ++ G) ∧ Sub w G' (F ++ G) := by
  obtain ⟨p, rfl⟩ := hC.form
  obtain ⟨p', rfl⟩ := hR.form
  have hbl := ha.b
  have hlen := a.length hbl
  have hbD : Below w.heap.size w (w.alloc (.cells a.cells.toArray 36)) := (Below.refl _ _).alloc (Nat.le_refl _) _
  have hr1 := heap_alloc_new w (.cells a.cells.toArray 36)
  have e0 : a.cells[0] = .int .i64 5 := by rw [← hk]; rfl
  have e1 : a.cells[1] = .int .i64 a.n := rfl
  have hok := hC.ok
  have hsF : ∀ k ∈ F, k ∈ F ++ G := fun k hk => List.mem_append_left _ hk
  have hsG : ∀ k ∈ G, k ∈ F ++ G := fun k hk => List.mem_append_right _ hk
  have hCD := hC.below hbD
  have hRD := hR.below hbD
  obtain ⟨hz, -⟩ := zero_of_info zero_blk
  obtain ⟨⟨x, ex⟩, hx⟩ : ∃ q, dk.sure s a.n = q := ⟨_, rfl⟩
  have hxl := dk.sure_len5 hok a.n
  rw [hx] at hxl
  simp only at hxl
  have eX := eq_blk x x hxl hxl
  rw [decide_eq_true rfl] at eX
  have c1 := cd_sure a.n hCD
  rw [hx] at c1
  have HW := Lib.hid c1
  clear c1
  go_enter Try.func11, Try.ntmps11
  go_wp2_with fail
  refine HW.out.mono ?_
  rintro e w2 ⟨rfl, hb2⟩
  have hC2 := hCD.below hb2
  have hR2 := hRD.below hb2
  have hbb2 := hbD.trans (hb2.mono hbD.size)
  have hq2 := (hb2.block _ (Array.getElem?_eq_some_iff.1 hr1).1).trans hr1
  have hr2 := heap_alloc_new w2 (.cells (dk.cells dk.zero).toArray 33)
  clear hCD hRD hb2
  go_wp2_with (refine wp_st0 (.tmp 11) (.tmp 92) x hr2 zero_len hxl rfl rfl rfl rfl ?_; intro w3 hW3 hc3; have hb3 := new_chg hc3; have hC3 := hC2.below hb3; have hR3 := hR2.below hb3; have hbb3 := hbb2.trans (hb3.mono hbb2.size); have hq3 := AC.cell1 ((hb3.block _ (Array.getElem?_eq_some_iff.1 hq2).1).trans hq2); clear hr1 hq2 hr2 hb3 hbb2 hc3)
  have c2 := rd_sure a.n hR3
  rw [hx] at c2
  refine c2.mono ?_
  rintro e w4 ⟨rfl, hb4⟩
  have hC4 := hC3.below hb4
  have hR4 := hR3.below hb4
  have hbb4 := hbb3.trans (hb4.mono hbb3.size)
  have hX4 := (hb4.block _ (Array.getElem?_eq_some_iff.1 hW3).1).trans hW3
  have hr4 := heap_alloc_new w4 (.cells (dk.cells dk.zero).toArray 33)
  clear hW3 hC2 hR2 hC3 hR3 c2 hb4 hq3
  go_wp2_with (first
    | (refine wp_st0 (.tmp 13) (.tmp 99) x hr4 zero_len hxl rfl rfl rfl rfl ?_; intro w5 hW5 hc5; have hb5 := new_chg hc5; have g1 := blk_range ((hb5.block _ (Array.getElem?_eq_some_iff.1 hX4).1).trans hX4); have g2 := blk_range hW5)
    | refine wp_ld (.tmp 11) x g1 hxl rfl rfl rfl ?_
    | refine wp_ld (.tmp 13) x g2 hxl rfl rfl rfl ?_)
  go_ret
  have hbb5 := hbb4.trans (hb5.mono hbb4.size)
  exact ⟨F, G, rfl, hC4.below hb5, hR4.below hb5, hA, Chg.of_below hbb5 _, fun k hk => .inl (hsF k hk), fun k hk => .inl (hsG k hk)⟩
/-- what a disk is behind an act -/
def AC.does (a : AC) (s : dk.St) : dk.St :=
  if a.kind = 0 then (dk.write s a.n a.b).2 else if a.kind = 1 then s else if a.kind = 2 then (dk.flush s).2 else if a.kind = 3 then (dk.arm s a.n).2 else if a.kind = 4 then dk.crash s a.pl else if a.kind = 5 then s else (dk.rot s a.n a.at_ a.x).2
theorem both_any (a : AC) (ha : a.Ok w) (hC : CD w F d s) (hR : RD w G r s) (hA : Apt F G) (hf : s.Few) (hp : 0 < a.pn → ∀ b o, a.pA = some ⟨b, o, none⟩ → b ∉ F ∧ b ∉ G) : Calls Try.prog 11 #[d, r, .agg a.cells.toArray] w fun e w' =>
    ∃ F' G', e = .returned (.bool true) ∧ CD w' F' d (a.does s) ∧ RD w' G' r (a.does s) ∧ Apt F' G' ∧ Chg w w' (F ++ G) ∧ Sub w F' (F ++ G) ∧ Sub w G' (F ++ G) := by
  unfold AC.does
  by_cases k0 : a.kind = 0
  · rw [if_pos k0]; exact both0 a ha k0 hC hR hA hf
  rw [if_neg k0]
  by_cases k1 : a.kind = 1
  · rw [if_pos k1]; exact both1 a ha k1 hC hR hA
  rw [if_neg k1]
  by_cases k2 : a.kind = 2
  · rw [if_pos k2]; exact both2 a ha k2 hC hR hA hf
  rw [if_neg k2]
  by_cases k3 : a.kind = 3
  · rw [if_pos k3]; exact both3 a ha k3 hC hR hA
  rw [if_neg k3]
  by_cases k4 : a.kind = 4
  · rw [if_pos k4]; exact both4 a ha k4 hC hR hA hp
  rw [if_neg k4]
  by_cases k5 : a.kind = 5
  · rw [if_pos k5]; exact both5 a ha k5 hC hR hA
  rw [if_neg k5]
  exact both6 a ha k0 k1 k2 k3 k4 k5 hC hR hA
/-- an act does one step at most, and leaves one write more at most -/
theorem AC.does_few (a : AC) (s : dk.St) : (a.does s).many ≤ s.many + 1 ∧ (a.does s).L.length ≤ s.L.length + 1 := by
  have hst : (dk.step s).2.many ≤ s.many + 1 ∧ (dk.step s).2.L = s.L := by
    unfold dk.step
    split
    · exact ⟨by simp only; omega, rfl⟩
    · exact ⟨Int.le_refl _, rfl⟩
  obtain ⟨m1, m2⟩ := hst
  unfold AC.does
  split
  · unfold dk.write
    split
    · split
      · exact ⟨m1, by simp⟩
      · simp only; rw [m2]; exact ⟨m1, by omega⟩
    · simp; omega
  split
  · constructor <;> omega
  split
  · unfold dk.flush
    split
    · simp; omega
    · split
      · exact ⟨m1, by simp⟩
      · simp only; rw [m2]; exact ⟨m1, by omega⟩
  split
  · unfold dk.arm
    split
    · simp; omega
    · split <;> simp <;> omega
  split
  · simp [dk.crash]; omega
  split
  · constructor <;> omega
  · unfold dk.rot
    split <;> simp <;> omega
end Go.Proofs.Ytajdeoackpfhoaa
