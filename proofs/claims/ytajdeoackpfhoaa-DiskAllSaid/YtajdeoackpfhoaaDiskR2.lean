/-
  contracts of cardexref04.Disk's methods that write blocks: Write, Flush, Rot, Torn, Crash; New.
-/
import Derived.Test.YtajdeoackpfhoaaDiskR
import Derived.Deep.AppendLies
import Derived.Deep.RegionHeldLaw
import Derived.Great.BuildSlice
namespace Go.Proofs.Ytajdeoackpfhoaa
open Go.RowKit
variable {w : World} {p g c : Nat} {r : List Value} {v : Value} {s : dk.St}

theorem info_put : (Try.prog.info? 71).map (fun i => (i.zero, i.size, i.bytes)) = some (some (.agg (dk.put (0, dk.zero)).toArray), 129, 136) := by kernel_rfl

theorem put_zero : ∀ w, (zeroValue 71).run Try.prog w = .ok (.agg (dk.put (0, dk.zero)).toArray) w := fun w => by
  cases hq : Try.prog.info? 71 with
  | none => have := info_put; simp [hq] at this
  | some i =>
    have := info_put
    simp only [hq, Option.map_some, Option.some.injEq, Prod.mk.injEq] at this
    simp [zeroValue, typeInfo, hq, this.1]

theorem info_parts3 {e : TypeId} {z : Value} {sz bt : Nat} (h : (Try.prog.info? e).map (fun i => (i.zero, i.size, i.bytes)) = some (some z, sz, bt)) : ∃ i, Try.prog.info? e = some i ∧ i.zero = some z ∧ i.size = sz ∧ i.bytes = bt := by
  cases hq : Try.prog.info? e with
  | none => simp [hq] at h
  | some i =>
    simp only [hq, Option.map_some, Option.some.injEq, Prod.mk.injEq] at h
    exact ⟨i, rfl, h.1, h.2.1, h.2.2⟩

/-- one write is appended, at a step of a region that draws -/
theorem step_put {ops : Array Oper} {o : Oper} {a : Act} {W : World} {K : Act → World → Prop} {Q : Exit → Act → World → Prop} {E0 : Prop} (x y : Operand) {v : Value} {n : Nat} {xs : List Value} {B : Nat} {PB : Array Value}
    (hown : W.ownsRow 0 71 129 v n xs) (hB : W.heap[B]? = some (.cells PB 71 (0, 0))) (hps : PB.size = 129) (hone : ∀ u ∈ PB.toList, u.oneCell' = true) (hn : n ≤ 1048576) (hgd : o.guard = none)
    (ho : o.op = .call { callee := .builtin .append, args := #[x, y], argTypes := #[62, 62] }) (hx : a.eval x = v) (hy : a.eval y = .slice (some ⟨B, 0, none⟩) 1 1)
    (h : ∀ g cap W', W'.ownsRow 0 71 129 (.slice (some ⟨g, 0, none⟩) (n + 1) cap) (n + 1) (xs ++ PB.toList) → W.grownBy W' v.ownBlock → (v.ownBlock = some g ∨ g = W.heap.size) → g < W'.heap.size → K (a.put o.dst (.slice (some ⟨g, 0, none⟩) (n + 1) cap)) W') :
    if Region.wanted o (yielded ops a.tmps) = true then Oper.wp Try.prog o a W K Q else E0 := by
  obtain ⟨i0, hi0, hz0, hs0, hb0⟩ := info_parts3 info_put
  exact step_append_lies W hgd x y 62 ho 0 71 i0 _ 129 136 Try.underlying62 hi0 hz0 hs0 hb0 (dk.put_size (0, dk.zero) zero_len) (by omega) v n xs hx hown ⟨B, 0, none⟩ 1 1 PB.toList hy (by simp [hps]) (World.news_of_block hB) hone (by omega) (by rw [maxLen_eq]; omega) (by omega) (Nat.zero_le _) _ rfl h

set_option maxHeartbeats 4000000 in
set_option maxRecDepth 100000 in
theorem rwrite_any (n : Int) (b : dk.Blk) (hb : b.length = 128) (h : RM w p g c r v s) (hm : s.many < 4611686018427387904) (hl : s.L.length ≤ 1048576) : Calls Try.prog 26 #[.pointer (some ⟨p, 0, none⟩), .int .i64 n, dk.val b] w fun e w' =>
    ∃ v', e = .returned (.int .i64 (dk.write s n b).1) ∧ RM w' p g c r v' (dk.write s n b).2 ∧ Chg w w' (dk.fp p g v) ∧ Sub w (dk.fp p g v') (dk.fp p g v) := by
  have h1 := h.alloc (.cells (dk.cells b).toArray 33)
  have hrow := heap_alloc_new w (.cells (dk.cells b).toArray 33)
  have ha := rasks_any n h1
  obtain ⟨q, hq⟩ : ∃ q, dk.asks s n = q := ⟨_, rfl⟩
  rw [hq] at ha
  have HA := Lib.hid ha
  by_cases h0 : q = 0
  · subst h0
    have hs := Lib.hid (rstep_any h1 hm)
    by_cases hc : s.cut = 1
    · have hst1 : (dk.step s).1 = 9 := by rw [dk.step, if_pos hc]
      have hwr : dk.write s n b = (9, (dk.step s).2) := by rw [dk.write, if_pos hq, if_neg (by rw [hst1]; omega)]
      have HW := Lib.hid hwr
      rw [hst1] at hs
      clear ha hq hst1 hwr
      go_enter Try.func26, Try.ntmps26
      go_wp2_with fail
      refine HA.out.mono ?_
      rintro e w1 ⟨rfl, rfl⟩
      go_wp2_with fail
      refine hs.out.mono ?_
      rintro e w2 ⟨rfl, hM, hC⟩
      go_wp2_with fail
      go_ret
      exact ⟨v, ret_int (by rw [HW.out]), by rw [HW.out]; exact hM, ((Chg.alloc w _ [p]).trans hC (Sub.refl _ _)).mono (fun k hk => .inl (by simp [dk.fp] at hk ⊢; simp [hk])), Sub.refl _ _⟩
    · have hst1 : (dk.step s).1 = 0 := by rw [dk.step, if_neg hc]
      rw [hst1] at hs
      clear ha
      go_enter Try.func26, Try.ntmps26
      go_wp2_with fail
      refine HA.out.mono ?_
      rintro e w1 ⟨rfl, rfl⟩
      go_wp2_with fail
      refine hs.out.mono ?_
      rintro e w2 ⟨rfl, hM, hC⟩
      go_wp2_with fail
      have hP : w2.heap[w.heap.size]? = some (.cells (dk.cells b).toArray 33 (0, 0)) := by
        rw [hC.block _ (by simp) (by have := h.there p (by simp [dk.fp]); simp; omega)]
        exact hrow
      have rg := blk_range hP
      have c1 := hM.c1
      have f1 := hM.fz 1
      have uB := Try.underlying33
      have iB := info_blk' hb
      have hne : p ≠ w.heap.size := by have := h.there p (by simp [dk.fp]); omega
      obtain ⟨Z, hZ⟩ : ∃ Z : Array Value, Z = (dk.put (0, dk.zero)).toArray := ⟨_, rfl⟩
      obtain ⟨PB, hPB⟩ : ∃ Z : Array Value, Z = (dk.put (n, b)).toArray := ⟨_, rfl⟩
      have zp := put_zero
      have zs : Z.size = 129 := by rw [hZ]; exact dk.put_size _ zero_len
      have zn : ¬ Z = #[] := fun e => by rw [e] at zs; simp at zs
      have zf : List.foldl (fun (c : Array Value) (x : Value × Nat) => c.setIfInBounds (1 + x.snd) x.fst) (Z.setIfInBounds 0 (.int .i64 n)) (dk.cells b).zipIdx = PB := by rw [hZ, hPB]; exact dk.build_put n b hb
      rw [← hZ] at zp
      have ps : PB.size = 129 := by rw [hPB]; exact dk.put_size _ hb
      have HPB := Lib.hid hPB
      clear hrow HA hs h1 hZ hPB
      have hPBrow := heap_alloc_new w2.drew (.cells PB 71)
      have hMa := hM.drew.alloc (.cells PB 71)
      have hown := hMa.loose
      have hone : ∀ u ∈ PB.toList, u.oneCell' = true := by
        rw [HPB.out]
        intro u hu
        rw [List.toList_toArray] at hu
        rcases List.mem_cons.1 hu with rfl | hu
        · rfl
        · exact bvs_one b u hu
      have c1a := hMa.c1
      have f1a := hMa.fz 1
      have hpsz : p < (w2.drew.alloc (.cells PB 71)).heap.size := hMa.there p (by simp [dk.fp])
      have hne2 : some p ≠ v.ownBlock := fun e => hM.ne2 e.symm
      have hvw : some w.heap.size ≠ v.ownBlock := fun e => by have := h.there w.heap.size (by simp [dk.fp, ← e]); omega
      have rga := World.rangeAt_alloc (show w2.drew.rangeAt w.heap.size 0 (dk.cells b) from rg) (.cells PB 71)
      rw [dk.step_L] at hown
      refine wp_region_held_drew (S := fun w' => w'.rangeAt w.heap.size 0 (dk.cells b)) (by kernel_rfl) (by simpa using rg) (fun hHeld => ?_)
      refine wpAnyH_take (i := 0) (v := ?_) rfl (by kernel_rfl) (by kernel_rfl) (by kernel_rfl) (fun _ _ _ h => h) (Or.inl ⟨by rfl, ?_⟩) hHeld ?_
      rotate_left
      · intro w _; go_simp; try rfl
      simp only [List.getElem_toArray, List.getElem_cons_zero, Act.put, List.setIfInBounds_toArray, List.set_cons_zero, List.set_cons_succ]
      refine wpAnyH_take (i := 1) (v := ?_) rfl (by kernel_rfl) (by kernel_rfl) (by kernel_rfl) (fun _ _ _ h => h) (Or.inl ⟨by rfl, ?_⟩) hHeld ?_
      rotate_left
      · intro w _; go_simp; try rfl
      simp only [List.getElem_toArray, List.getElem_cons_zero, List.getElem_cons_succ, Act.put, List.setIfInBounds_toArray, List.set_cons_zero, List.set_cons_succ]
      refine wpAnyH_take (i := 2) (v := ?_) rfl (by kernel_rfl) (by kernel_rfl) (by kernel_rfl) (fun _ _ _ h => h) (Or.inl ⟨by rfl, ?_⟩) hHeld ?_
      rotate_left
      · intro w _; go_simp; try rfl
      simp only [List.getElem_toArray, List.getElem_cons_zero, List.getElem_cons_succ, Act.put, List.setIfInBounds_toArray, List.set_cons_zero, List.set_cons_succ]
      refine wpAnyH_take (i := 3) (v := ?_) rfl (by kernel_rfl) (by kernel_rfl) (by kernel_rfl) (fun _ _ _ h => h) (Or.inl ⟨by rfl, ?_⟩) hHeld ?_
      rotate_left
      · intro w _; go_simp; try rfl
      simp only [List.getElem_toArray, List.getElem_cons_zero, List.getElem_cons_succ, Act.put, List.setIfInBounds_toArray, List.set_cons_zero, List.set_cons_succ]
      refine wpAnyH_take (i := 5) (v := ?_) rfl (by kernel_rfl) (by kernel_rfl) (by kernel_rfl) (fun _ _ _ h => h) (Or.inl ⟨by rfl, ?_⟩) hHeld ?_
      rotate_left
      · intro w _; go_simp; try rfl
      simp only [List.getElem_toArray, List.getElem_cons_zero, List.getElem_cons_succ, Act.put, List.setIfInBounds_toArray, List.set_cons_zero, List.set_cons_succ]
      refine wpAnyH_take (i := 6) (v := dk.val b) rfl (by kernel_rfl) (by kernel_rfl) (by kernel_rfl) (fun _ _ _ h => h) (yieldsIf_load_mid (by rfl) 33 (.tmp 5) rfl w.heap.size 0 rfl (dk.cells b) _ (fun w h => h) uB rfl iB) hHeld ?_
      simp only [List.getElem_toArray, List.getElem_cons_zero, List.getElem_cons_succ, Act.put, List.setIfInBounds_toArray, List.set_cons_zero, List.set_cons_succ]
      refine wpAnyH_take (i := 7) (v := ?_) rfl (by kernel_rfl) (by kernel_rfl) (by kernel_rfl) (fun _ _ _ h => h) (Or.inl ⟨by rfl, ?_⟩) hHeld ?_
      rotate_left
      · intro w _; go_simp; try rfl
      simp only [List.getElem_toArray, List.getElem_cons_zero, List.getElem_cons_succ, Act.put, List.setIfInBounds_toArray, List.set_cons_zero, List.set_cons_succ]
      have hS2 := World.rangeAt_alloc hHeld (.cells PB 71)
      obtain ⟨i0, hi0, hz0, hs0, hb0⟩ := info_parts3 info_put
      have hfill := dk.fill_one 129 ((Array.range 129).map fun i => (dk.put (0, dk.zero)).toArray[i % 129]!) PB ps (by simp)
      refine wpAnyH_ready (rs := [4, 8]) (by kernel_rfl) (by simp) ?_
      refine AllReadyH.cons rfl (fun K hK => ?o1) (AllReadyH.cons rfl (fun K hK => ?o2) AllReadyH.nil)
      case' o1 =>
        rw [if_pos (by rfl)]
        go_simp
        refine hK.out _ _ hHeld (fun hHeld => ?_)
        clear hK K
        refine wpAnyH_ready (rs := [8]) (by kernel_rfl) (by simp) ?_
        refine AllReadyH.cons rfl (fun K hK => ?_) AllReadyH.nil
        rw [if_pos (by rfl)]
        refine wp_buildSlice 62 71 1 _ rfl PB i0 _ Try.underlying62 hi0 hz0 (by rw [hs0]; omega) (by rw [hs0]; omega) ?hf ?h
        case' hf => (rw [hs0]; simp only [List.map_toArray, List.map_cons, List.map_nil]; refine dk.fill_one 129 _ PB ps ?_; rw [Array.size_map, Array.size_range])
        simp only [List.getElem_toArray, List.getElem_cons_zero, List.getElem_cons_succ, Act.put, List.setIfInBounds_toArray, List.set_cons_zero, List.set_cons_succ]
        refine hK.out _ _ hS2 (fun hHeld => ?_)
        clear hK K
      case' o2 =>
        rw [if_pos (by rfl)]
        refine wp_buildSlice 62 71 1 _ rfl PB i0 _ Try.underlying62 hi0 hz0 (by rw [hs0]; omega) (by rw [hs0]; omega) ?hf2 ?h2
        case' hf2 => (rw [hs0]; simp only [List.map_toArray, List.map_cons, List.map_nil]; refine dk.fill_one 129 _ PB ps ?_; rw [Array.size_map, Array.size_range])
        simp only [List.getElem_toArray, List.getElem_cons_zero, List.getElem_cons_succ, Act.put, List.setIfInBounds_toArray, List.set_cons_zero, List.set_cons_succ]
        refine hK.out _ _ hS2 (fun hHeld => ?_)
        clear hK K
        refine wpAnyH_ready (rs := [4]) (by kernel_rfl) (by simp) ?_
        refine AllReadyH.cons rfl (fun K hK => ?_) AllReadyH.nil
        rw [if_pos (by rfl)]
        have c1c : (w2.alloc (.cells PB 71)).cell? ⟨p, 1, none⟩ = some v := c1a
        go_simp
        change K _ (w2.drew.alloc (.cells PB 71))
        refine hK.out _ _ hS2 (fun hHeld => ?_)
        clear hK K
      all_goals
        refine wpAnyH_ready (rs := [9]) (by kernel_rfl) (by simp) ?_
        refine AllReadyH.cons rfl (fun K hK => ?_) AllReadyH.nil
        refine step_put (.tmp 24) (.tmp 28) hown hPBrow ps hone hl rfl rfl rfl rfl ?_
        intro gg cap w3 hown3 hg3 hat3 hlt3
        have c13 := (hg3.cell_far ⟨p, 1, none⟩ hpsz hne2).trans c1a
        have f13 := (hg3.frozen_far ⟨p, 1, none⟩ hpsz hne2).trans f1a
        simp only [List.getElem_toArray, List.getElem_cons_zero, List.getElem_cons_succ, Act.put, List.setIfInBounds_toArray, List.set_cons_zero, List.set_cons_succ]
        refine hK.out _ _ (dk.range_grown hS2 hg3 hvw) (fun hHeld => ?_)
        clear hK K
        refine wpAnyH_take (i := 10) (v := ?_) rfl (by kernel_rfl) (by kernel_rfl) (by kernel_rfl) (fun _ _ _ h => h) (Or.inl ⟨by rfl, ?_⟩) hHeld ?_
        rotate_left
        · intro w _; go_simp; try rfl
        simp only [List.getElem_toArray, List.getElem_cons_zero, List.getElem_cons_succ, Act.put, List.setIfInBounds_toArray, List.set_cons_zero, List.set_cons_succ]
        refine wpAnyH_take (i := 11) (v := ?_) rfl (by kernel_rfl) (by kernel_rfl) (by kernel_rfl) (fun _ _ _ h => h) (Or.inl ⟨by rfl, ?_⟩) hHeld ?_
        rotate_left
        · intro w _; go_simp; try rfl
        simp only [List.getElem_toArray, List.getElem_cons_zero, List.getElem_cons_succ, Act.put, List.setIfInBounds_toArray, List.set_cons_zero, List.set_cons_succ]
        refine wpAnyH_ready (rs := [12]) (by kernel_rfl) (by simp) ?_
        refine AllReadyH.cons rfl (fun K hK => ?_) AllReadyH.nil
        rw [if_pos (by rfl)]
        go_simp
        refine hK.out _ _ (dk.range_setCell hHeld _ _ hne) (fun hHeld => ?_)
        clear hK K
        refine wpAnyH_done (by kernel_rfl) ?_ _
        go_wp2_with fail
        go_ret
        have hxs : ((n, b) : Int × dk.Blk).2.length = 128 := hb
        obtain ⟨_, hn0, hn1⟩ := dk.asks_in hq
        rw [HPB.out, List.toList_toArray] at hown3
        have hap := dk.M.appended (x := (n, b)) (show RM _ p g c r v (dk.step s).2 from hMa) hg3 (by rw [dk.step_L]; exact hown3) hat3 hb (by rw [dk.step_S]; exact ⟨hn0, hn1⟩)
        rw [dk.step_L] at hap
        have hwr : dk.write s n b = (0, { (dk.step s).2 with L := s.L ++ [(n, b)] }) := by rw [dk.write, if_pos hq, if_pos hst1]
        have hCw : Chg w (w2.drew.alloc (.cells PB 71)) (dk.fp p g v) :=
          (((Chg.alloc w _ [p]).trans hC (Sub.refl _ _)).mono (fun k hk => .inl (by simp [dk.fp] at hk ⊢; simp [hk]))).trans ((Chg.drew _ (dk.fp p g v)).trans (Chg.alloc _ _ (dk.fp p g v)) (Sub.refl _ _)) (Sub.refl _ _)
        exact ⟨_, ret_int (by rw [hwr]), by rw [hwr]; exact hap.1, hCw.trans hap.2.1 (Sub.refl _ _), hap.2.2.trans (Sub.refl _ _) hCw.size⟩
  · have hwr : dk.write s n b = (q, s) := by rw [dk.write, hq, if_neg h0]
    have HW := Lib.hid hwr
    have hqb : (q == 0) = false := by simpa using h0
    clear ha hq hwr
    go_enter Try.func26, Try.ntmps26
    go_wp2_with fail
    refine HA.out.mono ?_
    rintro e w1 ⟨rfl, rfl⟩
    go_wp2_with fail
    go_ret
    exact ⟨v, ret_int (by rw [HW.out]), by rw [HW.out]; exact h1, Chg.alloc _ _ _, Sub.refl _ _⟩
end Go.Proofs.Ytajdeoackpfhoaa
