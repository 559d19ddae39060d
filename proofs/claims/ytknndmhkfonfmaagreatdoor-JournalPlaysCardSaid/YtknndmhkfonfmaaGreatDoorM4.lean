/-
  contracts of cardexref04.Disk's methods that write blocks: Write, Flush, Rot, Torn, Crash; New.
-/
import Derived.Test.YtknndmhkfonfmaaGreatDoorM3
import Derived.Deep.AppendLies
import Derived.Deep.RegionHeldLaw
import Derived.Great.BuildSlice
import Derived.Test.YtknndmhkfonfmaaGreatDoorM1
import Derived.Laws.CopyOwn
import Derived.Shelf.Abstract
import Derived.StillTailTactics
namespace Go.Proofs.YtknndmhkfonfmaaGreatDoor
open Go.RowKit
variable {w : World} {p g c : Nat} {r : List Value} {v : Value} {s : dk.St}

theorem info_put : (Tryz.prog.info? 76).map (fun i => (i.zero, i.size, i.bytes)) = some (some (.agg (dk.put (0, dk.zero)).toArray), 129, 136) := by kernel_rfl

theorem put_zero : ∀ w, (zeroValue 76).run Tryz.prog w = .ok (.agg (dk.put (0, dk.zero)).toArray) w := fun w => by
  cases hq : Tryz.prog.info? 76 with
  | none => have := info_put; simp [hq] at this
  | some i =>
    have := info_put
    simp only [hq, Option.map_some, Option.some.injEq, Prod.mk.injEq] at this
    simp [zeroValue, typeInfo, hq, this.1]

theorem info_parts3 {e : TypeId} {z : Value} {sz bt : Nat} (h : (Tryz.prog.info? e).map (fun i => (i.zero, i.size, i.bytes)) = some (some z, sz, bt)) : ∃ i, Tryz.prog.info? e = some i ∧ i.zero = some z ∧ i.size = sz ∧ i.bytes = bt := by
  cases hq : Tryz.prog.info? e with
  | none => simp [hq] at h
  | some i =>
    simp only [hq, Option.map_some, Option.some.injEq, Prod.mk.injEq] at h
    exact ⟨i, rfl, h.1, h.2.1, h.2.2⟩

/-- one write is appended, at a step of a region that draws -/
theorem step_put {ops : Array Oper} {o : Oper} {a : Act} {W : World} {K : Act → World → Prop} {Q : Exit → Act → World → Prop} {E0 : Prop} (x y : Operand) {v : Value} {n : Nat} {xs : List Value} {B : Nat} {PB : Array Value}
    (hown : W.ownsRow 0 76 129 v n xs) (hB : W.heap[B]? = some (.cells PB 76 (0, 0))) (hps : PB.size = 129) (hone : ∀ u ∈ PB.toList, u.oneCell' = true) (hn : n ≤ 1048576) (hgd : o.guard = none)
    (ho : o.op = .call { callee := .builtin .append, args := #[x, y], argTypes := #[62, 62] }) (hx : a.eval x = v) (hy : a.eval y = .slice (some ⟨B, 0, none⟩) 1 1)
    (h : ∀ g cap W', W'.ownsRow 0 76 129 (.slice (some ⟨g, 0, none⟩) (n + 1) cap) (n + 1) (xs ++ PB.toList) → W.grownBy W' v.ownBlock → (v.ownBlock = some g ∨ g = W.heap.size) → g < W'.heap.size → K (a.put o.dst (.slice (some ⟨g, 0, none⟩) (n + 1) cap)) W') :
    if Region.wanted o (yielded ops a.tmps) = true then Oper.wp Tryz.prog o a W K Q else E0 := by
  obtain ⟨i0, hi0, hz0, hs0, hb0⟩ := info_parts3 info_put
  exact step_append_lies W hgd x y 62 ho 0 76 i0 _ 129 136 Tryz.underlying62 hi0 hz0 hs0 hb0 (dk.put_size (0, dk.zero) zero_len) (by omega) v n xs hx hown ⟨B, 0, none⟩ 1 1 PB.toList hy (by simp [hps]) (World.news_of_block hB) hone (by omega) (by rw [maxLen_eq]; omega) (by omega) (Nat.zero_le _) _ rfl h

set_option maxHeartbeats 4000000 in
set_option maxRecDepth 100000 in
theorem rwrite_any (n : Int) (b : dk.Blk) (hb : b.length = 128) (h : RM w p g c r v s) (hm : s.many < 4611686018427387904) (hl : s.L.length ≤ 1048576) : Calls Tryz.prog 21 #[.pointer (some ⟨p, 0, none⟩), .int .i64 n, dk.val b] w fun e w' =>
    ∃ v', e = .returned (.int .i64 (dk.write s n b).1) ∧ RM w' p g c r v' (dk.write s n b).2 ∧ Chg w w' (dk.fp p g v) ∧ Sub w (dk.fp p g v') (dk.fp p g v) := by
  have h1 := h.alloc (.cells (dk.cells b).toArray 43)
  have hrow := heap_alloc_new w (.cells (dk.cells b).toArray 43)
  have ha := rasks_any n h1
  obtain ⟨q, hq⟩ : ∃ q, dk.asks s n = q := ⟨_, rfl⟩
  rw [hq] at ha
  have HA := Lib.hid ha
  by_cases h0 : q = 0
  · subst h0
    have hs := Lib.hid (rstep_any h1 hm)
    by_cases hc : s.cut = 1
    · have hst1 : (dk.step s).1 = 9 := by rw [dk.step, if_pos hc]
      have hwr : dk.write s n b = (9, (dk.step s).2) := by rw [dk.write, if_pos hq, if_neg (by rw [hst1]; omega)]
      have HW := Lib.hid hwr
      rw [hst1] at hs
      clear ha hq hst1 hwr
      go_enter Tryz.func21, Tryz.ntmps21
      go_wp2_with fail
      refine HA.out.mono ?_
      rintro e w1 ⟨rfl, rfl⟩
      go_wp2_with fail
      refine hs.out.mono ?_
      rintro e w2 ⟨rfl, hM, hC⟩
      go_wp2_with fail
      go_ret
      exact ⟨v, ret_int (by rw [HW.out]), by rw [HW.out]; exact hM, ((Chg.alloc w _ [p]).trans hC (Sub.refl _ _)).mono (fun k hk => .inl (by simp [dk.fp] at hk ⊢; simp [hk])), Sub.refl _ _⟩
    · have hst1 : (dk.step s).1 = 0 := by rw [dk.step, if_neg hc]
      rw [hst1] at hs
      clear ha
      go_enter Tryz.func21, Tryz.ntmps21
      go_wp2_with fail
      refine HA.out.mono ?_
      rintro e w1 ⟨rfl, rfl⟩
      go_wp2_with fail
      refine hs.out.mono ?_
      rintro e w2 ⟨rfl, hM, hC⟩
      go_wp2_with fail
      have hP : w2.heap[w.heap.size]? = some (.cells (dk.cells b).toArray 43 (0, 0)) := by
        rw [hC.block _ (by simp) (by have := h.there p (by simp [dk.fp]); simp; omega)]
        exact hrow
      have rg := blk_range hP
      have c1 := hM.c1
      have f1 := hM.fz 1
      have uB := Tryz.underlying43
      have iB := info_blk' hb
      have hne : p ≠ w.heap.size := by have := h.there p (by simp [dk.fp]); omega
      obtain ⟨Z, hZ⟩ : ∃ Z : Array Value, Z = (dk.put (0, dk.zero)).toArray := ⟨_, rfl⟩
      obtain ⟨PB, hPB⟩ : ∃ Z : Array Value, Z = (dk.put (n, b)).toArray := ⟨_, rfl⟩
      have zp := put_zero
      have zs : Z.size = 129 := by rw [hZ]; exact dk.put_size _ zero_len
      have zn : ¬ Z = #[] := fun e => by rw [e] at zs; simp at zs
      have zf : List.foldl (fun (c : Array Value) (x : Value × Nat) => c.setIfInBounds (1 + x.snd) x.fst) (Z.setIfInBounds 0 (.int .i64 n)) (dk.cells b).zipIdx = PB := by rw [hZ, hPB]; exact dk.build_put n b hb
      rw [← hZ] at zp
      have ps : PB.size = 129 := by rw [hPB]; exact dk.put_size _ hb
      have HPB := Lib.hid hPB
      clear hrow HA hs h1 hZ hPB
      have hPBrow := heap_alloc_new w2.drew (.cells PB 76)
      have hMa := hM.drew.alloc (.cells PB 76)
      have hown := hMa.loose
      have hone : ∀ u ∈ PB.toList, u.oneCell' = true := by
        rw [HPB.out]
        intro u hu
        rw [List.toList_toArray] at hu
        rcases List.mem_cons.1 hu with rfl | hu
        · rfl
        · exact bvs_one b u hu
      have c1a := hMa.c1
      have f1a := hMa.fz 1
      have hpsz : p < (w2.drew.alloc (.cells PB 76)).heap.size := hMa.there p (by simp [dk.fp])
      have hne2 : some p ≠ v.ownBlock := fun e => hM.ne2 e.symm
      have hvw : some w.heap.size ≠ v.ownBlock := fun e => by have := h.there w.heap.size (by simp [dk.fp, ← e]); omega
      have rga := World.rangeAt_alloc (show w2.drew.rangeAt w.heap.size 0 (dk.cells b) from rg) (.cells PB 76)
      rw [dk.step_L] at hown
      refine wp_region_held_drew (S := fun w' => w'.rangeAt w.heap.size 0 (dk.cells b)) (by kernel_rfl) (by simpa using rg) (fun hHeld => ?_)
      refine wpAnyH_take (i := 0) (v := ?_) rfl (by kernel_rfl) (by kernel_rfl) (by kernel_rfl) (fun _ _ _ h => h) (Or.inl ⟨by rfl, ?_⟩) hHeld ?_
      rotate_left
      · intro w _; go_simp; try rfl
      simp only [List.getElem_toArray, List.getElem_cons_zero, Act.put, List.setIfInBounds_toArray, List.set_cons_zero, List.set_cons_succ]
      refine wpAnyH_take (i := 1) (v := ?_) rfl (by kernel_rfl) (by kernel_rfl) (by kernel_rfl) (fun _ _ _ h => h) (Or.inl ⟨by rfl, ?_⟩) hHeld ?_
      rotate_left
      · intro w _; go_simp; try rfl
      simp only [List.getElem_toArray, List.getElem_cons_zero, List.getElem_cons_succ, Act.put, List.setIfInBounds_toArray, List.set_cons_zero, List.set_cons_succ]
      refine wpAnyH_take (i := 2) (v := ?_) rfl (by kernel_rfl) (by kernel_rfl) (by kernel_rfl) (fun _ _ _ h => h) (Or.inl ⟨by rfl, ?_⟩) hHeld ?_
      rotate_left
      · intro w _; go_simp; try rfl
      simp only [List.getElem_toArray, List.getElem_cons_zero, List.getElem_cons_succ, Act.put, List.setIfInBounds_toArray, List.set_cons_zero, List.set_cons_succ]
      refine wpAnyH_take (i := 3) (v := ?_) rfl (by kernel_rfl) (by kernel_rfl) (by kernel_rfl) (fun _ _ _ h => h) (Or.inl ⟨by rfl, ?_⟩) hHeld ?_
      rotate_left
      · intro w _; go_simp; try rfl
      simp only [List.getElem_toArray, List.getElem_cons_zero, List.getElem_cons_succ, Act.put, List.setIfInBounds_toArray, List.set_cons_zero, List.set_cons_succ]
      refine wpAnyH_take (i := 5) (v := ?_) rfl (by kernel_rfl) (by kernel_rfl) (by kernel_rfl) (fun _ _ _ h => h) (Or.inl ⟨by rfl, ?_⟩) hHeld ?_
      rotate_left
      · intro w _; go_simp; try rfl
      simp only [List.getElem_toArray, List.getElem_cons_zero, List.getElem_cons_succ, Act.put, List.setIfInBounds_toArray, List.set_cons_zero, List.set_cons_succ]
      refine wpAnyH_take (i := 6) (v := dk.val b) rfl (by kernel_rfl) (by kernel_rfl) (by kernel_rfl) (fun _ _ _ h => h) (yieldsIf_load_mid (by rfl) 43 (.tmp 5) rfl w.heap.size 0 rfl (dk.cells b) _ (fun w h => h) uB rfl iB) hHeld ?_
      simp only [List.getElem_toArray, List.getElem_cons_zero, List.getElem_cons_succ, Act.put, List.setIfInBounds_toArray, List.set_cons_zero, List.set_cons_succ]
      refine wpAnyH_take (i := 7) (v := ?_) rfl (by kernel_rfl) (by kernel_rfl) (by kernel_rfl) (fun _ _ _ h => h) (Or.inl ⟨by rfl, ?_⟩) hHeld ?_
      rotate_left
      · intro w _; go_simp; try rfl
      simp only [List.getElem_toArray, List.getElem_cons_zero, List.getElem_cons_succ, Act.put, List.setIfInBounds_toArray, List.set_cons_zero, List.set_cons_succ]
      have hS2 := World.rangeAt_alloc hHeld (.cells PB 76)
      obtain ⟨i0, hi0, hz0, hs0, hb0⟩ := info_parts3 info_put
      have hfill := dk.fill_one 129 ((Array.range 129).map fun i => (dk.put (0, dk.zero)).toArray[i % 129]!) PB ps (by simp)
      refine wpAnyH_ready (rs := [4, 8]) (by kernel_rfl) (by simp) ?_
      refine AllReadyH.cons rfl (fun K hK => ?o1) (AllReadyH.cons rfl (fun K hK => ?o2) AllReadyH.nil)
      case' o1 =>
        rw [if_pos (by rfl)]
        go_simp
        refine hK.out _ _ hHeld (fun hHeld => ?_)
        clear hK K
        refine wpAnyH_ready (rs := [8]) (by kernel_rfl) (by simp) ?_
        refine AllReadyH.cons rfl (fun K hK => ?_) AllReadyH.nil
        rw [if_pos (by rfl)]
        refine wp_buildSlice 62 76 1 _ rfl PB i0 _ Tryz.underlying62 hi0 hz0 (by rw [hs0]; omega) (by rw [hs0]; omega) ?hf ?h
        case' hf => (rw [hs0]; simp only [List.map_toArray, List.map_cons, List.map_nil]; refine dk.fill_one 129 _ PB ps ?_; rw [Array.size_map, Array.size_range])
        simp only [List.getElem_toArray, List.getElem_cons_zero, List.getElem_cons_succ, Act.put, List.setIfInBounds_toArray, List.set_cons_zero, List.set_cons_succ]
        refine hK.out _ _ hS2 (fun hHeld => ?_)
        clear hK K
      case' o2 =>
        rw [if_pos (by rfl)]
        refine wp_buildSlice 62 76 1 _ rfl PB i0 _ Tryz.underlying62 hi0 hz0 (by rw [hs0]; omega) (by rw [hs0]; omega) ?hf2 ?h2
        case' hf2 => (rw [hs0]; simp only [List.map_toArray, List.map_cons, List.map_nil]; refine dk.fill_one 129 _ PB ps ?_; rw [Array.size_map, Array.size_range])
        simp only [List.getElem_toArray, List.getElem_cons_zero, List.getElem_cons_succ, Act.put, List.setIfInBounds_toArray, List.set_cons_zero, List.set_cons_succ]
        refine hK.out _ _ hS2 (fun hHeld => ?_)
        clear hK K
        refine wpAnyH_ready (rs := [4]) (by kernel_rfl) (by simp) ?_
        refine AllReadyH.cons rfl (fun K hK => ?_) AllReadyH.nil
        rw [if_pos (by rfl)]
        have c1c : (w2.alloc (.cells PB 76)).cell? ⟨p, 1, none⟩ = some v := c1a
        go_simp
        change K _ (w2.drew.alloc (.cells PB 76))
        refine hK.out _ _ hS2 (fun hHeld => ?_)
        clear hK K
      all_goals
        refine wpAnyH_ready (rs := [9]) (by kernel_rfl) (by simp) ?_
        refine AllReadyH.cons rfl (fun K hK => ?_) AllReadyH.nil
        refine step_put (.tmp 24) (.tmp 28) hown hPBrow ps hone hl rfl rfl rfl rfl ?_
        intro gg cap w3 hown3 hg3 hat3 hlt3
        have c13 := (hg3.cell_far ⟨p, 1, none⟩ hpsz hne2).trans c1a
        have f13 := (hg3.frozen_far ⟨p, 1, none⟩ hpsz hne2).trans f1a
        simp only [List.getElem_toArray, List.getElem_cons_zero, List.getElem_cons_succ, Act.put, List.setIfInBounds_toArray, List.set_cons_zero, List.set_cons_succ]
        refine hK.out _ _ (dk.range_grown hS2 hg3 hvw) (fun hHeld => ?_)
        clear hK K
        refine wpAnyH_take (i := 10) (v := ?_) rfl (by kernel_rfl) (by kernel_rfl) (by kernel_rfl) (fun _ _ _ h => h) (Or.inl ⟨by rfl, ?_⟩) hHeld ?_
        rotate_left
        · intro w _; go_simp; try rfl
        simp only [List.getElem_toArray, List.getElem_cons_zero, List.getElem_cons_succ, Act.put, List.setIfInBounds_toArray, List.set_cons_zero, List.set_cons_succ]
        refine wpAnyH_take (i := 11) (v := ?_) rfl (by kernel_rfl) (by kernel_rfl) (by kernel_rfl) (fun _ _ _ h => h) (Or.inl ⟨by rfl, ?_⟩) hHeld ?_
        rotate_left
        · intro w _; go_simp; try rfl
        simp only [List.getElem_toArray, List.getElem_cons_zero, List.getElem_cons_succ, Act.put, List.setIfInBounds_toArray, List.set_cons_zero, List.set_cons_succ]
        refine wpAnyH_ready (rs := [12]) (by kernel_rfl) (by simp) ?_
        refine AllReadyH.cons rfl (fun K hK => ?_) AllReadyH.nil
        rw [if_pos (by rfl)]
        go_simp
        refine hK.out _ _ (dk.range_setCell hHeld _ _ hne) (fun hHeld => ?_)
        clear hK K
        refine wpAnyH_done (by kernel_rfl) ?_ _
        go_wp2_with fail
        go_ret
        have hxs : ((n, b) : Int × dk.Blk).2.length = 128 := hb
        obtain ⟨_, hn0, hn1⟩ := dk.asks_in hq
        rw [HPB.out, List.toList_toArray] at hown3
        have hap := dk.M.appended (x := (n, b)) (show RM _ p g c r v (dk.step s).2 from hMa) hg3 (by rw [dk.step_L]; exact hown3) hat3 hb (by rw [dk.step_S]; exact ⟨hn0, hn1⟩)
        rw [dk.step_L] at hap
        have hwr : dk.write s n b = (0, { (dk.step s).2 with L := s.L ++ [(n, b)] }) := by rw [dk.write, if_pos hq, if_pos hst1]
        have hCw : Chg w (w2.drew.alloc (.cells PB 76)) (dk.fp p g v) :=
          (((Chg.alloc w _ [p]).trans hC (Sub.refl _ _)).mono (fun k hk => .inl (by simp [dk.fp] at hk ⊢; simp [hk]))).trans ((Chg.drew _ (dk.fp p g v)).trans (Chg.alloc _ _ (dk.fp p g v)) (Sub.refl _ _)) (Sub.refl _ _)
        exact ⟨_, ret_int (by rw [hwr]), by rw [hwr]; exact hap.1, hCw.trans hap.2.1 (Sub.refl _ _), hap.2.2.trans (Sub.refl _ _) hCw.size⟩
  · have hwr : dk.write s n b = (q, s) := by rw [dk.write, hq, if_neg h0]
    have HW := Lib.hid hwr
    have hqb : (q == 0) = false := by simpa using h0
    clear ha hq hwr
    go_enter Tryz.func21, Tryz.ntmps21
    go_wp2_with fail
    refine HA.out.mono ?_
    rintro e w1 ⟨rfl, rfl⟩
    go_wp2_with fail
    go_ret
    exact ⟨v, ret_int (by rw [HW.out]), by rw [HW.out]; exact h1, Chg.alloc _ _ _, Sub.refl _ _⟩
end Go.Proofs.YtknndmhkfonfmaaGreatDoor

/-
  contract of cardexref04.Torn: the first bytes of a new block, the others of an old one.
-/
namespace Go.Proofs.YtknndmhkfonfmaaGreatDoor
open Go.RowKit
variable {w : World}

theorem torn_step (old now : dk.Blk) (ho : old.length = 128) (hn : now.length = 128) (j : Nat) (hj : j < 128) (x : UInt8) (hx : now[j]? = some x) : (dk.torn old now (j : Int)).set j x = dk.torn old now ((j + 1 : Nat) : Int) := by
  unfold dk.torn
  rw [Int.toNat_natCast, Int.toNat_natCast, List.set_append_right _ _ (by simp; omega), show j - (List.take j now).length = 0 from by simp; omega, List.drop_eq_getElem_cons (by omega), List.set_cons_zero, List.take_succ_eq_append_getElem (by omega)]
  have : now[j]'(by omega) = x := by
    rw [List.getElem?_eq_getElem (by omega)] at hx
    exact Option.some.inj hx
  rw [this]
  simp

set_option maxHeartbeats 4000000 in
set_option maxRecDepth 100000 in
theorem rtorn_any (old now : dk.Blk) (n : Int) (ho : old.length = 128) (hn : now.length = 128) : Calls Tryz.prog 33 #[dk.val old, dk.val now, .int .i64 n] w fun e w' => e = .returned (dk.val (dk.torn old now n)) ∧ Below w.heap.size w w' := by
  obtain ⟨hz, -⟩ := zero_of_info zero_blk
  obtain ⟨W0, hW0⟩ : ∃ W0, W0 = ((w.alloc (.cells (dk.cells old).toArray 43)).alloc (.cells (dk.cells now).toArray 43)).alloc (.cells (dk.cells dk.zero).toArray 43) := ⟨_, rfl⟩
  have r0 : RowB 43 W0 w.heap.size old := by
    rw [hW0]
    exact ((show RowB 43 (w.alloc (.cells (dk.cells old).toArray 43)) w.heap.size old from heap_alloc_new w _).alloc _).alloc _
  have r1 : RowB 43 W0 (w.heap.size + 1) now := by
    rw [hW0]
    have := (show RowB 43 ((w.alloc (.cells (dk.cells old).toArray 43)).alloc (.cells (dk.cells now).toArray 43)) (w.alloc (.cells (dk.cells old).toArray 43)).heap.size now from heap_alloc_new _ _).alloc (.cells (dk.cells dk.zero).toArray 43)
    simpa using this
  have r2 : RowB 43 W0 (w.heap.size + 2) dk.zero := by
    rw [hW0]
    have := heap_alloc_new ((w.alloc (.cells (dk.cells old).toArray 43)).alloc (.cells (dk.cells now).toArray 43)) (.cells (dk.cells dk.zero).toArray 43)
    simpa [RowB] using this
  have hb0 : Below w.heap.size w W0 := by
    rw [hW0]
    exact (((Below.refl _ _).alloc (Nat.le_refl _) _).alloc (by simp) _).alloc (by simp; omega) _
  have HW := Lib.hid hW0
  have hN0 : dk.torn old now ((0 : Nat) : Int) = old := by simp [dk.torn]
  clear hW0
  go_enter Tryz.func33, Tryz.ntmps33
  go_wp2_with fail
  rw [← HW.out]
  go_loopw [7] (fun t wr => ∃ j : Nat, t = .int .i64 j ∧ j ≤ 128 ∧ (j ≤ n.toNat) ∧ RowB 43 wr w.heap.size (dk.torn old now (j : Int)) ∧ RowB 43 wr (w.heap.size + 1) now ∧ RowB 43 wr (w.heap.size + 2) dk.zero ∧ Below w.heap.size w wr) (fun t _ => 128 - (intOf t).toNat)
  case atStart => exact ⟨0, rfl, by omega, by omega, by rw [hN0]; exact r0, r1, r2, hb0⟩
  case round =>
    clear r0 r1 r2 hb0 hN0
    obtain ⟨j, rfl, hj, hjn, r0, r1, r2, hb⟩ := hrel
    have htl := dk.torn_length (j : Int) ho hn
    by_cases hin : j < 128 ∧ (j : Int) < n
    · obtain ⟨h1, h2⟩ := hin
      have cN := r1.cell (i := j) (by omega)
      have cO := r0.cell (i := j) (by omega)
      have fO := r0.frozen j
      have hst := torn_step old now ho hn j h1 (now[j]'(by omega)) (List.getElem?_eq_getElem (by omega))
      generalize now[j]'(by omega) = x at *
      generalize (dk.torn old now (j : Int))[j]'(by omega) = y at *
      have HST := Lib.hid hst
      clear hst
      go_wp2
      go_roundw
      case rel =>
        refine ⟨j + 1, by go_num, by omega, by omega, ?_, r1.far (by simp) _, r2.far (by simp) _, hb.setCell (Nat.le_refl _) _⟩
        have := r0.set_ j x
        rw [HST.out] at this
        exact this
      case measure => simp [intOf]; omega
    · have hres : dk.torn old now (j : Int) = dk.torn old now n := by
        unfold dk.torn
        rw [Int.toNat_natCast]
        by_cases h128 : j = 128
        · subst h128
          rw [List.take_of_length_le (by omega), List.take_of_length_le (by omega), List.drop_of_length_le (by omega), List.drop_of_length_le (by omega)]
        · have : j = n.toNat := by omega
          rw [this]
      rw [hres] at r0 htl
      clear hres
      have hrg := blk_range r0
      have hcs : (j = 128) ∨ (j < 128 ∧ ¬ (j : Int) < n) := by omega
      rcases hcs with h1 | ⟨h1, h2⟩
      all_goals
        go_wp2_with (first | refine wp_ld (.tmp 3) _ hrg htl rfl rfl rfl ?_ | (refine wp_st0 (.tmp 6) (.tmp 22) _ r2 zero_len htl rfl rfl rfl rfl ?_; intro W2 hW2 hc2))
        refine bodyPost_ret (results_cell rfl rfl (blk_load (blk_range hW2) htl)) rfl ⟨rfl, (Chg.of_below hb [w.heap.size + 2]).trans hc2 (Sub.refl _ _) |>.below (Nat.le_refl _) (fun k hk => by simp at hk; omega)⟩
end Go.Proofs.YtknndmhkfonfmaaGreatDoor

/-
  contracts of cardexref04.Disk's methods that write blocks: Flush, Rot, Torn, Crash; New.
-/
namespace Go.Proofs.YtknndmhkfonfmaaGreatDoor
open Go.RowKit
variable {w : World} {p g c : Nat} {r : List Value} {v : Value} {s : dk.St}

set_option maxHeartbeats 4000000 in
set_option maxRecDepth 100000 in
theorem rflush_any (h : RM w p g c r v s) (hm : s.many < 4611686018427387904) : Calls Tryz.prog 76 #[.pointer (some ⟨p, 0, none⟩)] w fun e w' =>
    ∃ v', e = .returned (.int .i64 (dk.flush s).1) ∧ RM w' p g c r v' (dk.flush s).2 ∧ Chg w w' (dk.fp p g v) ∧ Sub w (dk.fp p g v') (dk.fp p g v) := by
  have c3 := h.c3
  have hs := rstep_any h hm
  cases hb : s.black with
  | true =>
    have hr : dk.flush s = (9, s) := by rw [dk.flush, if_pos hb]
    have HR := Lib.hid hr
    rw [hb] at c3
    clear hr hs
    go_enter Tryz.func76, Tryz.ntmps76
    go_wp2_with fail
    go_ret
    exact ⟨v, ret_int (by rw [HR.out]), by rw [HR.out]; exact h, Chg.refl _ _, Sub.refl _ _⟩
  | false =>
    rw [hb] at c3
    by_cases hc : s.cut = 1
    · have hst1 : (dk.step s).1 = 9 := by rw [dk.step, if_pos hc]
      have hr : dk.flush s = (9, (dk.step s).2) := by rw [dk.flush, if_neg (by simp [hb]), if_neg (by rw [hst1]; omega)]
      rw [hst1] at hs
      have HS := Lib.hid hs
      have HR := Lib.hid hr
      clear hr hs hst1 hc
      go_enter Tryz.func76, Tryz.ntmps76
      go_wp2_with fail
      refine HS.out.mono ?_
      rintro e w2 ⟨rfl, hM, hC⟩
      go_wp2_with fail
      go_ret
      exact ⟨v, ret_int (by rw [HR.out]), by rw [HR.out]; exact hM, hC.mono dk.sub_p, Sub.refl _ _⟩
    · have hst1 : (dk.step s).1 = 0 := by rw [dk.step, if_neg hc]
      have hr : dk.flush s = (0, { (dk.step s).2 with S := dk.lay s.S s.L, L := [] }) := by rw [dk.flush, if_neg (by simp [hb]), if_pos hst1]
      rw [hst1] at hs
      have HS := Lib.hid hs
      have HR := Lib.hid hr
      have hSS := dk.step_S s
      have hLL := dk.step_L s
      generalize (dk.step s).2 = s1 at *
      rw [← hSS, ← hLL] at HR
      clear hr hs hst1 hc hSS hLL
      go_enter Tryz.func76, Tryz.ntmps76
      go_wp2_with fail
      refine HS.out.mono ?_
      rintro e w2 ⟨rfl, hM0, hC0⟩
      go_wp2_with fail
      go_loopw [4] (fun t wr => ∃ j : Nat, j ≤ s1.L.length ∧ t = .int .i64 j ∧ RM wr p g c r v { s1 with S := dk.lay s1.S (s1.L.take j) } ∧ Chg w wr (dk.fp p g v)) (fun t _ => s1.L.length - (intOf t).toNat)
      case atStart => exact ⟨0, by omega, rfl, hM0, hC0.mono dk.sub_p⟩
      case round =>
        have hlen := hM0.ok.lenL
        have hin := hM0.ok.inL
        clear hM0 hC0 h c3 HS
        obtain ⟨j, hj, rfl, hM, hC⟩ := hrel
        have d1 := hM.c1
        by_cases hlt : j < s1.L.length
        · obtain ⟨k, cap, hv, hcap, hmax, dN, dB⟩ := hM.put_ hlt
          have d0 := hM.c0
          have hbl := hlen _ (List.getElem_mem hlt)
          obtain ⟨hi0, hi1⟩ := hin _ (List.getElem_mem hlt)
          have hst : dk.lay s1.S (s1.L.take (j + 1)) = (dk.lay s1.S (s1.L.take j)).set s1.L[j].1.toNat s1.L[j].2 := by
            rw [List.take_succ_eq_append_getElem hlt, dk.lay_snoc]
          simp only at dN dB d0 d1
          generalize s1.L[j] = x at *
          obtain ⟨xn, xb⟩ := x
          simp only at hst dN dB hbl hi0 hi1
          obtain ⟨i, rfl⟩ : ∃ i : Nat, xn = i := ⟨xn.toNat, by omega⟩
          rw [Int.toNat_natCast] at hst
          have HST := Lib.hid hst
          have hiS : i < (dk.lay s1.S (s1.L.take j)).length := by rw [dk.lay_length]; omega
          rw [hv] at d1
          have hrl := hM.rowLen hiS
          have hrow := hM.row
          simp only [dk.lay_length] at d0
          simp only at hrl hrow
          have hmost := hM.ok.most
          simp only [dk.lay_length] at hmost
          clear hst hlen hin
          go_wp2_with fail
          refine wp_region_still_tail 21 (by kernel_rfl) (by kernel_rfl) ?_
          simp only [List.take_succ_cons, List.take_zero, List.drop_succ_cons, List.drop_zero]
          iterate 19 still_step
          refine still_ld (.tmp 41) xb (show wr.drew.rangeAt k (j * 129 + 1) (dk.cells xb) from dB) hbl rfl rfl (by rfl) ?_
          simp only [Act.put, List.setIfInBounds_toArray, List.set_cons_zero, List.set_cons_succ]
          still_step
          refine wpStill_nil ?_
          refine wp_st (.tmp 43) (.tmp 42) xb (show wr.drew.heap[g]? = _ from hrow) hrl hbl rfl rfl rfl rfl ?_
          intro W hW hCW
          have hMW := hM.drew.stored hiS hbl hW hCW
          simp only at hMW
          clear dN dB d0 d1 hrow hrl hW
          go_wp2_with fail
          go_roundw
          case rel => exact ⟨j + 1, by omega, by go_num, by rw [HST.out]; exact hMW, (hC.trans (Chg.drew _ (dk.fp p g v)) (Sub.refl _ _)).trans hCW dk.sub_g⟩
          case measure => simp [intOf]; omega
        · obtain ⟨A, cap, hv, _, _⟩ := hM.own_len
          subst hv
          have f1 := hM.fz 1
          have hcl := hM.clear_
          simp only [List.take_of_length_le (show s1.L.length ≤ j from by omega)] at hcl
          go_wp2_with fail
          go_ret
          exact ⟨ret_int (by rw [HR.out]), _, by rw [HR.out]; exact hcl, hC.trans (Chg.setCell _ _ _ _) dk.sub_p, dk.sub_nil⟩

set_option maxHeartbeats 4000000 in
set_option maxRecDepth 100000 in
theorem rrot_any (n at_ : Int) (x : UInt8) (h : RM w p g c r v s) : Calls Tryz.prog 31 #[.pointer (some ⟨p, 0, none⟩), .int .i64 n, .int .i64 at_, bv x] w fun e w' =>
    e = .returned (.int .i64 (dk.rot s n at_ x).1) ∧ RM w' p g c r v (dk.rot s n at_ x).2 ∧ Chg w w' (dk.fp p g v) := by
  have c0 := h.c0
  have hm := h.ok.most
  by_cases hin : n < 0 ∨ (s.S.length : Int) ≤ n ∨ at_ < 0 ∨ 128 ≤ at_
  · have hr : dk.rot s n at_ x = (2, s) := if_pos hin
    have HR := Lib.hid hr
    clear hr
    have hcs : n < 0 ∨ (¬ n < 0 ∧ (s.S.length : Int) ≤ n) ∨ (¬ n < 0 ∧ ¬ (s.S.length : Int) ≤ n ∧ at_ < 0) ∨ (¬ n < 0 ∧ ¬ (s.S.length : Int) ≤ n ∧ ¬ at_ < 0 ∧ 128 ≤ at_) := by omega
    clear hin
    rcases hcs with h0 | ⟨h0, h1⟩ | ⟨h0, h1, h2⟩ | ⟨h0, h1, h2, h3⟩
    all_goals
      go_enter Tryz.func31, Tryz.ntmps31
      go_wp2_with fail
      go_ret
      exact ⟨ret_int (by rw [HR.out]), by rw [HR.out]; exact h, Chg.refl _ _⟩
  · obtain ⟨i, rfl⟩ : ∃ i : Nat, n = i := ⟨n.toNat, by omega⟩
    obtain ⟨k, rfl⟩ : ∃ k : Nat, at_ = k := ⟨at_.toNat, by omega⟩
    have hi : i < s.S.length := by omega
    have hk : k < 128 := by omega
    have hbl := h.ok.lenS _ (List.getElem_mem hi)
    have hr : dk.rot s i k x = (0, { s with S := s.S.set i (s.S[i].set k (s.S[i].getD k 0 ^^^ x)) }) := by
      rw [dk.rot, if_neg hin, Int.toNat_natCast, Int.toNat_natCast, List.getD_eq_getElem?_getD, List.getElem?_eq_getElem hi]
      rfl
    have HR := Lib.hid hr
    have hrange := h.block hi
    have hMB : ∀ y, RM (w.drew.setCell ⟨g, i * 128 + k, none⟩ (bv y)) p g c r v { s with S := s.S.set i (s.S[i].set k y) } := fun y => h.drew.byte hi hk
    generalize s.S[i] = b at *
    have hkb : k < b.length := by omega
    have hcell := hrange k (bv b[k]) (by rw [List.getElem?_map, List.getElem?_eq_getElem hkb]; rfl)
    have hfz : w.frozen? ⟨g, i * 128 + k, none⟩ = false := by simp [World.frozen?, h.row]
    have hCB : ∀ y, Chg w (w.drew.setCell ⟨g, i * 128 + k, none⟩ (bv y)) (dk.fp p g v) := fun y => (Chg.drew w (dk.fp p g v)).trans (Chg.setCell _ _ _ _) dk.sub_g
    have hget : b.getD k 0 = b[k] := by rw [List.getD_eq_getElem?_getD, List.getElem?_eq_getElem hkb]; rfl
    rw [hget] at HR
    generalize b[k] = y at *
    have hx := x.toNat_lt
    have hy := y.toNat_lt
    have h0 : ¬ (i : Int) < 0 := by omega
    have h1 : ¬ (s.S.length : Int) ≤ i := by omega
    have h2 : ¬ (k : Int) < 0 := by omega
    have h3 : ¬ (128 : Int) ≤ k := by omega
    clear hr hin hrange
    go_enter Tryz.func31, Tryz.ntmps31
    go_wp2_with fail
    go_still_tail 19, (by kernel_rfl)
    change wpList _ _ _ _ _ w.drew
    go_wp2_with fail
    go_ret
    rw [xor_bv]
    exact ⟨ret_int (by rw [HR.out]), by rw [HR.out]; exact hMB _, hCB _⟩
end Go.Proofs.YtknndmhkfonfmaaGreatDoor

/-
  contract of cardexref04.Disk's Crash.
-/
namespace Go.Proofs.YtknndmhkfonfmaaGreatDoor
open Go.RowKit
variable {w : World} {p g c : Nat} {r : List Value} {v : Value} {s : dk.St}

set_option maxHeartbeats 4000000 in
set_option maxRecDepth 100000 in
theorem rcrash_any (A : Option Addr) (n cp : Nat) (l : List Int) (hl : IS w A n cp l) (hA : 0 < n → ∀ b o, A = some ⟨b, o, none⟩ → b ∉ dk.fp p g v) (h : RM w p g c r v s) : Calls Tryz.prog 11 #[.pointer (some ⟨p, 0, none⟩), .slice A n cp] w fun e w' =>
    ∃ v', e = .returned (.int .i64 0) ∧ RM w' p g c r v' (dk.crash s l) ∧ Chg w w' (dk.fp p g v) ∧ Sub w (dk.fp p g v') (dk.fp p g v) := by
  have uB := Tryz.underlying43
  go_enter Tryz.func11, Tryz.ntmps11
  go_wp2_with fail
  go_loopw [5] (fun t wr => ∃ j : Nat, j ≤ s.L.length ∧ t = .int .i64 j ∧ RM wr p g c r v { s with S := dk.tear s.S (s.L.take j) l } ∧ Chg w wr (dk.fp p g v)) (fun t _ => s.L.length - (intOf t).toNat)
  case atStart => exact ⟨0, by omega, rfl, h, Chg.refl _ _⟩
  case round =>
    have hlen := h.ok.lenL
    have hin := h.ok.inL
    obtain ⟨j, hj, rfl, hM, hC⟩ := hrel
    have hI := hl.chg hC hA
    have hIl := hI.len
    have hIc := hI.cap
    have hIm := hI.max
    clear hl
    have d1 := hM.c1
    by_cases hlt : j < s.L.length
    · obtain ⟨k, cap, hv, hcap, hmax, dN, dB⟩ := hM.put_ hlt
      have d0 := hM.c0
      have hbl := hlen _ (List.getElem_mem hlt)
      obtain ⟨hi0, hi1⟩ := hin _ (List.getElem_mem hlt)
      obtain ⟨q, hq⟩ : ∃ q, l.getD j 0 = q := ⟨_, rfl⟩
      have hst : dk.tear s.S (s.L.take (j + 1)) l = (dk.tear s.S (s.L.take j) l).set s.L[j].1.toNat (dk.torn ((dk.tear s.S (s.L.take j) l).getD s.L[j].1.toNat dk.zero) s.L[j].2 q) := by
        rw [List.take_succ_eq_append_getElem hlt, dk.tear_snoc, List.length_take, Nat.min_eq_left (by omega), hq]
      simp only at dN dB d0 d1
      generalize s.L[j] = x at *
      obtain ⟨xn, xb⟩ := x
      simp only at hst dN dB hbl hi0 hi1
      obtain ⟨i, rfl⟩ : ∃ i : Nat, xn = i := ⟨xn.toNat, by omega⟩
      rw [Int.toNat_natCast] at hst
      have hiS : i < (dk.tear s.S (s.L.take j) l).length := by rw [dk.tear_length]; omega
      have hold : (dk.tear s.S (s.L.take j) l).getD i dk.zero = (dk.tear s.S (s.L.take j) l)[i] := by
        rw [List.getD_eq_getElem?_getD, List.getElem?_eq_getElem hiS]
        rfl
      rw [hold] at hst
      have hobl := hM.ok.lenS _ (List.getElem_mem hiS)
      have dO := hM.block (i := i) hiS
      simp only at hobl dO
      generalize (dk.tear s.S (s.L.take j) l)[i] = ob at *
      have HST := Lib.hid hst
      rw [hv] at d1
      have hrl := hM.rowLen hiS
      have hrow := hM.row
      simp only [dk.tear_length] at d0
      simp only at hrl hrow
      have hmost := hM.ok.most
      simp only [dk.tear_length] at hmost
      have htb := dk.torn_length q hobl hbl
      generalize htor : dk.torn ob xb q = tb at *
      have iO := info_blk' hobl
      have iB := info_blk' hbl
      have iT := info_blk' htb
      have hone := bvs_one tb
      have hth := hrow
      have hpg := hM.ne1
      have hkg : k ≠ g := fun e => hM.ne3 (by rw [hv, ← e]; rfl)
      have hps : p < wr.heap.size := hM.there p (by simp [dk.fp])
      have hks : k < wr.heap.size := hM.there k (by rw [hv]; simp [dk.fp, Value.ownBlock])
      have hgs : g < wr.heap.size := hM.there g (by simp [dk.fp])
      clear hst hlen hin hold
      have hcase : (∃ pb po, A = some ⟨pb, po, none⟩ ∧ j < n ∧ wr.cell? ⟨pb, po + j, none⟩ = some (.int .i64 q)) ∨ (¬ j < n ∧ q = 0) := by
        by_cases hjp : j < n
        · obtain ⟨pb, po, rfl, hpb, hpc⟩ := hI.has (by omega)
          have hpj := hpc j (by omega)
          have hqj : l[j]'(by omega) = q := by rw [← hq, List.getD_eq_getElem?_getD, List.getElem?_eq_getElem (by omega)]; rfl
          rw [hqj] at hpj
          exact .inl ⟨pb, po, rfl, hjp, hpj⟩
        · exact .inr ⟨hjp, by rw [← hq, List.getD_eq_getElem?_getD, List.getElem?_eq_none (by omega)]; rfl⟩
      have dO' : wr.drew.rangeAt g (i * 128) (dk.cells ob) := dO
      have HT := Lib.hid (fun W => rtorn_any ob xb q (w := W) hobl hbl)
      clear hq hI
      rcases hcase with ⟨pb, po, rfl, hjp, hpj⟩ | ⟨hjp, rfl⟩
      all_goals
        go_wp2_with fail
        refine wp_region_held_drew (S := fun w' => w'.cell? ⟨p, 0, none⟩ = some (.slice (some ⟨g, 0, none⟩) s.S.length c) ∧ w'.cell? ⟨p, 1, none⟩ = some (.slice (some ⟨k, 0, none⟩) s.L.length cap) ∧ w'.cell? ⟨k, j * 129, none⟩ = some (.int .i64 (i : Int)) ∧ w'.rangeAt k (j * 129 + 1) (dk.cells xb)) (by kernel_rfl) ⟨d0, d1, dN, dB⟩ (fun hHeld => ?_)
        refine wpAnyH_take (i := 0) (v := ?_) rfl (by kernel_rfl) (by kernel_rfl) (by kernel_rfl) (fun _ _ _ h => h) (Or.inl ⟨by rfl, ?_⟩) hHeld ?_
        rotate_left
        · intro w hSw; obtain ⟨t0, t1, t2, t3⟩ := hSw; go_simp; try rfl
        simp only [List.getElem_toArray, List.getElem_cons_zero, Act.put, List.setIfInBounds_toArray, List.set_cons_zero, List.set_cons_succ]
        refine wpAnyH_take (i := 1) (v := ?_) rfl (by kernel_rfl) (by kernel_rfl) (by kernel_rfl) (fun _ _ _ h => h) (Or.inl ⟨by rfl, ?_⟩) hHeld ?_
        rotate_left
        · intro w hSw; obtain ⟨t0, t1, t2, t3⟩ := hSw; go_simp; try rfl
        simp only [List.getElem_toArray, List.getElem_cons_zero, List.getElem_cons_succ, Act.put, List.setIfInBounds_toArray, List.set_cons_zero, List.set_cons_succ]
        refine wpAnyH_take (i := 2) (v := ?_) rfl (by kernel_rfl) (by kernel_rfl) (by kernel_rfl) (fun _ _ _ h => h) (Or.inl ⟨by rfl, ?_⟩) hHeld ?_
        rotate_left
        · intro w hSw; obtain ⟨t0, t1, t2, t3⟩ := hSw; go_simp; try rfl
        simp only [List.getElem_toArray, List.getElem_cons_zero, List.getElem_cons_succ, Act.put, List.setIfInBounds_toArray, List.set_cons_zero, List.set_cons_succ]
        refine wpAnyH_take (i := 3) (v := ?_) rfl (by kernel_rfl) (by kernel_rfl) (by kernel_rfl) (fun _ _ _ h => h) (Or.inl ⟨by rfl, ?_⟩) hHeld ?_
        rotate_left
        · intro w hSw; obtain ⟨t0, t1, t2, t3⟩ := hSw; go_simp; try rfl
        simp only [List.getElem_toArray, List.getElem_cons_zero, List.getElem_cons_succ, Act.put, List.setIfInBounds_toArray, List.set_cons_zero, List.set_cons_succ]
        refine wpAnyH_take (i := 4) (v := ?_) rfl (by kernel_rfl) (by kernel_rfl) (by kernel_rfl) (fun _ _ _ h => h) (Or.inl ⟨by rfl, ?_⟩) hHeld ?_
        rotate_left
        · intro w hSw; obtain ⟨t0, t1, t2, t3⟩ := hSw; go_simp; try rfl
        simp only [List.getElem_toArray, List.getElem_cons_zero, List.getElem_cons_succ, Act.put, List.setIfInBounds_toArray, List.set_cons_zero, List.set_cons_succ]
        refine wpAnyH_take (i := 5) (v := ?_) rfl (by kernel_rfl) (by kernel_rfl) (by kernel_rfl) (fun _ _ _ h => h) (Or.inl ⟨by rfl, ?_⟩) hHeld ?_
        rotate_left
        · intro w hSw; obtain ⟨t0, t1, t2, t3⟩ := hSw; go_simp; try rfl
        simp only [List.getElem_toArray, List.getElem_cons_zero, List.getElem_cons_succ, Act.put, List.setIfInBounds_toArray, List.set_cons_zero, List.set_cons_succ]
        refine wpAnyH_take (i := 6) (v := ?_) rfl (by kernel_rfl) (by kernel_rfl) (by kernel_rfl) (fun _ _ _ h => h) (Or.inl ⟨by rfl, ?_⟩) hHeld ?_
        rotate_left
        · intro w hSw; obtain ⟨t0, t1, t2, t3⟩ := hSw; go_simp; try rfl
        simp only [List.getElem_toArray, List.getElem_cons_zero, List.getElem_cons_succ, Act.put, List.setIfInBounds_toArray, List.set_cons_zero, List.set_cons_succ]
        refine wpAnyH_take (i := 7) (v := ?_) rfl (by kernel_rfl) (by kernel_rfl) (by kernel_rfl) (fun _ _ _ h => h) (Or.inl ⟨by rfl, ?_⟩) hHeld ?_
        rotate_left
        · intro w hSw; obtain ⟨t0, t1, t2, t3⟩ := hSw; go_simp; try rfl
        simp only [List.getElem_toArray, List.getElem_cons_zero, List.getElem_cons_succ, Act.put, List.setIfInBounds_toArray, List.set_cons_zero, List.set_cons_succ]
        refine wpAnyH_take (i := 8) (v := ?_) rfl (by kernel_rfl) (by kernel_rfl) (by kernel_rfl) (fun _ _ _ h => h) (Or.inl ⟨by rfl, ?_⟩) hHeld ?_
        rotate_left
        · intro w hSw; obtain ⟨t0, t1, t2, t3⟩ := hSw; go_simp; try rfl
        simp only [List.getElem_toArray, List.getElem_cons_zero, List.getElem_cons_succ, Act.put, List.setIfInBounds_toArray, List.set_cons_zero, List.set_cons_succ]
        refine wpAnyH_take (i := 9) (v := ?_) rfl (by kernel_rfl) (by kernel_rfl) (by kernel_rfl) (fun _ _ _ h => h) (Or.inl ⟨by rfl, ?_⟩) hHeld ?_
        rotate_left
        · intro w hSw; obtain ⟨t0, t1, t2, t3⟩ := hSw; go_simp; try rfl
        simp only [List.getElem_toArray, List.getElem_cons_zero, List.getElem_cons_succ, Act.put, List.setIfInBounds_toArray, List.set_cons_zero, List.set_cons_succ]
        refine wpAnyH_take (i := 10) (v := ?_) rfl (by kernel_rfl) (by kernel_rfl) (by kernel_rfl) (fun _ _ _ h => h) (Or.inl ⟨by rfl, ?_⟩) hHeld ?_
        rotate_left
        · intro w hSw; obtain ⟨t0, t1, t2, t3⟩ := hSw; go_simp; try rfl
        simp only [List.getElem_toArray, List.getElem_cons_zero, List.getElem_cons_succ, Act.put, List.setIfInBounds_toArray, List.set_cons_zero, List.set_cons_succ]
        refine wpAnyH_take (i := 11) (v := ?_) rfl (by kernel_rfl) (by kernel_rfl) (by kernel_rfl) (fun _ _ _ h => h) (Or.inl ⟨by rfl, ?_⟩) hHeld ?_
        rotate_left
        · intro w hSw; obtain ⟨t0, t1, t2, t3⟩ := hSw; go_simp; try rfl
        simp only [List.getElem_toArray, List.getElem_cons_zero, List.getElem_cons_succ, Act.put, List.setIfInBounds_toArray, List.set_cons_zero, List.set_cons_succ]
        refine wpAnyH_take (i := 12) (v := ?_) rfl (by kernel_rfl) (by kernel_rfl) (by kernel_rfl) (fun _ _ _ h => h) (Or.inl ⟨by rfl, ?_⟩) hHeld ?_
        rotate_left
        · intro w hSw; obtain ⟨t0, t1, t2, t3⟩ := hSw; go_simp; try rfl
        simp only [List.getElem_toArray, List.getElem_cons_zero, List.getElem_cons_succ, Act.put, List.setIfInBounds_toArray, List.set_cons_zero, List.set_cons_succ]
        refine wpAnyH_take (i := 13) (v := ?_) rfl (by kernel_rfl) (by kernel_rfl) (by kernel_rfl) (fun _ _ _ h => h) (Or.inl ⟨by rfl, ?_⟩) hHeld ?_
        rotate_left
        · intro w hSw; obtain ⟨t0, t1, t2, t3⟩ := hSw; go_simp; try rfl
        simp only [List.getElem_toArray, List.getElem_cons_zero, List.getElem_cons_succ, Act.put, List.setIfInBounds_toArray, List.set_cons_zero, List.set_cons_succ]
        refine wpAnyH_take (i := 14) (v := ?_) rfl (by kernel_rfl) (by kernel_rfl) (by kernel_rfl) (fun _ _ _ h => h) (Or.inl ⟨by rfl, ?_⟩) hHeld ?_
        rotate_left
        · intro w hSw; obtain ⟨t0, t1, t2, t3⟩ := hSw; go_simp; try rfl
        simp only [List.getElem_toArray, List.getElem_cons_zero, List.getElem_cons_succ, Act.put, List.setIfInBounds_toArray, List.set_cons_zero, List.set_cons_succ]
        refine wpAnyH_take (i := 15) (v := ?_) rfl (by kernel_rfl) (by kernel_rfl) (by kernel_rfl) (fun _ _ _ h => h) (Or.inl ⟨by rfl, ?_⟩) hHeld ?_
        rotate_left
        · intro w hSw; obtain ⟨t0, t1, t2, t3⟩ := hSw; go_simp; try rfl
        simp only [List.getElem_toArray, List.getElem_cons_zero, List.getElem_cons_succ, Act.put, List.setIfInBounds_toArray, List.set_cons_zero, List.set_cons_succ]
        refine wpAnyH_take (i := 16) (v := ?_) rfl (by kernel_rfl) (by kernel_rfl) (by kernel_rfl) (fun _ _ _ h => h) (Or.inl ⟨by rfl, ?_⟩) hHeld ?_
        rotate_left
        · intro w hSw; obtain ⟨t0, t1, t2, t3⟩ := hSw; go_simp; try rfl
        simp only [List.getElem_toArray, List.getElem_cons_zero, List.getElem_cons_succ, Act.put, List.setIfInBounds_toArray, List.set_cons_zero, List.set_cons_succ]
        refine wpAnyH_take (i := 17) (v := ?_) rfl (by kernel_rfl) (by kernel_rfl) (by kernel_rfl) (fun _ _ _ h => h) (Or.inl ⟨by rfl, ?_⟩) hHeld ?_
        rotate_left
        · intro w hSw; obtain ⟨t0, t1, t2, t3⟩ := hSw; go_simp; try rfl
        simp only [List.getElem_toArray, List.getElem_cons_zero, List.getElem_cons_succ, Act.put, List.setIfInBounds_toArray, List.set_cons_zero, List.set_cons_succ]
        refine wpAnyH_take (i := 18) (v := ?_) rfl (by kernel_rfl) (by kernel_rfl) (by kernel_rfl) (fun _ _ _ h => h) (Or.inl ⟨by rfl, ?_⟩) hHeld ?_
        rotate_left
        · intro w hSw; obtain ⟨t0, t1, t2, t3⟩ := hSw; go_simp; try rfl
        simp only [List.getElem_toArray, List.getElem_cons_zero, List.getElem_cons_succ, Act.put, List.setIfInBounds_toArray, List.set_cons_zero, List.set_cons_succ]
        refine wpAnyH_take (i := 19) (v := ?_) rfl (by kernel_rfl) (by kernel_rfl) (by kernel_rfl) (fun _ _ _ h => h) (Or.inl ⟨by rfl, ?_⟩) hHeld ?_
        rotate_left
        · intro w hSw; obtain ⟨t0, t1, t2, t3⟩ := hSw; go_simp; try rfl
        simp only [List.getElem_toArray, List.getElem_cons_zero, List.getElem_cons_succ, Act.put, List.setIfInBounds_toArray, List.set_cons_zero, List.set_cons_succ]
        refine wpAnyH_take (i := 20) (v := ?_) rfl (by kernel_rfl) (by kernel_rfl) (by kernel_rfl) (fun _ _ _ h => h) (Or.inl ⟨by rfl, ?_⟩) hHeld ?_
        rotate_left
        · intro w hSw; obtain ⟨t0, t1, t2, t3⟩ := hSw; go_simp; try rfl
        simp only [List.getElem_toArray, List.getElem_cons_zero, List.getElem_cons_succ, Act.put, List.setIfInBounds_toArray, List.set_cons_zero, List.set_cons_succ]
        refine wpAnyH_take (i := 21) (v := ?_) rfl (by kernel_rfl) (by kernel_rfl) (by kernel_rfl) (fun _ _ _ h => h) (Or.inl ⟨by rfl, ?_⟩) hHeld ?_
        rotate_left
        · intro w hSw; obtain ⟨t0, t1, t2, t3⟩ := hSw; go_simp; try rfl
        simp only [List.getElem_toArray, List.getElem_cons_zero, List.getElem_cons_succ, Act.put, List.setIfInBounds_toArray, List.set_cons_zero, List.set_cons_succ]
        refine wpAnyH_take (i := 22) (v := ?_) rfl (by kernel_rfl) (by kernel_rfl) (by kernel_rfl) (fun _ _ _ h => h) (Or.inl ⟨by rfl, ?_⟩) hHeld ?_
        rotate_left
        · intro w hSw; obtain ⟨t0, t1, t2, t3⟩ := hSw; go_simp; try rfl
        simp only [List.getElem_toArray, List.getElem_cons_zero, List.getElem_cons_succ, Act.put, List.setIfInBounds_toArray, List.set_cons_zero, List.set_cons_succ]
        refine wpAnyH_take (i := 23) (v := ?_) rfl (by kernel_rfl) (by kernel_rfl) (by kernel_rfl) (fun _ _ _ h => h) (Or.inl ⟨by rfl, ?_⟩) hHeld ?_
        rotate_left
        · intro w hSw; obtain ⟨t0, t1, t2, t3⟩ := hSw; go_simp; try rfl
        simp only [List.getElem_toArray, List.getElem_cons_zero, List.getElem_cons_succ, Act.put, List.setIfInBounds_toArray, List.set_cons_zero, List.set_cons_succ]
        refine wpAnyH_take (i := 24) (v := ?_) rfl (by kernel_rfl) (by kernel_rfl) (by kernel_rfl) (fun _ _ _ h => h) (Or.inl ⟨by rfl, ?_⟩) hHeld ?_
        rotate_left
        · intro w hSw; obtain ⟨t0, t1, t2, t3⟩ := hSw; go_simp; try rfl
        simp only [List.getElem_toArray, List.getElem_cons_zero, List.getElem_cons_succ, Act.put, List.setIfInBounds_toArray, List.set_cons_zero, List.set_cons_succ]
        refine wpAnyH_take (i := 26) (v := ?_) rfl (by kernel_rfl) (by kernel_rfl) (by kernel_rfl) (fun _ _ _ h => h) (Or.inl ⟨by rfl, ?_⟩) hHeld ?_
        rotate_left
        · intro w hSw; obtain ⟨t0, t1, t2, t3⟩ := hSw; go_simp; try rfl
        simp only [List.getElem_toArray, List.getElem_cons_zero, List.getElem_cons_succ, Act.put, List.setIfInBounds_toArray, List.set_cons_zero, List.set_cons_succ]
        refine wpAnyH_take (i := 27) (v := ?_) rfl (by kernel_rfl) (by kernel_rfl) (by kernel_rfl) (fun _ _ _ h => h) (Or.inl ⟨by rfl, ?_⟩) hHeld ?_
        rotate_left
        · intro w hSw; obtain ⟨t0, t1, t2, t3⟩ := hSw; go_simp; try rfl
        simp only [List.getElem_toArray, List.getElem_cons_zero, List.getElem_cons_succ, Act.put, List.setIfInBounds_toArray, List.set_cons_zero, List.set_cons_succ]
        refine wpAnyH_take (i := 28) (v := ?_) rfl (by kernel_rfl) (by kernel_rfl) (by kernel_rfl) (fun _ _ _ h => h) (Or.inl ⟨by rfl, ?_⟩) hHeld ?_
        rotate_left
        · intro w hSw; obtain ⟨t0, t1, t2, t3⟩ := hSw; go_simp; try rfl
        simp only [List.getElem_toArray, List.getElem_cons_zero, List.getElem_cons_succ, Act.put, List.setIfInBounds_toArray, List.set_cons_zero, List.set_cons_succ]
        refine wpAnyH_take (i := 29) (v := ?_) rfl (by kernel_rfl) (by kernel_rfl) (by kernel_rfl) (fun _ _ _ h => h) (Or.inl ⟨by rfl, ?_⟩) hHeld ?_
        rotate_left
        · intro w hSw; obtain ⟨t0, t1, t2, t3⟩ := hSw; go_simp; try rfl
        simp only [List.getElem_toArray, List.getElem_cons_zero, List.getElem_cons_succ, Act.put, List.setIfInBounds_toArray, List.set_cons_zero, List.set_cons_succ]
        refine wpAnyH_take (i := 30) (v := ?_) rfl (by kernel_rfl) (by kernel_rfl) (by kernel_rfl) (fun _ _ _ h => h) (Or.inl ⟨by rfl, ?_⟩) hHeld ?_
        rotate_left
        · intro w hSw; obtain ⟨t0, t1, t2, t3⟩ := hSw; go_simp; try rfl
        simp only [List.getElem_toArray, List.getElem_cons_zero, List.getElem_cons_succ, Act.put, List.setIfInBounds_toArray, List.set_cons_zero, List.set_cons_succ]
        refine wpAnyH_take (i := 31) (v := ?_) rfl (by kernel_rfl) (by kernel_rfl) (by kernel_rfl) (fun _ _ _ h => h) (Or.inl ⟨by rfl, ?_⟩) hHeld ?_
        rotate_left
        · intro w hSw; obtain ⟨t0, t1, t2, t3⟩ := hSw; go_simp; try rfl
        simp only [List.getElem_toArray, List.getElem_cons_zero, List.getElem_cons_succ, Act.put, List.setIfInBounds_toArray, List.set_cons_zero, List.set_cons_succ]
        refine wpAnyH_take (i := 32) (v := ?_) rfl (by kernel_rfl) (by kernel_rfl) (by kernel_rfl) (fun _ _ _ h => h) (Or.inl ⟨by rfl, ?_⟩) hHeld ?_
        rotate_left
        · intro w hSw; obtain ⟨t0, t1, t2, t3⟩ := hSw; go_simp; try rfl
        simp only [List.getElem_toArray, List.getElem_cons_zero, List.getElem_cons_succ, Act.put, List.setIfInBounds_toArray, List.set_cons_zero, List.set_cons_succ]
        refine wpAnyH_take (i := 33) (v := dk.val xb) rfl (by kernel_rfl) (by kernel_rfl) (by kernel_rfl) (fun _ _ _ h => h) (yieldsIf_load_mid (by rfl) 43 (.tmp 56) rfl k (j * 129 + 1) rfl (dk.cells xb) _ (fun w h => h.2.2.2) uB rfl iB) hHeld ?_
        simp only [List.getElem_toArray, List.getElem_cons_zero, List.getElem_cons_succ, Act.put, List.setIfInBounds_toArray, List.set_cons_zero, List.set_cons_succ]
        refine wpAnyH_take (i := 34) (v := ?_) rfl (by kernel_rfl) (by kernel_rfl) (by kernel_rfl) (fun _ _ _ h => h) (Or.inl ⟨by rfl, ?_⟩) hHeld ?_
        rotate_left
        · intro w hSw; obtain ⟨t0, t1, t2, t3⟩ := hSw; go_simp; try rfl
        simp only [List.getElem_toArray, List.getElem_cons_zero, List.getElem_cons_succ, Act.put, List.setIfInBounds_toArray, List.set_cons_zero, List.set_cons_succ]
        refine wpAnyH_ready (rs := [25]) (by kernel_rfl) (by simp) ?_
        refine AllReadyH.cons rfl (fun K hK => ?_) AllReadyH.nil
        rw [if_pos (by rfl)]
        refine wp_load_mid 43 (.tmp 48) rfl g (i * 128) rfl (dk.cells ob) _ dO' uB rfl iO ?_
        simp only [List.getElem_toArray, List.getElem_cons_zero, List.getElem_cons_succ, Act.put, List.setIfInBounds_toArray, List.set_cons_zero, List.set_cons_succ]
        refine hK.out _ _ hHeld (fun hHeld => ?_)
        clear hK K
        refine wpAnyH_ready (rs := [35]) (by kernel_rfl) (by simp) ?_
        refine AllReadyH.cons rfl (fun K hK => ?_) AllReadyH.nil
        rw [if_pos (by rfl)]
        go_simp
        refine (HT.out _).mono ?_
        rintro e w1 ⟨rfl, hb1⟩
        have q0 := (hb1.cell (p := ⟨p, 0, none⟩) hps).trans d0
        have q1 := (hb1.cell (p := ⟨p, 1, none⟩) hps).trans d1
        have qN := (hb1.cell (p := ⟨k, j * 129, none⟩) hks).trans dN
        have qB := dk.range_below (w := wr.drew) dB hb1
        rw [htor]
        have hM1 := hM.drew.below hb1
        have th := there_of hM1.row (i * 128) 128 hrl
        dsimp only
        refine hK.out _ _ ⟨q0, q1, qN, qB⟩ (fun hHeld => ?_)
        clear hK K
        refine wpAnyH_take (i := 36) (v := ?_) rfl (by kernel_rfl) (by kernel_rfl) (by kernel_rfl) (fun _ _ _ h => h) (Or.inl ⟨by rfl, ?_⟩) hHeld ?_
        rotate_left
        · intro w hSw; obtain ⟨t0, t1, t2, t3⟩ := hSw; go_simp; try rfl
        simp only [List.getElem_toArray, List.getElem_cons_zero, List.getElem_cons_succ, Act.put, List.setIfInBounds_toArray, List.set_cons_zero, List.set_cons_succ]
        refine wpAnyH_ready (rs := [37]) (by kernel_rfl) (by simp) ?_
        refine AllReadyH.cons rfl (fun K hK => ?_) AllReadyH.nil
        rw [if_pos (by rfl)]
        refine wp_store_mid 43 (.tmp 60) (.tmp 59) rfl g (i * 128) (dk.cells tb).toArray rfl rfl (by simpa [htb] using th) (by simpa [htb] using info_blk) (cells_one tb) ?_
        simp only [List.getElem_toArray, List.getElem_cons_zero, List.getElem_cons_succ, Act.put]
        refine hK.out _ _ ⟨(dk.cell_sets_far hpg).trans q0, (dk.cell_sets_far hpg).trans q1, (dk.cell_sets_far hkg).trans qN, dk.range_sets_far qB hkg⟩ (fun hHeld => ?_)
        clear hK K
        refine wpAnyH_done (by kernel_rfl) ?_ _
        have hset := block_sets (dk.cells tb) (i * 128) _ w1 hM1.row (by rw [List.length_map, htb]; exact hrl)
        rw [List.length_map, htb] at hset
        have hMS := hM1.stored hiS htb hset (Chg.setCells g _ _ _)
        simp only at hMS
        go_wp2_with fail
        go_roundw
        case rel =>
          refine ⟨j + 1, by omega, by go_num, by rw [HST.out]; exact hMS, ?_⟩
          exact ((hC.trans (Chg.drew _ (dk.fp p g v)) (Sub.refl _ _)).trans (Chg.of_below hb1 (dk.fp p g v)) (Sub.refl _ _)).trans (Chg.setCells g _ _ _) dk.sub_g
        case measure => simp [intOf]; omega
    · obtain ⟨A', cap, hv, _, _⟩ := hM.own_len
      subst hv
      simp only [List.take_of_length_le (show s.L.length ≤ j from by omega)] at hM
      have f1 := hM.fz 1
      have hc1 := hM.clear_
      have g3 := hc1.c3
      have f3 := hc1.fz 3
      have hc2 := hc1.black false
      have g2 := hc2.c2
      have f2 := hc2.fz 2
      have hc3 := hc2.cut 0 (by omega)
      go_wp2_with fail
      go_ret
      exact ⟨rfl, _, hc3, ((hC.trans (Chg.setCell _ _ _ _) dk.sub_p).trans (Chg.setCell _ _ _ _) dk.sub_p).trans (Chg.setCell _ _ _ _) dk.sub_p, dk.sub_nil⟩
end Go.Proofs.YtknndmhkfonfmaaGreatDoor

/-
  THE DOCUMENT's DISK AS A LAW SEES IT: a pointer, its blocks of memory (F), what it is (s).
-/
namespace Go.Proofs.YtknndmhkfonfmaaGreatDoor
open Go.RowKit
variable {w w' : World} {F : List Nat} {d : Value} {s : dk.St}

/-- few steps, few writes that are not sure -/
def dk.St.Few (s : dk.St) : Prop := s.many < 1048576 ∧ s.L.length < 1048576
def RD (w : World) (F : List Nat) (d : Value) (s : dk.St) : Prop := ∃ p g c r v, d = .pointer (some ⟨p, 0, none⟩) ∧ F = dk.fp p g v ∧ RM w p g c r v s
theorem RD.there (h : RD w F d s) : Ther w F := by obtain ⟨p, g, c, r, v, rfl, rfl, hM⟩ := h; exact hM.there
theorem RD.keep (h : RD w F d s) (hs : Same w w' F) : RD w' F d s := by obtain ⟨p, g, c, r, v, rfl, rfl, hM⟩ := h; exact ⟨p, g, c, r, v, rfl, rfl, hM.keep hs⟩
theorem RD.below (h : RD w F d s) (hb : Below w.heap.size w w') : RD w' F d s := h.keep fun k hk => hb.block k (h.there k hk)
theorem RD.ok (h : RD w F d s) : s.Ok := by obtain ⟨p, g, c, r, v, rfl, rfl, hM⟩ := h; exact hM.ok
theorem RD.form (h : RD w F d s) : ∃ p, d = .pointer (some ⟨p, 0, none⟩) := by obtain ⟨p, g, c, r, v, rfl, rfl, hM⟩ := h; exact ⟨p, rfl⟩

theorem rd_blocks (h : RD w F d s) : Calls Tryz.prog 75 #[d] w fun e w' => e = .returned (.int .i64 s.S.length) ∧ w = w' := by obtain ⟨p, g, c, r, v, rfl, rfl, hM⟩ := h; exact rblocks_any hM
theorem rd_dark (h : RD w F d s) : Calls Tryz.prog 9 #[d] w fun e w' => e = .returned (.bool s.black) ∧ w = w' := by obtain ⟨p, g, c, r, v, rfl, rfl, hM⟩ := h; exact rdark_any hM
theorem rd_steps (h : RD w F d s) : Calls Tryz.prog 17 #[d] w fun e w' => e = .returned (.int .i64 s.many) ∧ w = w' := by obtain ⟨p, g, c, r, v, rfl, rfl, hM⟩ := h; exact rsteps_any hM
theorem rd_sure (n : Int) (h : RD w F d s) : Calls Tryz.prog 15 #[d, .int .i64 n] w fun e w' => e = .returned (.tuple #[dk.val (dk.sure s n).1, .int .i64 (dk.sure s n).2]) ∧ Below w.heap.size w w' := by obtain ⟨p, g, c, r, v, rfl, rfl, hM⟩ := h; exact rsure_any n hM
theorem rd_read (n : Int) (h : RD w F d s) : Calls Tryz.prog 97 #[d, .int .i64 n] w fun e w' => e = .returned (.tuple #[dk.val (dk.read s n).1, .int .i64 (dk.read s n).2]) ∧ Below w.heap.size w w' := by obtain ⟨p, g, c, r, v, rfl, rfl, hM⟩ := h; exact rread_any n hM
theorem rd_arm (n : Int) (hn : n ≤ 9223372036854775807) (h : RD w F d s) : Calls Tryz.prog 29 #[d, .int .i64 n] w fun e w' => ∃ F', e = .returned (.int .i64 (dk.arm s n).1) ∧ RD w' F' d (dk.arm s n).2 ∧ Chg w w' F ∧ Sub w F' F := by
  obtain ⟨p, g, c, r, v, rfl, rfl, hM⟩ := h
  exact (rarm_any n hn hM).mono fun e w' ⟨h1, h2, h3⟩ => ⟨_, h1, ⟨p, g, c, r, v, rfl, rfl, h2⟩, h3.mono dk.sub_p, Sub.refl _ _⟩
theorem rd_write (n : Int) (b : dk.Blk) (hb : b.length = 128) (h : RD w F d s) (hf : s.Few) : Calls Tryz.prog 21 #[d, .int .i64 n, dk.val b] w fun e w' => ∃ F', e = .returned (.int .i64 (dk.write s n b).1) ∧ RD w' F' d (dk.write s n b).2 ∧ Chg w w' F ∧ Sub w F' F := by
  obtain ⟨p, g, c, r, v, rfl, rfl, hM⟩ := h
  exact (rwrite_any n b hb hM (by have := hf.1; omega) (by have := hf.2; omega)).mono fun e w' ⟨v', h1, h2, h3, h4⟩ => ⟨_, h1, ⟨p, g, c, r, v', rfl, rfl, h2⟩, h3, h4⟩
theorem rd_flush (h : RD w F d s) (hf : s.Few) : Calls Tryz.prog 76 #[d] w fun e w' => ∃ F', e = .returned (.int .i64 (dk.flush s).1) ∧ RD w' F' d (dk.flush s).2 ∧ Chg w w' F ∧ Sub w F' F := by
  obtain ⟨p, g, c, r, v, rfl, rfl, hM⟩ := h
  exact (rflush_any hM (by have := hf.1; omega)).mono fun e w' ⟨v', h1, h2, h3, h4⟩ => ⟨_, h1, ⟨p, g, c, r, v', rfl, rfl, h2⟩, h3, h4⟩
theorem rd_rot (n at_ : Int) (x : UInt8) (h : RD w F d s) : Calls Tryz.prog 31 #[d, .int .i64 n, .int .i64 at_, bv x] w fun e w' => ∃ F', e = .returned (.int .i64 (dk.rot s n at_ x).1) ∧ RD w' F' d (dk.rot s n at_ x).2 ∧ Chg w w' F ∧ Sub w F' F := by
  obtain ⟨p, g, c, r, v, rfl, rfl, hM⟩ := h
  exact (rrot_any n at_ x hM).mono fun e w' ⟨h1, h2, h3⟩ => ⟨_, h1, ⟨p, g, c, r, v, rfl, rfl, h2⟩, h3, Sub.refl _ _⟩
theorem rd_crash (A : Option Addr) (n cp : Nat) (l : List Int) (hl : IS w A n cp l) (hA : 0 < n → ∀ b o, A = some ⟨b, o, none⟩ → b ∉ F) (h : RD w F d s) : Calls Tryz.prog 11 #[d, .slice A n cp] w fun e w' => ∃ F', e = .returned (.int .i64 0) ∧ RD w' F' d (dk.crash s l) ∧ Chg w w' F ∧ Sub w F' F := by
  obtain ⟨p, g, c, r, v, rfl, rfl, hM⟩ := h
  exact (rcrash_any A n cp l hl hA hM).mono fun e w' ⟨v', h1, h2, h3, h4⟩ => ⟨_, h1, ⟨p, g, c, r, v', rfl, rfl, h2⟩, h3, h4⟩
theorem rd_new (n : Nat) (h : 64 ≤ n) (h2 : n ≤ 4096) : Calls Tryz.prog 6 #[.int .i64 n] w fun e w' => ∃ F d, e = .returned (.tuple #[d, .int .i64 0]) ∧ RD w' F d (fresh n) ∧ Below w.heap.size w w' ∧ (∀ k ∈ F, w.heap.size ≤ k) := by
  refine (rnew_yes n h h2).mono fun e w' ⟨p, g, h1, h2, h3, h4, h5⟩ => ⟨_, _, h1, ⟨p, g, _, _, _, rfl, rfl, h2⟩, h3.below (Nat.le_refl _) (by simp), fun k hk => ?_⟩
  have : k = p ∨ k = g := by simpa [dk.fp, Value.ownBlock] using hk
  rcases this with rfl | rfl <;> assumption
end Go.Proofs.YtknndmhkfonfmaaGreatDoor

/-
  contracts of the program's own disk, over any disk in memory: none, has, lit, usable, step, Blocks, Dark, Steps, Loose, Arm, Sure, Rot, New.
-/
namespace Go.Proofs.YtknndmhkfonfmaaGreatDoor
open Go.RowKit

/-- the program's disk -/
abbrev PM := dk.M 61 43 73
variable {w : World} {p g c : Nat} {r : List Value} {v : Value} {s : dk.St}

/-- what is asked ahead of a block, dark or not -/
def dk.has (s : dk.St) (n : Int) : Int := if n < 0 ∨ (s.S.length : Int) ≤ n then 2 else 0
def dk.lit (s : dk.St) : Int := if s.black then 9 else 0

theorem pblocks_any (h : PM w p g c r v s) : Calls Tryz.prog 85 #[.pointer (some ⟨p, 0, none⟩)] w fun e w' => e = .returned (.int .i64 s.S.length) ∧ w = w' := by
  have c0 := h.c0
  go_enter Tryz.func85, Tryz.ntmps85
  go_wp2
  go_ret
  exact ⟨rfl, rfl⟩
theorem pdark_any (h : PM w p g c r v s) : Calls Tryz.prog 8 #[.pointer (some ⟨p, 0, none⟩)] w fun e w' => e = .returned (.bool s.black) ∧ w = w' := by
  have c3 := h.c3
  go_enter Tryz.func8, Tryz.ntmps8
  go_wp2
  go_ret
  exact ⟨rfl, rfl⟩
theorem psteps_any (h : PM w p g c r v s) : Calls Tryz.prog 16 #[.pointer (some ⟨p, 0, none⟩)] w fun e w' => e = .returned (.int .i64 s.many) ∧ w = w' := by
  have c4 := h.c4
  go_enter Tryz.func16, Tryz.ntmps16
  go_wp2
  go_ret
  exact ⟨rfl, rfl⟩
theorem pnone_any (h : PM w p g c r v s) : Calls Tryz.prog 32 #[.pointer (some ⟨p, 0, none⟩)] w fun e w' => e = .returned (.bool false) ∧ w = w' := by
  have c0 := h.c0
  have hm := h.ok.some
  have hm2 := h.ok.most
  have hne : ((s.S.length : Int) == 0) = false := by rw [beq_eq_false_iff_ne]; omega
  go_enter Tryz.func32, Tryz.ntmps32
  go_wp2
  go_ret
  exact ⟨rfl, rfl⟩
theorem phas_any (n : Int) (h : PM w p g c r v s) : Calls Tryz.prog 43 #[.pointer (some ⟨p, 0, none⟩), .int .i64 n] w fun e w' => e = .returned (.int .i64 (dk.has s n)) ∧ w = w' := by
  have c0 := h.c0
  have hm := h.ok.most
  have HN := Lib.hid (pnone_any h)
  have hcs : n < 0 ∨ (¬ n < 0 ∧ (s.S.length : Int) ≤ n) ∨ (¬ n < 0 ∧ ¬ (s.S.length : Int) ≤ n) := by omega
  rcases hcs with h0 | ⟨h0, h1⟩ | ⟨h0, h1⟩
  all_goals
    go_enter Tryz.func43, Tryz.ntmps43
    go_wp2_with fail
    refine HN.out.mono ?_
    rintro e w1 ⟨rfl, rfl⟩
    go_wp2_with fail
    go_ret
    exact ⟨ret_int (by simp [dk.has, *]), rfl⟩
theorem plit_any (h : PM w p g c r v s) : Calls Tryz.prog 59 #[.pointer (some ⟨p, 0, none⟩)] w fun e w' => e = .returned (.int .i64 (dk.lit s)) ∧ w = w' := by
  have c3 := h.c3
  have HN := Lib.hid (pnone_any h)
  cases hb : s.black
  all_goals
    rw [hb] at c3
    go_enter Tryz.func59, Tryz.ntmps59
    go_wp2_with fail
    refine HN.out.mono ?_
    rintro e w1 ⟨rfl, rfl⟩
    go_wp2_with fail
    go_ret
    exact ⟨ret_int (by simp [dk.lit, hb]), rfl⟩
theorem pusable_any (n : Int) (h : PM w p g c r v s) : Calls Tryz.prog 45 #[.pointer (some ⟨p, 0, none⟩), .int .i64 n] w fun e w' => e = .returned (.int .i64 (dk.asks s n)) ∧ w = w' := by
  have HL := Lib.hid (plit_any h)
  have HH := Lib.hid (phas_any n h)
  cases hb : s.black with
  | true =>
    have hl : dk.lit s = 9 := by simp [dk.lit, hb]
    rw [hl] at HL
    clear hl
    go_enter Tryz.func45, Tryz.ntmps45
    go_wp2_with fail
    refine HL.out.mono ?_
    rintro e w1 ⟨rfl, rfl⟩
    go_wp2_with fail
    go_ret
    exact ⟨ret_int (by simp [dk.asks, hb]), rfl⟩
  | false =>
    have hl : dk.lit s = 0 := by simp [dk.lit, hb]
    have ha : dk.has s n = dk.asks s n := by simp [dk.has, dk.asks, hb]
    rw [hl] at HL
    rw [ha] at HH
    clear hl ha
    go_enter Tryz.func45, Tryz.ntmps45
    go_wp2_with fail
    refine HL.out.mono ?_
    rintro e w1 ⟨rfl, rfl⟩
    go_wp2_with fail
    refine HH.out.mono ?_
    rintro e w1 ⟨rfl, rfl⟩
    go_wp2_with fail
    go_ret
    exact ⟨rfl, rfl⟩
theorem pstep_any (h : PM w p g c r v s) (hm : s.many < 4611686018427387904) : Calls Tryz.prog 46 #[.pointer (some ⟨p, 0, none⟩)] w fun e w' => e = .returned (.int .i64 (dk.step s).1) ∧ PM w' p g c r v (dk.step s).2 ∧ Chg w w' [p] := by
  have c2 := h.c2
  have f2 := h.fz 2
  have f3 := h.fz 3
  have f4 := h.fz 4
  have c3 := h.c3
  have c4 := h.c4
  obtain ⟨h0, h1⟩ := h.cutR
  obtain ⟨m0, m1⟩ := h.manyR
  by_cases hc : s.cut = 1
  · have hr : dk.step s = (9, { s with black := true }) := if_pos hc
    have hn := h.black true
    rw [hc] at c2
    rw [hr]
    clear hr hc
    go_enter Tryz.func46, Tryz.ntmps46
    go_wp2
    go_ret
    exact ⟨rfl, hn, Chg.setCell _ _ _ _⟩
  · by_cases hc2 : 1 < s.cut
    · have hr : dk.step s = (0, { s with cut := s.cut - 1, many := s.many + 1 }) := by rw [dk.step, if_neg hc, if_pos hc2]
      have hn1 := h.cut (s.cut - 1) (by omega)
      have hn := hn1.many (s.many + 1) (by omega)
      have d4 := hn1.c4
      have e4 := hn1.fz 4
      simp only at d4
      rw [hr]
      have hb : (s.cut == 1) = false := by simpa using hc
      have hb0 : (s.cut == 0) = false := by simp; omega
      clear hr hc
      go_enter Tryz.func46, Tryz.ntmps46
      go_wp2
      go_ret
      exact ⟨rfl, hn, (Chg.setCell _ _ _ _).trans (Chg.setCell _ _ _ _) (Sub.refl _ _)⟩
    · have hr : dk.step s = (0, { s with many := s.many + 1 }) := by rw [dk.step, if_neg hc, if_neg hc2]
      have hn := h.many (s.many + 1) (by omega)
      have hz : s.cut = 0 := by omega
      rw [hr]
      rw [hz] at c2
      clear hr hc hc2
      go_enter Tryz.func46, Tryz.ntmps46
      go_wp2
      go_ret
      exact ⟨rfl, hn, Chg.setCell _ _ _ _⟩
theorem parm_any (n : Int) (hn : n ≤ 9223372036854775807) (h : PM w p g c r v s) : Calls Tryz.prog 28 #[.pointer (some ⟨p, 0, none⟩), .int .i64 n] w fun e w' => e = .returned (.int .i64 (dk.arm s n).1) ∧ PM w' p g c r v (dk.arm s n).2 ∧ Chg w w' [p] := by
  have c2 := h.c2
  have f2 := h.fz 2
  have HL := Lib.hid (plit_any h)
  cases hb : s.black with
  | true =>
    have hr : dk.arm s n = (9, s) := by simp [dk.arm, hb]
    have hl : dk.lit s = 9 := by simp [dk.lit, hb]
    rw [hl] at HL
    rw [hr]
    clear hr hl
    go_enter Tryz.func28, Tryz.ntmps28
    go_wp2_with fail
    refine HL.out.mono ?_
    rintro e w1 ⟨rfl, rfl⟩
    go_wp2_with fail
    go_ret
    exact ⟨rfl, h, Chg.refl _ _⟩
  | false =>
    have hl : dk.lit s = 0 := by simp [dk.lit, hb]
    rw [hl] at HL
    clear hl
    by_cases h0 : n < 0
    · have hr : dk.arm s n = (2, s) := by simp [dk.arm, hb, h0]
      rw [hr]
      clear hr
      go_enter Tryz.func28, Tryz.ntmps28
      go_wp2_with fail
      refine HL.out.mono ?_
      rintro e w1 ⟨rfl, rfl⟩
      go_wp2_with fail
      go_ret
      exact ⟨rfl, h, Chg.refl _ _⟩
    · have hr : dk.arm s n = (0, { s with cut := n }) := by unfold dk.arm; rw [if_neg (by simp [hb]), if_neg h0]
      have hN := h.cut n (by omega)
      rw [hr]
      clear hb
      clear hr
      go_enter Tryz.func28, Tryz.ntmps28
      go_wp2_with fail
      refine HL.out.mono ?_
      rintro e w1 ⟨rfl, rfl⟩
      go_wp2_with fail
      go_ret
      exact ⟨rfl, hN, Chg.setCell _ _ _ _⟩
set_option maxRecDepth 100000 in
theorem psure_any (n : Int) (h : PM w p g c r v s) : Calls Tryz.prog 14 #[.pointer (some ⟨p, 0, none⟩), .int .i64 n] w fun e w' => e = .returned (.tuple #[dk.val (dk.sure s n).1, .int .i64 (dk.sure s n).2]) ∧ Below w.heap.size w w' := by
  have h' := h.alloc (.cells (dk.cells dk.zero).toArray 43)
  have d0 := h'.c0
  have hm := h.ok.most
  obtain ⟨hz, -⟩ := zero_of_info zero_blk
  have hrow := heap_alloc_new w (.cells (dk.cells dk.zero).toArray 43)
  have HH := Lib.hid (phas_any n h')
  by_cases hin : n < 0 ∨ (s.S.length : Int) ≤ n
  · have hr : dk.sure s n = (dk.zero, 2) := if_pos hin
    have hh : dk.has s n = 2 := if_pos hin
    have HR := Lib.hid hr
    rw [hh] at HH
    clear hr hh hin
    go_enter Tryz.func14, Tryz.ntmps14
    go_wp2_with fail
    refine HH.out.mono ?_
    rintro e w1 ⟨rfl, rfl⟩
    go_wp2_with (refine wp_st0 (.tmp 4) (.tmp 12) dk.zero hrow zero_len zero_len rfl rfl rfl rfl ?_; intro W hW hc)
    refine bodyPost_ret (results_cell_tmp rfl rfl (blk_load (blk_range hW) zero_len)) rfl ⟨?_, new_chg hc⟩
    rw [HR.out]
    rfl
  · obtain ⟨i, rfl⟩ : ∃ i : Nat, n = i := ⟨n.toNat, by omega⟩
    have hi : i < s.S.length := by omega
    have hb := h.ok.lenS _ (List.getElem_mem hi)
    have hh : dk.has s i = 0 := if_neg hin
    have hr : dk.sure s i = (s.S[i], 0) := by
      rw [dk.sure, if_neg hin, Int.toNat_natCast, List.getD_eq_getElem?_getD, List.getElem?_eq_getElem hi]
      rfl
    have hrange := h'.block hi
    generalize s.S[i] = b at *
    have HR := Lib.hid hr
    have h0 : ¬ (i : Int) < 0 := by omega
    rw [hh] at HH
    clear hr hin hh
    go_enter Tryz.func14, Tryz.ntmps14
    go_wp2_with fail
    refine HH.out.mono ?_
    rintro e w1 ⟨rfl, rfl⟩
    go_wp2_with (first | refine wp_ld (.tmp 19) b hrange hb rfl rfl rfl ?_ | (refine wp_st0 (.tmp 4) (.tmp 20) b hrow zero_len hb rfl rfl rfl rfl ?_; intro W hW hc))
    refine bodyPost_ret (results_cell_tmp rfl rfl (blk_load (blk_range hW) hb)) rfl ⟨?_, new_chg hc⟩
    rw [HR.out]
    rfl
set_option maxHeartbeats 4000000 in
set_option maxRecDepth 100000 in
theorem prot_any (n at_ : Int) (x : UInt8) (h : PM w p g c r v s) : Calls Tryz.prog 30 #[.pointer (some ⟨p, 0, none⟩), .int .i64 n, .int .i64 at_, bv x] w fun e w' =>
    e = .returned (.int .i64 (dk.rot s n at_ x).1) ∧ PM w' p g c r v (dk.rot s n at_ x).2 ∧ Chg w w' (dk.fp p g v) := by
  have c0 := h.c0
  have hm := h.ok.most
  have HH := Lib.hid (phas_any n h)
  by_cases hin : n < 0 ∨ (s.S.length : Int) ≤ n
  · have hr : dk.rot s n at_ x = (2, s) := if_pos (by omega)
    have hh : dk.has s n = 2 := if_pos hin
    have HR := Lib.hid hr
    rw [hh] at HH
    clear hr hh hin
    go_enter Tryz.func30, Tryz.ntmps30
    go_wp2_with fail
    refine HH.out.mono ?_
    rintro e w1 ⟨rfl, rfl⟩
    go_wp2_with fail
    go_ret
    exact ⟨ret_int (by rw [HR.out]), by rw [HR.out]; exact h, Chg.refl _ _⟩
  · have hh : dk.has s n = 0 := if_neg hin
    rw [hh] at HH
    clear hh
    by_cases hat : at_ < 0 ∨ 128 ≤ at_
    · have hr : dk.rot s n at_ x = (2, s) := if_pos (by omega)
      have HR := Lib.hid hr
      clear hr hin
      have hcs : at_ < 0 ∨ (¬ at_ < 0 ∧ 128 ≤ at_) := by omega
      clear hat
      rcases hcs with h2 | ⟨h2, h3⟩
      all_goals
        go_enter Tryz.func30, Tryz.ntmps30
        go_wp2_with fail
        refine HH.out.mono ?_
        rintro e w1 ⟨rfl, rfl⟩
        go_wp2_with fail
        go_ret
        exact ⟨ret_int (by rw [HR.out]), by rw [HR.out]; exact h, Chg.refl _ _⟩
    · obtain ⟨i, rfl⟩ : ∃ i : Nat, n = i := ⟨n.toNat, by omega⟩
      obtain ⟨k, rfl⟩ : ∃ k : Nat, at_ = k := ⟨at_.toNat, by omega⟩
      have hi : i < s.S.length := by omega
      have hk : k < 128 := by omega
      have hbl := h.ok.lenS _ (List.getElem_mem hi)
      have hr : dk.rot s i k x = (0, { s with S := s.S.set i (s.S[i].set k (s.S[i].getD k 0 ^^^ x)) }) := by
        rw [dk.rot, if_neg (by omega), Int.toNat_natCast, Int.toNat_natCast, List.getD_eq_getElem?_getD, List.getElem?_eq_getElem hi]
        rfl
      have HR := Lib.hid hr
      have hrange := h.block hi
      have hMB : ∀ y, PM (w.drew.setCell ⟨g, i * 128 + k, none⟩ (bv y)) p g c r v { s with S := s.S.set i (s.S[i].set k y) } := fun y => h.drew.byte hi hk
      generalize s.S[i] = b at *
      have hkb : k < b.length := by omega
      have hcell := hrange k (bv b[k]) (by rw [List.getElem?_map, List.getElem?_eq_getElem hkb]; rfl)
      have hfz : w.frozen? ⟨g, i * 128 + k, none⟩ = false := by simp [World.frozen?, h.row]
      have hCB : ∀ y, Chg w (w.drew.setCell ⟨g, i * 128 + k, none⟩ (bv y)) (dk.fp p g v) := fun y => (Chg.drew w (dk.fp p g v)).trans (Chg.setCell _ _ _ _) dk.sub_g
      have hget : b.getD k 0 = b[k] := by rw [List.getD_eq_getElem?_getD, List.getElem?_eq_getElem hkb]; rfl
      rw [hget] at HR
      generalize b[k] = y at *
      have hx := x.toNat_lt
      have hy := y.toNat_lt
      have h0 : ¬ (i : Int) < 0 := by omega
      have h1 : ¬ (s.S.length : Int) ≤ i := by omega
      have h2 : ¬ (k : Int) < 0 := by omega
      have h3 : ¬ (128 : Int) ≤ k := by omega
      clear hr hin hrange hat
      go_enter Tryz.func30, Tryz.ntmps30
      go_wp2_with fail
      refine HH.out.mono ?_
      rintro e w1 ⟨rfl, rfl⟩
      go_wp2_with fail
      go_still_tail 13, (by kernel_rfl)
      change wpList _ _ _ _ _ w.drew
      go_wp2_with fail
      go_ret
      rw [xor_bv]
      exact ⟨ret_int (by rw [HR.out]), by rw [HR.out]; exact hMB _, hCB _⟩
set_option maxRecDepth 100000 in
theorem pnew_yes (n : Nat) (h : 64 ≤ n) (h2 : n ≤ 4096) : Calls Tryz.prog 5 #[.int .i64 n] w fun e w' => ∃ p g, e = .returned (.tuple #[.pointer (some ⟨p, 0, none⟩), .int .i64 0]) ∧
    PM w' p g n [] (.slice none 0 0) (fresh n) ∧ Chg w w' [] ∧ w.heap.size ≤ p ∧ w.heap.size ≤ g := by
  obtain ⟨i0, hi0, hz0, hs0, hb0⟩ := info_parts4 info_blk3
  have hmk := fun W => run_make (P := Tryz.prog) W 58 43 i0 _ Tryz.underlying58 hi0 hz0 .i64 .i64 (n : Int) (n : Int) (by omega) (by omega) (by rw [hb0]; omega) (by omega)
  rw [hs0, Int.toNat_natCast] at hmk
  simp only [made_blocks] at hmk
  obtain ⟨C, hC⟩ : ∃ C, (dk.cellsS (List.replicate n dk.zero)).toArray = C := ⟨_, rfl⟩
  rw [hC] at hmk
  have HC := Lib.hid hC
  clear hC
  go_enter Tryz.func5, Tryz.ntmps5
  go_wp2_with fail
  go_ret2
  have e0 := heap_alloc_new w (.cells C 43)
  have e1 := heap_alloc_new (w.alloc (.cells C 43)) (.cells #[.slice (some ⟨w.heap.size, 0, none⟩) n n, .slice none 0 0, .int .i64 0, .bool false, .int .i64 0] 61)
  rw [show (w.alloc (.cells C 43)).heap.size = w.heap.size + 1 from by simp] at e1
  refine ⟨w.heap.size + 1, w.heap.size, rfl, ⟨?_, ?_, ?_, by omega, World.ownsRow_nil _ _ _ _, fresh_ok h h2, by omega, by simp [Value.ownBlock], by simp [Value.ownBlock], by simp [fresh], by simp [fresh]⟩, (Chg.alloc w _ []).trans (Chg.alloc _ _ []) (Sub.refl _ _), by omega, Nat.le_refl _⟩
  · rw [e1]
    simp [fresh]
  · rw [Below.heap_alloc _ _ _ (by simp), e0, ← HC.out]
    simp [fresh]
  · simp [fresh]
theorem pnew_no (n : Int) (h : n < 64 ∨ 4096 < n) : Calls Tryz.prog 5 #[.int .i64 n] w fun e w' => e = .returned (.tuple #[.pointer none, .int .i64 2]) ∧ w = w' := by
  have hcs : n < 64 ∨ (¬ n < 64 ∧ 4096 < n) := by omega
  rcases hcs with h0 | ⟨h0, h1⟩
  all_goals
    go_enter Tryz.func5, Tryz.ntmps5
    go_wp2_with fail
    go_ret2
    exact ⟨rfl, rfl⟩
end Go.Proofs.YtknndmhkfonfmaaGreatDoor

/-
  contract of the program's Read: what was written last is found from behind.
-/
namespace Go.Proofs.YtknndmhkfonfmaaGreatDoor
open Go.RowKit
variable {w : World} {p g c : Nat} {r : List Value} {v : Value} {s : dk.St}

set_option maxHeartbeats 4000000 in
set_option maxRecDepth 100000 in
theorem pread_any (n : Int) (h : PM w p g c r v s) : Calls Tryz.prog 83 #[.pointer (some ⟨p, 0, none⟩), .int .i64 n] w fun e w' => e = .returned (.tuple #[dk.val (dk.read s n).1, .int .i64 (dk.read s n).2]) ∧ Below w.heap.size w w' := by
  have h1 := h.alloc (.cells (dk.cells dk.zero).toArray 43)
  obtain ⟨hz, -⟩ := zero_of_info zero_blk
  have hrow := heap_alloc_new w (.cells (dk.cells dk.zero).toArray 43)
  have hb1 : Below w.heap.size w (w.alloc (.cells (dk.cells dk.zero).toArray 43)) := (Below.refl _ _).alloc (Nat.le_refl _) _
  have ha := pusable_any n h1
  obtain ⟨q, hq⟩ : ∃ q, dk.asks s n = q := ⟨_, rfl⟩
  rw [hq] at ha
  have HA := Lib.hid ha
  by_cases h0 : q = 0
  · subst h0
    obtain ⟨hbl, hn0, hn1⟩ := dk.asks_in hq
    obtain ⟨i, rfl⟩ : ∃ i : Nat, n = i := ⟨n.toNat, by omega⟩
    have hi : i < s.S.length := by omega
    have hm := h.ok.most
    have hb0 := h.ok.lenS _ (List.getElem_mem hi)
    have hread : dk.read s i = (dk.look s.S[i] i s.L, 0) := by
      rw [dk.read, if_pos hq, Int.toNat_natCast, List.getD_eq_getElem?_getD, List.getElem?_eq_getElem hi]
      rfl
    have HR := Lib.hid hread
    have HB := Lib.hid (fun (W : World) (hW : PM W p g c r v s) => hW.block hi)
    generalize s.S[i] = b0 at *
    have HLn := Lib.hid (fun j (hj : j < s.L.length) => h.ok.lenL _ (List.getElem_mem hj))
    obtain ⟨A0, cap0, hv0, hcap0, hmax0⟩ := h1.own_len
    have d1 := h1.c1
    rw [hv0] at d1
    clear ha hq hbl hread hn0 hn1
    go_enter Tryz.func83, Tryz.ntmps83
    go_wp2_with fail
    refine HA.out.mono ?_
    rintro e w1 ⟨rfl, rfl⟩
    go_wp2_with fail
    clear d1
    go_loopw [7] (fun t wr => ∃ j : Nat, j ≤ s.L.length ∧ t = .int .i64 ((j : Int) - 1) ∧ dk.look b0 i (s.L.take j) = dk.look b0 i s.L ∧ wr.heap[w.heap.size]? = some (.cells (dk.cells dk.zero).toArray 43 (0, 0)) ∧ Below w.heap.size w wr) (fun t _ => (intOf t + 1).toNat)
    case atStart => exact ⟨s.L.length, Nat.le_refl _, by go_num, by rw [List.take_length], hrow, hb1⟩
    case round =>
      clear hrow hb1 h1
      obtain ⟨j, hj, rfl, hlk, hW, hb⟩ := hrel
      have hM := h.below hb
      cases j with
      | zero =>
        have hrange := HB.out _ hM
        have d0 := hM.c0
        have hres : dk.look b0 i s.L = b0 := by rw [← hlk]; rfl
        rw [hres] at HR
        clear hlk hres
        go_wp2_with (first | refine wp_ld (.tmp 48) b0 hrange hb0 rfl rfl rfl ?_ | (refine wp_st0 (.tmp 4) (.tmp 49) b0 hW zero_len hb0 rfl rfl rfl rfl ?_; intro W2 hW2 hc2))
        refine bodyPost_ret (results_cell_tmp rfl rfl (blk_load (blk_range hW2) hb0)) rfl ⟨?_, (Chg.of_below hb [w.heap.size]).trans hc2 (Sub.refl _ _) |>.below (Nat.le_refl _) (fun k hk => by simp at hk; omega)⟩
        rw [HR.out]
        rfl
      | succ j =>
        have hlt : j < s.L.length := by omega
        have d1 := hM.c1
        obtain ⟨k, cap, hv, hcap, hmax, dN, dB⟩ := hM.put_ hlt
        have hbl := HLn.out j hlt
        have hst : dk.look b0 i (s.L.take (j + 1)) = if s.L[j].1 = (i : Int) then s.L[j].2 else dk.look b0 i (s.L.take j) := by
          rw [List.take_succ_eq_append_getElem hlt, dk.look_snoc]
        rw [hv] at d1
        have hM2 := hM.ok.inL _ (List.getElem_mem hlt)
        generalize hx : s.L[j] = x at *
        obtain ⟨xn, xb⟩ := x
        simp only at hst dN dB hbl hM2
        rw [hlk] at hst
        obtain ⟨hx0, hx1⟩ := hM2
        have hjj : ((j + 1 : Nat) : Int) - 1 = j := by omega
        simp only [hjj]
        clear hx hM hlk hjj
        by_cases he : xn = (i : Int)
        · subst he
          rw [if_pos rfl] at hst
          rw [hst] at HR
          clear hst
          go_wp2_with (first | refine wp_ld (.tmp 41) xb dB hbl rfl rfl rfl ?_ | (refine wp_st0 (.tmp 4) (.tmp 42) xb hW zero_len hbl rfl rfl rfl rfl ?_; intro W2 hW2 hc2))
          refine bodyPost_ret (results_cell_tmp rfl rfl (blk_load (blk_range hW2) hbl)) rfl ⟨?_, (Chg.of_below hb [w.heap.size]).trans hc2 (Sub.refl _ _) |>.below (Nat.le_refl _) (fun k hk => by simp at hk; omega)⟩
          rw [HR.out]
          rfl
        · have hne : (xn == (i : Int)) = false := by simpa using he
          rw [if_neg he] at hst
          have HST := Lib.hid hst
          clear hst
          go_wp2
          go_roundw
          case rel => exact ⟨j, by omega, by go_num, HST.out.symm, hW, hb⟩
          case measure => simp [intOf]
  · have hr : dk.read s n = (dk.zero, q) := by
      rw [dk.read, hq, if_neg h0]
    have HR := Lib.hid hr
    have hqb : (q == 0) = false := by simpa using h0
    clear hr hq ha
    go_enter Tryz.func83, Tryz.ntmps83
    go_wp2_with fail
    refine HA.out.mono ?_
    rintro e w1 ⟨rfl, rfl⟩
    go_wp2_with (refine wp_st0 (.tmp 4) (.tmp 13) dk.zero hrow zero_len zero_len rfl rfl rfl rfl ?_; intro W hW hc)
    refine bodyPost_ret (results_cell_tmp rfl rfl (blk_load (blk_range hW) zero_len)) rfl ⟨?_, new_chg hc⟩
    rw [HR.out]
    rfl
end Go.Proofs.YtknndmhkfonfmaaGreatDoor

/-
  contract of the program's Write.
-/
namespace Go.Proofs.YtknndmhkfonfmaaGreatDoor
open Go.RowKit
variable {w : World} {p g c : Nat} {r : List Value} {v : Value} {s : dk.St}

theorem info_pw : (Tryz.prog.info? 73).map (fun i => (i.zero, i.size, i.bytes)) = some (some (.agg (dk.put (0, dk.zero)).toArray), 129, 136) := by kernel_rfl

theorem pw_zero : ∀ w, (zeroValue 73).run Tryz.prog w = .ok (.agg (dk.put (0, dk.zero)).toArray) w := fun w => by
  cases hq : Tryz.prog.info? 73 with
  | none => have := info_pw; simp [hq] at this
  | some i =>
    have := info_pw
    simp only [hq, Option.map_some, Option.some.injEq, Prod.mk.injEq] at this
    simp [zeroValue, typeInfo, hq, this.1]

/-- one write is appended, at a step of a region that draws -/
theorem step_pw {ops : Array Oper} {o : Oper} {a : Act} {W : World} {K : Act → World → Prop} {Q : Exit → Act → World → Prop} {E0 : Prop} (x y : Operand) {v : Value} {n : Nat} {xs : List Value} {B : Nat} {PB : Array Value}
    (hown : W.ownsRow 0 73 129 v n xs) (hB : W.heap[B]? = some (.cells PB 73 (0, 0))) (hps : PB.size = 129) (hone : ∀ u ∈ PB.toList, u.oneCell' = true) (hn : n ≤ 1048576) (hgd : o.guard = none)
    (ho : o.op = .call { callee := .builtin .append, args := #[x, y], argTypes := #[59, 59] }) (hx : a.eval x = v) (hy : a.eval y = .slice (some ⟨B, 0, none⟩) 1 1)
    (h : ∀ g cap W', W'.ownsRow 0 73 129 (.slice (some ⟨g, 0, none⟩) (n + 1) cap) (n + 1) (xs ++ PB.toList) → W.grownBy W' v.ownBlock → (v.ownBlock = some g ∨ g = W.heap.size) → g < W'.heap.size → K (a.put o.dst (.slice (some ⟨g, 0, none⟩) (n + 1) cap)) W') :
    if Region.wanted o (yielded ops a.tmps) = true then Oper.wp Tryz.prog o a W K Q else E0 := by
  obtain ⟨i0, hi0, hz0, hs0, hb0⟩ := info_parts3 info_pw
  exact step_append_lies W hgd x y 59 ho 0 73 i0 _ 129 136 Tryz.underlying59 hi0 hz0 hs0 hb0 (dk.put_size (0, dk.zero) zero_len) (by omega) v n xs hx hown ⟨B, 0, none⟩ 1 1 PB.toList hy (by simp [hps]) (World.news_of_block hB) hone (by omega) (by rw [maxLen_eq]; omega) (by omega) (Nat.zero_le _) _ rfl h

set_option maxHeartbeats 4000000 in
set_option maxRecDepth 100000 in
theorem pwrite_any (n : Int) (b : dk.Blk) (hb : b.length = 128) (h : PM w p g c r v s) (hm : s.many < 4611686018427387904) (hl : s.L.length ≤ 1048576) : Calls Tryz.prog 19 #[.pointer (some ⟨p, 0, none⟩), .int .i64 n, dk.val b] w fun e w' =>
    ∃ v', e = .returned (.int .i64 (dk.write s n b).1) ∧ PM w' p g c r v' (dk.write s n b).2 ∧ Chg w w' (dk.fp p g v) ∧ Sub w (dk.fp p g v') (dk.fp p g v) := by
  have h1 := h.alloc (.cells (dk.cells b).toArray 43)
  have hrow := heap_alloc_new w (.cells (dk.cells b).toArray 43)
  have ha := pusable_any n h1
  obtain ⟨q, hq⟩ : ∃ q, dk.asks s n = q := ⟨_, rfl⟩
  rw [hq] at ha
  have HA := Lib.hid ha
  by_cases h0 : q = 0
  · subst h0
    have hs := Lib.hid (pstep_any h1 hm)
    by_cases hc : s.cut = 1
    · have hst1 : (dk.step s).1 = 9 := by rw [dk.step, if_pos hc]
      have hwr : dk.write s n b = (9, (dk.step s).2) := by rw [dk.write, if_pos hq, if_neg (by rw [hst1]; omega)]
      have HW := Lib.hid hwr
      rw [hst1] at hs
      clear ha hq hst1 hwr
      go_enter Tryz.func19, Tryz.ntmps19
      go_wp2_with fail
      refine HA.out.mono ?_
      rintro e w1 ⟨rfl, rfl⟩
      go_wp2_with fail
      refine hs.out.mono ?_
      rintro e w2 ⟨rfl, hM, hC⟩
      go_wp2_with fail
      go_ret
      exact ⟨v, ret_int (by rw [HW.out]), by rw [HW.out]; exact hM, ((Chg.alloc w _ [p]).trans hC (Sub.refl _ _)).mono (fun k hk => .inl (by simp [dk.fp] at hk ⊢; simp [hk])), Sub.refl _ _⟩
    · have hst1 : (dk.step s).1 = 0 := by rw [dk.step, if_neg hc]
      rw [hst1] at hs
      clear ha
      go_enter Tryz.func19, Tryz.ntmps19
      go_wp2_with fail
      refine HA.out.mono ?_
      rintro e w1 ⟨rfl, rfl⟩
      go_wp2_with fail
      refine hs.out.mono ?_
      rintro e w2 ⟨rfl, hM, hC⟩
      go_wp2_with fail
      have hP : w2.heap[w.heap.size]? = some (.cells (dk.cells b).toArray 43 (0, 0)) := by
        rw [hC.block _ (by simp) (by have := h.there p (by simp [dk.fp]); simp; omega)]
        exact hrow
      have rg := blk_range hP
      have c1 := hM.c1
      have f1 := hM.fz 1
      have uB := Tryz.underlying43
      have iB := info_blk' hb
      have hne : p ≠ w.heap.size := by have := h.there p (by simp [dk.fp]); omega
      obtain ⟨Z, hZ⟩ : ∃ Z : Array Value, Z = (dk.put (0, dk.zero)).toArray := ⟨_, rfl⟩
      obtain ⟨PB, hPB⟩ : ∃ Z : Array Value, Z = (dk.put (n, b)).toArray := ⟨_, rfl⟩
      have zp := pw_zero
      have zs : Z.size = 129 := by rw [hZ]; exact dk.put_size _ zero_len
      have zn : ¬ Z = #[] := fun e => by rw [e] at zs; simp at zs
      have zf : List.foldl (fun (c : Array Value) (x : Value × Nat) => c.setIfInBounds (1 + x.snd) x.fst) (Z.setIfInBounds 0 (.int .i64 n)) (dk.cells b).zipIdx = PB := by rw [hZ, hPB]; exact dk.build_put n b hb
      rw [← hZ] at zp
      have ps : PB.size = 129 := by rw [hPB]; exact dk.put_size _ hb
      have HPB := Lib.hid hPB
      clear hrow HA hs h1 hZ hPB
      have hPBrow := heap_alloc_new w2.drew (.cells PB 73)
      have hMa := hM.drew.alloc (.cells PB 73)
      have hown := hMa.loose
      have hone : ∀ u ∈ PB.toList, u.oneCell' = true := by
        rw [HPB.out]
        intro u hu
        rw [List.toList_toArray] at hu
        rcases List.mem_cons.1 hu with rfl | hu
        · rfl
        · exact bvs_one b u hu
      have c1a := hMa.c1
      have f1a := hMa.fz 1
      have hpsz : p < (w2.drew.alloc (.cells PB 73)).heap.size := hMa.there p (by simp [dk.fp])
      have hne2 : some p ≠ v.ownBlock := fun e => hM.ne2 e.symm
      have hvw : some w.heap.size ≠ v.ownBlock := fun e => by have := h.there w.heap.size (by simp [dk.fp, ← e]); omega
      have rga := World.rangeAt_alloc (show w2.drew.rangeAt w.heap.size 0 (dk.cells b) from rg) (.cells PB 73)
      rw [dk.step_L] at hown
      refine wp_region_held_drew (S := fun w' => w'.rangeAt w.heap.size 0 (dk.cells b)) (by kernel_rfl) (by simpa using rg) (fun hHeld => ?_)
      refine wpAnyH_take (i := 0) (v := ?_) rfl (by kernel_rfl) (by kernel_rfl) (by kernel_rfl) (fun _ _ _ h => h) (Or.inl ⟨by rfl, ?_⟩) hHeld ?_
      rotate_left
      · intro w _; go_simp; try rfl
      simp only [List.getElem_toArray, List.getElem_cons_zero, Act.put, List.setIfInBounds_toArray, List.set_cons_zero, List.set_cons_succ]
      refine wpAnyH_take (i := 1) (v := ?_) rfl (by kernel_rfl) (by kernel_rfl) (by kernel_rfl) (fun _ _ _ h => h) (Or.inl ⟨by rfl, ?_⟩) hHeld ?_
      rotate_left
      · intro w _; go_simp; try rfl
      simp only [List.getElem_toArray, List.getElem_cons_zero, List.getElem_cons_succ, Act.put, List.setIfInBounds_toArray, List.set_cons_zero, List.set_cons_succ]
      refine wpAnyH_take (i := 2) (v := ?_) rfl (by kernel_rfl) (by kernel_rfl) (by kernel_rfl) (fun _ _ _ h => h) (Or.inl ⟨by rfl, ?_⟩) hHeld ?_
      rotate_left
      · intro w _; go_simp; try rfl
      simp only [List.getElem_toArray, List.getElem_cons_zero, List.getElem_cons_succ, Act.put, List.setIfInBounds_toArray, List.set_cons_zero, List.set_cons_succ]
      refine wpAnyH_take (i := 3) (v := ?_) rfl (by kernel_rfl) (by kernel_rfl) (by kernel_rfl) (fun _ _ _ h => h) (Or.inl ⟨by rfl, ?_⟩) hHeld ?_
      rotate_left
      · intro w _; go_simp; try rfl
      simp only [List.getElem_toArray, List.getElem_cons_zero, List.getElem_cons_succ, Act.put, List.setIfInBounds_toArray, List.set_cons_zero, List.set_cons_succ]
      refine wpAnyH_take (i := 5) (v := ?_) rfl (by kernel_rfl) (by kernel_rfl) (by kernel_rfl) (fun _ _ _ h => h) (Or.inl ⟨by rfl, ?_⟩) hHeld ?_
      rotate_left
      · intro w _; go_simp; try rfl
      simp only [List.getElem_toArray, List.getElem_cons_zero, List.getElem_cons_succ, Act.put, List.setIfInBounds_toArray, List.set_cons_zero, List.set_cons_succ]
      refine wpAnyH_take (i := 6) (v := dk.val b) rfl (by kernel_rfl) (by kernel_rfl) (by kernel_rfl) (fun _ _ _ h => h) (yieldsIf_load_mid (by rfl) 43 (.tmp 5) rfl w.heap.size 0 rfl (dk.cells b) _ (fun w h => h) uB rfl iB) hHeld ?_
      simp only [List.getElem_toArray, List.getElem_cons_zero, List.getElem_cons_succ, Act.put, List.setIfInBounds_toArray, List.set_cons_zero, List.set_cons_succ]
      refine wpAnyH_take (i := 7) (v := ?_) rfl (by kernel_rfl) (by kernel_rfl) (by kernel_rfl) (fun _ _ _ h => h) (Or.inl ⟨by rfl, ?_⟩) hHeld ?_
      rotate_left
      · intro w _; go_simp; try rfl
      simp only [List.getElem_toArray, List.getElem_cons_zero, List.getElem_cons_succ, Act.put, List.setIfInBounds_toArray, List.set_cons_zero, List.set_cons_succ]
      have hS2 := World.rangeAt_alloc hHeld (.cells PB 73)
      obtain ⟨i0, hi0, hz0, hs0, hb0⟩ := info_parts3 info_pw
      have hfill := dk.fill_one 129 ((Array.range 129).map fun i => (dk.put (0, dk.zero)).toArray[i % 129]!) PB ps (by simp)
      refine wpAnyH_ready (rs := [4, 8]) (by kernel_rfl) (by simp) ?_
      refine AllReadyH.cons rfl (fun K hK => ?o1) (AllReadyH.cons rfl (fun K hK => ?o2) AllReadyH.nil)
      case' o1 =>
        rw [if_pos (by rfl)]
        go_simp
        refine hK.out _ _ hHeld (fun hHeld => ?_)
        clear hK K
        refine wpAnyH_ready (rs := [8]) (by kernel_rfl) (by simp) ?_
        refine AllReadyH.cons rfl (fun K hK => ?_) AllReadyH.nil
        rw [if_pos (by rfl)]
        refine wp_buildSlice 59 73 1 _ rfl PB i0 _ Tryz.underlying59 hi0 hz0 (by rw [hs0]; omega) (by rw [hs0]; omega) ?hf ?h
        case' hf => (rw [hs0]; simp only [List.map_toArray, List.map_cons, List.map_nil]; refine dk.fill_one 129 _ PB ps ?_; rw [Array.size_map, Array.size_range])
        simp only [List.getElem_toArray, List.getElem_cons_zero, List.getElem_cons_succ, Act.put, List.setIfInBounds_toArray, List.set_cons_zero, List.set_cons_succ]
        refine hK.out _ _ hS2 (fun hHeld => ?_)
        clear hK K
      case' o2 =>
        rw [if_pos (by rfl)]
        refine wp_buildSlice 59 73 1 _ rfl PB i0 _ Tryz.underlying59 hi0 hz0 (by rw [hs0]; omega) (by rw [hs0]; omega) ?hf2 ?h2
        case' hf2 => (rw [hs0]; simp only [List.map_toArray, List.map_cons, List.map_nil]; refine dk.fill_one 129 _ PB ps ?_; rw [Array.size_map, Array.size_range])
        simp only [List.getElem_toArray, List.getElem_cons_zero, List.getElem_cons_succ, Act.put, List.setIfInBounds_toArray, List.set_cons_zero, List.set_cons_succ]
        refine hK.out _ _ hS2 (fun hHeld => ?_)
        clear hK K
        refine wpAnyH_ready (rs := [4]) (by kernel_rfl) (by simp) ?_
        refine AllReadyH.cons rfl (fun K hK => ?_) AllReadyH.nil
        rw [if_pos (by rfl)]
        have c1c : (w2.alloc (.cells PB 73)).cell? ⟨p, 1, none⟩ = some v := c1a
        go_simp
        change K _ (w2.drew.alloc (.cells PB 73))
        refine hK.out _ _ hS2 (fun hHeld => ?_)
        clear hK K
      all_goals
        refine wpAnyH_ready (rs := [9]) (by kernel_rfl) (by simp) ?_
        refine AllReadyH.cons rfl (fun K hK => ?_) AllReadyH.nil
        refine step_pw (.tmp 24) (.tmp 28) hown hPBrow ps hone hl rfl rfl rfl rfl ?_
        intro gg cap w3 hown3 hg3 hat3 hlt3
        have c13 := (hg3.cell_far ⟨p, 1, none⟩ hpsz hne2).trans c1a
        have f13 := (hg3.frozen_far ⟨p, 1, none⟩ hpsz hne2).trans f1a
        simp only [List.getElem_toArray, List.getElem_cons_zero, List.getElem_cons_succ, Act.put, List.setIfInBounds_toArray, List.set_cons_zero, List.set_cons_succ]
        refine hK.out _ _ (dk.range_grown hS2 hg3 hvw) (fun hHeld => ?_)
        clear hK K
        refine wpAnyH_take (i := 10) (v := ?_) rfl (by kernel_rfl) (by kernel_rfl) (by kernel_rfl) (fun _ _ _ h => h) (Or.inl ⟨by rfl, ?_⟩) hHeld ?_
        rotate_left
        · intro w _; go_simp; try rfl
        simp only [List.getElem_toArray, List.getElem_cons_zero, List.getElem_cons_succ, Act.put, List.setIfInBounds_toArray, List.set_cons_zero, List.set_cons_succ]
        refine wpAnyH_take (i := 11) (v := ?_) rfl (by kernel_rfl) (by kernel_rfl) (by kernel_rfl) (fun _ _ _ h => h) (Or.inl ⟨by rfl, ?_⟩) hHeld ?_
        rotate_left
        · intro w _; go_simp; try rfl
        simp only [List.getElem_toArray, List.getElem_cons_zero, List.getElem_cons_succ, Act.put, List.setIfInBounds_toArray, List.set_cons_zero, List.set_cons_succ]
        refine wpAnyH_ready (rs := [12]) (by kernel_rfl) (by simp) ?_
        refine AllReadyH.cons rfl (fun K hK => ?_) AllReadyH.nil
        rw [if_pos (by rfl)]
        go_simp
        refine hK.out _ _ (dk.range_setCell hHeld _ _ hne) (fun hHeld => ?_)
        clear hK K
        refine wpAnyH_done (by kernel_rfl) ?_ _
        go_wp2_with fail
        go_ret
        have hxs : ((n, b) : Int × dk.Blk).2.length = 128 := hb
        obtain ⟨_, hn0, hn1⟩ := dk.asks_in hq
        rw [HPB.out, List.toList_toArray] at hown3
        have hap := dk.M.appended (x := (n, b)) (show PM _ p g c r v (dk.step s).2 from hMa) hg3 (by rw [dk.step_L]; exact hown3) hat3 hb (by rw [dk.step_S]; exact ⟨hn0, hn1⟩)
        rw [dk.step_L] at hap
        have hwr : dk.write s n b = (0, { (dk.step s).2 with L := s.L ++ [(n, b)] }) := by rw [dk.write, if_pos hq, if_pos hst1]
        have hCw : Chg w (w2.drew.alloc (.cells PB 73)) (dk.fp p g v) :=
          (((Chg.alloc w _ [p]).trans hC (Sub.refl _ _)).mono (fun k hk => .inl (by simp [dk.fp] at hk ⊢; simp [hk]))).trans ((Chg.drew _ (dk.fp p g v)).trans (Chg.alloc _ _ (dk.fp p g v)) (Sub.refl _ _)) (Sub.refl _ _)
        exact ⟨_, ret_int (by rw [hwr]), by rw [hwr]; exact hap.1, hCw.trans hap.2.1 (Sub.refl _ _), hap.2.2.trans (Sub.refl _ _) hCw.size⟩
  · have hwr : dk.write s n b = (q, s) := by rw [dk.write, hq, if_neg h0]
    have HW := Lib.hid hwr
    have hqb : (q == 0) = false := by simpa using h0
    clear ha hq hwr
    go_enter Tryz.func19, Tryz.ntmps19
    go_wp2_with fail
    refine HA.out.mono ?_
    rintro e w1 ⟨rfl, rfl⟩
    go_wp2_with fail
    go_ret
    exact ⟨v, ret_int (by rw [HW.out]), by rw [HW.out]; exact h1, Chg.alloc _ _ _, Sub.refl _ _⟩
end Go.Proofs.YtknndmhkfonfmaaGreatDoor

/-
  contract of the program's Flush.
-/
namespace Go.Proofs.YtknndmhkfonfmaaGreatDoor
open Go.RowKit
variable {w : World} {p g c : Nat} {r : List Value} {v : Value} {s : dk.St}

/-- a write that is not sure, as a value -/
abbrev dk.pval (x : Int × dk.Blk) : Value := .agg (dk.put x).toArray
theorem dk.put_len {x : Int × dk.Blk} (h : x.2.length = 128) : (dk.put x).length = 129 := by rw [List.length_cons, List.length_map, h]
theorem info_pw' {x : Int × dk.Blk} (h : x.2.length = 128) : (Tryz.prog.info? 73).map (·.size) = some (dk.put x).length := by
  rw [dk.put_len h]
  obtain ⟨i, hi, _, hs, _⟩ := info_parts3 info_pw
  rw [hi, Option.map_some, hs]
theorem put_one (x : Int × dk.Blk) : (dk.put x).toArray.all (·.oneCell') = true := all_oneCell_toArray (fun u hu => by
  rcases List.mem_cons.1 hu with rfl | hu
  · rfl
  · exact bvs_one x.2 u hu)
theorem put_range {w : World} {k o : Nat} {x : Int × dk.Blk} (h1 : w.cell? ⟨k, o, none⟩ = some (.int .i64 x.1)) (h2 : w.rangeAt k (o + 1) (dk.cells x.2)) : w.rangeAt k o (dk.put x) := fun j u hj => by
  cases j with
  | zero =>
    simp only [dk.put, List.getElem?_cons_zero, Option.some.injEq] at hj
    rw [← hj]
    exact h1
  | succ j =>
    rw [show o + (j + 1) = o + 1 + j from by omega]
    exact h2 j u (by simpa [dk.put] using hj)
section
variable {ops : Array Oper} {rest : List Oper} {o : Oper} {a : Act} {w : World} {Q : Exit → Act → World → Prop}
/-- a write that is not sure is loaded -/
theorem wp_ldp (x : Operand) (y : Int × dk.Blk) {g off : Nat} (hr : w.rangeAt g off (dk.put y)) (hy : y.2.length = 128) (hgd : o.guard = none) (ho : o.op = .load 73 x) (hx : a.eval x = .pointer (some ⟨g, off, none⟩))
    (h : wpList Tryz.prog ops Q rest (a.put o.dst (dk.pval y)) w) : wpList Tryz.prog ops Q (o :: rest) a w :=
  wpList_load_mid hgd _ x ho g off hx _ _ hr Tryz.underlying73 rfl (info_pw' hy) h
/-- it is stored into a block of its own -/
theorem wp_stp (x y : Operand) (z : Int × dk.Blk) {g : Nat} {old : Array Value} {E : TypeId} (hrow : w.heap[g]? = some (.cells old E (0, 0))) (hold : old.size = 129) (hz : z.2.length = 128) (hgd : o.guard = none)
    (ho : o.op = .store 73 x y) (hx : a.eval x = .pointer (some ⟨g, 0, none⟩)) (hy : a.eval y = dk.pval z)
    (h : ∀ W, W.heap[g]? = some (.cells (dk.put z).toArray E (0, 0)) → Chg w W [g] → wpList Tryz.prog ops Q rest (a.put o.dst undef) W) : wpList Tryz.prog ops Q (o :: rest) a w := by
  have hl : (dk.put z).length = 129 := dk.put_len hz
  have hrow' : w.heap[g]? = some (.cells old.toList.toArray E (0, 0)) := by rw [Array.toArray_toList]; exact hrow
  have h2 := block_sets (dk.put z) 0 old.toList w hrow' (by simp only [Array.length_toList]; omega)
  rw [hl, List.take_zero, List.nil_append, List.drop_of_length_le (by simp only [Array.length_toList]; omega), List.append_nil] at h2
  refine wpList_store_mid hgd _ x y ho g 0 (dk.put z).toArray hx hy ?_ (by simpa using info_pw' hz) (put_one z) ?_
  · have := there_of hrow' 0 129 (by simp only [Array.length_toList]; omega)
    rw [List.size_toArray, hl]
    exact this
  · exact h _ h2 (Chg.setCells g _ _ _)
end

set_option maxHeartbeats 4000000 in
set_option maxRecDepth 100000 in
theorem pflush_any (h : PM w p g c r v s) (hm : s.many < 4611686018427387904) : Calls Tryz.prog 82 #[.pointer (some ⟨p, 0, none⟩)] w fun e w' =>
    ∃ v', e = .returned (.int .i64 (dk.flush s).1) ∧ PM w' p g c r v' (dk.flush s).2 ∧ Chg w w' (dk.fp p g v) ∧ Sub w (dk.fp p g v') (dk.fp p g v) := by
  have HL := Lib.hid (plit_any h)
  have hs := pstep_any h hm
  cases hb : s.black with
  | true =>
    have hr : dk.flush s = (9, s) := by rw [dk.flush, if_pos hb]
    have hl : dk.lit s = 9 := by simp [dk.lit, hb]
    rw [hl] at HL
    have HR := Lib.hid hr
    clear hr hs hl
    go_enter Tryz.func82, Tryz.ntmps82
    go_wp2_with fail
    refine HL.out.mono ?_
    rintro e w1 ⟨rfl, rfl⟩
    go_wp2_with fail
    go_ret
    exact ⟨v, ret_int (by rw [HR.out]), by rw [HR.out]; exact h, Chg.refl _ _, Sub.refl _ _⟩
  | false =>
    have hl : dk.lit s = 0 := by simp [dk.lit, hb]
    rw [hl] at HL
    clear hl
    by_cases hc : s.cut = 1
    · have hst1 : (dk.step s).1 = 9 := by rw [dk.step, if_pos hc]
      have hr : dk.flush s = (9, (dk.step s).2) := by rw [dk.flush, if_neg (by simp [hb]), if_neg (by rw [hst1]; omega)]
      rw [hst1] at hs
      have HS := Lib.hid hs
      have HR := Lib.hid hr
      clear hr hs hst1 hc
      go_enter Tryz.func82, Tryz.ntmps82
      go_wp2_with fail
      refine HL.out.mono ?_
      rintro e w1 ⟨rfl, rfl⟩
      go_wp2_with fail
      refine HS.out.mono ?_
      rintro e w2 ⟨rfl, hM, hC⟩
      go_wp2_with fail
      go_ret
      exact ⟨v, ret_int (by rw [HR.out]), by rw [HR.out]; exact hM, hC.mono dk.sub_p, Sub.refl _ _⟩
    · have hst1 : (dk.step s).1 = 0 := by rw [dk.step, if_neg hc]
      have hr : dk.flush s = (0, { (dk.step s).2 with S := dk.lay s.S s.L, L := [] }) := by rw [dk.flush, if_neg (by simp [hb]), if_pos hst1]
      rw [hst1] at hs
      have HS := Lib.hid hs
      have HR := Lib.hid hr
      have hSS := dk.step_S s
      have hLL := dk.step_L s
      have hOL : ∃ A cap, v = .slice A s.L.length cap ∧ s.L.length ≤ cap ∧ cap ≤ 9223372036854775807 ∧ (s.L.length = 0 ∨ ∃ k, A = some ⟨k, 0, none⟩) := by
        by_cases h0 : 0 < s.L.length
        · obtain ⟨k, cap, hv, h1, h2, _⟩ := h.put_ h0
          exact ⟨_, cap, hv, h1, h2, .inr ⟨k, rfl⟩⟩
        · obtain ⟨A, cap, hv, h1, h2⟩ := h.own_len
          exact ⟨A, cap, hv, h1, h2, .inl (by omega)⟩
      rw [← hLL] at hOL
      generalize (dk.step s).2 = s1 at *
      rw [← hSS, ← hLL] at HR
      clear hr hs hst1 hc hSS hLL
      obtain ⟨A, cap, hvA, hcap, hmax, hkA⟩ := hOL
      rcases hkA with hz | ⟨k, rfl⟩
      · rw [hz] at hvA
        have hLn : s1.L = [] := List.eq_nil_of_length_eq_zero hz
        have hlay : dk.lay s1.S s1.L = s1.S := by rw [hLn]; rfl
        rw [hlay] at HR
        clear hlay hLn hz hcap
        go_enter Tryz.func82, Tryz.ntmps82
        go_wp2_with fail
        refine HL.out.mono ?_
        rintro e w1 ⟨rfl, rfl⟩
        go_wp2_with fail
        refine HS.out.mono ?_
        rintro e w2 ⟨rfl, hM0, hC0⟩
        have d1 := hM0.c1
        rw [hvA] at d1
        go_wp2_with fail
        clear d1
        go_loopw [22] (fun t wr => t = .int .i64 0 ∧ PM wr p g c r v s1 ∧ Chg w wr (dk.fp p g v)) (fun _ _ => 0)
        case atStart => exact ⟨rfl, hM0, hC0.mono dk.sub_p⟩
        case round =>
          clear hM0 hC0 h HS HL
          obtain ⟨rfl, hM, hC⟩ := hrel
          have d1 := hM.c1
          have f1 := hM.fz 1
          have hcl := hM.clear_
          rw [hvA] at d1
          go_wp2_with fail
          go_ret
          exact ⟨_, ret_int (by rw [HR.out]), by rw [HR.out]; exact hcl, hC.trans (Chg.setCell _ _ _ _) dk.sub_p, dk.sub_nil⟩
      · go_enter Tryz.func82, Tryz.ntmps82
        go_wp2_with fail
        refine HL.out.mono ?_
        rintro e w1 ⟨rfl, rfl⟩
        go_wp2_with fail
        refine HS.out.mono ?_
        rintro e w2 ⟨rfl, hM0, hC0⟩
        have d1 := hM0.c1
        rw [hvA] at d1
        go_wp2_with fail
        clear d1
        go_loopw [22] (fun t wr => ∃ j : Nat, j ≤ s1.L.length ∧ t = .int .i64 j ∧ PM wr p g c r v { s1 with S := dk.lay s1.S (s1.L.take j) } ∧ Chg w wr (dk.fp p g v)) (fun t _ => s1.L.length - (intOf t).toNat)
        case atStart => exact ⟨0, by omega, rfl, hM0, hC0.mono dk.sub_p⟩
        case round =>
          have hlen := hM0.ok.lenL
          have hin := hM0.ok.inL
          clear hM0 hC0 h HS HL
          obtain ⟨j, hj, rfl, hM, hC⟩ := hrel
          by_cases hlt : j < s1.L.length
          · obtain ⟨k', cap', hv, hcap', hmax', dN, dB⟩ := hM.put_ hlt
            obtain ⟨rfl, rfl⟩ : k = k' ∧ cap = cap' := by
              have := hvA.symm.trans hv
              simpa using this
            have hbl := hlen _ (List.getElem_mem hlt)
            obtain ⟨hi0, hi1⟩ := hin _ (List.getElem_mem hlt)
            have hst : dk.lay s1.S (s1.L.take (j + 1)) = (dk.lay s1.S (s1.L.take j)).set s1.L[j].1.toNat s1.L[j].2 := by
              rw [List.take_succ_eq_append_getElem hlt, dk.lay_snoc]
            simp only at dN dB
            generalize s1.L[j] = x at *
            have dP := put_range dN dB
            obtain ⟨xn, xb⟩ := x
            simp only at hst dN dB hbl hi0 hi1
            obtain ⟨i, rfl⟩ : ∃ i : Nat, xn = i := ⟨xn.toNat, by omega⟩
            rw [Int.toNat_natCast] at hst
            have HST := Lib.hid hst
            have hiS : i < (dk.lay s1.S (s1.L.take j)).length := by rw [dk.lay_length]; omega
            have hrl := hM.rowLen hiS
            have hmost := hM.ok.most
            simp only [dk.lay_length] at hmost
            simp only at hrl
            obtain ⟨Z, hZ⟩ : ∃ Z : Array Value, Z = (dk.put (0, dk.zero)).toArray := ⟨_, rfl⟩
            have zp := pw_zero
            have zs : Z.size = 129 := by rw [hZ]; exact dk.put_size _ zero_len
            rw [← hZ] at zp
            have hMa := hM.alloc (.cells Z 73)
            have hnew := heap_alloc_new wr (.cells Z 73)
            clear hst hlen hin hZ dN dB hv
            go_wp2_with (first | refine wp_ldp (.tmp 24) ((i : Int), xb) dP hbl rfl rfl rfl ?_ | (refine wp_stp (.tmp 6) (.tmp 25) ((i : Int), xb) hnew zs hbl rfl rfl rfl rfl ?_; intro W hW hCW))
            have hMW := hMa.keep (hCW.same (F := [wr.heap.size]) (G := dk.fp p g v) (fun a ha hm => by have := hM.there a hm; simp only [List.mem_singleton] at ha; omega) hMa.there)
            have hCC : Chg wr W (dk.fp p g v) := (Chg.alloc wr _ (dk.fp p g v)).trans hCW (fun a ha => .inr (by simp only [List.mem_singleton] at ha; omega))
            have e0 : W.cell? ⟨wr.heap.size, 0, none⟩ = some (.int .i64 (i : Int)) := by rw [cell_of_row _ _ 0 _ _ _ hW]; rfl
            have e1 : W.rangeAt wr.heap.size 1 (dk.cells xb) := range_of hW 1 _ (fun a u ha => by rw [Nat.add_comm]; exact ha)
            have d0 := hMW.c0
            have hrow := hMW.row
            simp only [dk.lay_length] at d0
            simp only at hrow
            clear hnew hMa hW hCW hM
            refine wp_region_still_tail 9 (by kernel_rfl) (by kernel_rfl) ?_
            simp only [List.take_succ_cons, List.take_zero, List.drop_succ_cons, List.drop_zero]
            iterate 7 still_step
            refine still_ld (.tmp 32) xb (show W.drew.rangeAt wr.heap.size 1 (dk.cells xb) from e1) hbl rfl rfl (by rfl) ?_
            simp only [Act.put, List.setIfInBounds_toArray, List.set_cons_zero, List.set_cons_succ]
            still_step
            refine wpStill_nil ?_
            refine wp_st (.tmp 34) (.tmp 33) xb (show W.drew.heap[g]? = _ from hrow) hrl hbl rfl rfl rfl rfl ?_
            intro W2 hW2 hCW2
            have hMW2 := hMW.drew.stored hiS hbl hW2 hCW2
            simp only at hMW2
            clear e0 e1 d0 hrow hrl hW2
            go_wp2_with fail
            go_roundw
            case rel => exact ⟨j + 1, by omega, by go_num, by rw [HST.out]; exact hMW2, ((hC.trans hCC (Sub.refl _ _)).trans (Chg.drew _ (dk.fp p g v)) (Sub.refl _ _)).trans hCW2 dk.sub_g⟩
            case measure => simp [intOf]; omega
          · have d1 := hM.c1
            have f1 := hM.fz 1
            have hcl := hM.clear_
            rw [hvA] at d1
            simp only [List.take_of_length_le (show s1.L.length ≤ j from by omega)] at hcl
            go_wp2_with fail
            go_ret
            exact ⟨_, ret_int (by rw [HR.out]), by rw [HR.out]; exact hcl, hC.trans (Chg.setCell _ _ _ _) dk.sub_p, dk.sub_nil⟩
end Go.Proofs.YtknndmhkfonfmaaGreatDoor

/-
  contract of the program's Crash.
-/
namespace Go.Proofs.YtknndmhkfonfmaaGreatDoor
open Go.RowKit
variable {w : World} {p g c : Nat} {r : List Value} {v : Value} {s : dk.St}

/-- what is kept of a write -/
def dk.kept (q : Int) : Nat := min q.toNat 128
theorem dk.torn_row (R : List Value) (o : Nat) (ob xb : dk.Blk) (q : Int) (ho : ob.length = 128) (hx : xb.length = 128) (hR : ∀ j, j < 128 → R[o + j]? = (dk.cells ob)[j]?) :
    R.take o ++ (dk.cells (xb.take (dk.kept q)) ++ R.drop (o + dk.kept q)) = R.take o ++ dk.cells (dk.torn ob xb q) ++ R.drop (o + 128) := by
  have hl : (dk.cells ob).length = 128 := by rw [List.length_map, ho]
  have e : R.drop o = dk.cells ob ++ R.drop (o + 128) := by
    apply List.ext_getElem?
    intro j
    rw [List.getElem?_drop]
    by_cases hj : j < 128
    · rw [List.getElem?_append_left (by omega), hR j hj]
    · rw [List.getElem?_append_right (by omega), List.getElem?_drop]
      congr 1
      omega
  have hk : dk.kept q ≤ 128 := by unfold dk.kept; omega
  rw [List.append_assoc]
  congr 1
  rw [← List.drop_drop, e, List.drop_append_of_le_length (by omega), ← List.append_assoc]
  congr 1
  unfold dk.torn dk.kept
  rw [show dk.cells (xb.take q.toNat ++ ob.drop q.toNat) = dk.cells (xb.take q.toNat) ++ dk.cells (ob.drop q.toNat) from List.map_append, ← List.map_drop]
  by_cases hq : q.toNat ≤ 128
  · rw [Nat.min_eq_left hq]
  · rw [Nat.min_eq_right (by omega), List.take_of_length_le (by omega), List.drop_of_length_le (by omega), List.take_of_length_le (by omega), List.drop_of_length_le (by omega)]

theorem Chg.setRow (w : World) (g : Nat) (cs : Array Value) : Chg w (w.setRow g cs) [g] :=
  ⟨rfl, rfl, rfl, by simp [World.setRow], fun k _ hn => setRow_other w g k cs (fun e => hn (by rw [List.mem_singleton]; exact e))⟩
theorem Chg.cell {w w' : World} {F : List Nat} (h : Chg w w' F) {a : Addr} (hp : a.block < w.heap.size) (hn : a.block ∉ F) : w'.cell? a = w.cell? a := by
  simp only [World.cell?, h.block _ hp hn]
set_option maxHeartbeats 4000000 in
set_option maxRecDepth 100000 in
theorem pcrash_any (A : Option Addr) (n cp : Nat) (l : List Int) (hl : IS w A n cp l) (hA : 0 < n → ∀ b o, A = some ⟨b, o, none⟩ → b ∉ dk.fp p g v) (h : PM w p g c r v s) : Calls Tryz.prog 10 #[.pointer (some ⟨p, 0, none⟩), .slice A n cp] w fun e w' =>
    ∃ v', e = .returned (.int .i64 0) ∧ PM w' p g c r v' (dk.crash s l) ∧ Chg w w' (dk.fp p g v) ∧ Sub w (dk.fp p g v') (dk.fp p g v) := by
  have HN := Lib.hid (pnone_any h)
  have hOL : ∃ A cap, v = .slice A s.L.length cap ∧ s.L.length ≤ cap ∧ cap ≤ 9223372036854775807 ∧ (s.L.length = 0 ∨ ∃ k, A = some ⟨k, 0, none⟩) := by
    by_cases h0 : 0 < s.L.length
    · obtain ⟨k, cap, hv, h1, h2, _⟩ := h.put_ h0
      exact ⟨_, cap, hv, h1, h2, .inr ⟨k, rfl⟩⟩
    · obtain ⟨A, cap, hv, h1, h2⟩ := h.own_len
      exact ⟨A, cap, hv, h1, h2, .inl (by omega)⟩
  obtain ⟨AA, cap, hvA, hcap, hmax, hkA⟩ := hOL
  rcases hkA with hz | ⟨k, rfl⟩
  · rw [hz] at hvA
    subst hvA
    have hLn : s.L = [] := List.eq_nil_of_length_eq_zero hz
    have hcr : dk.crash s l = { s with L := [], black := false, cut := 0 } := by unfold dk.crash; rw [hLn]; rfl
    rw [hcr]
    clear hcr hLn hz hcap
    have d1 := h.c1
    go_enter Tryz.func10, Tryz.ntmps10
    go_wp2_with fail
    refine HN.out.mono ?_
    rintro e w1 ⟨rfl, rfl⟩
    go_wp2_with fail
    clear d1
    go_loopw [15] (fun t wr => t = .int .i64 0 ∧ PM wr p g c r (.slice AA 0 cap) s ∧ Chg w wr (dk.fp p g (.slice AA 0 cap))) (fun _ _ => 0)
    case atStart => exact ⟨rfl, h, Chg.refl _ _⟩
    case round =>
      clear h HN
      obtain ⟨rfl, hM, hC⟩ := hrel
      have d1 := hM.c1
      have f1 := hM.fz 1
      have hc1 := hM.clear_
      have g3 := hc1.c3
      have f3 := hc1.fz 3
      have g2 := hc1.c2
      have f2 := hc1.fz 2
      have hc2 := hc1.cut 0 (by omega)
      have g3' := hc2.c3
      have f3' := hc2.fz 3
      have hc3 := hc2.black false
      go_wp2_with fail
      go_ret
      exact ⟨rfl, _, hc3, ((hC.trans (Chg.setCell _ _ _ _) dk.sub_p).trans (Chg.setCell _ _ _ _) dk.sub_p).trans (Chg.setCell _ _ _ _) dk.sub_p, dk.sub_nil⟩
  · subst hvA
    have d1 := h.c1
    go_enter Tryz.func10, Tryz.ntmps10
    go_wp2_with fail
    refine HN.out.mono ?_
    rintro e w1 ⟨rfl, rfl⟩
    go_wp2_with fail
    clear d1
    go_loopw [15] (fun t wr => ∃ j : Nat, j ≤ s.L.length ∧ t = .int .i64 j ∧ PM wr p g c r (.slice (some ⟨k, 0, none⟩) s.L.length cap) { s with S := dk.tear s.S (s.L.take j) l } ∧ Chg w wr (dk.fp p g (.slice (some ⟨k, 0, none⟩) s.L.length cap))) (fun t _ => s.L.length - (intOf t).toNat)
    case atStart => exact ⟨0, by omega, rfl, h, Chg.refl _ _⟩
    case round =>
      have hlen := h.ok.lenL
      have hin := h.ok.inL
      obtain ⟨j, hj, rfl, hM, hC⟩ := hrel
      have hI := hl.chg hC hA
      have hIl := hI.len
      have hIc := hI.cap
      have hIm := hI.max
      clear hl h HN
      by_cases hlt : j < s.L.length
      · obtain ⟨k', cap', hv, hcap', hmax', dN, dB⟩ := hM.put_ hlt
        obtain ⟨rfl, rfl⟩ : k = k' ∧ cap = cap' := by
          simpa using hv
        have hbl := hlen _ (List.getElem_mem hlt)
        obtain ⟨hi0, hi1⟩ := hin _ (List.getElem_mem hlt)
        obtain ⟨q, hq⟩ : ∃ q, l.getD j 0 = q := ⟨_, rfl⟩
        have hst : dk.tear s.S (s.L.take (j + 1)) l = (dk.tear s.S (s.L.take j) l).set s.L[j].1.toNat (dk.torn ((dk.tear s.S (s.L.take j) l).getD s.L[j].1.toNat dk.zero) s.L[j].2 q) := by
          rw [List.take_succ_eq_append_getElem hlt, dk.tear_snoc, List.length_take, Nat.min_eq_left (by omega), hq]
        simp only at dN dB
        generalize s.L[j] = x at *
        have dP := put_range dN dB
        obtain ⟨xn, xb⟩ := x
        simp only at hst dN dB hbl hi0 hi1
        obtain ⟨i, rfl⟩ : ∃ i : Nat, xn = i := ⟨xn.toNat, by omega⟩
        rw [Int.toNat_natCast] at hst
        have hiS : i < (dk.tear s.S (s.L.take j) l).length := by rw [dk.tear_length]; omega
        have hold : (dk.tear s.S (s.L.take j) l).getD i dk.zero = (dk.tear s.S (s.L.take j) l)[i] := by
          rw [List.getD_eq_getElem?_getD, List.getElem?_eq_getElem hiS]
          rfl
        rw [hold] at hst
        have hobl := hM.ok.lenS _ (List.getElem_mem hiS)
        have dO := hM.block (i := i) hiS
        simp only at hobl dO
        generalize (dk.tear s.S (s.L.take j) l)[i] = ob at *
        have hrl := hM.rowLen hiS
        have hmost := hM.ok.most
        simp only [dk.tear_length] at hmost
        simp only at hrl
        have hcase : (∃ pb po, A = some ⟨pb, po, none⟩ ∧ j < n ∧ pb < wr.heap.size ∧ wr.cell? ⟨pb, po + j, none⟩ = some (.int .i64 q)) ∨ (¬ j < n ∧ q = 0) := by
          by_cases hjp : j < n
          · obtain ⟨pb, po, rfl, hpb, hpc⟩ := hI.has (by omega)
            have hpj := hpc j (by omega)
            have hqj : l[j]'(by omega) = q := by rw [← hq, List.getD_eq_getElem?_getD, List.getElem?_eq_getElem (by omega)]; rfl
            rw [hqj] at hpj
            exact .inl ⟨pb, po, rfl, hjp, hpb, hpj⟩
          · exact .inr ⟨hjp, by rw [← hq, List.getD_eq_getElem?_getD, List.getElem?_eq_none (by omega)]; rfl⟩
        obtain ⟨Z, hZ⟩ : ∃ Z : Array Value, Z = (dk.put (0, dk.zero)).toArray := ⟨_, rfl⟩
        have zp := pw_zero
        have zs : Z.size = 129 := by rw [hZ]; exact dk.put_size _ zero_len
        rw [← hZ] at zp
        have hMa := hM.alloc (.cells Z 73)
        have hnew := heap_alloc_new wr (.cells Z 73)
        have hR : ∀ a, a < 128 → (dk.cellsS (dk.tear s.S (s.L.take j) l) ++ r)[i * 128 + a]? = (dk.cells ob)[a]? := fun a ha => by
          have ha' : a < (dk.cells ob).length := by rw [List.length_map, hobl]; exact ha
          have h1 := dO a _ (List.getElem?_eq_getElem ha')
          rw [cell_of_row _ _ _ _ _ _ hM.row] at h1
          rw [List.getElem?_eq_getElem ha', ← h1]
          simp
        have hR2 := dk.torn_row _ (i * 128) ob xb q hobl hbl hR
        have htb := dk.torn_length q hobl hbl
        have hkl : dk.kept q ≤ 128 := by unfold dk.kept; omega
        generalize dk.torn ob xb q = tb at *
        have HST := Lib.hid hst
        obtain ⟨kq, hkq⟩ : ∃ kq, dk.kept q = kq := ⟨_, rfl⟩
        rw [hkq] at hR2 hkl
        have HR2 := Lib.hid hR2
        unfold dk.kept at hkq
        clear hR2 hst hlen hin hZ dN dB hv hq hI hold hR
        have hpb' : ∀ pb : Nat, pb < wr.heap.size → pb < (wr.alloc (.cells Z 73)).heap.size := fun pb h => by simp; omega
        have hcase2 : (∃ pb po, A = some ⟨pb, po, none⟩ ∧ j < n ∧ pb < wr.heap.size ∧ wr.cell? ⟨pb, po + j, none⟩ = some (.int .i64 q) ∧ q < 0 ∧ kq = 0) ∨
            (∃ pb po m, A = some ⟨pb, po, none⟩ ∧ j < n ∧ pb < wr.heap.size ∧ wr.cell? ⟨pb, po + j, none⟩ = some (.int .i64 q) ∧ q = ((m : Nat) : Int) ∧ m ≤ 128 ∧ kq = m) ∨
            (∃ pb po, A = some ⟨pb, po, none⟩ ∧ j < n ∧ pb < wr.heap.size ∧ wr.cell? ⟨pb, po + j, none⟩ = some (.int .i64 q) ∧ 128 < q ∧ kq = 128) ∨
            (¬ j < n ∧ kq = 0) := by
          rcases hcase with ⟨pb, po, h1, h2, h3, h4⟩ | ⟨h1, rfl⟩
          · by_cases hq0 : q < 0
            · exact .inl ⟨pb, po, h1, h2, h3, h4, hq0, by omega⟩
            · by_cases hq1 : q ≤ 128
              · exact .inr (.inl ⟨pb, po, q.toNat, h1, h2, h3, h4, by omega, by omega, by omega⟩)
              · exact .inr (.inr (.inl ⟨pb, po, h1, h2, h3, h4, by omega, by omega⟩))
          · exact .inr (.inr (.inr ⟨h1, by rw [← hkq]; rfl⟩))
        clear hcase hkq
        rcases hcase2 with ⟨pb, po, rfl, hjp, hpb, hpj, hq0, hkt⟩ | ⟨pb, po, m, rfl, hjp, hpb, hpj, rfl, hm, hkt⟩ | ⟨pb, po, rfl, hjp, hpb, hpj, hq0, hkt⟩ | ⟨hjp, hkt⟩
        all_goals
          try (have hm0 : ¬ (m : Int) < 0 := by omega)
          try (have hm1 : (m : Int) ≤ 128 := by omega)
          try (have hm2 : ¬ q < 0 := by omega)
          try (have hm3 : ¬ q ≤ 128 := by omega)
          try (have hpa := ((Chg.alloc wr (.cells Z 73) []).cell (a := ⟨pb, po + j, none⟩) hpb (by simp)).trans hpj)
          try (have hpb2 := hpb' pb hpb)
          try (have hne : pb ≠ wr.heap.size := by omega)
          go_wp2_with (first | refine wp_ldp (.tmp 18) ((i : Int), xb) dP hbl rfl rfl rfl ?_ | (refine wp_stp (.tmp 6) (.tmp 19) ((i : Int), xb) hnew zs hbl rfl rfl rfl rfl ?_; intro W hW hCW; try (have hpW := (hCW.cell (a := ⟨pb, po + j, none⟩) hpb2 (by simpa using hne)).trans hpa)))
          try (clear hpW)
          have hMW := hMa.keep (hCW.same (F := [wr.heap.size]) (G := dk.fp p g _) (fun a ha hm => by have := hM.there a hm; simp only [List.mem_singleton] at ha; omega) hMa.there)
          have hCC : Chg wr W (dk.fp p g (.slice (some ⟨k, 0, none⟩) s.L.length cap)) := (Chg.alloc wr _ (dk.fp p g _)).trans hCW (fun a ha => .inr (by simp only [List.mem_singleton] at ha; omega))
          have e0 : W.cell? ⟨wr.heap.size, 0, none⟩ = some (.int .i64 (i : Int)) := by rw [cell_of_row _ _ 0 _ _ _ hW]; rfl
          have e1 : W.rangeAt wr.heap.size 1 (dk.cells xb) := range_of hW 1 _ (fun a u ha => by rw [Nat.add_comm]; exact ha)
          have d0 := hMW.c0
          have hrow := hMW.row
          simp only [dk.tear_length] at d0
          simp only at hrow
          clear hnew hMa hW hCW
          go_still_tail 11, (by kernel_rfl)
          change wpList _ _ _ _ _ W.drew
          refine wpList_copy_own rfl (.tmp 38) (.tmp 40) 36 36 rfl 5 Tryz.underlying36 (by kernel_rfl) g (i * 128) _ 128 ⟨wr.heap.size, 1, none⟩ 128 128 rfl rfl _ _ (show W.drew.heap[g]? = _ from hrow) (dk.cells (xb.take kq)) ?_ ?_ ?_ ?_ ?_
          · (rw [List.length_map, List.length_take, hbl, hkt]) <;> first | rfl | exact Nat.min_comm _ _
          · intro a u ha
            have hadd : (⟨wr.heap.size, 1, none⟩ : Addr).add a = ⟨wr.heap.size, 1 + a, none⟩ := by unfold Addr.add; split <;> simp_all
            rw [hadd]
            refine e1 a u ?_
            rw [List.getElem?_map] at ha ⊢
            rw [List.getElem?_take] at ha
            split at ha
            · exact ha
            · simp at ha
          · simp only [List.size_toArray, List.length_map, List.length_take]
            omega
          · exact bvs_one _
          · have hset := setRow_heap W.drew g _ (((dk.cellsS (dk.tear s.S (s.L.take j) l) ++ r).toArray.toList.take (i * 128) ++ (dk.cells (xb.take kq) ++ (dk.cellsS (dk.tear s.S (s.L.take j) l) ++ r).toArray.toList.drop (i * 128 + (dk.cells (xb.take kq)).length))).toArray) _ _ (show W.drew.heap[g]? = _ from hrow)
            have hlk : (dk.cells (xb.take kq)).length = kq := by rw [List.length_map, List.length_take]; omega
            have hchg := Chg.setRow W.drew g (((dk.cellsS (dk.tear s.S (s.L.take j) l) ++ r).toArray.toList.take (i * 128) ++ (dk.cells (xb.take kq) ++ (dk.cellsS (dk.tear s.S (s.L.take j) l) ++ r).toArray.toList.drop (i * 128 + (dk.cells (xb.take kq)).length))).toArray)
            generalize W.drew.setRow g (((dk.cellsS (dk.tear s.S (s.L.take j) l) ++ r).toArray.toList.take (i * 128) ++ (dk.cells (xb.take kq) ++ (dk.cellsS (dk.tear s.S (s.L.take j) l) ++ r).toArray.toList.drop (i * 128 + (dk.cells (xb.take kq)).length))).toArray) = W2 at *
            rw [hlk, List.toList_toArray, HR2.out] at hset
            have hMW2 := hMW.drew.stored hiS htb hset hchg
            simp only at hMW2
            clear e0 e1 d0 hrow hrl hset
            go_wp2_with fail
            go_roundw
            case rel => exact ⟨j + 1, by omega, by go_num, by rw [HST.out]; exact hMW2, ((hC.trans hCC (Sub.refl _ _)).trans (Chg.drew _ (dk.fp p g _)) (Sub.refl _ _)).trans hchg dk.sub_g⟩
            case measure => simp [intOf]; omega
      · have d1 := hM.c1
        have f1 := hM.fz 1
        simp only [List.take_of_length_le (show s.L.length ≤ j from by omega)] at hM
        have hc1 := hM.clear_
        have g3 := hc1.c3
        have f3 := hc1.fz 3
        have g2 := hc1.c2
        have f2 := hc1.fz 2
        have hc2 := hc1.cut 0 (by omega)
        have g3' := hc2.c3
        have f3' := hc2.fz 3
        have hc3 := hc2.black false
        go_wp2_with fail
        go_ret
        exact ⟨rfl, _, hc3, ((hC.trans (Chg.setCell _ _ _ _) dk.sub_p).trans (Chg.setCell _ _ _ _) dk.sub_p).trans (Chg.setCell _ _ _ _) dk.sub_p, dk.sub_nil⟩
end Go.Proofs.YtknndmhkfonfmaaGreatDoor

/-
  contract of the program's Copy.
-/
namespace Go.Proofs.YtknndmhkfonfmaaGreatDoor
open Go.RowKit
variable {w : World} {p g c : Nat} {r : List Value} {v : Value} {s : dk.St}

theorem below_grown {w w' : World} {o : Obj} (h : (w.alloc o).grownBy w' (some w.heap.size)) : Below w.heap.size w w' :=
  ⟨h.os, h.tape, h.output, Nat.le_trans (by simp) h.size, fun k hk => (h.block k (by simp; omega) (fun e => by simp only [Option.some.injEq] at e; omega)).trans (Below.heap_alloc w o k hk)⟩
theorem addr_add (g j : Nat) : (⟨g, 0, none⟩ : Addr).add j = ⟨g, j, none⟩ := by unfold Addr.add; split <;> simp_all
theorem own_weak {w : World} {b b' : Nat} {e : TypeId} {size n : Nat} {v : Value} {xs : List Value} (h : w.ownsRow b e size v n xs) (hb : b' ≤ b) : w.ownsRow b' e size v n xs :=
  ⟨h.1, h.2.imp id fun ⟨k, cap, cur, hv, h1, rest⟩ => ⟨k, cap, cur, hv, Nat.le_trans hb h1, rest⟩⟩



end Go.Proofs.YtknndmhkfonfmaaGreatDoor

/-
  THE PROGRAM's DISK AS A LAW SEES IT: a pointer, its blocks of memory (F), what it is (s).
-/
namespace Go.Proofs.YtknndmhkfonfmaaGreatDoor
open Go.RowKit
variable {w w' : World} {F : List Nat} {d : Value} {s : dk.St}
def CD (w : World) (F : List Nat) (d : Value) (s : dk.St) : Prop := ∃ p g c r v, d = .pointer (some ⟨p, 0, none⟩) ∧ F = dk.fp p g v ∧ dk.M 61 43 73 w p g c r v s
theorem CD.there (h : CD w F d s) : Ther w F := by obtain ⟨p, g, c, r, v, rfl, rfl, hM⟩ := h; exact hM.there
theorem CD.keep (h : CD w F d s) (hs : Same w w' F) : CD w' F d s := by obtain ⟨p, g, c, r, v, rfl, rfl, hM⟩ := h; exact ⟨p, g, c, r, v, rfl, rfl, hM.keep hs⟩
theorem CD.below (h : CD w F d s) (hb : Below w.heap.size w w') : CD w' F d s := h.keep fun k hk => hb.block k (h.there k hk)
theorem CD.ok (h : CD w F d s) : s.Ok := by obtain ⟨p, g, c, r, v, rfl, rfl, hM⟩ := h; exact hM.ok
theorem CD.form (h : CD w F d s) : ∃ p, d = .pointer (some ⟨p, 0, none⟩) := by obtain ⟨p, g, c, r, v, rfl, rfl, hM⟩ := h; exact ⟨p, rfl⟩
theorem cd_blocks (h : CD w F d s) : Calls Tryz.prog 85 #[d] w fun e w' => e = .returned (.int .i64 s.S.length) ∧ w = w' := by
  obtain ⟨p, g, c, r, v, rfl, rfl, hM⟩ := h
  exact pblocks_any hM
theorem cd_dark (h : CD w F d s) : Calls Tryz.prog 8 #[d] w fun e w' => e = .returned (.bool s.black) ∧ w = w' := by
  obtain ⟨p, g, c, r, v, rfl, rfl, hM⟩ := h
  exact pdark_any hM
theorem cd_steps (h : CD w F d s) : Calls Tryz.prog 16 #[d] w fun e w' => e = .returned (.int .i64 s.many) ∧ w = w' := by
  obtain ⟨p, g, c, r, v, rfl, rfl, hM⟩ := h
  exact psteps_any hM
theorem cd_sure (n : Int) (h : CD w F d s) : Calls Tryz.prog 14 #[d, .int .i64 n] w fun e w' => e = .returned (.tuple #[dk.val (dk.sure s n).1, .int .i64 (dk.sure s n).2]) ∧ Below w.heap.size w w' := by
  obtain ⟨p, g, c, r, v, rfl, rfl, hM⟩ := h
  exact psure_any n hM
theorem cd_read (n : Int) (h : CD w F d s) : Calls Tryz.prog 83 #[d, .int .i64 n] w fun e w' => e = .returned (.tuple #[dk.val (dk.read s n).1, .int .i64 (dk.read s n).2]) ∧ Below w.heap.size w w' := by
  obtain ⟨p, g, c, r, v, rfl, rfl, hM⟩ := h
  exact pread_any n hM
theorem cd_arm (n : Int) (hn : n ≤ 9223372036854775807) (h : CD w F d s) : Calls Tryz.prog 28 #[d, .int .i64 n] w fun e w' => ∃ F', e = .returned (.int .i64 (dk.arm s n).1) ∧ CD w' F' d (dk.arm s n).2 ∧ Chg w w' F ∧ Sub w F' F := by
  obtain ⟨p, g, c, r, v, rfl, rfl, hM⟩ := h
  exact (parm_any n hn hM).mono fun e w' ⟨h1, h2, h3⟩ => ⟨_, h1, ⟨p, g, c, r, v, rfl, rfl, h2⟩, h3.mono dk.sub_p, Sub.refl _ _⟩
theorem cd_write (n : Int) (b : dk.Blk) (hb : b.length = 128) (h : CD w F d s) (hf : s.Few) : Calls Tryz.prog 19 #[d, .int .i64 n, dk.val b] w fun e w' => ∃ F', e = .returned (.int .i64 (dk.write s n b).1) ∧ CD w' F' d (dk.write s n b).2 ∧ Chg w w' F ∧ Sub w F' F := by
  obtain ⟨p, g, c, r, v, rfl, rfl, hM⟩ := h
  exact (pwrite_any n b hb hM (by have := hf.1; omega) (by have := hf.2; omega)).mono fun e w' ⟨v', h1, h2, h3, h4⟩ => ⟨_, h1, ⟨p, g, c, r, v', rfl, rfl, h2⟩, h3, h4⟩
theorem cd_flush (h : CD w F d s) (hf : s.Few) : Calls Tryz.prog 82 #[d] w fun e w' => ∃ F', e = .returned (.int .i64 (dk.flush s).1) ∧ CD w' F' d (dk.flush s).2 ∧ Chg w w' F ∧ Sub w F' F := by
  obtain ⟨p, g, c, r, v, rfl, rfl, hM⟩ := h
  exact (pflush_any hM (by have := hf.1; omega)).mono fun e w' ⟨v', h1, h2, h3, h4⟩ => ⟨_, h1, ⟨p, g, c, r, v', rfl, rfl, h2⟩, h3, h4⟩
theorem cd_rot (n at_ : Int) (x : UInt8) (h : CD w F d s) : Calls Tryz.prog 30 #[d, .int .i64 n, .int .i64 at_, bv x] w fun e w' => ∃ F', e = .returned (.int .i64 (dk.rot s n at_ x).1) ∧ CD w' F' d (dk.rot s n at_ x).2 ∧ Chg w w' F ∧ Sub w F' F := by
  obtain ⟨p, g, c, r, v, rfl, rfl, hM⟩ := h
  exact (prot_any n at_ x hM).mono fun e w' ⟨h1, h2, h3⟩ => ⟨_, h1, ⟨p, g, c, r, v, rfl, rfl, h2⟩, h3, Sub.refl _ _⟩
theorem cd_crash (A : Option Addr) (n cp : Nat) (l : List Int) (hl : IS w A n cp l) (hA : 0 < n → ∀ b o, A = some ⟨b, o, none⟩ → b ∉ F) (h : CD w F d s) : Calls Tryz.prog 10 #[d, .slice A n cp] w fun e w' => ∃ F', e = .returned (.int .i64 0) ∧ CD w' F' d (dk.crash s l) ∧ Chg w w' F ∧ Sub w F' F := by
  obtain ⟨p, g, c, r, v, rfl, rfl, hM⟩ := h
  exact (pcrash_any A n cp l hl hA hM).mono fun e w' ⟨v', h1, h2, h3, h4⟩ => ⟨_, h1, ⟨p, g, c, r, v', rfl, rfl, h2⟩, h3, h4⟩
theorem cd_new (n : Nat) (h : 64 ≤ n) (h2 : n ≤ 4096) : Calls Tryz.prog 5 #[.int .i64 n] w fun e w' => ∃ F d, e = .returned (.tuple #[d, .int .i64 0]) ∧ CD w' F d (fresh n) ∧ Below w.heap.size w w' ∧ (∀ k ∈ F, w.heap.size ≤ k) := by
  refine (pnew_yes n h h2).mono fun e w' ⟨p, g, h1, h2, h3, h4, h5⟩ => ⟨_, _, h1, ⟨p, g, _, _, _, rfl, rfl, h2⟩, h3.below (Nat.le_refl _) (by simp), fun k hk => ?_⟩
  have : k = p ∨ k = g := by simpa [dk.fp, Value.ownBlock] using hk
  rcases this with rfl | rfl <;> assumption
theorem cd_no (n : Int) (h : n < 64 ∨ 4096 < n) : Calls Tryz.prog 5 #[.int .i64 n] w fun e w' => e = .returned (.tuple #[.pointer none, .int .i64 2]) ∧ w = w' := pnew_no n h
end Go.Proofs.YtknndmhkfonfmaaGreatDoor

/-
  THE PROGRAM's journal: how great a bank is, where it begins, where a block ends, bytes none of which is set.
-/
namespace Go.Proofs.YtknndmhkfonfmaaGreatDoor
open Go.RowKit Go.Shelf
variable {w w' : World} {F : List Nat} {d : Value} {s : dk.St}

theorem half_intP {s : dk.St} (h : s.Ok) : ((s.S.length : Int) - 2).tdiv 2 = (jn.half s : Int) := by
  have := h.some
  rw [Int.tdiv_eq_ediv_of_nonneg (by omega), jn.half]
  omega
theorem rd_lenP {s : dk.St} (h : s.Ok) (n : Int) : (jn.rd s n).length = 128 := by
  unfold jn.rd dk.read
  split
  · exact dk.look_len _ h.lenL _ _ (dk.getD_len h.lenS _)
  · exact List.length_replicate
set_option maxRecDepth 100000 in
theorem cj_size (h : CD w F d s) : Calls Tryz.prog 62 #[d] w fun e w' => e = .returned (.int .i64 (jn.half s)) ∧ w = w' := by
  have hh := half_intP h.ok
  have hok := h.ok
  have h64 := hok.some
  have hmost := hok.most
  have HB := Lib.hid (cd_blocks h)
  have hi : ((s.S.length : Int) - 2) / 2 = (jn.half s : Int) := by rw [← hh, Int.tdiv_eq_ediv_of_nonneg (by omega)]
  generalize s.S.length = n at *
  clear hok
  go_enter Tryz.func62, Tryz.ntmps62
  go_wp2_with fail
  refine HB.out.mono ?_
  rintro e w1 ⟨rfl, rfl⟩
  go_wp2_with fail
  go_ret
  exact ⟨ret_int (by first | rfl | exact hi | exact hh), rfl⟩
set_option maxRecDepth 100000 in
theorem cj_at (x : UInt8) (h : CD w F d s) : Calls Tryz.prog 71 #[d, bv x] w fun e w' => e = .returned (.int .i64 (jn.first s x)) ∧ w = w' := by
  have hh := jn.half_le h.ok
  have HB := Lib.hid (cj_size h)
  have hx := x.toNat_lt
  have hp : x.toNat * jn.half s ≤ 255 * 2047 := Nat.mul_le_mul (by omega) hh
  have hf : (2 : Int) + (x.toNat : Int) * (jn.half s : Int) = (jn.first s x : Int) := by rw [jn.first, Int.natCast_add, Int.natCast_mul]; rfl
  have hpi : (0 : Int) ≤ (x.toNat : Int) * (jn.half s : Int) ∧ (x.toNat : Int) * (jn.half s : Int) ≤ 521985 := by
    rw [← Int.natCast_mul]
    omega
  obtain ⟨hp0, hp1⟩ := hpi
  generalize jn.half s = m at *
  generalize (jn.first s x : Int) = y at *
  clear hp h
  generalize hz : (x.toNat : Int) * (m : Int) = z at *
  go_enter Tryz.func71, Tryz.ntmps71
  go_wp2_with fail
  refine HB.out.mono ?_
  rintro e w1 ⟨rfl, rfl⟩
  go_wp2_with fail
  go_ret
  exact ⟨ret_int (by first | exact hf | (rw [hz]; exact hf) | omega), rfl⟩
/-- where the block ends in which the n-th byte's fore-runner stands -/
theorem cj_end (n : Nat) (hn : n ≤ 281474976710656) (w : World) : Calls Tryz.prog 87 #[.int .i64 n] w fun e w' => e = .returned (.int .i64 ((n + jn.pad n : Nat) : Int)) ∧ w = w' := by
  have hp : n + jn.pad n = (n + 127) / 128 * 128 := jn.pad_fill n
  have hq : (((n : Int) + 128 - 1).tdiv 128) * 128 = ((n + jn.pad n : Nat) : Int) := by
    rw [hp, Int.tdiv_eq_ediv_of_nonneg (by omega)]
    omega
  have hq2 : (((n : Int) + 128 - 1) / 128) * 128 = ((n + jn.pad n : Nat) : Int) := by
    rw [hp]
    omega
  have h1 : (n + 127) / 128 ≤ 2199023255553 := by omega
  generalize n + jn.pad n = m at *
  clear hp
  go_enter Tryz.func87, Tryz.ntmps87
  go_wp2_with fail
  go_ret
  exact ⟨ret_int (by first | rfl | exact hq | exact hq2), rfl⟩
theorem cj_set (x : UInt8) (w : World) : Calls Tryz.prog 89 #[bv x] w fun e w' => e = .returned (.bool (x != 0)) ∧ w = w' := by
  have hx : ((x.toNat : Int) == 0) = (x == 0) := by
    by_cases h : x = 0
    · subst h; rfl
    · have h1 : ¬ (x.toNat : Int) = 0 := fun e => h (UInt8.toNat_inj.1 (by simpa using e))
      rw [beq_eq_false_iff_ne.2 h, beq_eq_false_iff_ne.2 h1]
  go_enter Tryz.func89, Tryz.ntmps89
  go_wp2_with fail
  go_ret
  refine ⟨?_, rfl⟩
  simp only [bne, hx]
  rfl
set_option maxHeartbeats 1000000 in
set_option maxRecDepth 100000 in
/-- where the first byte stands that is no 0 -/
theorem cj_index (A : Option Addr) (n c : Nat) (l : List UInt8) (w : World) (h : BS w A n c l) :
    Calls Tryz.prog 108 #[.slice A n c, .func (.func 89) #[] #[]] w fun e w' => ∃ r : Int, e = .returned (.int .i64 r) ∧ w = w' ∧ (0 ≤ r ↔ ∃ x ∈ l, x ≠ 0) := by
  have hl := h.len
  have hcap := h.cap
  have hmax := h.max
  have hen := enters_of Tryz.func89 (by kernel_rfl) rfl
  go_enter Tryz.func108, Tryz.ntmps108
  go_wp2_with fail
  go_loopw [8] (fun t wr => ∃ i : Nat, t = .int .i64 i ∧ i ≤ n ∧ (∀ x ∈ l.take i, x = 0) ∧ wr = w) (fun t _ => n - (intOf t).toNat)
  case atStart => exact ⟨0, rfl, by omega, (by simp), rfl⟩
  case round =>
    obtain ⟨i, rfl, hi, hz, rfl⟩ := hrel
    by_cases hlt : i < n
    · obtain ⟨b, o, rfl, hb, hc⟩ := h.has (by omega)
      have hci := hc i (by omega)
      have HS := Lib.hid (cj_set (l[i]'(by omega)) wr)
      have hmem : l[i]'(by omega) ∈ l := List.getElem_mem _
      have htk : l.take (i + 1) = l.take i ++ [l[i]'(by omega)] := by rw [List.take_add_one, List.getElem?_eq_getElem (by omega)]; rfl
      have HTK := Lib.hid htk
      clear hc htk
      generalize l[i]'(by omega) = x at *
      go_wp2_with fail
      refine HS.out.mono ?_
      rintro e w2 ⟨rfl, rfl⟩
      by_cases hx : x = 0
      · have hb : (x != 0) = false := by simp [hx]
        rw [hb]
        clear hb
        go_wp2_with fail
        go_roundw
        case rel =>
          refine ⟨i + 1, by go_num, by omega, ?_, (by first | rfl | trivial)⟩
          rw [HTK.out]
          intro y hy
          rcases List.mem_append.1 hy with hy | hy
          · exact hz y hy
          · simp at hy; rw [hy]; exact hx
        case measure => simp [intOf]; omega
      · have hb : (x != 0) = true := by simp [hx]
        rw [hb]
        clear hb
        have HX := Lib.hid hx
        clear hx
        go_wp2_with fail
        go_ret
        exact ⟨i, rfl, (by first | rfl | trivial), fun _ => ⟨x, hmem, HX.out⟩, fun _ => by omega⟩
    · obtain rfl : i = n := by omega
      go_wp2_with fail
      go_ret
      refine ⟨-1, rfl, (by first | rfl | trivial), fun h => by omega, ?_⟩
      rintro ⟨x, hx, h0⟩
      exact absurd (hz x (by rw [List.take_of_length_le (by omega)]; exact hx)) h0
set_option maxHeartbeats 1000000 in
set_option maxRecDepth 100000 in
theorem cj_any (A : Option Addr) (n c : Nat) (l : List UInt8) (w : World) (h : BS w A n c l) :
    Calls Tryz.prog 88 #[.slice A n c, .func (.func 89) #[] #[]] w fun e w' => e = .returned (.bool (l.any (· != 0))) ∧ w = w' := by
  have HI := Lib.hid (cj_index A n c l w h)
  clear h
  go_enter Tryz.func88, Tryz.ntmps88
  go_wp2_with fail
  refine HI.out.mono ?_
  rintro e w2 ⟨r, rfl, rfl, hr⟩
  have hq : decide (0 ≤ r) = l.any (· != 0) := by
    rw [Bool.eq_iff_iff, decide_eq_true_iff, hr]
    simp
  have HQ := Lib.hid hq
  clear hr hq
  go_wp2_with fail
  go_ret
  refine ⟨?_, rfl⟩
  rw [← HQ.out]
  try simp
end Go.Proofs.YtknndmhkfonfmaaGreatDoor

/-
  ROWS OF BLOCKS of the call's own: read, appended to, made.
-/
namespace Go.Proofs.YtknndmhkfonfmaaGreatDoor
open Go.RowKit

theorem own_lt {w : World} {base n size : Nat} {e : TypeId} {v : Value} {xs : List Value} (h : w.ownsRow base e size v n xs) : ∀ k, v.ownBlock = some k → k < w.heap.size := fun k hk => by
  rcases h.2 with ⟨rfl, _⟩ | ⟨g, _, _, rfl, _, hg, _⟩
  · simp [Value.ownBlock] at hk
  · simp only [Value.ownBlock, Option.some.injEq] at hk
    rw [← hk]
    exact (Array.getElem?_eq_some_iff.1 hg).1
theorem own_keepB {w w' : World} {base size n : Nat} {e : TypeId} {v : Value} {xs : List Value} (h : w.ownsRow base e size v n xs) (hs : ∀ k, v.ownBlock = some k → w'.heap[k]? = w.heap[k]?) : w'.ownsRow base e size v n xs :=
  ⟨h.1, h.2.imp id fun ⟨g, cap, cur, hv, hb, hg, h1⟩ => ⟨g, cap, cur, hv, hb, (hs g (by rw [hv]; rfl)).trans hg, h1⟩⟩
theorem own_blk {w : World} {base g n c : Nat} {e : TypeId} {S : List dk.Blk} (h : w.ownsRow base e 128 (.slice (some ⟨g, 0, none⟩) n c) n (dk.cellsS S)) (hn : n = S.length) (hS : ∀ b ∈ S, b.length = 128) {i : Nat} (hi : i < S.length) : w.rangeAt g (i * 128) (dk.cells S[i]) := fun j u hj => by
  have hj' : j < 128 := by
    have := (List.getElem?_eq_some_iff.1 hj).1
    rwa [List.length_map, hS _ (List.getElem_mem hi)] at this
  have h1 := flat_get 128 (S.map dk.cells) (fun x hx => by
    obtain ⟨b, hb, rfl⟩ := List.mem_map.1 hx
    rw [List.length_map]
    exact hS b hb) i (by simpa using hi) j hj'
  rw [List.getElem_map, hj] at h1
  have h2 : i * 128 + j < n * 128 := by
    have : (i + 1) * 128 ≤ n * 128 := Nat.mul_le_mul_right _ (by omega)
    omega
  rw [h.cellAt _ h2]
  exact h1
theorem fill_blk (b : dk.Blk) (hb : b.length = 128) (cs : Array Value) (hc : cs.size = 128) : Instr.fill (fun i => some (i * 128, 128)) cs [(0, dk.val b)] = some (dk.cells b).toArray :=
  dk.fill_one 128 cs (dk.cells b).toArray (by simpa using hb) hc
theorem info_parts5 {e : TypeId} {z : Value} {sz bt : Nat} (h : (Tryz.prog.info? e).map (fun i => (i.zero, i.size, i.bytes)) = some (some z, sz, bt)) : ∃ i, Tryz.prog.info? e = some i ∧ i.zero = some z ∧ i.size = sz ∧ i.bytes = bt := by
  cases hq : Tryz.prog.info? e with
  | none => simp [hq] at h
  | some i =>
    simp only [hq, Option.map_some, Option.some.injEq, Prod.mk.injEq] at h
    exact ⟨i, rfl, h.1, h.2.1, h.2.2⟩
theorem info_blk3' : (Tryz.prog.info? 43).map (fun i => (i.zero, i.size, i.bytes)) = some (some (dk.val dk.zero), 128, 128) := by kernel_rfl

section
variable {ops : Array Oper} {rest : List Oper} {o : Oper} {a : Act} {w : World} {Q : Exit → Act → World → Prop}
/-- one block, as a row of one -/
theorem wp_bs1 (x : Operand) (b : dk.Blk) (hb : b.length = 128) (hg : o.guard = none) (ho : o.op = .buildSlice 58 1 #[(0, x)]) (hx : a.eval x = dk.val b)
    (h : wpList Tryz.prog ops Q rest (a.put o.dst (.slice (some ⟨w.heap.size, 0, none⟩) 1 1)) (w.alloc (.cells (dk.cells b).toArray 43))) : wpList Tryz.prog ops Q (o :: rest) a w := by
  obtain ⟨i0, hi0, hz0, hs0, _⟩ := info_parts5 info_blk3'
  refine wpList_buildSlice hg 58 43 1 _ ho (dk.cells b).toArray i0 _ Tryz.underlying58 hi0 hz0 (by rw [hs0]; omega) (by rw [hs0]; omega) ?_ h
  rw [hs0]
  simp only [List.map_toArray, List.map_cons, List.map_nil, hx]
  exact fill_blk b hb _ (by rw [Array.size_map, Array.size_range])
/-- one block is appended -/
theorem wp_apb (x y : Operand) {v : Value} {n : Nat} {S : List dk.Blk} {B : Nat} {b : dk.Blk} {base : Nat} (hown : w.ownsRow base 43 128 v n (dk.cellsS S)) (hbase : base ≤ w.heap.size) (hB : w.heap[B]? = some (.cells (dk.cells b).toArray 43 (0, 0))) (hb : b.length = 128) (hn : n ≤ 1048576) (hgd : o.guard = none)
    (ho : o.op = .call { callee := .builtin .append, args := #[x, y], argTypes := #[58, 58] }) (hx : a.eval x = v) (hy : a.eval y = .slice (some ⟨B, 0, none⟩) 1 1)
    (h : ∀ g cap W', W'.ownsRow base 43 128 (.slice (some ⟨g, 0, none⟩) (n + 1) cap) (n + 1) (dk.cellsS (S ++ [b])) → w.grownBy W' v.ownBlock → (v.ownBlock = some g ∨ g = w.heap.size) → g < W'.heap.size → wpList Tryz.prog ops Q rest (a.put o.dst (.slice (some ⟨g, 0, none⟩) (n + 1) cap)) W') : wpList Tryz.prog ops Q (o :: rest) a w := by
  obtain ⟨i0, hi0, hz0, hs0, hb0⟩ := info_parts5 info_blk3'
  refine wpList_append_lies w hgd x y 58 ho base 43 i0 _ 128 128 Tryz.underlying58 hi0 hz0 hs0 hb0 (by simp [Value.cells, zero_len]) (by omega) v n _ hx hown ⟨B, 0, none⟩ 1 1 (dk.cells b) hy (by rw [List.length_map, hb]) ?_ (bvs_one b) (by omega) (by rw [maxLen_eq]; omega) (by omega) hbase _ rfl ?_
  · have := World.news_of_block hB
    simpa using this
  · intro g cap W' h1 h2 h3 h4
    refine h g cap W' ?_ h2 h3 h4
    have e : dk.cellsS (S ++ [b]) = dk.cellsS S ++ dk.cells b := by simp [dk.cellsS]
    rw [e]
    exact h1
end
end Go.Proofs.YtknndmhkfonfmaaGreatDoor
