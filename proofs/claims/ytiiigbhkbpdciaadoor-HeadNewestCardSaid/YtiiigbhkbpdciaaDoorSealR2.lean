/-
  contracts of cardexref05: Get.
-/
import Derived.Test.YtiiigbhkbpdciaaDoorSealR
namespace Go.Proofs.YtiiigbhkbpdciaaDoor
open Go.RowKit

set_option maxHeartbeats 4000000 in
set_option maxRecDepth 100000 in
theorem rget5_any (b : dk.Blk) (hb : b.length = 128) (w : World) : Calls Tryd.prog 25 #[dk.val b] w fun e w' =>
    ∃ v, e = .returned (.tuple #[.int .u64 (sl.get b).1, v, .int .i64 (sl.get b).2.2]) ∧ OwnB 5 w' w.heap.size v (sl.get b).2.1 ∧ Below w.heap.size w w' := by
  have hr1 : RowB 27 (w.alloc (.cells (dk.cells b).toArray 27)) w.heap.size b := heap_alloc_new w _
  have hb1 : Below w.heap.size w (w.alloc (.cells (dk.cells b).toArray 27)) := (Below.refl _ _).alloc (Nat.le_refl _) _
  have hB1 : BS (w.alloc (.cells (dk.cells b).toArray 27)) (some ⟨w.heap.size, 0, none⟩) 128 128 b := bs_of_block5 hr1 128 hb.symm (by omega)
  obtain ⟨N, hN⟩ : ∃ N, sl.number b = N := ⟨_, rfl⟩
  have hNlt := sl.number_lt b
  rw [hN] at hNlt
  have g1 := rget_yes _ 128 128 b 0 8 _ hB1 rfl (by omega)
  rw [List.drop_zero, show leVal (b.take 8) = N from hN] at g1
  have G1 := Lib.hid g1
  clear g1
  go_enter Tryd.func25, Tryd.ntmps25
  go_wp2_with fail
  refine G1.out.mono ?_
  rintro e w1 ⟨rfl, rfl⟩
  go_wp2_with fail
  refine (rends_any N hNlt _).mono ?_
  rintro e w2 ⟨A1, c1, A2, c2, rfl, _, hL, hb2⟩
  have hbb2 := hb1.trans (hb2.mono hb1.size)
  have hr2 := hr1.below hb2 hr1.lt
  have k1 := run_convert_bs (P := Tryd.prog) (w := w2.drew) (BS.drew hL.bs) 34 5 9 Tryd.underlying34 Tryd.underlying5 Tryd.underlying9
  have k2 := run_convert_bs (P := Tryd.prog) (w := w2.drew) (bs_drop_row (k := 120) (m := 8) hr2.drew hb (by omega)) 34 5 9 Tryd.underlying34 Tryd.underlying5 Tryd.underlying9
  by_cases h0 : N = 0
  · have hget : sl.get b = (0, [], 5) := by unfold sl.get; rw [if_pos (.inl (hN.trans h0))]
    have HG := Lib.hid hget
    have h0' : ((N : Int) == 0) = true := by simp [h0]
    clear hget k1 k2
    go_wp2_with fail
    refine wp_region_still_tail 8 (by kernel_rfl) (by kernel_rfl) ?_
    simp only [List.take_succ_cons, List.take_zero, List.drop_succ_cons, List.drop_zero]
    iterate 8 still_step
    refine wpStill_nil ?_
    change wpList _ _ _ _ _ w2.drew
    go_wp2_with fail
    go_ret3
    exact ⟨_, by rw [HG.out]; rfl, by rw [HG.out]; exact OwnB.nil_ _ _ _, hbb2.drew⟩
  · have h0' : ((N : Int) == 0) = false := by simp [h0]
    by_cases hl : sl.last N = b.drop 120
    · rw [hl] at k1
      have hqe : ((b.drop 120) == b.drop 120) = true := by simp
      obtain ⟨V, hV⟩ : ∃ V, leVal ((b.drop 116).take 4) = V := ⟨_, rfl⟩
      have hVlt : V < 4294967296 := by
        have h1 := leVal_lt ((b.drop 116).take 4)
        rw [hV, show ((b.drop 116).take 4).length = 4 from by rw [List.length_take, List.length_drop]; omega] at h1
        exact h1
      have hB2 : BS w2.drew (some ⟨w.heap.size, 0, none⟩) 128 128 b := bs_of_block5 hr2.drew 128 hb.symm (by omega)
      have g2 := rget_yes _ 128 128 b 116 4 _ hB2 rfl (by omega)
      rw [hV] at g2
      have G2 := Lib.hid g2
      obtain ⟨s, hs⟩ : ∃ s, crc.of (b.take 116) = s := ⟨_, rfl⟩
      have hof := rof_any _ 116 128 _ _ (bs_take_row hr2.drew hb (k := 116) (by omega))
      rw [hs] at hof
      have HOF := Lib.hid hof
      have hslt := s.isLt
      clear g2 hof
      by_cases hsum : V = s.toNat
      · have hget : sl.get b = (N, (b.drop 8).take 108, 0) := by
          unfold sl.get
          rw [if_neg (by rw [hN, hl]; simpa using h0), if_neg (by rw [hV, hs]; simpa using hsum), hN]
        have HG := Lib.hid hget
        obtain ⟨i0, hi, hz0, hz1, hz2⟩ := info_parts info_u8
        have HV := Lib.hid hV
        have HS := Lib.hid hs
        clear hget hV hs
        subst hsum
        go_wp2_with fail
        refine wp_region_still_tail 8 (by kernel_rfl) (by kernel_rfl) ?_
        simp only [List.take_succ_cons, List.take_zero, List.drop_succ_cons, List.drop_zero]
        iterate 8 still_step
        refine wpStill_nil ?_
        change wpList _ _ _ _ _ w2.drew
        clear k1 k2
        go_wp2_with fail
        refine G2.out.mono ?_
        rintro e w3 ⟨rfl, rfl⟩
        go_wp2_with fail
        refine HOF.out.mono ?_
        rintro e w3 ⟨rfl, rfl⟩
        have hrd : RowB 27 w2.drew w.heap.size b := hr2.drew
        have hbd := hbb2.drew
        have hlen108 : ((b.drop 8).take 108).length = 108 := by rw [List.length_take, List.length_drop]; omega
        have HL8 := Lib.hid hlen108
        clear hr2 hbb2 G2 HOF hB2 hqe hl hr1 hb1 hB1 G1 hL hb2 hlen108
        go_wp2_with fail
        go_loopw [11, 12] (fun v t wr => ∃ (j : Nat) (A : Option Addr) (c : Nat), t = .int .i64 (8 + (j : Int)) ∧ j ≤ 108 ∧ v = .slice A j c ∧ OwnB 5 wr (w.heap.size + 1) v (((b.drop 8).take 108).take j) ∧ RowB 27 wr w.heap.size b ∧ Below w.heap.size w wr) (fun _ t _ => 116 - (intOf t).toNat)
        case atStart => exact ⟨0, none, 0, by go_num, by omega, rfl, OwnB.nil_ _ _ _, hrd, hbd⟩
        case round =>
          clear hrd hbd
          obtain ⟨j, A, c, rfl, hj, rfl, ho, hr, hbw⟩ := hrel
          have hsz := hr.lt
          by_cases hlt : j < 108
          · have hx := hr.cell (i := 8 + j) (by omega)
            have hst : ((b.drop 8).take 108).take (j + 1) = ((b.drop 8).take 108).take j ++ [b[8 + j]'(by omega)] := by
              rw [List.take_succ_eq_append_getElem (by rw [HL8.out]; exact hlt)]
              congr 2
              simp
            have hcast : ((8 + j : Nat) : Int) = 8 + (j : Int) := by omega
            have hlj : (((b.drop 8).take 108).take j).length = j := by rw [List.length_take, HL8.out]; omega
            generalize b[8 + j]'(by omega) = x at *
            have HST := Lib.hid hst
            have HLJ := Lib.hid hlj
            clear hst hlj
            generalize ((b.drop 8).take 108).take j = l at *
            go_wp2_with (at_builtin; refine wpList_append_bytes _ rfl (.tmp 46) (.tmp 50) 34 rfl 5 i0 Tryd.underlying34 hi hz0 hz1 hz2 (w.heap.size + 1) _ _ rfl (ho.alloc _) _ 1 1 [x] rfl (BS.one' _ _ _ (by simp)) (by rw [HLJ.out]; simp; omega) (by simp; omega) ?_; intro v1 w1 ho1 hg1 _ _)
            go_roundw
            case rel =>
              obtain ⟨A1, c1, rfl, hb1⟩ := ho1.form
              rw [show (l ++ [x]).length = j + 1 from by rw [List.length_append, HLJ.out]; rfl] at ho1 ⊢
              refine ⟨j + 1, A1, c1, by go_num, by omega, rfl, by rw [HST.out]; exact ho1, ?_, ?_⟩
              · exact (hg1.block w.heap.size (by simp; omega) (fun e => by have := (ho.lt _ e.symm).1; omega)).trans (hr.alloc _)
              · exact OwnB.step (hbw.alloc hbw.size _) ((ho.alloc _).mono (by omega)) hg1 (by simp; omega)
            case measure => simp [intOf]; omega
          · have hl' : ((b.drop 8).take 108).take j = (b.drop 8).take 108 := List.take_of_length_le (by rw [HL8.out]; omega)
            rw [hl'] at ho
            go_wp2_with fail
            go_ret3
            exact ⟨_, by rw [HG.out]; rfl, by rw [HG.out]; exact ho.mono (by omega), hbw⟩
      · have hget : sl.get b = (0, [], 6) := by
          unfold sl.get
          rw [if_neg (by rw [hN, hl]; simpa using h0), if_pos (by rw [hV, hs]; simpa using hsum)]
        have HG := Lib.hid hget
        have hq2 : ((V : Int) == (s.toNat : Int)) = false := by simpa using (fun e : (V : Int) = (s.toNat : Int) => hsum (by omega))
        have HV := Lib.hid hV
        have HS := Lib.hid hs
        clear hget hV hs
        go_wp2_with fail
        refine wp_region_still_tail 8 (by kernel_rfl) (by kernel_rfl) ?_
        simp only [List.take_succ_cons, List.take_zero, List.drop_succ_cons, List.drop_zero]
        iterate 8 still_step
        refine wpStill_nil ?_
        change wpList _ _ _ _ _ w2.drew
        clear k1 k2
        go_wp2_with fail
        refine G2.out.mono ?_
        rintro e w3 ⟨rfl, rfl⟩
        go_wp2_with fail
        refine HOF.out.mono ?_
        rintro e w3 ⟨rfl, rfl⟩
        go_wp2_with fail
        go_ret3
        exact ⟨_, by rw [HG.out]; rfl, by rw [HG.out]; exact OwnB.nil_ _ _ _, hbb2.drew⟩
    · have hget : sl.get b = (0, [], 5) := by unfold sl.get; rw [if_pos (.inr (by rw [hN]; exact fun e => hl e.symm))]
      have HG := Lib.hid hget
      have hqe : (sl.last N == b.drop 120) = false := by simpa using hl
      clear hget
      go_wp2_with fail
      refine wp_region_still_tail 8 (by kernel_rfl) (by kernel_rfl) ?_
      simp only [List.take_succ_cons, List.take_zero, List.drop_succ_cons, List.drop_zero]
      iterate 8 still_step
      refine wpStill_nil ?_
      change wpList _ _ _ _ _ w2.drew
      clear k1 k2
      go_wp2_with fail
      go_ret3
      exact ⟨_, by rw [HG.out]; rfl, by rw [HG.out]; exact OwnB.nil_ _ _ _, hbb2.drew⟩
end Go.Proofs.YtiiigbhkbpdciaaDoor
