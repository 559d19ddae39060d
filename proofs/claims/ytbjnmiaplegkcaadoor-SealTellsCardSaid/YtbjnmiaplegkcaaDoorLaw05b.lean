/-
  cardexlaw05's walk: SealCounts.
-/
import Derived.Test.YtbjnmiaplegkcaaDoorSealL2
import Derived.Test.YtbjnmiaplegkcaaDoorLaw05a
import Derived.Test.YtbjnmiaplegkcaaDoorTorn
import Derived.Deep.RegionHeldLaw
namespace Go.Proofs.YtbjnmiaplegkcaaDoor
open Go.RowKit

set_option maxHeartbeats 4000000 in
set_option maxRecDepth 100000 in
theorem walk_SealCounts (n : Nat) (z : Bool) (A1 : Option Addr) (k1 c1 : Nat) (la : List UInt8) (A2 : Option Addr) (k2 c2 : Nat) (lb : List UInt8) (A3 : Option Addr) (k3 c3 : Nat) (lc : List UInt8) (at_ : Int) (w : World)
    (hn : n < 18446744073709551616) (h1 : BS w A1 k1 c1 la) (h2 : BS w A2 k2 c2 lb) (h3 : BS w A3 k3 c3 lc) (ht : Tab w) :
    Calls Tryd.prog 6 #[.int .u64 n, .bool z, .slice A1 k1 c1, .slice A2 k2 c2, .slice A3 k3 c3, .int .i64 at_] w fun e w' => e = .returned (.bool true) ∧ Below w.heap.size w w' := by
  obtain ⟨hz, -⟩ := zero_of_info zero_blk
  obtain ⟨Z, hZ⟩ : ∃ Z : Array Value, Z = (dk.cellsS [dk.zero, dk.zero]).toArray := ⟨_, rfl⟩
  obtain ⟨hz2, -⟩ := zero_of_info zero_two
  rw [← hZ] at hz2
  have HZ := Lib.hid hZ
  obtain ⟨N, hN⟩ : ∃ N : Nat, n % 1152921504606846976 + 2 = N := ⟨_, rfl⟩
  have hN2 : 2 ≤ N := by omega
  have hNt : N ≤ 1152921504606846977 := by omega
  have hNi : (n : Int) % 1152921504606846976 + 2 = (N : Int) := by omega
  have hNm : (N : Int) - 1 = ((N - 1 : Nat) : Int) := by omega
  have hNp : (N : Int) + 1 = ((N + 1 : Nat) : Int) := by omega
  have HA := Lib.hid (fun W (hW : BS W A1 k1 c1 la) hT => cs_put N (by omega) A1 k1 c1 la W hW hT)
  have HB := Lib.hid (fun W (hW : BS W A2 k2 c2 lb) hT => cs_put (N - 1) (by omega) A2 k2 c2 lb W hW hT)
  have HC := Lib.hid (fun W (hW : BS W A3 k3 c3 lc) hT => cs_put (N + 1) (by omega) A3 k3 c3 lc W hW hT)
  have hx0 := sl.put_len N la
  have hy0 := sl.put_len (N - 1) lb
  have hv0 := sl.put_len (N + 1) lc
  obtain ⟨eA, heA⟩ : ∃ e, (sl.put N la).2 = e := ⟨_, rfl⟩
  obtain ⟨eB, heB⟩ : ∃ e, (sl.put (N - 1) lb).2 = e := ⟨_, rfl⟩
  obtain ⟨eC, heC⟩ : ∃ e, (sl.put (N + 1) lc).2 = e := ⟨_, rfl⟩
  obtain ⟨x0, hX0⟩ : ∃ e, (sl.put N la).1 = e := ⟨_, rfl⟩
  obtain ⟨y0, hY0⟩ : ∃ e, (sl.put (N - 1) lb).1 = e := ⟨_, rfl⟩
  obtain ⟨v0, hV0⟩ : ∃ e, (sl.put (N + 1) lc).1 = e := ⟨_, rfl⟩
  rw [hX0] at hx0
  rw [hY0] at hy0
  rw [hV0] at hv0
  rw [heA, hX0] at HA
  rw [heB, hY0] at HB
  rw [heC, hV0] at HC
  -- what is known where none failed
  have hgood : eA = 0 → (z = true → eB = 0) → eC = 0 → ∃ t0 : dk.Blk, t0 = (if z then y0 else dk.zero) ∧ sl.next x0 t0 = 1 ∧ sl.next t0 x0 = 0 ∧ ∀ t, t = dk.torn t0 v0 at_ → (sl.newest x0 t).2 = 0 ∧ ((sl.newest x0 t).1 = 1 ↔ t = v0) := by
    intro g1 g2 g3
    obtain ⟨_, hla, pA⟩ := sl.put_ok (heA.trans g1)
    obtain ⟨_, hlc, pC⟩ := sl.put_ok (heC.trans g3)
    have qx : x0 = sl.sealB N la := by rw [← hX0, pA]
    have qv : v0 = sl.sealB (N + 1) lc := by rw [← hV0, pC]
    have wx : sl.worth x0 = N := by rw [qx]; exact sl.worth_seal (by omega) (by omega) hla
    have hold : (if z then y0 else dk.zero) = dk.zero ∨ ∃ b : List UInt8, b.length ≤ 108 ∧ (if z then y0 else dk.zero) = sl.sealB (N - 1) b := by
      cases z with
      | false => exact .inl rfl
      | true =>
        obtain ⟨_, hlb, pB⟩ := sl.put_ok (heB.trans (g2 rfl))
        exact .inr ⟨lb, hlb, by rw [← hY0, pB]; rfl⟩
    have wt : sl.worth (if z then y0 else dk.zero) < N := by
      rcases hold with h | ⟨b, hb, h⟩
      · rw [h, sl.worth_zero]; omega
      · rw [h, sl.worth_seal (by omega) (by omega) hb]; omega
    refine ⟨_, rfl, ?_, ?_, fun t ht' => ?_⟩
    · rw [sl.next, wx, if_pos (by omega)]
    · rw [sl.next, wx, if_neg (by omega)]
    · have hc := sl.counts (N := N) hN2 (by omega) hlc at_ hold
      rw [← qv, ← ht'] at hc
      have hne : ¬ (sl.worth x0 = 0 ∧ sl.worth t = 0) := fun e => by omega
      rw [sl.newest, if_neg hne, wx]
      by_cases hlt : N < sl.worth t
      · rw [if_pos hlt]
        exact ⟨rfl, fun _ => hc.1 hlt, fun _ => rfl⟩
      · rw [if_neg hlt]
        exact ⟨rfl, fun e => absurd e (by decide), fun e => absurd (hc.2 e) hlt⟩
  have HGOOD := Lib.hid hgood
  rw [← hNm] at HB
  rw [← hNp] at HC
  clear hNm hNp
  clear hZ hN hgood heA heB heC hX0 hY0 hV0
  have hr0 := heap_alloc_new w (.cells Z 31)
  have hb0 : Below w.heap.size w (w.alloc (.cells Z 31)) := (Below.refl _ _).alloc (Nat.le_refl _) _
  have hr0 := hr0.trans (show some (Obj.cells Z 31 (0, 0)) = some (Obj.cells (dk.cellsS [dk.zero, dk.zero]).toArray 31 (0, 0)) from by rw [← HZ.out])
  obtain ⟨B, hB⟩ : ∃ B, w.heap.size = B := ⟨_, rfl⟩
  rw [hB] at hr0
  have hBle : w.heap.size ≤ B := by omega
  have hBlt := (Array.getElem?_eq_some_iff.1 hr0).1
  cases z with
  | false =>
    go_enter Tryd.func6, Tryd.ntmps6
    go_wp2_with fail
    clear hz2
    generalize w.alloc (.cells Z 31) = w0 at *
    refine (HA.out w0 (h1.below hb0) (ht.below hb0)).mono ?_
    rintro e w1 ⟨rfl, hb1⟩
    have hbb1 := hb0.trans (hb1.mono hb0.size)
    have hr1 := (hb1.block B hBlt).trans hr0
    have hBlt1 := Nat.lt_of_lt_of_le hBlt hb1.size
    have hn1 := heap_alloc_new w1 (.cells (dk.cells dk.zero).toArray 25)
    have l00 := dk.two_len (x := dk.zero) (y := dk.zero) zero_len zero_len
    obtain ⟨B14, hB14⟩ : ∃ B, w1.heap.size = B := ⟨_, rfl⟩
    rw [hB14] at hn1
    have hne14 : B14 ≠ B := by omega
    clear hb0 hr0 hBlt hb1
    go_wp2_with (first
      | (refine wp_st0 (.tmp 14) (.tmp 29) x0 hn1 zero_len hx0 rfl rfl rfl rfl ?_; intro w2 hW2 hc2; rw [← hB14] at hc2; have hb2 := new_chg hc2; have hbb2 := hbb1.trans (hb2.mono hbb1.size); have g1 := blk_range hW2; have hr2 := (hb2.block B hBlt1).trans hr1)
      | refine wp_ld (.tmp 14) x0 g1 hx0 rfl rfl rfl ?_
      | (refine wp_st (.tmp 32) (.tmp 31) x0 hr2 (by rw [l00]; decide) hx0 rfl rfl rfl rfl ?_; intro w3 hW3 hc3))
    rw [show (0 : Nat) + 128 = 128 from rfl] at hW3
    have hW3' := hW3.trans (congrArg some (show Obj.cells ((dk.cellsS [dk.zero, dk.zero]).take 0 ++ dk.cells x0 ++ (dk.cellsS [dk.zero, dk.zero]).drop 128).toArray 31 (0, 0) = Obj.cells (dk.cellsS [x0, dk.zero]).toArray 31 (0, 0) from by rw [dk.two_set0 zero_len zero_len hx0]))
    have hbb3 : Below w.heap.size w w3 := (Chg.of_below hbb2 [B] |>.trans hc3 (Sub.refl _ _)).below (Nat.le_refl _) (fun k hk => by rw [List.mem_singleton.1 hk]; exact hBle)
    have hX3 : w3.heap[B14]? = some (.cells (dk.cells x0).toArray 25 (0, 0)) := (hc3.block B14 (Array.getElem?_eq_some_iff.1 hW2).1 (fun hm => hne14 (List.mem_singleton.1 hm))).trans hW2
    clear hW3 hc3 hW2 hc2 hb2 hbb2 g1 hr2 hr1 hn1 hBlt1 hbb1 l00 hB14
    obtain ⟨t0, hts⟩ : ∃ t : dk.Blk, t = dk.zero := ⟨_, rfl⟩
    have ht0l : t0.length = 128 := by rw [hts]; exact zero_len
    have hT : w3.heap[B]? = some (.cells (dk.cellsS [x0, t0]).toArray 31 (0, 0)) := by rw [hts]; exact hW3'
    have hX := hX3
    have hbb := hbb3
    have HG2 : Hid (eA = 0 → eC = 0 → sl.next x0 t0 = 1 ∧ sl.next t0 x0 = 0 ∧ ∀ t, t = dk.torn t0 v0 at_ → (sl.newest x0 t).2 = 0 ∧ ((sl.newest x0 t).1 = 1 ↔ t = v0)) := by
      show _ → _ → _
      intro a1 a2
      obtain ⟨t0', e0, r1, r2, r3⟩ := HGOOD.out a1 (fun e => by cases e) a2
      have e0' : t0' = t0 := by rw [e0, hts]; rfl
      subst e0'
      exact ⟨r1, r2, r3⟩
    clear HGOOD hts hW3' hX3 hbb3
    go_wp2_with fail
    have hrunC := HC.out w3 (h3.below hbb) (ht.below hbb)
    refine hrunC.mono ?_
    rintro e w5 ⟨rfl, hb5⟩
    have hbb5 := hbb.trans (hb5.mono hbb.size)
    have hT5 := (hb5.block B (Array.getElem?_eq_some_iff.1 hT).1).trans hT
    have hX5 := (hb5.block B14 (Array.getElem?_eq_some_iff.1 hX).1).trans hX
    have hn5 := heap_alloc_new w5 (.cells (dk.cells dk.zero).toArray 25)
    have hBl5 := (Array.getElem?_eq_some_iff.1 hT5).1
    have hXl5 := (Array.getElem?_eq_some_iff.1 hX5).1
    obtain ⟨B17, hB17⟩ : ∃ B, w5.heap.size = B := ⟨_, rfl⟩
    rw [hB17] at hn5
    have hne17 : B17 ≠ B := by omega
    clear hrunC hb5 hT hX hbb
    by_cases hA0 : eA = 0
    · have hA1 : (eA == 0) = true := by simp [hA0]
      by_cases hC0 : eC = 0
      · obtain ⟨n1, n2, hcnt⟩ := HG2.out hA0 hC0
        clear HG2 hA1
        subst hA0 hC0
        have hnx1 := fun W hW => cs_next x0 t0 hx0 ht0l W hW
        have hnx2 := fun W hW => cs_next t0 x0 ht0l hx0 W hW
        simp only [n1] at hnx1
        simp only [n2] at hnx2
        have HN1 := Lib.hid hnx1
        have HN2 := Lib.hid hnx2
        obtain ⟨t, htq⟩ : ∃ t, t = dk.torn t0 v0 at_ := ⟨_, rfl⟩
        have htl : t.length = 128 := by rw [htq]; exact dk.torn_length _ ht0l hv0
        have hcnt2 := hcnt t htq
        have HCN := Lib.hid hcnt2
        have HTQ := Lib.hid htq
        clear n1 n2 hcnt hnx1 hnx2 hcnt2 htq
        go_wp2_with (first
          | (refine wp_st0 (.tmp 17) (.tmp 47) v0 hn5 zero_len hv0 rfl rfl rfl rfl ?_; intro w6 hW6 hc6; rw [← hB17] at hc6; have hb6 := new_chg hc6; have hbb6 := hbb5.trans (hb6.mono hbb5.size); have hT6 := (hb6.block B hBl5).trans hT5; have hX6 := (hb6.block B14 hXl5).trans hX5; clear hT5 hX5 hn5 hc6 hb6; have g1 := dk.two0 hx0 ht0l hT6; have g2 := dk.two1 hx0 ht0l hT6)
          | refine wp_ld (.tmp 60) x0 g1 hx0 rfl rfl rfl ?_
          | refine wp_ld (.tmp 62) t0 g2 ht0l rfl rfl rfl ?_)
        have hB6 := (Array.getElem?_eq_some_iff.1 hT6).1
        have hX6l := (Array.getElem?_eq_some_iff.1 hX6).1
        have hW6l := (Array.getElem?_eq_some_iff.1 hW6).1
        refine (HN1.out _ (ht.below hbb6)).mono ?_
        rintro e w7 ⟨rfl, hb7⟩
        have hbb7 := hbb6.trans (hb7.mono hbb6.size)
        have hT7 := (hb7.block B hB6).trans hT6
        have hX7 := (hb7.block B14 hX6l).trans hX6
        have hW7 := (hb7.block B17 hW6l).trans hW6
        have g3 := dk.two0 hx0 ht0l hT7
        have g4 := dk.two1 hx0 ht0l hT7
        clear hT6 hX6 hW6 hb7 g1 g2 hB6 hX6l hW6l
        go_wp2_with (first
          | refine wp_ldw (.tmp 68) t0 g4 ht0l rfl rfl (by rfl) ?_
          | refine wp_ldw (.tmp 70) x0 g3 hx0 rfl rfl (by rfl) ?_)
        refine (HN2.out _ (ht.below hbb7)).mono ?_
        rintro e w8 ⟨rfl, hb8⟩
        have hbb8 := hbb7.trans (hb8.mono hbb7.size)
        have hT8 := (hb8.block B (Array.getElem?_eq_some_iff.1 hT7).1).trans hT7
        have hX8 := (hb8.block B14 (Array.getElem?_eq_some_iff.1 hX7).1).trans hX7
        have hW8 := (hb8.block B17 (Array.getElem?_eq_some_iff.1 hW7).1).trans hW7
        clear hT7 hX7 hW7 hb8 g3 g4
        go_wp2_with fail
        have uB := Tryd.underlying25
        have iT := info_blk' ht0l
        have iV := info_blk' hv0
        have hTorn := Lib.hid (fun W => rtorn_any t0 v0 at_ (w := W) ht0l hv0)
        refine wp_region_held_drew (S := fun w' => w'.heap[B17]? = some (.cells (dk.cells v0).toArray 25 (0, 0))) (by kernel_rfl) hW8 (fun hHeld => ?_)
        refine wpAnyH_take (i := 0) (v := ?_) rfl (by kernel_rfl) (by kernel_rfl) (by kernel_rfl) (fun _ _ _ h => h) (Or.inl ⟨by rfl, ?_⟩) hHeld ?_
        rotate_left
        · intro w hSw; clear hSw; go_simp; try rfl
        simp only [List.getElem_toArray, List.getElem_cons_zero, Act.put, List.setIfInBounds_toArray, List.set_cons_zero, List.set_cons_succ]
        refine wpAnyH_take (i := 1) (v := ?_) rfl (by kernel_rfl) (by kernel_rfl) (by kernel_rfl) (fun _ _ _ h => h) (Or.inl ⟨by rfl, ?_⟩) hHeld ?_
        rotate_left
        · intro w hSw; clear hSw; go_simp; try rfl
        simp only [List.getElem_toArray, List.getElem_cons_zero, List.getElem_cons_succ, Act.put, List.setIfInBounds_toArray, List.set_cons_zero, List.set_cons_succ]
        refine wpAnyH_take (i := 2) (v := ?_) rfl (by kernel_rfl) (by kernel_rfl) (by kernel_rfl) (fun _ _ _ h => h) (Or.inl ⟨by rfl, ?_⟩) hHeld ?_
        rotate_left
        · intro w hSw; clear hSw; go_simp; try rfl
        simp only [List.getElem_toArray, List.getElem_cons_zero, List.getElem_cons_succ, Act.put, List.setIfInBounds_toArray, List.set_cons_zero, List.set_cons_succ]
        refine wpAnyH_take (i := 4) (v := dk.val v0) rfl (by kernel_rfl) (by kernel_rfl) (by kernel_rfl) (fun _ _ _ h => h) (yieldsIf_load_mid (by rfl) 25 (.tmp 17) rfl B17 0 rfl (dk.cells v0) _ (fun w h => blk_range h) uB rfl iV) hHeld ?_
        simp only [List.getElem_toArray, List.getElem_cons_zero, List.getElem_cons_succ, Act.put, List.setIfInBounds_toArray, List.set_cons_zero, List.set_cons_succ]
        refine wpAnyH_take (i := 5) (v := ?_) rfl (by kernel_rfl) (by kernel_rfl) (by kernel_rfl) (fun _ _ _ h => h) (Or.inl ⟨by rfl, ?_⟩) hHeld ?_
        rotate_left
        · intro w hSw; clear hSw; go_simp; try rfl
        simp only [List.getElem_toArray, List.getElem_cons_zero, List.getElem_cons_succ, Act.put, List.setIfInBounds_toArray, List.set_cons_zero, List.set_cons_succ]
        refine wpAnyH_ready (rs := [3]) (by kernel_rfl) (by simp) ?_
        refine AllReadyH.cons rfl (fun K hK => ?_) AllReadyH.nil
        rw [if_pos (by rfl)]
        refine wp_load_mid 25 (.tmp 77) rfl B 128 rfl (dk.cells t0) _ (show w8.drew.rangeAt B 128 (dk.cells t0) from dk.two1 hx0 ht0l hT8) uB rfl iT ?_
        simp only [List.getElem_toArray, List.getElem_cons_zero, List.getElem_cons_succ, Act.put, List.setIfInBounds_toArray, List.set_cons_zero, List.set_cons_succ]
        refine hK.out _ _ hHeld (fun hHeld => ?_)
        clear hK K
        refine wpAnyH_ready (rs := [6]) (by kernel_rfl) (by simp) ?_
        refine AllReadyH.cons rfl (fun K hK => ?_) AllReadyH.nil
        rw [if_pos (by rfl)]
        go_simp
        refine (hTorn.out _).mono ?_
        rintro e w9 ⟨rfl, hb9⟩
        rw [← HTQ.out]
        have hB8l := (Array.getElem?_eq_some_iff.1 hT8).1
        have hW8l := (Array.getElem?_eq_some_iff.1 hW8).1
        have hX8l := (Array.getElem?_eq_some_iff.1 hX8).1
        have hS9 : w9.heap[B17]? = some (.cells (dk.cells v0).toArray 25 (0, 0)) := (hb9.block B17 hW8l).trans hHeld
        have hT9 := (hb9.block B hB8l).trans (show w8.drew.heap[B]? = _ from hT8)
        have hX9 := (hb9.block B14 hX8l).trans (show w8.drew.heap[B14]? = _ from hX8)
        have hbb9 := hbb8.drew.trans (hb9.mono hbb8.size)
        dsimp only
        refine hK.out _ _ hS9 (fun hHeld => ?_)
        clear hK K
        refine wpAnyH_take (i := 7) (v := ?_) rfl (by kernel_rfl) (by kernel_rfl) (by kernel_rfl) (fun _ _ _ h => h) (Or.inl ⟨by rfl, ?_⟩) hHeld ?_
        rotate_left
        · intro w hSw; clear hSw; go_simp; try rfl
        simp only [List.getElem_toArray, List.getElem_cons_zero, List.getElem_cons_succ, Act.put, List.setIfInBounds_toArray, List.set_cons_zero, List.set_cons_succ]
        refine wpAnyH_ready (rs := [8]) (by kernel_rfl) (by simp) ?_
        refine AllReadyH.cons rfl (fun K hK => ?_) AllReadyH.nil
        rw [if_pos (by rfl)]
        have l2 := dk.two_len hx0 ht0l
        have th := there_of hT9 128 128 (by rw [l2]; decide)
        refine wp_store_mid 25 (.tmp 82) (.tmp 81) rfl B 128 (dk.cells t).toArray rfl rfl (by simpa [htl] using th) (by simpa [htl] using info_blk) (cells_one t) ?_
        simp only [List.getElem_toArray, List.getElem_cons_zero, List.getElem_cons_succ, Act.put]
        have hset := block_sets (dk.cells t) 128 _ w9 hT9 (by rw [List.length_map, htl, l2]; decide)
        have hset2 := hset.trans (congrArg some (show Obj.cells ((dk.cellsS [x0, t0]).take 128 ++ dk.cells t ++ (dk.cellsS [x0, t0]).drop (128 + (dk.cells t).length)).toArray 31 (0, 0) = Obj.cells (dk.cellsS [x0, t]).toArray 31 (0, 0) from by rw [List.length_map, htl, dk.two_set1 hx0 ht0l htl]))
        have hcs := Chg.setCells B (dk.cells t) 128 w9
        have hS10 := (hcs.block B17 (Array.getElem?_eq_some_iff.1 hHeld).1 (fun hm => hne17 (List.mem_singleton.1 hm))).trans hHeld
        have hX10 := (hcs.block B14 (Array.getElem?_eq_some_iff.1 hX9).1 (fun hm => hne14 (List.mem_singleton.1 hm))).trans hX9
        have hbb10 : Below w.heap.size w _ := (Chg.of_below hbb9 [B] |>.trans hcs (Sub.refl _ _)).below (Nat.le_refl _) (fun k hk => by rw [List.mem_singleton.1 hk]; exact hBle)
        change K _ (w9.setCells B 128 (dk.cells t))
        generalize w9.setCells B 128 (dk.cells t) = w10 at *
        refine hK.out _ _ hS10 (fun _ => ?_)
        clear hK K
        refine wpAnyH_done (by kernel_rfl) ?_ _
        have g5 := dk.two0 hx0 htl hset2
        have g6 := dk.two1 hx0 htl hset2
        clear hset hcs hT9 th hS9 hX9 hHeld hT8 hW8 hX8 hTorn
        go_wp2_with (first
          | refine wp_ld (.tmp 84) x0 g5 hx0 rfl rfl rfl ?_
          | refine wp_ld (.tmp 86) t g6 htl rfl rfl rfl ?_)
        obtain ⟨c0, c1⟩ := HCN.out
        have hnw := cs_newest x0 t hx0 htl w10 (ht.below hbb10)
        rw [c0] at hnw
        obtain ⟨wh, hwh⟩ : ∃ wh, (sl.newest x0 t).1 = wh := ⟨_, rfl⟩
        rw [hwh] at hnw c1
        have HNW := Lib.hid hnw
        have HC1 := Lib.hid c1
        have e0 := eq_blk x0 x0 hx0 hx0
        rw [decide_eq_true rfl] at e0
        have e1 := eq_blk t v0 htl hv0
        obtain ⟨q, hq⟩ : ∃ q, decide (t = v0) = q := ⟨_, rfl⟩
        have hwq : (wh == 1) = q := by
          rw [← hq, Bool.eq_iff_iff, beq_iff_eq, decide_eq_true_iff]
          exact HC1.out
        rw [hq] at e1
        clear hnw c0 c1 hwh hq
        refine HNW.out.mono ?_
        rintro e w11 ⟨rfl, hb11⟩
        have hbb11 := hbb10.trans (hb11.mono hbb10.size)
        have hT11 := (hb11.block B (Array.getElem?_eq_some_iff.1 hset2).1).trans hset2
        have hX11 := (hb11.block B14 (Array.getElem?_eq_some_iff.1 hX10).1).trans hX10
        have hW11 := (hb11.block B17 (Array.getElem?_eq_some_iff.1 hS10).1).trans hS10
        have g7 := dk.two0 hx0 htl hT11
        have g8 := dk.two1 hx0 htl hT11
        have g9 := blk_range hX11
        have g10 := blk_range hW11
        clear hset2 hX10 hS10 hb11 hT11 hX11 hW11 g5 g6
        cases q
        all_goals
          go_wp2_with (first
            | refine wp_ldw (.tmp 96) t g8 htl rfl rfl (by rfl) ?_
            | refine wp_ldw (.tmp 17) v0 g10 hv0 rfl rfl (by rfl) ?_
            | refine wp_ldw (.tmp 103) x0 g7 hx0 rfl rfl (by rfl) ?_
            | refine wp_ldw (.tmp 14) x0 g9 hx0 rfl rfl (by rfl) ?_)
          refine (lives05_any _ (ht.below hbb11)).mono ?_
          rintro e wl ⟨rfl, hbl⟩
          go_wp2_with fail
          go_ret
          exact ⟨rfl, hbb11.trans (hbl.mono hbb11.size)⟩
      · have hC1 : (eC == 0) = false := by simp [hC0]
        clear hC0
        go_wp2_with (refine wp_st0 (.tmp 17) (.tmp 47) v0 hn5 zero_len hv0 rfl rfl rfl rfl ?_; intro w6 hW6 hc6; rw [← hB17] at hc6; have hb6 := new_chg hc6; have hbb6 := hbb5.trans (hb6.mono hbb5.size); have hT6 := (hb6.block B hBl5).trans hT5; have hX6 := (hb6.block B14 hXl5).trans hX5; clear hT5 hX5 hn5 hc6 hb6)
        refine (lives05_any _ (ht.below hbb6)).mono ?_
        rintro e wl ⟨rfl, hbl⟩
        go_wp2_with fail
        go_ret
        exact ⟨rfl, hbb6.trans (hbl.mono hbb6.size)⟩
    · have hA1 : (eA == 0) = false := by simp [hA0]
      clear hA0
      go_wp2_with (refine wp_st0 (.tmp 17) (.tmp 47) v0 hn5 zero_len hv0 rfl rfl rfl rfl ?_; intro w6 hW6 hc6; rw [← hB17] at hc6; have hb6 := new_chg hc6; have hbb6 := hbb5.trans (hb6.mono hbb5.size); have hT6 := (hb6.block B hBl5).trans hT5; have hX6 := (hb6.block B14 hXl5).trans hX5; clear hT5 hX5 hn5 hc6 hb6)
      refine (lives05_any _ (ht.below hbb6)).mono ?_
      rintro e wl ⟨rfl, hbl⟩
      go_wp2_with fail
      go_ret
      exact ⟨rfl, hbb6.trans (hbl.mono hbb6.size)⟩
  | true =>
    go_enter Tryd.func6, Tryd.ntmps6
    go_wp2_with fail
    clear hz2
    generalize w.alloc (.cells Z 31) = w0 at *
    refine (HA.out w0 (h1.below hb0) (ht.below hb0)).mono ?_
    rintro e w1 ⟨rfl, hb1⟩
    have hbb1 := hb0.trans (hb1.mono hb0.size)
    have hr1 := (hb1.block B hBlt).trans hr0
    have hBlt1 := Nat.lt_of_lt_of_le hBlt hb1.size
    have hn1 := heap_alloc_new w1 (.cells (dk.cells dk.zero).toArray 25)
    have l00 := dk.two_len (x := dk.zero) (y := dk.zero) zero_len zero_len
    obtain ⟨B14, hB14⟩ : ∃ B, w1.heap.size = B := ⟨_, rfl⟩
    rw [hB14] at hn1
    have hne14 : B14 ≠ B := by omega
    clear hb0 hr0 hBlt hb1
    go_wp2_with (first
      | (refine wp_st0 (.tmp 14) (.tmp 29) x0 hn1 zero_len hx0 rfl rfl rfl rfl ?_; intro w2 hW2 hc2; rw [← hB14] at hc2; have hb2 := new_chg hc2; have hbb2 := hbb1.trans (hb2.mono hbb1.size); have g1 := blk_range hW2; have hr2 := (hb2.block B hBlt1).trans hr1)
      | refine wp_ld (.tmp 14) x0 g1 hx0 rfl rfl rfl ?_
      | (refine wp_st (.tmp 32) (.tmp 31) x0 hr2 (by rw [l00]; decide) hx0 rfl rfl rfl rfl ?_; intro w3 hW3 hc3))
    rw [show (0 : Nat) + 128 = 128 from rfl] at hW3
    have hW3' := hW3.trans (congrArg some (show Obj.cells ((dk.cellsS [dk.zero, dk.zero]).take 0 ++ dk.cells x0 ++ (dk.cellsS [dk.zero, dk.zero]).drop 128).toArray 31 (0, 0) = Obj.cells (dk.cellsS [x0, dk.zero]).toArray 31 (0, 0) from by rw [dk.two_set0 zero_len zero_len hx0]))
    have hbb3 : Below w.heap.size w w3 := (Chg.of_below hbb2 [B] |>.trans hc3 (Sub.refl _ _)).below (Nat.le_refl _) (fun k hk => by rw [List.mem_singleton.1 hk]; exact hBle)
    have hX3 : w3.heap[B14]? = some (.cells (dk.cells x0).toArray 25 (0, 0)) := (hc3.block B14 (Array.getElem?_eq_some_iff.1 hW2).1 (fun hm => hne14 (List.mem_singleton.1 hm))).trans hW2
    clear hW3 hc3 hW2 hc2 hb2 hbb2 g1 hr2 hr1 hn1 hBlt1 hbb1 l00 hB14
    go_wp2_with fail
    refine (HB.out w3 (h2.below hbb3) (ht.below hbb3)).mono ?_
    rintro e w4 ⟨rfl, hb4⟩
    have hbb4 := hbb3.trans (hb4.mono hbb3.size)
    have hT4 := (hb4.block B (Array.getElem?_eq_some_iff.1 hW3').1).trans hW3'
    have hX4 := (hb4.block B14 (Array.getElem?_eq_some_iff.1 hX3).1).trans hX3
    have l10 := dk.two_len (x := x0) (y := dk.zero) hx0 zero_len
    clear hW3' hX3 hb4 hbb3
    go_wp2_with (refine wp_st (.tmp 41) (.tmp 39) y0 hT4 (by rw [l10]; decide) hy0 rfl rfl rfl rfl ?_; intro w5 hW5 hc5)
    have hT := hW5.trans (congrArg some (show Obj.cells ((dk.cellsS [x0, dk.zero]).take 128 ++ dk.cells y0 ++ (dk.cellsS [x0, dk.zero]).drop (128 + 128)).toArray 31 (0, 0) = Obj.cells (dk.cellsS [x0, y0]).toArray 31 (0, 0) from by rw [dk.two_set1 hx0 zero_len hy0]))
    have hX := (hc5.block B14 (Array.getElem?_eq_some_iff.1 hX4).1 (fun hm => hne14 (List.mem_singleton.1 hm))).trans hX4
    have hbb : Below w.heap.size w w5 := (Chg.of_below hbb4 [B] |>.trans hc5 (Sub.refl _ _)).below (Nat.le_refl _) (fun k hk => by rw [List.mem_singleton.1 hk]; exact hBle)
    clear hT4 hX4 hW5 hc5 hbb4
    generalize w5 = w4' at *
    obtain ⟨t0, hts⟩ : ∃ t : dk.Blk, t = y0 := ⟨_, rfl⟩
    have ht0l : t0.length = 128 := by rw [hts]; exact hy0
    rw [← hts] at hT
    have HG2 : Hid (eA = 0 → eB = 0 → eC = 0 → sl.next x0 t0 = 1 ∧ sl.next t0 x0 = 0 ∧ ∀ t, t = dk.torn t0 v0 at_ → (sl.newest x0 t).2 = 0 ∧ ((sl.newest x0 t).1 = 1 ↔ t = v0)) := by
      show _ → _ → _ → _
      intro a1 a2 a3
      obtain ⟨t0', e0, r1, r2, r3⟩ := HGOOD.out a1 (fun _ => a2) a3
      have e0' : t0' = t0 := by rw [e0, hts]; rfl
      subst e0'
      exact ⟨r1, r2, r3⟩
    clear HGOOD hts
    have hrunC := HC.out w4' (h3.below hbb) (ht.below hbb)
    refine hrunC.mono ?_
    rintro e w5 ⟨rfl, hb5⟩
    have hbb5 := hbb.trans (hb5.mono hbb.size)
    have hT5 := (hb5.block B (Array.getElem?_eq_some_iff.1 hT).1).trans hT
    have hX5 := (hb5.block B14 (Array.getElem?_eq_some_iff.1 hX).1).trans hX
    have hn5 := heap_alloc_new w5 (.cells (dk.cells dk.zero).toArray 25)
    have hBl5 := (Array.getElem?_eq_some_iff.1 hT5).1
    have hXl5 := (Array.getElem?_eq_some_iff.1 hX5).1
    obtain ⟨B17, hB17⟩ : ∃ B, w5.heap.size = B := ⟨_, rfl⟩
    rw [hB17] at hn5
    have hne17 : B17 ≠ B := by omega
    clear hrunC hb5 hT hX hbb
    by_cases hA0 : eA = 0
    · have hA1 : (eA == 0) = true := by simp [hA0]
      by_cases hB0 : eB = 0
      · have hB1 : (eB == 0) = true := by simp [hB0]
        by_cases hC0 : eC = 0
        · obtain ⟨n1, n2, hcnt⟩ := HG2.out hA0 hB0 hC0
          clear HG2 hA1 hB1
          subst hA0 hB0 hC0
          have hnx1 := fun W hW => cs_next x0 t0 hx0 ht0l W hW
          have hnx2 := fun W hW => cs_next t0 x0 ht0l hx0 W hW
          simp only [n1] at hnx1
          simp only [n2] at hnx2
          have HN1 := Lib.hid hnx1
          have HN2 := Lib.hid hnx2
          obtain ⟨t, htq⟩ : ∃ t, t = dk.torn t0 v0 at_ := ⟨_, rfl⟩
          have htl : t.length = 128 := by rw [htq]; exact dk.torn_length _ ht0l hv0
          have hcnt2 := hcnt t htq
          have HCN := Lib.hid hcnt2
          have HTQ := Lib.hid htq
          clear n1 n2 hcnt hnx1 hnx2 hcnt2 htq
          go_wp2_with (first
            | (refine wp_st0 (.tmp 17) (.tmp 47) v0 hn5 zero_len hv0 rfl rfl rfl rfl ?_; intro w6 hW6 hc6; rw [← hB17] at hc6; have hb6 := new_chg hc6; have hbb6 := hbb5.trans (hb6.mono hbb5.size); have hT6 := (hb6.block B hBl5).trans hT5; have hX6 := (hb6.block B14 hXl5).trans hX5; clear hT5 hX5 hn5 hc6 hb6; have g1 := dk.two0 hx0 ht0l hT6; have g2 := dk.two1 hx0 ht0l hT6)
            | refine wp_ld (.tmp 60) x0 g1 hx0 rfl rfl rfl ?_
            | refine wp_ld (.tmp 62) t0 g2 ht0l rfl rfl rfl ?_)
          have hB6 := (Array.getElem?_eq_some_iff.1 hT6).1
          have hX6l := (Array.getElem?_eq_some_iff.1 hX6).1
          have hW6l := (Array.getElem?_eq_some_iff.1 hW6).1
          refine (HN1.out _ (ht.below hbb6)).mono ?_
          rintro e w7 ⟨rfl, hb7⟩
          have hbb7 := hbb6.trans (hb7.mono hbb6.size)
          have hT7 := (hb7.block B hB6).trans hT6
          have hX7 := (hb7.block B14 hX6l).trans hX6
          have hW7 := (hb7.block B17 hW6l).trans hW6
          have g3 := dk.two0 hx0 ht0l hT7
          have g4 := dk.two1 hx0 ht0l hT7
          clear hT6 hX6 hW6 hb7 g1 g2 hB6 hX6l hW6l
          go_wp2_with (first
            | refine wp_ldw (.tmp 68) t0 g4 ht0l rfl rfl (by rfl) ?_
            | refine wp_ldw (.tmp 70) x0 g3 hx0 rfl rfl (by rfl) ?_)
          refine (HN2.out _ (ht.below hbb7)).mono ?_
          rintro e w8 ⟨rfl, hb8⟩
          have hbb8 := hbb7.trans (hb8.mono hbb7.size)
          have hT8 := (hb8.block B (Array.getElem?_eq_some_iff.1 hT7).1).trans hT7
          have hX8 := (hb8.block B14 (Array.getElem?_eq_some_iff.1 hX7).1).trans hX7
          have hW8 := (hb8.block B17 (Array.getElem?_eq_some_iff.1 hW7).1).trans hW7
          clear hT7 hX7 hW7 hb8 g3 g4
          go_wp2_with fail
          have uB := Tryd.underlying25
          have iT := info_blk' ht0l
          have iV := info_blk' hv0
          have hTorn := Lib.hid (fun W => rtorn_any t0 v0 at_ (w := W) ht0l hv0)
          refine wp_region_held_drew (S := fun w' => w'.heap[B17]? = some (.cells (dk.cells v0).toArray 25 (0, 0))) (by kernel_rfl) hW8 (fun hHeld => ?_)
          refine wpAnyH_take (i := 0) (v := ?_) rfl (by kernel_rfl) (by kernel_rfl) (by kernel_rfl) (fun _ _ _ h => h) (Or.inl ⟨by rfl, ?_⟩) hHeld ?_
          rotate_left
          · intro w hSw; clear hSw; go_simp; try rfl
          simp only [List.getElem_toArray, List.getElem_cons_zero, Act.put, List.setIfInBounds_toArray, List.set_cons_zero, List.set_cons_succ]
          refine wpAnyH_take (i := 1) (v := ?_) rfl (by kernel_rfl) (by kernel_rfl) (by kernel_rfl) (fun _ _ _ h => h) (Or.inl ⟨by rfl, ?_⟩) hHeld ?_
          rotate_left
          · intro w hSw; clear hSw; go_simp; try rfl
          simp only [List.getElem_toArray, List.getElem_cons_zero, List.getElem_cons_succ, Act.put, List.setIfInBounds_toArray, List.set_cons_zero, List.set_cons_succ]
          refine wpAnyH_take (i := 2) (v := ?_) rfl (by kernel_rfl) (by kernel_rfl) (by kernel_rfl) (fun _ _ _ h => h) (Or.inl ⟨by rfl, ?_⟩) hHeld ?_
          rotate_left
          · intro w hSw; clear hSw; go_simp; try rfl
          simp only [List.getElem_toArray, List.getElem_cons_zero, List.getElem_cons_succ, Act.put, List.setIfInBounds_toArray, List.set_cons_zero, List.set_cons_succ]
          refine wpAnyH_take (i := 4) (v := dk.val v0) rfl (by kernel_rfl) (by kernel_rfl) (by kernel_rfl) (fun _ _ _ h => h) (yieldsIf_load_mid (by rfl) 25 (.tmp 17) rfl B17 0 rfl (dk.cells v0) _ (fun w h => blk_range h) uB rfl iV) hHeld ?_
          simp only [List.getElem_toArray, List.getElem_cons_zero, List.getElem_cons_succ, Act.put, List.setIfInBounds_toArray, List.set_cons_zero, List.set_cons_succ]
          refine wpAnyH_take (i := 5) (v := ?_) rfl (by kernel_rfl) (by kernel_rfl) (by kernel_rfl) (fun _ _ _ h => h) (Or.inl ⟨by rfl, ?_⟩) hHeld ?_
          rotate_left
          · intro w hSw; clear hSw; go_simp; try rfl
          simp only [List.getElem_toArray, List.getElem_cons_zero, List.getElem_cons_succ, Act.put, List.setIfInBounds_toArray, List.set_cons_zero, List.set_cons_succ]
          refine wpAnyH_ready (rs := [3]) (by kernel_rfl) (by simp) ?_
          refine AllReadyH.cons rfl (fun K hK => ?_) AllReadyH.nil
          rw [if_pos (by rfl)]
          refine wp_load_mid 25 (.tmp 77) rfl B 128 rfl (dk.cells t0) _ (show w8.drew.rangeAt B 128 (dk.cells t0) from dk.two1 hx0 ht0l hT8) uB rfl iT ?_
          simp only [List.getElem_toArray, List.getElem_cons_zero, List.getElem_cons_succ, Act.put, List.setIfInBounds_toArray, List.set_cons_zero, List.set_cons_succ]
          refine hK.out _ _ hHeld (fun hHeld => ?_)
          clear hK K
          refine wpAnyH_ready (rs := [6]) (by kernel_rfl) (by simp) ?_
          refine AllReadyH.cons rfl (fun K hK => ?_) AllReadyH.nil
          rw [if_pos (by rfl)]
          go_simp
          refine (hTorn.out _).mono ?_
          rintro e w9 ⟨rfl, hb9⟩
          rw [← HTQ.out]
          have hB8l := (Array.getElem?_eq_some_iff.1 hT8).1
          have hW8l := (Array.getElem?_eq_some_iff.1 hW8).1
          have hX8l := (Array.getElem?_eq_some_iff.1 hX8).1
          have hS9 : w9.heap[B17]? = some (.cells (dk.cells v0).toArray 25 (0, 0)) := (hb9.block B17 hW8l).trans hHeld
          have hT9 := (hb9.block B hB8l).trans (show w8.drew.heap[B]? = _ from hT8)
          have hX9 := (hb9.block B14 hX8l).trans (show w8.drew.heap[B14]? = _ from hX8)
          have hbb9 := hbb8.drew.trans (hb9.mono hbb8.size)
          dsimp only
          refine hK.out _ _ hS9 (fun hHeld => ?_)
          clear hK K
          refine wpAnyH_take (i := 7) (v := ?_) rfl (by kernel_rfl) (by kernel_rfl) (by kernel_rfl) (fun _ _ _ h => h) (Or.inl ⟨by rfl, ?_⟩) hHeld ?_
          rotate_left
          · intro w hSw; clear hSw; go_simp; try rfl
          simp only [List.getElem_toArray, List.getElem_cons_zero, List.getElem_cons_succ, Act.put, List.setIfInBounds_toArray, List.set_cons_zero, List.set_cons_succ]
          refine wpAnyH_ready (rs := [8]) (by kernel_rfl) (by simp) ?_
          refine AllReadyH.cons rfl (fun K hK => ?_) AllReadyH.nil
          rw [if_pos (by rfl)]
          have l2 := dk.two_len hx0 ht0l
          have th := there_of hT9 128 128 (by rw [l2]; decide)
          refine wp_store_mid 25 (.tmp 82) (.tmp 81) rfl B 128 (dk.cells t).toArray rfl rfl (by simpa [htl] using th) (by simpa [htl] using info_blk) (cells_one t) ?_
          simp only [List.getElem_toArray, List.getElem_cons_zero, List.getElem_cons_succ, Act.put]
          have hset := block_sets (dk.cells t) 128 _ w9 hT9 (by rw [List.length_map, htl, l2]; decide)
          have hset2 := hset.trans (congrArg some (show Obj.cells ((dk.cellsS [x0, t0]).take 128 ++ dk.cells t ++ (dk.cellsS [x0, t0]).drop (128 + (dk.cells t).length)).toArray 31 (0, 0) = Obj.cells (dk.cellsS [x0, t]).toArray 31 (0, 0) from by rw [List.length_map, htl, dk.two_set1 hx0 ht0l htl]))
          have hcs := Chg.setCells B (dk.cells t) 128 w9
          have hS10 := (hcs.block B17 (Array.getElem?_eq_some_iff.1 hHeld).1 (fun hm => hne17 (List.mem_singleton.1 hm))).trans hHeld
          have hX10 := (hcs.block B14 (Array.getElem?_eq_some_iff.1 hX9).1 (fun hm => hne14 (List.mem_singleton.1 hm))).trans hX9
          have hbb10 : Below w.heap.size w _ := (Chg.of_below hbb9 [B] |>.trans hcs (Sub.refl _ _)).below (Nat.le_refl _) (fun k hk => by rw [List.mem_singleton.1 hk]; exact hBle)
          change K _ (w9.setCells B 128 (dk.cells t))
          generalize w9.setCells B 128 (dk.cells t) = w10 at *
          refine hK.out _ _ hS10 (fun _ => ?_)
          clear hK K
          refine wpAnyH_done (by kernel_rfl) ?_ _
          have g5 := dk.two0 hx0 htl hset2
          have g6 := dk.two1 hx0 htl hset2
          clear hset hcs hT9 th hS9 hX9 hHeld hT8 hW8 hX8 hTorn
          go_wp2_with (first
            | refine wp_ld (.tmp 84) x0 g5 hx0 rfl rfl rfl ?_
            | refine wp_ld (.tmp 86) t g6 htl rfl rfl rfl ?_)
          obtain ⟨c0, c1⟩ := HCN.out
          have hnw := cs_newest x0 t hx0 htl w10 (ht.below hbb10)
          rw [c0] at hnw
          obtain ⟨wh, hwh⟩ : ∃ wh, (sl.newest x0 t).1 = wh := ⟨_, rfl⟩
          rw [hwh] at hnw c1
          have HNW := Lib.hid hnw
          have HC1 := Lib.hid c1
          have e0 := eq_blk x0 x0 hx0 hx0
          rw [decide_eq_true rfl] at e0
          have e1 := eq_blk t v0 htl hv0
          obtain ⟨q, hq⟩ : ∃ q, decide (t = v0) = q := ⟨_, rfl⟩
          have hwq : (wh == 1) = q := by
            rw [← hq, Bool.eq_iff_iff, beq_iff_eq, decide_eq_true_iff]
            exact HC1.out
          rw [hq] at e1
          clear hnw c0 c1 hwh hq
          refine HNW.out.mono ?_
          rintro e w11 ⟨rfl, hb11⟩
          have hbb11 := hbb10.trans (hb11.mono hbb10.size)
          have hT11 := (hb11.block B (Array.getElem?_eq_some_iff.1 hset2).1).trans hset2
          have hX11 := (hb11.block B14 (Array.getElem?_eq_some_iff.1 hX10).1).trans hX10
          have hW11 := (hb11.block B17 (Array.getElem?_eq_some_iff.1 hS10).1).trans hS10
          have g7 := dk.two0 hx0 htl hT11
          have g8 := dk.two1 hx0 htl hT11
          have g9 := blk_range hX11
          have g10 := blk_range hW11
          clear hset2 hX10 hS10 hb11 hT11 hX11 hW11 g5 g6
          cases q
          all_goals
            go_wp2_with (first
              | refine wp_ldw (.tmp 96) t g8 htl rfl rfl (by rfl) ?_
              | refine wp_ldw (.tmp 17) v0 g10 hv0 rfl rfl (by rfl) ?_
              | refine wp_ldw (.tmp 103) x0 g7 hx0 rfl rfl (by rfl) ?_
              | refine wp_ldw (.tmp 14) x0 g9 hx0 rfl rfl (by rfl) ?_)
            refine (lives05_any _ (ht.below hbb11)).mono ?_
            rintro e wl ⟨rfl, hbl⟩
            go_wp2_with fail
            go_ret
            exact ⟨rfl, hbb11.trans (hbl.mono hbb11.size)⟩
        · have hC1 : (eC == 0) = false := by simp [hC0]
          clear hC0
          go_wp2_with (refine wp_st0 (.tmp 17) (.tmp 47) v0 hn5 zero_len hv0 rfl rfl rfl rfl ?_; intro w6 hW6 hc6; rw [← hB17] at hc6; have hb6 := new_chg hc6; have hbb6 := hbb5.trans (hb6.mono hbb5.size); have hT6 := (hb6.block B hBl5).trans hT5; have hX6 := (hb6.block B14 hXl5).trans hX5; clear hT5 hX5 hn5 hc6 hb6)
          refine (lives05_any _ (ht.below hbb6)).mono ?_
          rintro e wl ⟨rfl, hbl⟩
          go_wp2_with fail
          go_ret
          exact ⟨rfl, hbb6.trans (hbl.mono hbb6.size)⟩
      · have hB1 : (eB == 0) = false := by simp [hB0]
        clear hB0
        go_wp2_with (refine wp_st0 (.tmp 17) (.tmp 47) v0 hn5 zero_len hv0 rfl rfl rfl rfl ?_; intro w6 hW6 hc6; rw [← hB17] at hc6; have hb6 := new_chg hc6; have hbb6 := hbb5.trans (hb6.mono hbb5.size); have hT6 := (hb6.block B hBl5).trans hT5; have hX6 := (hb6.block B14 hXl5).trans hX5; clear hT5 hX5 hn5 hc6 hb6)
        refine (lives05_any _ (ht.below hbb6)).mono ?_
        rintro e wl ⟨rfl, hbl⟩
        go_wp2_with fail
        go_ret
        exact ⟨rfl, hbb6.trans (hbl.mono hbb6.size)⟩
    · have hA1 : (eA == 0) = false := by simp [hA0]
      clear hA0
      go_wp2_with (refine wp_st0 (.tmp 17) (.tmp 47) v0 hn5 zero_len hv0 rfl rfl rfl rfl ?_; intro w6 hW6 hc6; rw [← hB17] at hc6; have hb6 := new_chg hc6; have hbb6 := hbb5.trans (hb6.mono hbb5.size); have hT6 := (hb6.block B hBl5).trans hT5; have hX6 := (hb6.block B14 hXl5).trans hX5; clear hT5 hX5 hn5 hc6 hb6)
      all_goals
        refine (lives05_any _ (ht.below hbb6)).mono ?_
        rintro e wl ⟨rfl, hbl⟩
        go_wp2_with fail
        go_ret
        exact ⟨rfl, hbb6.trans (hbl.mono hbb6.size)⟩
end Go.Proofs.YtbjnmiaplegkcaaDoor
