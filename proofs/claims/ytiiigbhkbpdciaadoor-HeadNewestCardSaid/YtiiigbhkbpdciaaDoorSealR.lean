/-
  contracts of cardexref05: ends, Put.
-/
import Derived.Test.YtiiigbhkbpdciaaDoorSealL
import Derived.Test.YtiiigbhkbpdciaaDoorDiskW
import Derived.Test.YtiiigbhkbpdciaaDoorCrcRef
namespace Go.Proofs.YtiiigbhkbpdciaaDoor
open Go.RowKit

theorem put8 (n : Nat) (h : n < 18446744073709551616) : putOk n 8 = true := by
  simp [putOk, isSz]
  exact h
theorem put4 (n : Nat) (h : n < 4294967296) : putOk n 4 = true := by
  simp [putOk, isSz]
  exact h
theorem bs_of_block5 {W : World} {g : Nat} {e : TypeId} {p : List UInt8} {fr : Nat × Nat} (h : W.heap[g]? = some (.cells ((p.map bv).toArray) e fr)) (n : Nat) (hn : n = p.length) (hs : n ≤ 281474976710656) : BS W (some ⟨g, 0, none⟩) n n p :=
  ⟨hn.symm, Nat.le_refl _, by omega, hs, fun _ => ⟨g, 0, rfl, (Array.getElem?_eq_some_iff.1 h).1, fun i hi => by
    rw [Nat.zero_add, cell_of_row _ _ _ _ _ _ h]
    simp [hi]⟩⟩
set_option maxHeartbeats 1000000 in
theorem rends_any (n : Nat) (hn : n < 18446744073709551616) (w : World) : Calls Tryd.prog 21 #[.int .u64 n] w fun e w' =>
    ∃ A1 c1 A2 c2, e = .returned (.tuple #[.slice A1 8 c1, .slice A2 8 c2]) ∧ OwnB 5 w' w.heap.size (.slice A1 8 c1) (leBytes n 8) ∧ OwnB 5 w' w.heap.size (.slice A2 8 c2) (sl.last n) ∧ Below w.heap.size w w' := by
  have e1 : (18446744073709551615 : Int) - (n : Int) = ((18446744073709551615 - n : Nat) : Int) := by omega
  have p1 := put8 n hn
  have p2 := put8 (18446744073709551615 - n) (by omega)
  have h1 := rput_any n 8 w hn
  have h2 := fun W => rput_any (18446744073709551615 - n) 8 W (by omega)
  rw [p1] at h1
  rw [p2] at h2
  rw [← e1] at h2
  have H1 := Lib.hid h1
  have H2 := Lib.hid h2
  clear h1 h2 p1 p2 e1
  go_enter Tryd.func21, Tryd.ntmps21
  go_wp2_with fail
  refine H1.out.mono ?_
  rintro e w1 ⟨-, hr, hb1⟩
  obtain ⟨v1, rfl, ho1⟩ := hr rfl
  obtain ⟨A1, c1, rfl, hB1⟩ := ho1.form
  rw [show (leBytes n (Int.toNat 8)).length = 8 from leBytes_length _ _] at hB1 ho1 ⊢
  go_wp2_with fail
  refine (H2.out _).mono ?_
  rintro e w2 ⟨-, hr, hb2⟩
  obtain ⟨v2, rfl, ho2⟩ := hr rfl
  obtain ⟨A2, c2, rfl, hB2⟩ := ho2.form
  rw [show (leBytes (18446744073709551615 - n) (Int.toNat 8)).length = 8 from leBytes_length _ _] at hB2 ho2 ⊢
  go_wp2_with fail
  go_ret2
  exact ⟨A1, c1, A2, c2, rfl, ho1.below hb2 (Nat.le_refl _), ho2.mono hb1.size, hb1.trans (hb2.mono hb1.size)⟩

theorem bs_take_row {e : TypeId} {w : World} {g : Nat} {bl : List UInt8} (h : RowB e w g bl) (hl : bl.length = 128) {k : Nat} (hk : k ≤ 128) : BS w (some ⟨g, 0, none⟩) k 128 (bl.take k) :=
  ⟨by rw [List.length_take]; omega, hk, by omega, by omega, fun _ => ⟨g, 0, rfl, h.lt, fun i hi => by
    rw [Nat.zero_add, h.cell (i := i) (by rw [List.length_take] at hi; omega), List.getElem_take]⟩⟩
theorem bs_drop_row {e : TypeId} {w : World} {g : Nat} {bl : List UInt8} (h : RowB e w g bl) (hl : bl.length = 128) {k m : Nat} (hk : k + m = 128) : BS w (some ⟨g, k, none⟩) m m (bl.drop k) :=
  ⟨by rw [List.length_drop]; omega, Nat.le_refl _, by omega, by omega, fun _ => ⟨g, k, rfl, h.lt, fun i hi => by
    rw [h.cell (i := k + i) (by rw [List.length_drop] at hi; omega), List.getElem_drop]⟩⟩
set_option maxHeartbeats 4000000 in
set_option maxRecDepth 100000 in
theorem rput5_any (n : Nat) (hn : n < 18446744073709551616) (A : Option Addr) (k c : Nat) (body : List UInt8) (w : World) (h : BS w A k c body) : Calls Tryd.prog 12 #[.int .u64 n, .slice A k c] w fun e w' =>
    e = .returned (.tuple #[dk.val (sl.put n body).1, .int .i64 (sl.put n body).2]) ∧ Below w.heap.size w w' := by
  obtain ⟨hz, -⟩ := zero_of_info zero_blk
  have hk := h.len
  have hcap := h.cap
  have hmax := h.max
  have h1 := heap_alloc_new w (.cells (dk.cells dk.zero).toArray 27)
  have h1' := (Below.heap_alloc (w.alloc (.cells (dk.cells dk.zero).toArray 27)) (.cells (dk.cells dk.zero).toArray 27) w.heap.size (by simp)).trans h1
  have h2 := heap_alloc_new (w.alloc (.cells (dk.cells dk.zero).toArray 27)) (.cells (dk.cells dk.zero).toArray 27)
  rw [show (w.alloc (.cells (dk.cells dk.zero).toArray 27)).heap.size = w.heap.size + 1 from by simp] at h2
  have hb2 : Below w.heap.size w ((w.alloc (.cells (dk.cells dk.zero).toArray 27)).alloc (.cells (dk.cells dk.zero).toArray 27)) := ((Below.refl _ _).alloc (Nat.le_refl _) _).alloc (by simp) _
  clear h1
  by_cases h0 : n = 0
  · have hp : sl.put n body = (dk.zero, 2) := if_pos h0
    have HP := Lib.hid hp
    have h0' : ((n : Int) == 0) = true := by simp [h0]
    clear hp
    have hrg := blk_range h2
    go_enter Tryd.func12, Tryd.ntmps12
    go_wp2_with (first | refine wp_ld (.tmp 6) dk.zero hrg zero_len rfl rfl rfl ?_ | (refine wp_st0 (.tmp 4) (.tmp 16) dk.zero h1' zero_len zero_len rfl rfl rfl rfl ?_; intro W hW hc))
    refine bodyPost_ret (results_cell_tmp rfl rfl (blk_load (blk_range hW) zero_len)) rfl ⟨?_, (Chg.of_below hb2 [w.heap.size]).trans hc (Sub.refl _ _) |>.below (Nat.le_refl _) (fun k hk => by simp at hk; omega)⟩
    rw [HP.out]
    rfl
  · have h0' : ((n : Int) == 0) = false := by simp [h0]
    by_cases hlen : 108 < body.length
    · have hp : sl.put n body = (dk.zero, 3) := by rw [sl.put, if_neg h0, if_pos hlen]
      have HP := Lib.hid hp
      have hlen' : (108 : Int) < (k : Int) := by omega
      clear hp
      have hrg := blk_range h2
      go_enter Tryd.func12, Tryd.ntmps12
      go_wp2_with (first | refine wp_ld (.tmp 6) dk.zero hrg zero_len rfl rfl rfl ?_ | (refine wp_st0 (.tmp 4) (.tmp 20) dk.zero h1' zero_len zero_len rfl rfl rfl rfl ?_; intro W hW hc))
      refine bodyPost_ret (results_cell_tmp rfl rfl (blk_load (blk_range hW) zero_len)) rfl ⟨?_, (Chg.of_below hb2 [w.heap.size]).trans hc (Sub.refl _ _) |>.below (Nat.le_refl _) (fun k hk => by simp at hk; omega)⟩
      rw [HP.out]
      rfl
    · have hp : sl.put n body = (sl.sealB n body, 0) := by rw [sl.put, if_neg h0, if_neg hlen]
      have HP := Lib.hid hp
      have hlen' : ¬ (108 : Int) < (k : Int) := by omega
      have hbl : body.length ≤ 108 := by omega
      clear hp hlen
      go_enter Tryd.func12, Tryd.ntmps12
      go_wp2_with fail
      refine (rends_any n hn _).mono ?_
      rintro e w3 ⟨A1, c1, A2, c2, rfl, hF, hL, hb3⟩
      have hbb3 := hb2.trans (hb3.mono hb2.size)
      have z3 := (hb3.block w.heap.size (by simp; omega)).trans h1'
      have r3 : RowB 27 w3 (w.heap.size + 1) dk.zero := (hb3.block (w.heap.size + 1) (by simp)).trans h2
      obtain ⟨B, hB⟩ : ∃ B, w.heap.size + 1 = B := ⟨_, rfl⟩
      rw [hB] at r3
      have hoF : Value.ownBlock (.slice A1 8 c1) = none ∨ Value.ownBlock (.slice A1 8 c1) ≠ some B := .inr (fun e => by have := (hF.lt B e).1; simp at this; omega)
      have hoL : Value.ownBlock (.slice A2 8 c2) = none ∨ Value.ownBlock (.slice A2 8 c2) ≠ some B := .inr (fun e => by have := (hL.lt B e).1; simp at this; omega)
      have hBR : B ≠ w.heap.size := by omega
      have hBle : w.heap.size ≤ B := by omega
      have hR3 := (Array.getElem?_eq_some_iff.1 z3).1
      clear h1' h2 hb2 hb3
      go_wp2_with fail
      go_loopw [9] (fun t wr => ∃ (j : Nat) (bl : List UInt8), t = .int .i64 j ∧ j ≤ 8 ∧ RowB 27 wr B bl ∧ bl.length = 128 ∧ Hid (∀ p, p < 128 → bl.getD p 0 = sl.spot (leBytes n 8) body [] (sl.last n) j 0 0 p) ∧ w3.grownBy wr (some B)) (fun t _ => 8 - (intOf t).toNat)
      case atStart => exact ⟨0, dk.zero, rfl, by omega, r3, zero_len, fun p hp => sl.spot_zero _ _ _ _ p hp, World.grownBy.refl _ _⟩
      case round =>
        clear r3
        obtain ⟨j, bl, rfl, hj, hr, hbl128, hsp, hg⟩ := hrel
        by_cases hj8 : j < 8
        · have bF := (hF.kept hg hoF).bs
          have bL := (hL.kept hg hoL).bs
          obtain ⟨g1, o1, rfl, _, hc1⟩ := bF.has (by omega)
          obtain ⟨g2, o2, rfl, _, hc2⟩ := bL.has (by omega)
          have q1 := hc1 j (by rw [leBytes_length]; exact hj8)
          have q2 := hc2 j (by rw [sl.last_length]; exact hj8)
          have hf1 := hr.frozen j
          have hf2 := hr.frozen (120 + j)
          have hx1 := hr.cell (i := j) (by omega)
          have hx2 := hr.cell (i := 120 + j) (by omega)
          have st := sl.spot_one hbl128 hsp.out hj8
          have e1 : (leBytes n 8).getD j 0 = (leBytes n 8)[j]'(by rw [leBytes_length]; exact hj8) := by rw [List.getD_eq_getElem?_getD, List.getElem?_eq_getElem (by rw [leBytes_length]; exact hj8)]; rfl
          have e2 : (sl.last n).getD j 0 = (sl.last n)[j]'(by rw [sl.last_length]; exact hj8) := by rw [List.getD_eq_getElem?_getD, List.getElem?_eq_getElem (by rw [sl.last_length]; exact hj8)]; rfl
          rw [e1, e2] at st
          have hn1 : g1 ≠ B := fun e => by
            rcases hoF with h | h
            · simp [Value.ownBlock] at h
            · exact h (by rw [← e]; rfl)
          have hn2 : g2 ≠ B := fun e => by
            rcases hoL with h | h
            · simp [Value.ownBlock] at h
            · exact h (by rw [← e]; rfl)
          generalize (leBytes n 8)[j]'(by rw [leBytes_length]; exact hj8) = x1 at *
          generalize (sl.last n)[j]'(by rw [sl.last_length]; exact hj8) = x2 at *
          have ST := Lib.hid st
          clear st e1 e2 hc1 hc2 bF bL
          have r2 := (hr.set_ j x1).set_ (120 + j) x2
          have hx2' : (wr.setCell ⟨B, j, none⟩ (bv x1)).cell? ⟨B, 120 + j, none⟩ = some (bv bl[120 + j]) := by
            rw [World.cell?_setCell_other _ _ _ _ (fun e => by injection e with _ e; omega)]
            exact hx2
          have q2' : (wr.setCell ⟨B, j, none⟩ (bv x1)).cell? ⟨g2, o2 + j, none⟩ = some (bv x2) := by
            rw [World.cell?_setCell_other _ _ _ _ (fun e => by injection e with e _; exact hn2 e.symm)]
            exact q2
          have hf2' : (wr.setCell ⟨B, j, none⟩ (bv x1)).frozen? ⟨B, 120 + j, none⟩ = false := by rw [World.frozen?_setCell]; exact hf2
          go_wp2_with fail
          go_roundw
          case rel =>
            exact ⟨j + 1, _, by go_num, by omega, r2, by rw [List.length_set, List.length_set]; exact hbl128, ST.out, grown_setCell (grown_setCell hg _ _) _ _⟩
          case measure => simp [intOf]; omega
        · have hsp8 : ∀ p, p < 128 → bl.getD p 0 = sl.spot (leBytes n 8) body [] (sl.last n) 8 0 0 p := by
            have h1 := hsp.out
            rwa [show j = 8 from by omega] at h1
          have HS8 := Lib.hid hsp8
          clear hsp hsp8 hj
          go_wp2_with fail
          clear hj8
          go_loopw [10] (fun t wr => ∃ (j : Nat) (bl : List UInt8), t = .int .i64 j ∧ j ≤ k ∧ RowB 27 wr B bl ∧ bl.length = 128 ∧ Hid (∀ p, p < 128 → bl.getD p 0 = sl.spot (leBytes n 8) body [] (sl.last n) 8 j 0 p) ∧ w3.grownBy wr (some B)) (fun t _ => k - (intOf t).toNat)
          case atStart => exact ⟨0, bl, rfl, by omega, hr, hbl128, HS8.out, hg⟩
          case round =>
            clear hr hbl128 HS8 hg
            obtain ⟨j2, bl2, rfl, hj2, hr, hbl128, hsp, hg⟩ := hrel
            have hbw : Below w.heap.size w _ := hbb3.grown hg hbb3.size (fun k hk => by injection hk with hk; omega)
            by_cases hlt : j2 < k
            · have bB := h.below hbw
              obtain ⟨g1, o1, rfl, hgl, hc1⟩ := h.has (by omega)
              obtain ⟨g1', o1', e1, _, hc1'⟩ := bB.has (by omega)
              injection e1 with e1
              injection e1 with e1 e2
              subst e1 e2
              have q1 := hc1' j2 (by omega)
              have hf1 := hr.frozen (8 + j2)
              have hx1 := hr.cell (i := 8 + j2) (by omega)
              have st := sl.spot_two hbl128 hsp.out (j := j2) (by omega)
              have e1 : body.getD j2 0 = body[j2]'(by omega) := by rw [List.getD_eq_getElem?_getD, List.getElem?_eq_getElem (by omega)]; rfl
              rw [e1] at st
              generalize body[j2]'(by omega) = x1 at *
              have ST := Lib.hid st
              clear st e1 hc1 hc1'
              have r2 := hr.set_ (8 + j2) x1
              go_wp2_with fail
              go_roundw
              case rel => exact ⟨j2 + 1, _, by go_num, by omega, r2, by rw [List.length_set]; exact hbl128, ST.out, grown_setCell hg _ _⟩
              case measure => simp [intOf]; omega
            · have hspk : ∀ p, p < 128 → bl2.getD p 0 = sl.spot (leBytes n 8) body [] (sl.last n) 8 body.length 0 p := by
                have h1 := hsp.out
                rwa [show j2 = body.length from by omega] at h1
              have hhead := sl.take_head hbl hbl128 hspk
              have hBS := bs_take_row hr hbl128 (k := 116) (by omega)
              rw [hhead] at hBS
              have HOF := Lib.hid (rof_any _ 116 128 _ _ hBS)
              obtain ⟨s, hs⟩ : ∃ s, crc.of (sl.head n body) = s := ⟨_, rfl⟩
              rw [hs] at HOF
              have hslt := s.isLt
              have HSK := Lib.hid hspk
              have HSUM := Lib.hid hs
              clear hspk hhead hBS hs hsp
              go_wp2_with fail
              refine HOF.out.mono ?_
              rintro e w4 ⟨rfl, rfl⟩
              go_wp2_with fail
              have hp4 := rput_any s.toNat 4 wr (by omega)
              rw [put4 s.toNat (by omega)] at hp4
              refine hp4.mono ?_
              rintro e w4 ⟨-, hv, hb4⟩
              obtain ⟨v4, rfl, ho4⟩ := hv rfl
              obtain ⟨A4, c4, rfl, hB4⟩ := ho4.form
              rw [show (leBytes s.toNat (Int.toNat 4)).length = 4 from leBytes_length _ _] at ho4 ⊢
              rw [show Int.toNat 4 = 4 from rfl] at ho4
              have hr4 := hr.below hb4 hr.lt
              have hbw4 := hbw.trans (hb4.mono hbw.size)
              have z4 := (hb4.block w.heap.size (Nat.lt_of_lt_of_le hR3 hg.size)).trans ((hg.block w.heap.size hR3 (fun e => by injection e with e; omega)).trans z3)
              have hoS : Value.ownBlock (.slice A4 4 c4) = none ∨ Value.ownBlock (.slice A4 4 c4) ≠ some B := .inr (fun e => by have := (ho4.lt B e).1; have := hr.lt; omega)
              have hs4 : ∀ p, p < 128 → bl2.getD p 0 = sl.spot (leBytes n 8) body (leBytes s.toNat 4) (sl.last n) 8 body.length 0 p := fun p hp => (HSK.out p hp).trans sl.spot_sum
              have HS4 := Lib.hid hs4
              have hR4 := (Array.getElem?_eq_some_iff.1 z4).1
              clear hs4 HSK HOF hB4 hb4 hr hg hbw hF hL hoF hoL z3 hR3 hbb3 hp4
              go_wp2_with fail
              go_loopw [13] (fun t wr => ∃ (j : Nat) (bl : List UInt8), t = .int .i64 j ∧ j ≤ 4 ∧ RowB 27 wr B bl ∧ bl.length = 128 ∧ Hid (∀ p, p < 128 → bl.getD p 0 = sl.spot (leBytes n 8) body (leBytes s.toNat 4) (sl.last n) 8 body.length j p) ∧ w4.grownBy wr (some B)) (fun t _ => 4 - (intOf t).toNat)
              case atStart => exact ⟨0, bl2, rfl, by omega, hr4, hbl128, HS4.out, World.grownBy.refl _ _⟩
              case round =>
                clear hr4 hbl128 HS4
                obtain ⟨j3, bl3, rfl, hj3, hr, hbl128, hsp, hg⟩ := hrel
                by_cases hlt3 : j3 < 4
                · have bS := (ho4.kept hg hoS).bs
                  obtain ⟨g1, o1, rfl, _, hc1⟩ := bS.has (by omega)
                  have q1 := hc1 j3 (by rw [leBytes_length]; exact hlt3)
                  have hf1 := hr.frozen (116 + j3)
                  have hx1 := hr.cell (i := 116 + j3) (by omega)
                  have st := sl.spot_three hbl128 hsp.out hlt3
                  have e1 : (leBytes s.toNat 4).getD j3 0 = (leBytes s.toNat 4)[j3]'(by rw [leBytes_length]; exact hlt3) := by rw [List.getD_eq_getElem?_getD, List.getElem?_eq_getElem (by rw [leBytes_length]; exact hlt3)]; rfl
                  rw [e1] at st
                  generalize (leBytes s.toNat 4)[j3]'(by rw [leBytes_length]; exact hlt3) = x1 at *
                  have ST := Lib.hid st
                  clear st e1 hc1 bS
                  have r2 := hr.set_ (116 + j3) x1
                  go_wp2_with fail
                  go_roundw
                  case rel => exact ⟨j3 + 1, _, by go_num, by omega, r2, by rw [List.length_set]; exact hbl128, ST.out, grown_setCell hg _ _⟩
                  case measure => simp [intOf]; omega
                · have hfin : bl3 = sl.sealB n body := sl.getD_ext hbl128 (sl.seal_length n hbl) fun p hp => by
                    have h1 := hsp.out p hp
                    rw [show j3 = 4 from by omega] at h1
                    rw [h1, sl.seal_spot n hbl p hp, HSUM.out]
                  have hrg := blk_range hr
                  have z5 := (hg.block w.heap.size hR4 (fun e => by injection e with e; omega)).trans z4
                  have HFIN := Lib.hid hfin
                  have hb5 : Below w.heap.size w _ := hbw4.grown hg hbw4.size (fun k hk => by injection hk with hk; omega)
                  clear hfin hr hsp hg z4 ho4
                  go_wp2_with (first | refine wp_ld (.tmp 6) bl3 hrg hbl128 rfl rfl rfl ?_ | (refine wp_st0 (.tmp 4) (.tmp 74) bl3 z5 zero_len hbl128 rfl rfl rfl rfl ?_; intro W hW hc))
                  refine bodyPost_ret (results_cell_tmp rfl rfl (blk_load (blk_range hW) hbl128)) rfl ⟨?_, (Chg.of_below hb5 [w.heap.size]).trans hc (Sub.refl _ _) |>.below (Nat.le_refl _) (fun k hk => by simp at hk; omega)⟩
                  rw [HP.out, HFIN.out]
                  rfl
end Go.Proofs.YtiiigbhkbpdciaaDoor
