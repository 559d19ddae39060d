/-
  cardexlaw05's lives.
-/
import Derived.Test.YtbjnmiaplegkcaaDoorSealP2
import Derived.Test.YtbjnmiaplegkcaaDoorDiskE
namespace Go.Proofs.YtbjnmiaplegkcaaDoor
open Go.RowKit

namespace sl
theorem put_len (n : Nat) (body : List UInt8) : (put n body).1.length = 128 := by
  unfold put
  split
  · exact List.length_replicate
  split
  · exact List.length_replicate
  · exact seal_length n (by omega)
theorem worth_seal {n : Nat} (h0 : 0 < n) (hn : n < 18446744073709551616) {body : List UInt8} (h : body.length ≤ 108) : worth (sealB n body) = n := by
  rw [worth, get_seal h0 hn h]
theorem get_zero : get dk.zero = (0, [], 5) := by
  unfold get
  rw [if_pos (.inl (by decide +kernel))]
theorem worth_zero : worth dk.zero = 0 := by rw [worth, get_zero]
def five : Blk := sealB 5 []
def six : Blk := sealB 6 []
theorem five_len : five.length = 128 := seal_length 5 (Nat.zero_le _)
theorem six_len : six.length = 128 := seal_length 6 (Nat.zero_le _)
theorem put5 : put 5 [] = (five, 0) := by rw [put, if_neg (by omega), if_neg (by simp)]; rfl
theorem put6 : put 6 [] = (six, 0) := by rw [put, if_neg (by omega), if_neg (by simp)]; rfl
theorem put0 : put 0 [] = (dk.zero, 2) := if_pos rfl
theorem put109 : put 1 (List.replicate 109 0) = (dk.zero, 3) := by rw [put, if_neg (by omega), if_pos (by simp)]
theorem newest56 : newest five six = (1, 0) := by
  rw [newest, five, six, worth_seal (by omega) (by omega) (Nat.zero_le _), worth_seal (by omega) (by omega) (Nat.zero_le _)]
  rfl
theorem next65 : next six five = 1 := by
  rw [next, five, six, worth_seal (by omega) (by omega) (Nat.zero_le _), worth_seal (by omega) (by omega) (Nat.zero_le _)]
  rfl
theorem next00 : next dk.zero dk.zero = 0 := by
  rw [next, worth_zero]
  rfl
theorem five_first {k : Nat} (hk : k < 8) : five[k]'(by rw [five_len]; omega) = if k = 0 then 5 else 0 := by
  have h := seal_first (n := 5) (body := []) (Nat.zero_le _) hk
  rw [List.getD_eq_getElem?_getD, show (sealB 5 [])[k]? = some (five[k]'(by rw [five_len]; omega)) from List.getElem?_eq_getElem (l := five) (by rw [five_len]; omega)] at h
  have h' : five[k]'(by rw [five_len]; omega) = UInt8.ofNat (5 / 2 ^ (8 * k)) := h
  rw [h']
  have hcs : k = 0 ∨ k = 1 ∨ k = 2 ∨ k = 3 ∨ k = 4 ∨ k = 5 ∨ k = 6 ∨ k = 7 := by omega
  rcases hcs with rfl | rfl | rfl | rfl | rfl | rfl | rfl | rfl <;> rfl
theorem five_last {k : Nat} (hk : k < 8) : five[120 + k]'(by rw [five_len]; omega) = if k = 0 then 250 else 255 := by
  have h := seal_last (n := 5) (by omega) (body := []) (Nat.zero_le _) hk
  rw [List.getD_eq_getElem?_getD, List.getD_eq_getElem?_getD, show (sealB 5 [])[120 + k]? = some (five[120 + k]'(by rw [five_len]; omega)) from List.getElem?_eq_getElem (l := five) (by rw [five_len]; omega), show (sealB 5 [])[k]? = some (five[k]'(by rw [five_len]; omega)) from List.getElem?_eq_getElem (l := five) (by rw [five_len]; omega)] at h
  have h' : five[120 + k]'(by rw [five_len]; omega) = ~~~ (five[k]'(by rw [five_len]; omega)) := h
  rw [h', five_first hk]
  split <;> rfl
end sl
set_option maxHeartbeats 4000000 in
set_option maxRecDepth 100000 in
theorem lives05_any (w : World) (ht : Tab w) : Calls Tryd.prog 19 #[] w fun e w' => e = .returned (.bool true) ∧ Below w.heap.size w w' := by
  obtain ⟨hz, -⟩ := zero_of_info zero_blk
  obtain ⟨i0, hi, hz0, hz1, hz2⟩ := info_parts info_u8
  have hmk : ∀ W, (Instr.makeSlice 23 (.int .i64 109) (.int .i64 109)).run Tryd.prog W = .ok (.slice (some ⟨W.heap.size, 0, none⟩) 109 109) (W.alloc (.cells (zeroB 109) 5)) := fun W => run_make_bytes (P := Tryd.prog) 23 5 i0 Tryd.underlying23 hi hz0 hz1 hz2 .i64 .i64 109 (by omega) W
  have p0 := fun W hW => cs_put 0 (by omega) none 0 0 [] W (BS.nil_ W) hW
  have p5 := fun W hW => cs_put 5 (by omega) none 0 0 [] W (BS.nil_ W) hW
  have p6 := fun W hW => cs_put 6 (by omega) none 0 0 [] W (BS.nil_ W) hW
  have g0 := fun W hW => cs_get dk.zero zero_len W hW
  simp only [sl.put0] at p0
  simp only [sl.put5] at p5
  simp only [sl.put6] at p6
  simp only [sl.get_zero] at g0
  have P0 := Lib.hid p0
  have P5 := Lib.hid p5
  have P6 := Lib.hid p6
  have G0 := Lib.hid g0
  clear p0 p5 p6 g0
  go_enter Tryd.func19, Tryd.ntmps19
  go_wp2_with fail
  refine (P0.out _ ht).mono ?_
  rintro e w1 ⟨rfl, hb1⟩
  have hr1 := heap_alloc_new w1 (.cells (dk.cells dk.zero).toArray 25)
  go_wp2_with (refine wp_st0 (.tmp 1) (.tmp 19) dk.zero hr1 zero_len zero_len rfl rfl rfl rfl ?_; intro w2 hW2 hc2; have hb2 := hb1.trans ((new_chg hc2).mono hb1.size))
  have hT2 := ht.below hb2
  have hB2 : BS (w2.alloc (.cells (zeroB 109) 5)) (some ⟨w2.heap.size, 0, none⟩) 109 109 (List.replicate 109 0) := by
    have h := ((zeroB_row w2 5 109).own_all (base := 0) (Nat.zero_le _) (by simp)).bs
    simpa using h
  have p109 := cs_put 1 (by omega) _ 109 109 _ _ hB2 (hT2.alloc _)
  rw [sl.put109] at p109
  have hbz := hb2.alloc hb2.size (.cells (zeroB 109) 5)
  have P109 := Lib.hid p109
  clear p109 hB2
  generalize zeroB 109 = zb at *
  go_wp2_with fail
  refine P109.out.mono ?_
  rintro e w3 ⟨rfl, hb3⟩
  have hbb3 := hbz.trans (hb3.mono hbz.size)
  have hr3 := heap_alloc_new w3 (.cells (dk.cells dk.zero).toArray 25)
  clear hr1 hW2 hc2 hb1
  go_wp2_with (refine wp_st0 (.tmp 3) (.tmp 24) dk.zero hr3 zero_len zero_len rfl rfl rfl rfl ?_; intro w4 hW4 hc4; have hb4 := hbb3.trans ((new_chg hc4).mono hbb3.size))
  refine (G0.out _ (ht.below hb4)).mono ?_
  rintro e w5 ⟨v5, rfl, _, hb5⟩
  have hbb5 := hb4.trans (hb5.mono hb4.size)
  go_wp2_with fail
  refine (P5.out _ (ht.below hbb5)).mono ?_
  rintro e w6 ⟨rfl, hb6⟩
  have hbb6 := hbb5.trans (hb6.mono hbb5.size)
  have hr6 := heap_alloc_new w6 (.cells (dk.cells dk.zero).toArray 25)
  clear hr3 hW4 hc4 hb4 hb5
  go_wp2_with (refine wp_st0 (.tmp 8) (.tmp 34) sl.five hr6 zero_len sl.five_len rfl rfl rfl rfl ?_; intro w7 hW7 hc7; have hb7 := hbb6.trans ((new_chg hc7).mono hbb6.size))
  refine (P6.out _ (ht.below hb7)).mono ?_
  rintro e w8 ⟨rfl, hb8⟩
  have hbb8 := hb7.trans (hb8.mono hb7.size)
  have hF8 := (hb8.block _ (Array.getElem?_eq_some_iff.1 hW7).1).trans hW7
  have hlt8 : w6.heap.size < w8.heap.size := (Array.getElem?_eq_some_iff.1 hF8).1
  have hr8 := heap_alloc_new w8 (.cells (dk.cells dk.zero).toArray 25)
  obtain ⟨B5, hB5⟩ : ∃ B, w6.heap.size = B := ⟨_, rfl⟩
  rw [hB5] at hF8 hlt8
  clear hr6 hW7 hc7 hb8
  go_wp2_with (first
    | (refine wp_st0 (.tmp 10) (.tmp 38) sl.six hr8 zero_len sl.six_len rfl rfl rfl rfl ?_; intro w9 hW9 hc9; have hb9 := hbb8.trans ((new_chg hc9).mono hbb8.size); have hF9 := ((new_chg hc9).block B5 hlt8).trans hF8; have g1 := blk_range hF9; have g2 := blk_range hW9)
    | refine wp_ld (.tmp 8) sl.five g1 sl.five_len rfl rfl rfl ?_
    | refine wp_ld (.tmp 10) sl.six g2 sl.six_len rfl rfl rfl ?_)
  have hS9 := (Array.getElem?_eq_some_iff.1 hW9).1
  have hlt9 : B5 < w9.heap.size := (Array.getElem?_eq_some_iff.1 hF9).1
  have hnw := cs_newest sl.five sl.six sl.five_len sl.six_len _ (ht.below hb9)
  rw [sl.newest56] at hnw
  refine hnw.mono ?_
  rintro e w10 ⟨rfl, hb10⟩
  have hbb10 := hb9.trans (hb10.mono hb9.size)
  have hF10 := (hb10.block B5 hlt9).trans hF9
  have hS10 := (hb10.block _ hS9).trans hW9
  have hT10 := ht.below hbb10
  obtain ⟨B6, hB6⟩ : ∃ B, w8.heap.size = B := ⟨_, rfl⟩
  rw [hB6] at hS10
  have HB6 := Lib.hid hB6
  have HB5 := Lib.hid hB5
  clear hr8 hF8 hlt8 hW9 hc9 hb9 hF9 g1 g2 hS9 hlt9 hnw hb10
  go_wp2_with fail
  clear P0 P5 P6 G0 P109
  have hx65 := fun W hW => cs_next sl.six sl.five sl.six_len sl.five_len W hW
  have hx00 := fun W hW => cs_next dk.zero dk.zero zero_len zero_len W hW
  simp only [sl.next65] at hx65
  simp only [sl.next00] at hx00
  have X65 := Lib.hid hx65
  have X00 := Lib.hid hx00
  clear hx65 hx00 hB5 hB6
  go_loopw [14] (fun t wr => ∃ j : Nat, t = .int .i64 j ∧ j ≤ 8 ∧ wr = w10) (fun t _ => 8 - (intOf t).toNat)
  case atStart => exact ⟨0, rfl, by omega, rfl⟩
  case round =>
    obtain ⟨j, rfl, hj, rfl⟩ := hrel
    by_cases hlt : j < 8
    · have c1 := RowB.cell (e := 25) hF10 (i := j) (by rw [sl.five_len]; omega)
      have c2 := RowB.cell (e := 25) hF10 (i := 120 + j) (by rw [sl.five_len]; omega)
      rw [sl.five_first hlt] at c1
      rw [sl.five_last hlt] at c2
      by_cases h0 : j = 0
      · rw [if_pos h0] at c1 c2
        have hj0 : ((j : Int) == 0) = true := by simp [h0]
        have c1' : wr.cell? ⟨B5, j, none⟩ = some (.int .u8 5) := c1
        have c2' : wr.cell? ⟨B5, 120 + j, none⟩ = some (.int .u8 250) := c2
        clear c1 c2 h0
        go_wp2_with fail
        go_roundw
        case rel => exact ⟨j + 1, by go_num, by omega, trivial⟩
        case measure => simp [intOf]; omega
      · rw [if_neg h0] at c1 c2
        have hj0 : ((j : Int) == 0) = false := by simp [h0]
        have c1' : wr.cell? ⟨B5, j, none⟩ = some (.int .u8 0) := c1
        have c2' : wr.cell? ⟨B5, 120 + j, none⟩ = some (.int .u8 255) := c2
        clear c1 c2 h0
        go_wp2_with fail
        go_roundw
        case rel => exact ⟨j + 1, by go_num, by omega, trivial⟩
        case measure => simp [intOf]; omega
    · have g1 := blk_range hF10
      have g2 := blk_range hS10
      go_wp2_with (first
        | refine wp_ldw (.tmp 10) sl.six g2 sl.six_len rfl rfl (by rfl) ?_
        | refine wp_ldw (.tmp 8) sl.five g1 sl.five_len rfl rfl (by rfl) ?_)
      refine (X65.out _ hT10).mono ?_
      rintro e w11 ⟨rfl, hb11⟩
      go_wp2_with fail
      refine (X00.out _ (hT10.below hb11)).mono ?_
      rintro e w12 ⟨rfl, hb12⟩
      go_wp2_with fail
      go_ret
      have hbb11 := hbb10.trans (hb11.mono hbb10.size)
      exact ⟨rfl, hbb11.trans (hb12.mono hbb11.size)⟩
end Go.Proofs.YtbjnmiaplegkcaaDoor
