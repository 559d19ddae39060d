/-
  cardexlaw04's walks: DiskNil.
-/
import Derived.Test.YtajdeoackpfhoaaLaw04e
import Derived.Test.YtajdeoackpfhoaaLives04
import Derived.Test.YtajdeoackpfhoaaDiskN
namespace Go.Proofs.Ytajdeoackpfhoaa
open Go.RowKit

set_option maxHeartbeats 4000000 in
set_option maxRecDepth 100000 in
theorem walk_DiskNil (a : AC) (z : Bool) (w : World) (h : a.Ok w) :
    Calls Try.prog 7 #[.agg a.cells.toArray, .bool z] w fun e w' => e = .returned (.bool true) ∧ Below w.heap.size w w' := by
  obtain ⟨hz0, -⟩ := zero_of_info zero_blk
  have hbl := h.b
  have hlen := a.length hbl
  have hb1 : Below w.heap.size w (w.alloc (.cells a.cells.toArray 36)) := (Below.refl _ _).alloc (Nat.le_refl _) _
  have hr1 := heap_alloc_new w (.cells a.cells.toArray 36)
  have e1 : a.cells[1] = .int .i64 a.n := rfl
  obtain ⟨B, hB⟩ : ∃ B, B = w.heap.size := ⟨_, rfl⟩
  have hBl : B < (w.alloc (.cells a.cells.toArray 36)).heap.size := by rw [hB]; simp
  rw [← hB] at hr1
  have HB := Lib.hid hB
  clear hB
  have hN1 : ND (w.alloc (.cells a.cells.toArray 36)) (.pointer none) := .inl rfl
  have hb2 := hb1.alloc hb1.size (.cells #[.slice none 0 0, .slice none 0 0, .int .i64 0, .bool false, .int .i64 0] 59)
  have hr2 := (Below.heap_alloc _ (.cells #[.slice none 0 0, .slice none 0 0, .int .i64 0, .bool false, .int .i64 0] 59) B hBl).trans hr1
  have hN2 : ND ((w.alloc (.cells a.cells.toArray 36)).alloc (.cells #[.slice none 0 0, .slice none 0 0, .int .i64 0, .bool false, .int .i64 0] 59)) (.pointer (some ⟨w.heap.size + 1, 0, none⟩)) :=
    .inr ⟨_, rfl, by rw [← World.size_alloc w (.cells a.cells.toArray 36)]; exact heap_alloc_new _ _⟩
  cases z
  all_goals
    go_enter Try.func7, Try.ntmps7
    go_wp2_with fail
    simp only [← HB.out]
  · clear hN2 hr2 hb2
    generalize w.alloc (.cells a.cells.toArray 36) = w2 at *
    have hN := hN1
    have hbb := hb1
    have hq := hr1
    clear hN1 hb1 hr1
    refine (nd_read a.n hN).mono ?_
    rintro e w3 ⟨rfl, hb3⟩
    have hqq := hq
    have hN3 := hN.below hb3
    have hbb3 := hbb.trans (hb3.mono hbb.size)
    have hq3 := (hb3.block B hBl).trans hq
    have hBl3 := Nat.lt_of_lt_of_le hBl hb3.size
    have hr3 := heap_alloc_new w3 (.cells (dk.cells dk.zero).toArray 33)
    clear hq hN hbb
    go_wp2_with (refine wp_st0 (.tmp 6) (.tmp 18) dk.zero hr3 zero_len zero_len rfl rfl rfl rfl ?_; intro w4 hW4 hc4; have hb4 := new_chg hc4; have hN4 := hN3.below hb4; have hbb4 := hbb3.trans (hb4.mono hbb3.size); have hq4 := (hb4.block B hBl3).trans hq3; have k1 := AC.cell1 hq4; have hBl4 := Nat.lt_of_lt_of_le hBl3 hb4.size; clear hW4 hc4 hq3 hr3 hq4)
    refine (nd_sure a.n hN4).mono ?_
    rintro e w5 ⟨rfl, hb5⟩
    have hq4 := (hb4.block B hBl3).trans ((hb3.block B hBl).trans hqq)
    have hN5 := hN4.below hb5
    have hbb5 := hbb4.trans (hb5.mono hbb4.size)
    have hq5 := (hb5.block B hBl4).trans hq4
    have hBl5 := Nat.lt_of_lt_of_le hBl4 hb5.size
    have hr5 := heap_alloc_new w5 (.cells (dk.cells dk.zero).toArray 33)
    clear hq4 hN4 hbb4 k1 hN3 hbb3
    go_wp2_with ((refine wp_st0 (.tmp 8) (.tmp 25) dk.zero hr5 zero_len zero_len rfl rfl rfl rfl ?_; intro w6 hW6 hc6; have hb6 := new_chg hc6; have hN6 := hN5.below hb6; have hbb6 := hbb5.trans (hb6.mono hbb5.size); have hq6 := (hb6.block B hBl5).trans hq5; have k1 := AC.cell1 hq6; have k4 := AC.row4 hq6; have hBl6 := Nat.lt_of_lt_of_le hBl5 hb6.size; clear hW6 hc6 hq5 hr5 hq6))
    refine wp_ldw (.tmp 37) a.b k4 hbl rfl rfl (by rfl) ?_
    go_wp2_with fail
    refine (nd_write a.n a.b hN6).mono ?_
    rintro e w7 ⟨rfl, hb7⟩
    have hq7 := (hb7.block B hBl6).trans ((hb6.block B hBl5).trans ((hb5.block B hBl4).trans ((hb4.block B hBl3).trans ((hb3.block B hBl).trans hqq))))
    have hN7 := hN6.below hb7
    have hbb7 := hbb6.trans (hb7.mono hbb6.size)
    have q1 := AC.cell1 hq7
    have q2 := AC.cell2 hq7
    have q3 := AC.cell3 hq7
    have qp := AC.cellp hbl hq7
    clear hq7 hb7 hb6 hb5 hb4 hb3 hqq hBl6 hBl5 hBl4 hBl3 hBl hN6 hN5 hbb6 hbb5 k1 k4
    go_wp2_with fail
    refine (nd_flush hN7).mono ?_
    rintro e w8 ⟨rfl, rfl⟩
    go_wp2_with fail
    refine (nd_arm a.n hN7).mono ?_
    rintro e w8 ⟨rfl, rfl⟩
    go_wp2_with fail
    refine (nd_crash a.pA a.pn a.pc hN7).mono ?_
    rintro e w8 ⟨rfl, rfl⟩
    go_wp2_with fail
    refine (nd_rot a.n a.at_ a.x hN7).mono ?_
    rintro e w8 ⟨rfl, rfl⟩
    go_wp2_with fail
    refine (nd_dark hN7).mono ?_
    rintro e w8 ⟨rfl, rfl⟩
    go_wp2_with fail
    refine (nd_blocks hN7).mono ?_
    rintro e w8 ⟨rfl, rfl⟩
    go_wp2_with fail
    refine (nd_steps hN7).mono ?_
    rintro e w8 ⟨rfl, rfl⟩
    go_wp2_with fail
    refine (nd_loose hN7).mono ?_
    rintro e w8 ⟨rfl, rfl⟩
    go_wp2_with fail
    refine (nd_copy hN7).mono ?_
    rintro e w8 ⟨rfl, rfl⟩
    go_wp2_with fail
    refine (lives04_any _).mono ?_
    rintro e w11 ⟨rfl, hb11⟩
    go_wp2_with fail
    go_ret
    exact ⟨rfl, hbb7.trans (hb11.mono hbb7.size)⟩
  · have hBl := Nat.lt_of_lt_of_le hBl (show _ ≤ ((w.alloc (.cells a.cells.toArray 36)).alloc (.cells #[.slice none 0 0, .slice none 0 0, .int .i64 0, .bool false, .int .i64 0] 59)).heap.size by simp)
    rw [← HB.out] at hN2
    generalize (w.alloc (.cells a.cells.toArray 36)).alloc (.cells #[.slice none 0 0, .slice none 0 0, .int .i64 0, .bool false, .int .i64 0] 59) = w2 at *
    have hN := hN2
    have hbb := hb2
    have hq := hr2
    clear hN1 hb1 hr1 hN2 hb2 hr2
    refine (nd_read a.n hN).mono ?_
    rintro e w3 ⟨rfl, hb3⟩
    have hqq := hq
    have hN3 := hN.below hb3
    have hbb3 := hbb.trans (hb3.mono hbb.size)
    have hq3 := (hb3.block B hBl).trans hq
    have hBl3 := Nat.lt_of_lt_of_le hBl hb3.size
    have hr3 := heap_alloc_new w3 (.cells (dk.cells dk.zero).toArray 33)
    clear hq hN hbb
    go_wp2_with (refine wp_st0 (.tmp 6) (.tmp 18) dk.zero hr3 zero_len zero_len rfl rfl rfl rfl ?_; intro w4 hW4 hc4; have hb4 := new_chg hc4; have hN4 := hN3.below hb4; have hbb4 := hbb3.trans (hb4.mono hbb3.size); have hq4 := (hb4.block B hBl3).trans hq3; have k1 := AC.cell1 hq4; have hBl4 := Nat.lt_of_lt_of_le hBl3 hb4.size; clear hW4 hc4 hq3 hr3 hq4)
    refine (nd_sure a.n hN4).mono ?_
    rintro e w5 ⟨rfl, hb5⟩
    have hq4 := (hb4.block B hBl3).trans ((hb3.block B hBl).trans hqq)
    have hN5 := hN4.below hb5
    have hbb5 := hbb4.trans (hb5.mono hbb4.size)
    have hq5 := (hb5.block B hBl4).trans hq4
    have hBl5 := Nat.lt_of_lt_of_le hBl4 hb5.size
    have hr5 := heap_alloc_new w5 (.cells (dk.cells dk.zero).toArray 33)
    clear hq4 hN4 hbb4 k1 hN3 hbb3
    go_wp2_with ((refine wp_st0 (.tmp 8) (.tmp 25) dk.zero hr5 zero_len zero_len rfl rfl rfl rfl ?_; intro w6 hW6 hc6; have hb6 := new_chg hc6; have hN6 := hN5.below hb6; have hbb6 := hbb5.trans (hb6.mono hbb5.size); have hq6 := (hb6.block B hBl5).trans hq5; have k1 := AC.cell1 hq6; have k4 := AC.row4 hq6; have hBl6 := Nat.lt_of_lt_of_le hBl5 hb6.size; clear hW6 hc6 hq5 hr5 hq6))
    refine wp_ldw (.tmp 37) a.b k4 hbl rfl rfl (by rfl) ?_
    go_wp2_with fail
    refine (nd_write a.n a.b hN6).mono ?_
    rintro e w7 ⟨rfl, hb7⟩
    have hq7 := (hb7.block B hBl6).trans ((hb6.block B hBl5).trans ((hb5.block B hBl4).trans ((hb4.block B hBl3).trans ((hb3.block B hBl).trans hqq))))
    have hN7 := hN6.below hb7
    have hbb7 := hbb6.trans (hb7.mono hbb6.size)
    have q1 := AC.cell1 hq7
    have q2 := AC.cell2 hq7
    have q3 := AC.cell3 hq7
    have qp := AC.cellp hbl hq7
    clear hq7 hb7 hb6 hb5 hb4 hb3 hqq hBl6 hBl5 hBl4 hBl3 hBl hN6 hN5 hbb6 hbb5 k1 k4
    go_wp2_with fail
    refine (nd_flush hN7).mono ?_
    rintro e w8 ⟨rfl, rfl⟩
    go_wp2_with fail
    refine (nd_arm a.n hN7).mono ?_
    rintro e w8 ⟨rfl, rfl⟩
    go_wp2_with fail
    refine (nd_crash a.pA a.pn a.pc hN7).mono ?_
    rintro e w8 ⟨rfl, rfl⟩
    go_wp2_with fail
    refine (nd_rot a.n a.at_ a.x hN7).mono ?_
    rintro e w8 ⟨rfl, rfl⟩
    go_wp2_with fail
    refine (nd_dark hN7).mono ?_
    rintro e w8 ⟨rfl, rfl⟩
    go_wp2_with fail
    refine (nd_blocks hN7).mono ?_
    rintro e w8 ⟨rfl, rfl⟩
    go_wp2_with fail
    refine (nd_steps hN7).mono ?_
    rintro e w8 ⟨rfl, rfl⟩
    go_wp2_with fail
    refine (nd_loose hN7).mono ?_
    rintro e w8 ⟨rfl, rfl⟩
    go_wp2_with fail
    refine (nd_copy hN7).mono ?_
    rintro e w8 ⟨rfl, rfl⟩
    go_wp2_with fail
    refine (lives04_any _).mono ?_
    rintro e w11 ⟨rfl, hb11⟩
    go_wp2_with fail
    go_ret
    exact ⟨rfl, hbb7.trans (hb11.mono hbb7.size)⟩
end Go.Proofs.Ytajdeoackpfhoaa
