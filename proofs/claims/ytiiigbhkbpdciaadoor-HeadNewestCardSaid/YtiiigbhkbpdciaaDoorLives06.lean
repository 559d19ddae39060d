/-
  cardexlaw06.lives, over the contracts of the program's head.
-/
import Derived.Test.YtiiigbhkbpdciaaDoorHeadI
namespace Go.Proofs.YtiiigbhkbpdciaaDoor
open Go.RowKit

namespace hd
/-- a head of numbers 1, and the zero one -/
theorem put_zero : put 1 zero = (sl.sealB 1 (bodyOf zero), 0) := put_yes (by decide) (by decide)
theorem get_zero : get (sl.sealB 1 (bodyOf zero)) = (1, zero, 0) := by
  have h := get_put (n := 1) zero_ok (by decide) (by decide)
  rwa [put_zero] at h
theorem put_none : put 0 zero = (dk.zero, 2) := put_no (by decide)
theorem put_many : put 1 ⟨0, 1, 2⟩ = (dk.zero, 2) := put_no (by decide)
theorem get_dark : (get dk.zero).2.2 = 5 := by
  have h : sl.get dk.zero = (0, [], 5) := by
    unfold sl.get
    rw [if_pos (.inl (by decide +kernel))]
  unfold get
  simp only [h]
  rfl
theorem newest_zero : newest (sl.sealB 1 (bodyOf zero)) dk.zero = (1, zero, 0) := newest_left get_zero (by rw [get_dark]; decide)
end hd
set_option maxHeartbeats 4000000 in
set_option maxRecDepth 100000 in
theorem lives06_any (w : World) (ht : Tabs w) : Calls Tryd.prog 11 #[] w fun e w' => e = .returned (.bool true) ∧ Below w.heap.size w w' := by
  obtain ⟨hz, -⟩ := zero_of_info zero_blk
  obtain ⟨hzh, -⟩ := zero_of_info info_head
  have H1 := Lib.hid (fun W hT => ch_put 1 (by omega) hd.zero hd.zero_ok W hT)
  have H2 := Lib.hid (fun W hT => ch_put 0 (by omega) hd.zero hd.zero_ok W hT)
  have H3 := Lib.hid (fun W hT => ch_put 1 (by omega) ⟨0, 1, 2⟩ ⟨by decide, by decide⟩ W hT)
  rw [hd.put_zero] at H1
  rw [hd.put_none] at H2
  rw [hd.put_many] at H3
  have hsl := sl.seal_length 1 (body := hd.bodyOf hd.zero) (by rw [hd.bodyOf_length]; omega)
  have H4 := Lib.hid (fun W hT => ch_get (sl.sealB 1 (hd.bodyOf hd.zero)) hsl W hT)
  have H5 := Lib.hid (fun W hT => ch_newest (sl.sealB 1 (hd.bodyOf hd.zero)) dk.zero hsl zero_len W hT)
  rw [hd.get_zero] at H4
  rw [hd.newest_zero] at H5
  generalize sl.sealB 1 (hd.bodyOf hd.zero) = S at *
  go_enter Tryd.func11, Tryd.ntmps11
  go_wp2_with fail
  refine (H1.out _ ht).mono ?_
  rintro e w1 ⟨rfl, b1⟩
  have n1 := heap_alloc_new w1 (.cells (dk.cells dk.zero).toArray 27)
  obtain ⟨X1, hX1⟩ : ∃ X, w1.heap.size = X := ⟨_, rfl⟩
  rw [hX1] at n1
  go_wp2_with (refine wp_st0 (.tmp 1) (.tmp 16) S n1 zero_len hsl rfl rfl rfl rfl ?_; intro w2 W2 c2; rw [← hX1] at c2; have b2 := b1.trans ((new_chg c2).mono b1.size))
  refine (H2.out _ (ht.below b2)).mono ?_
  rintro e w3 ⟨rfl, b3⟩
  have b23 := b2.trans (b3.mono b2.size)
  have W3 := (b3.block X1 (Array.getElem?_eq_some_iff.1 W2).1).trans W2
  have n3 := heap_alloc_new w3 (.cells (dk.cells dk.zero).toArray 27)
  obtain ⟨X2, hX2⟩ : ∃ X, w3.heap.size = X := ⟨_, rfl⟩
  rw [hX2] at n3
  clear n1 c2 W2 b1 b2 b3 H1 H2
  go_wp2_with (refine wp_st0 (.tmp 3) (.tmp 21) dk.zero n3 zero_len zero_len rfl rfl rfl rfl ?_; intro w4 W4 c4; rw [← hX2] at c4; have b34 := new_chg c4; have b4 := b23.trans (b34.mono b23.size); have V4 := (b34.block X1 (Array.getElem?_eq_some_iff.1 W3).1).trans W3)
  refine (H3.out _ (ht.below b4)).mono ?_
  rintro e w5 ⟨rfl, b5⟩
  have b45 := b4.trans (b5.mono b4.size)
  have V5 := (b5.block X1 (Array.getElem?_eq_some_iff.1 V4).1).trans V4
  have n5 := heap_alloc_new w5 (.cells (dk.cells dk.zero).toArray 27)
  obtain ⟨X3, hX3⟩ : ∃ X, w5.heap.size = X := ⟨_, rfl⟩
  rw [hX3] at n5
  clear n3 c4 W4 W3 b23 b34 b4 b5 V4 H3
  go_wp2_with (first
    | (refine wp_st0 (.tmp 5) (.tmp 26) dk.zero n5 zero_len zero_len rfl rfl rfl rfl ?_; intro w6 W6 c6; rw [← hX3] at c6; have b56 := new_chg c6; have b6 := b45.trans (b56.mono b45.size); have V6 := (b56.block X1 (Array.getElem?_eq_some_iff.1 V5).1).trans V5; have g6 := blk_range V6)
    | refine wp_ld (.tmp 1) S g6 hsl rfl rfl rfl ?_)
  refine (H4.out _ (ht.below b6)).mono ?_
  rintro e w7 ⟨rfl, b7⟩
  have b67 := b6.trans (b7.mono b6.size)
  have V7 := (b7.block X1 (Array.getElem?_eq_some_iff.1 V6).1).trans V6
  have n7 := HM.new w7 25 hd.zero
  obtain ⟨X4, hX4⟩ : ∃ X, w7.heap.size = X := ⟨_, rfl⟩
  rw [hX4] at n7
  clear n5 c6 W6 b45 b56 b6 b7 V6 V5 g6 H4
  go_wp2_with (first
    | (refine wp_sth (.tmp 8) (.tmp 32) hd.zero hd.zero n7 rfl rfl rfl rfl ?_; intro w8 m8 c8; rw [← hX4] at c8; have b78 := new_chg c8; have b8 := b67.trans (b78.mono b67.size); have V8 := (b78.block X1 (Array.getElem?_eq_some_iff.1 V7).1).trans V7; have g8 := blk_range V8)
    | refine wp_ld (.tmp 1) S g8 hsl rfl rfl rfl ?_)
  refine (H5.out _ (ht.below b8)).mono ?_
  rintro e w9 ⟨rfl, b9⟩
  have b89 := b8.trans (b9.mono b8.size)
  have m9 := m8.below b9 m8.lt
  have n9 := HM.new w9 25 hd.zero
  obtain ⟨X5, hX5⟩ : ∃ X, w9.heap.size = X := ⟨_, rfl⟩
  rw [hX5] at n9
  have hE := eq_head hd.zero hd.zero hd.zero_ok hd.zero_ok
  rw [decide_eq_true rfl] at hE
  clear n7 c8 m8 b67 b78 b8 b9 V7 V8 g8 H5
  go_wp2_with (first
    | (refine wp_sth (.tmp 11) (.tmp 39) hd.zero hd.zero n9 rfl rfl rfl rfl ?_; intro w10 m10 c10; rw [← hX5] at c10; have b910 := new_chg c10; have b10 := b89.trans (b910.mono b89.size); have m19 := m9.below b910 m9.lt; have q0 := m19.c0; have q1 := m19.c1; have q2 := m19.c2))
  go_ret
  exact ⟨rfl, b10⟩
end Go.Proofs.YtiiigbhkbpdciaaDoor
