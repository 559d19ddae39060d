/-
  cardexlaw06's walks: HeadNewest.
-/
import Derived.Test.YtiiigbhkbpdciaaDoorLives06
namespace Go.Proofs.YtiiigbhkbpdciaaDoor
open Go.RowKit

set_option maxHeartbeats 4000000 in
set_option maxRecDepth 100000 in
theorem walk_HeadNewest (n m : Nat) (a b : hd.H) (z : dk.Blk) (w : World) (hn : n < 18446744073709551616) (hm : m < 18446744073709551616) (oka : a.Ok) (okb : b.Ok) (hz128 : z.length = 128) (ht : Tabs w) :
    Calls Tryd.prog 6 #[.int .u64 n, .int .u64 m, hd.val a, hd.val b, dk.val z] w fun e w' => e = .returned (.bool true) ∧ Below w.heap.size w w' := by
  obtain ⟨hz, -⟩ := zero_of_info zero_blk
  obtain ⟨hzh, -⟩ := zero_of_info info_head
  obtain ⟨x, hx⟩ : ∃ e, (hd.put n a).1 = e := ⟨_, rfl⟩
  obtain ⟨e1, he1⟩ : ∃ e, (hd.put n a).2 = e := ⟨_, rfl⟩
  obtain ⟨y, hy⟩ : ∃ e, (hd.put m b).1 = e := ⟨_, rfl⟩
  obtain ⟨e2, he2⟩ : ∃ e, (hd.put m b).2 = e := ⟨_, rfl⟩
  have hxl : x.length = 128 := by rw [← hx]; exact hd.put_len n a
  have hyl : y.length = 128 := by rw [← hy]; exact hd.put_len m b
  have HP1 := Lib.hid (fun W hT => ch_put n hn a oka W hT)
  have HP2 := Lib.hid (fun W hT => ch_put m hm b okb W hT)
  rw [hx, he1] at HP1
  rw [hy, he2] at HP2
  have HN1 := Lib.hid (fun W hT => ch_newest x y hxl hyl W hT)
  have HN2 := Lib.hid (fun W hT => ch_newest z y hz128 hyl W hT)
  have HN3 := Lib.hid (fun W hT => ch_newest x z hxl hz128 W hT)
  have HN4 := Lib.hid (fun W hT => ch_newest z z hz128 hz128 W hT)
  have HG := Lib.hid (fun W hT => ch_get z hz128 W hT)
  obtain ⟨N, hN⟩ : ∃ e, (hd.get z).1 = e := ⟨_, rfl⟩
  obtain ⟨u, hu⟩ : ∃ e, (hd.get z).2.1 = e := ⟨_, rfl⟩
  obtain ⟨e3, he3⟩ : ∃ e, (hd.get z).2.2 = e := ⟨_, rfl⟩
  rw [hN, hu, he3] at HG
  have hcs : ¬ e1 = 0 ∨ (e1 = 0 ∧ ¬ e2 = 0) ∨ (e1 = 0 ∧ e2 = 0 ∧ 1 ≤ m ∧ hd.newest x y = (if n < m then (m, b, 0) else (n, a, 0)) ∧ (¬ e3 = 0 → hd.newest z y = (m, b, 0) ∧ hd.newest x z = (n, a, 0) ∧ hd.newest z z = (0, hd.zero, 7))) := by
    by_cases h1 : e1 = 0
    · by_cases h2 : e2 = 0
      · obtain ⟨_, a1, a2⟩ := hd.put_eq (he1.trans h1)
        obtain ⟨_, b1, b2⟩ := hd.put_eq (he2.trans h2)
        have ga := hd.get_put oka a1 a2
        have gb := hd.get_put okb b1 b2
        rw [hx] at ga
        rw [hy] at gb
        have hm1 := (hd.num_ok b1).1
        refine .inr (.inr ⟨h1, h2, hm1, hd.newest_two ga gb, fun h3 => ?_⟩)
        have h3' : ¬ (hd.get z).2.2 = 0 := by rw [he3]; exact h3
        exact ⟨hd.newest_right h3' gb hm1, hd.newest_left ga h3', hd.newest_none h3' h3'⟩
      · exact .inr (.inl ⟨h1, h2⟩)
    · exact .inl h1
  have E1 := eq_head a a oka oka
  have E2 := eq_head b b okb okb
  rw [decide_eq_true rfl] at E1 E2
  have m1 := HM.new w 25 a
  have b1 : Below w.heap.size w (w.alloc (.cells #[bv a.bank, .int .u32 a.blocks, .int .u32 a.batches] 25)) := (Below.refl _ _).alloc (Nat.le_refl _) _
  obtain ⟨W1, hW1⟩ : ∃ W1, w.alloc (.cells #[bv a.bank, .int .u32 a.blocks, .int .u32 a.batches] 25) = W1 := ⟨_, rfl⟩
  have hs1 : W1.heap.size = w.heap.size + 1 := by rw [← hW1]; simp
  rw [hW1] at m1 b1
  have m2 := m1.alloc (.cells #[bv b.bank, .int .u32 b.blocks, .int .u32 b.batches] 25)
  have k2 := HM.new W1 25 b
  have b2 := b1.alloc b1.size (.cells #[bv b.bank, .int .u32 b.blocks, .int .u32 b.batches] 25)
  obtain ⟨W2, hW2⟩ : ∃ W2, W1.alloc (.cells #[bv b.bank, .int .u32 b.blocks, .int .u32 b.batches] 25) = W2 := ⟨_, rfl⟩
  have hs2 : W2.heap.size = w.heap.size + 2 := by rw [← hW2]; simp; omega
  rw [hW2] at m2 k2 b2
  have m3 := m2.alloc (.cells (dk.cells z).toArray 27)
  have k3 := k2.alloc (.cells (dk.cells z).toArray 27)
  have r3 := heap_alloc_new W2 (.cells (dk.cells z).toArray 27)
  have b3 := b2.alloc b2.size (.cells (dk.cells z).toArray 27)
  obtain ⟨W3, hW3⟩ : ∃ W3, W2.alloc (.cells (dk.cells z).toArray 27) = W3 := ⟨_, rfl⟩
  have hs3 : W3.heap.size = w.heap.size + 3 := by rw [← hW3]; simp; omega
  rw [hW3] at m3 k3 r3 b3
  obtain ⟨PA, hPA⟩ : ∃ P, w.heap.size = P := ⟨_, rfl⟩
  obtain ⟨PB, hPB⟩ : ∃ P, W1.heap.size = P := ⟨_, rfl⟩
  obtain ⟨PZ, hPZ⟩ : ∃ P, W2.heap.size = P := ⟨_, rfl⟩
  rw [hPA] at m3
  rw [hPB] at k3
  rw [hPZ] at r3
  have q0 := m3.c0
  have q1 := m3.c1
  have q2 := m3.c2
  have hl3 : PA < PB ∧ PB < PZ ∧ PZ < W3.heap.size := by omega
  obtain ⟨hAB, hBZ, hZ3⟩ := hl3
  clear hx he1 hy he2 hN hu he3 m1 b1 m2 k2 b2 hs1 hs2 hs3
  go_enter Tryd.func6, Tryd.ntmps6
  go_wp2_with fail
  refine (HP1.out _ (ht.below b3)).mono ?_
  rintro e w4 ⟨rfl, b4⟩
  have b34 := b3.trans (b4.mono b3.size)
  have m4 := m3.below b4 m3.lt
  have k4 := k3.below b4 k3.lt
  have r4 := (b4.block PZ hZ3).trans r3
  have hl4 := b4.size
  have n4 := heap_alloc_new w4 (.cells (dk.cells dk.zero).toArray 27)
  obtain ⟨X1, hX1⟩ : ∃ X, w4.heap.size = X := ⟨_, rfl⟩
  rw [hX1] at n4
  clear q0 q1 q2 m3 k3 r3 b3 b4 HP1 hW1 hW2 hW3
  go_wp2_with (refine wp_st0 (.tmp 11) (.tmp 31) x n4 zero_len hxl rfl rfl rfl rfl ?_; intro w5 W5 c5; rw [← hX1] at c5; have b45 := new_chg c5; have b5 := b34.trans (b45.mono b34.size); have m5 := m4.below b45 m4.lt; have k5 := k4.below b45 k4.lt; have r5 := (b45.block PZ (by omega)).trans r4; have q0 := k5.c0; have q1 := k5.c1; have q2 := k5.c2; have hl5 := b45.size)
  refine (HP2.out _ (ht.below b5)).mono ?_
  rintro e w6 ⟨rfl, b6⟩
  have b56 := b5.trans (b6.mono b5.size)
  have m6 := m5.below b6 m5.lt
  have k6 := k5.below b6 k5.lt
  have r6 := (b6.block PZ (by omega)).trans r5
  have hX1l := (Array.getElem?_eq_some_iff.1 W5).1
  have W6 := (b6.block X1 hX1l).trans W5
  have hl6 := b6.size
  have n6 := heap_alloc_new w6 (.cells (dk.cells dk.zero).toArray 27)
  obtain ⟨X2, hX2⟩ : ∃ X, w6.heap.size = X := ⟨_, rfl⟩
  rw [hX2] at n6
  clear q0 q1 q2 m4 k4 r4 b34 n4 c5 b45 b5 m5 k5 r5 b6 W5 HP2
  have hst : ∀ w7, w7.heap[X2]? = some (.cells (dk.cells y).toArray 27 (0, 0)) → Chg (w6.alloc (.cells (dk.cells dk.zero).toArray 27)) w7 [X2] → Below w.heap.size w w7 ∧ HM 25 w7 PA a ∧ HM 25 w7 PB b ∧ w7.heap[PZ]? = some (.cells (dk.cells z).toArray 27 (0, 0)) ∧ w7.heap[X1]? = some (.cells (dk.cells x).toArray 27 (0, 0)) ∧ w6.heap.size ≤ w7.heap.size := fun w7 h7 c7 => by
    rw [← hX2] at c7
    have bb := new_chg c7
    exact ⟨b56.trans (bb.mono b56.size), m6.below bb m6.lt, k6.below bb k6.lt, (bb.block PZ (by omega)).trans r6, (bb.block X1 (by omega)).trans W6, bb.size⟩
  have HST := Lib.hid hst
  clear hst b56 m6 k6 r6 W6
  rcases hcs with h1 | ⟨rfl, h2⟩ | ⟨rfl, rfl, hm1, hnew, hz3⟩
  · have h1' : (e1 != 0) = true := by simp [h1]
    go_wp2_with (refine wp_st0 (.tmp 13) (.tmp 37) y n6 zero_len hyl rfl rfl rfl rfl ?_; intro w7 W7 c7; obtain ⟨b7, _⟩ := HST.out w7 W7 c7)
    refine (lives06_any _ (ht.below b7)).mono ?_
    rintro e w8 ⟨rfl, b8⟩
    go_wp2_with fail
    go_ret
    exact ⟨rfl, b7.trans (b8.mono b7.size)⟩
  · have h2' : (e2 != 0) = true := by simp [h2]
    go_wp2_with (refine wp_st0 (.tmp 13) (.tmp 37) y n6 zero_len hyl rfl rfl rfl rfl ?_; intro w7 W7 c7; obtain ⟨b7, _⟩ := HST.out w7 W7 c7)
    refine (lives06_any _ (ht.below b7)).mono ?_
    rintro e w8 ⟨rfl, b8⟩
    go_wp2_with fail
    go_ret
    exact ⟨rfl, b7.trans (b8.mono b7.size)⟩
  · have HZ3 := Lib.hid hz3
    have HNEW := Lib.hid hnew
    clear hz3 hnew
    go_wp2_with (first
      | (refine wp_st0 (.tmp 13) (.tmp 37) y n6 zero_len hyl rfl rfl rfl rfl ?_; intro w7 W7 c7; obtain ⟨b7, m7, k7, r7, V7, hl7⟩ := HST.out w7 W7 c7; have g7 := blk_range V7; have f7 := blk_range W7)
      | refine wp_ld (.tmp 11) x g7 hxl rfl rfl rfl ?_
      | refine wp_ld (.tmp 13) y f7 hyl rfl rfl rfl ?_)
    clear g7 f7 c7 n6 HST
    have hX2l := (Array.getElem?_eq_some_iff.1 W7).1
    by_cases hlt : n < m
    case' pos => have hi : (n : Int) < (m : Int) := by omega
    case' neg => have hi : ¬ (n : Int) < (m : Int) := by omega
    case' pos =>
      have hnw := HNEW.out
      rw [if_pos hlt] at hnw
    case' neg =>
      have hnw := HNEW.out
      rw [if_neg hlt] at hnw
    case' pos => obtain ⟨i0, hi0⟩ : ∃ i, i = b := ⟨_, rfl⟩
    case' neg => obtain ⟨i0, hi0⟩ : ∃ i, i = a := ⟨_, rfl⟩
    all_goals
      rw [hnw] at HN1
      clear hnw HNEW hlt
      refine (HN1.out _ (ht.below b7)).mono ?_
      rintro e w8 ⟨rfl, b8⟩
      have b78 := b7.trans (b8.mono b7.size)
      have m8 := m7.below b8 m7.lt
      have k8 := k7.below b8 k7.lt
      have r8 := (b8.block PZ (by omega)).trans r7
      have V8 := (b8.block X1 (by omega)).trans V7
      have W8 := (b8.block X2 hX2l).trans W7
      have hl8 := b8.size
      have n8 := HM.new w8 25 hd.zero
      obtain ⟨X3, hX3⟩ : ∃ X, w8.heap.size = X := ⟨_, rfl⟩
      rw [hX3] at n8
      clear b7 m7 k7 r7 V7 W7 b8 HN1
      go_wp2_with (first
        | (refine wp_sth (.tmp 16) (.tmp 51) i0 hd.zero n8 rfl rfl rfl (by rw [hi0]; rfl) ?_; intro w9 j9 c9; rw [← hX3] at c9; have bb := new_chg c9; have b9 := b78.trans (bb.mono b78.size); have m9 := m8.below bb m8.lt; have k9 := k8.below bb k8.lt; have r9 := (bb.block PZ (by omega)).trans r8; have V9 := (bb.block X1 (by omega)).trans V8; have W9 := (bb.block X2 (by omega)).trans W8; have hl9 := bb.size; rw [hi0] at j9; have p0 := j9.c0; have p1 := j9.c1; have p2 := j9.c2; have s0 := m9.c0; have s1 := m9.c1; have s2 := m9.c2; have t0 := k9.c0; have t1 := k9.c1; have t2 := k9.c2; have f9 := blk_range r9)
        | refine wp_ld (.tmp 9) z f9 hz128 rfl rfl rfl ?_)
      clear n8 c9 b78 m8 k8 r8 V8 W8 f9 p0 p1 p2 s0 s1 s2 t0 t1 t2
      refine (HG.out _ (ht.below b9)).mono ?_
      rintro e w10 ⟨rfl, b10⟩
      have b910 := b9.trans (b10.mono b9.size)
      have j10 := j9.below b10 j9.lt
      have m10 := m9.below b10 m9.lt
      have k10 := k9.below b10 k9.lt
      have hj9 := j9.lt
      have r10 := (b10.block PZ (by omega)).trans r9
      have V10 := (b10.block X1 (by omega)).trans V9
      have W10 := (b10.block X2 (by omega)).trans W9
      have hl10 := b10.size
      have n10 := HM.new w10 25 hd.zero
      obtain ⟨X4, hX4⟩ : ∃ X, w10.heap.size = X := ⟨_, rfl⟩
      rw [hX4] at n10
      have hst : ∀ w11, HM 25 w11 X4 u → Chg (w10.alloc (.cells #[bv hd.zero.bank, .int .u32 hd.zero.blocks, .int .u32 hd.zero.batches] 25)) w11 [X4] → Below w.heap.size w w11 ∧ HM 25 w11 PA a ∧ HM 25 w11 PB b ∧ HM 25 w11 X3 _ ∧ w11.heap[PZ]? = some (.cells (dk.cells z).toArray 27 (0, 0)) ∧ w11.heap[X1]? = some (.cells (dk.cells x).toArray 27 (0, 0)) ∧ w11.heap[X2]? = some (.cells (dk.cells y).toArray 27 (0, 0)) ∧ w10.heap.size ≤ w11.heap.size := fun w11 _ c11 => by
        rw [← hX4] at c11
        have bb := new_chg c11
        exact ⟨b910.trans (bb.mono b910.size), m10.below bb m10.lt, k10.below bb k10.lt, j10.below bb j10.lt, (bb.block PZ (by omega)).trans r10, (bb.block X1 (by omega)).trans V10, (bb.block X2 (by omega)).trans W10, bb.size⟩
      have HST := Lib.hid hst
      clear hst b9 b10 j9 m9 k9 r9 V9 W9 HG b910 j10 m10 k10 r10 V10 W10
      by_cases h3 : e3 = 0
      · have h3' : (e3 == 0) = true := by simp [h3]
        go_wp2_with (refine wp_sth (.tmp 19) (.tmp 86) u hd.zero n10 rfl rfl rfl rfl ?_; intro w11 j11 c11; obtain ⟨b11, _⟩ := HST.out w11 j11 c11)
        refine (lives06_any _ (ht.below b11)).mono ?_
        rintro e w12 ⟨rfl, b12⟩
        go_wp2_with fail
        go_ret
        exact ⟨rfl, b11.trans (b12.mono b11.size)⟩
      · have h3' : (e3 == 0) = false := by simp [h3]
        obtain ⟨z1, z2, z3⟩ := HZ3.out h3
        rw [z1] at HN2
        rw [z2] at HN3
        rw [z3] at HN4
        clear z1 z2 z3 HZ3
        go_wp2_with (first
          | (refine wp_sth (.tmp 19) (.tmp 86) u hd.zero n10 rfl rfl rfl rfl ?_; intro w11 j11 c11; obtain ⟨b11, m11, k11, i11, r11, V11, W11, hl11⟩ := HST.out w11 j11 c11; have g11 := blk_range r11; have f11 := blk_range W11; clear c11 HST n10)
          | refine wp_ld (.tmp 9) z g11 hz128 rfl rfl rfl ?_
          | refine wp_ld (.tmp 13) y f11 hyl rfl rfl rfl ?_)
        refine (HN2.out _ (ht.below b11)).mono ?_
        rintro e w12 ⟨rfl, b12⟩
        have bq := b11.trans (b12.mono b11.size)
        have m12 := m11.below b12 m11.lt
        have k12 := k11.below b12 k11.lt
        have i12 := i11.below b12 i11.lt
        have hi11 := i11.lt
        have r12 := (b12.block PZ (by omega)).trans r11
        have V12 := (b12.block X1 (by omega)).trans V11
        have hl12 := b12.size
        clear g11 f11 b11 m11 k11 i11 r11 V11 W11 b12 HN2
        go_wp2_with (first
          | (refine wp_sth (.tmp 16) (.tmp 96) b _ i12 rfl rfl rfl rfl ?_; intro w13 i13 c13; have b13 : Below w.heap.size w w13 := ((Chg.of_below bq [X3]).trans c13 (Sub.refl _ _)).below (Nat.le_refl _) (fun k hk => by simp at hk; omega); have m13 := m12.chg c13 (by simp; omega); have k13 := k12.chg c13 (by simp; omega); have r13 := (c13.block PZ (by omega) (by simp; omega)).trans r12; have V13 := (c13.block X1 (by omega) (by simp; omega)).trans V12; have hl13 := c13.size; have g13 := blk_range V13; have f13 := blk_range r13)
          | refine wp_ld (.tmp 11) x g13 hxl rfl rfl rfl ?_
          | refine wp_ld (.tmp 9) z f13 hz128 rfl rfl rfl ?_)
        refine (HN3.out _ (ht.below b13)).mono ?_
        rintro e w14 ⟨rfl, b14⟩
        have bq2 := b13.trans (b14.mono b13.size)
        have m14 := m13.below b14 m13.lt
        have k14 := k13.below b14 k13.lt
        have i14 := i13.below b14 i13.lt
        have r14 := (b14.block PZ (by omega)).trans r13
        have hl14 := b14.size
        have n14 := HM.new w14 25 hd.zero
        obtain ⟨X5, hX5⟩ : ∃ X, w14.heap.size = X := ⟨_, rfl⟩
        rw [hX5] at n14
        have hi13 := i13.lt
        clear g13 f13 b13 m13 k13 i13 r13 V13 c13 b14 HN3 bq m12 k12 i12 r12 V12
        go_wp2_with (first
          | (refine wp_sth (.tmp 22) (.tmp 103) a hd.zero n14 rfl rfl rfl rfl ?_; intro w15 o15 c15; rw [← hX5] at c15; have bb := new_chg c15; have b15 := bq2.trans (bb.mono bq2.size); have m15 := m14.below bb m14.lt; have k15 := k14.below bb k14.lt; have i15 := i14.below bb i14.lt; have r15 := (bb.block PZ (by omega)).trans r14; have g15 := blk_range r15; have hl15 := bb.size)
          | refine wp_ld (.tmp 9) z g15 hz128 rfl rfl rfl ?_)
        refine (HN4.out _ (ht.below b15)).mono ?_
        rintro e w16 ⟨rfl, b16⟩
        have bq3 := b15.trans (b16.mono b15.size)
        have m16 := m15.below b16 m15.lt
        have k16 := k15.below b16 k15.lt
        have i16 := i15.below b16 i15.lt
        have o16 := o15.below b16 o15.lt
        have ho15 := o15.lt
        have hl16 := b16.size
        have n16 := HM.new w16 25 hd.zero
        obtain ⟨X6, hX6⟩ : ∃ X, w16.heap.size = X := ⟨_, rfl⟩
        rw [hX6] at n16
        clear g15 b15 m15 k15 i15 o15 r15 c15 bb b16 HN4 bq2 m14 k14 i14 r14 n14
        go_wp2_with (refine wp_sth (.tmp 25) (.tmp 110) hd.zero hd.zero n16 rfl rfl rfl rfl ?_; intro w17 l17 c17; rw [← hX6] at c17; have bb := new_chg c17; have b17 := bq3.trans (bb.mono bq3.size); have m17 := m16.below bb m16.lt; have k17 := k16.below bb k16.lt; have i17 := i16.below bb i16.lt; have o17 := o16.below bb o16.lt; have s0 := m17.c0; have s1 := m17.c1; have s2 := m17.c2; have t0 := k17.c0; have t1 := k17.c1; have t2 := k17.c2; have u0 := i17.c0; have u1 := i17.c1; have u2 := i17.c2; have v0 := o17.c0; have v1 := o17.c1; have v2 := o17.c2; clear c17 bb bq3 m16 k16 i16 o16 n16)
        refine (lives06_any _ (ht.below b17)).mono ?_
        rintro e w18 ⟨rfl, b18⟩
        go_wp2_with fail
        go_ret
        exact ⟨rfl, b17.trans (b18.mono b17.size)⟩
end Go.Proofs.YtiiigbhkbpdciaaDoor
