/-
  cardexlaw06's walks: HeadBack.
-/
import Derived.Test.YtiiigbhkbpdciaaDoorLives06
namespace Go.Proofs.YtiiigbhkbpdciaaDoor
open Go.RowKit

theorem hd.not_ok {n : Nat} {h : hd.H} (hq : ¬ (hd.may h = true ∧ 1 ≤ n ∧ n ≤ 4611686018427387904)) : hd.put n h = (dk.zero, 2) := by
  refine hd.put_no ?_
  rw [Bool.eq_false_iff]
  intro e
  rw [Bool.and_eq_true] at e
  have := hd.num_ok e.1
  exact hq ⟨e.2, this.1, this.2⟩
theorem hd.is_ok {n : Nat} (h1 : 1 ≤ n) (h2 : n ≤ 4611686018427387904) : hd.num n = true := by simp [hd.num, h1, h2]
set_option maxHeartbeats 4000000 in
set_option maxRecDepth 100000 in
theorem walk_HeadBack (n : Nat) (h : hd.H) (b : dk.Blk) (w : World) (hn : n < 18446744073709551616) (hok : h.Ok) (hb : b.length = 128) (ht : Tabs w) :
    Calls Tryd.prog 5 #[.int .u64 n, hd.val h, dk.val b] w fun e w' => e = .returned (.bool true) ∧ Below w.heap.size w w' := by
  obtain ⟨hz, -⟩ := zero_of_info zero_blk
  obtain ⟨hzh, -⟩ := zero_of_info info_head
  obtain ⟨S, hS⟩ : ∃ e, (hd.put n h).1 = e := ⟨_, rfl⟩
  obtain ⟨f, hf⟩ : ∃ e, (hd.put n h).2 = e := ⟨_, rfl⟩
  obtain ⟨q, hq⟩ : ∃ e, hd.may h = e := ⟨_, rfl⟩
  have hSl : S.length = 128 := by rw [← hS]; exact hd.put_len n h
  have HP := Lib.hid (fun W hT => ch_put n hn h hok W hT)
  have HM1 := Lib.hid (fun W => ch_may h hok W)
  rw [hS, hf] at HP
  rw [hq] at HM1
  have HG1 := Lib.hid (fun W hT => ch_get S hSl W hT)
  have hcs : (q = true ∧ (1 : Int) ≤ (n : Int) ∧ (n : Int) ≤ 4611686018427387904 ∧ f = 0 ∧ hd.get S = (n, h, 0)) ∨ (f = 2 ∧ q = false) ∨ (f = 2 ∧ q = true ∧ ¬ (1 : Int) ≤ (n : Int)) ∨ (f = 2 ∧ q = true ∧ (1 : Int) ≤ (n : Int) ∧ ¬ (n : Int) ≤ 4611686018427387904) := by
    by_cases hall : hd.may h = true ∧ 1 ≤ n ∧ n ≤ 4611686018427387904
    · obtain ⟨a1, a2, a3⟩ := hall
      have hnum := hd.is_ok a2 a3
      have hp := hd.put_yes hnum a1
      have hg := hd.get_put hok hnum a1
      rw [hS] at hg
      exact .inl ⟨by rw [← hq, a1], by omega, by omega, by rw [← hf, hp], hg⟩
    · have hp := hd.not_ok hall
      have hf2 : f = 2 := by rw [← hf, hp]
      rw [hq] at hall
      cases q with
      | false => exact .inr (.inl ⟨hf2, rfl⟩)
      | true =>
        by_cases h1 : 1 ≤ n
        · exact .inr (.inr (.inr ⟨hf2, rfl, by omega, fun h2 => hall ⟨rfl, h1, by omega⟩⟩))
        · exact .inr (.inr (.inl ⟨hf2, rfl, by omega⟩))
  obtain ⟨N2, hN2⟩ : ∃ e, (hd.get b).1 = e := ⟨_, rfl⟩
  obtain ⟨y2, hy2⟩ : ∃ e, (hd.get b).2.1 = e := ⟨_, rfl⟩
  obtain ⟨e2, he2⟩ : ∃ e, (hd.get b).2.2 = e := ⟨_, rfl⟩
  have HG2 := Lib.hid (fun W hT => ch_get b hb W hT)
  rw [hN2, hy2, he2] at HG2
  have hN2l : N2 < 18446744073709551616 := by have := hd.get_lt b; omega
  have ok2 : y2.Ok := by rw [← hy2]; exact hd.get_Ok b
  have HP2 := Lib.hid (fun W hT => ch_put N2 hN2l y2 ok2 W hT)
  have hcs2 : (e2 = 0 ∧ hd.put N2 y2 = (b, 0)) ∨ (¬ e2 = 0 ∧ N2 = 0 ∧ y2 = hd.zero) := by
    by_cases he : (hd.get b).2.2 = 0
    · have := hd.put_get he
      rw [hN2, hy2] at this
      exact .inl ⟨by rw [← he2, he], this⟩
    · have := hd.get_err he
      rw [hN2, hy2] at this
      exact .inr ⟨by rw [← he2]; exact he, this⟩
  have HC2 := Lib.hid hcs2
  have E1 := eq_head h h hok hok
  have E2 := eq_head hd.zero hd.zero hd.zero_ok hd.zero_ok
  have E3 := eq_blk b b hb hb
  rw [decide_eq_true rfl] at E1 E2 E3
  have m1 := HM.new w 25 h
  have b1 : Below w.heap.size w (w.alloc (.cells #[bv h.bank, .int .u32 h.blocks, .int .u32 h.batches] 25)) := (Below.refl _ _).alloc (Nat.le_refl _) _
  obtain ⟨W1, hW1⟩ : ∃ W1, w.alloc (.cells #[bv h.bank, .int .u32 h.blocks, .int .u32 h.batches] 25) = W1 := ⟨_, rfl⟩
  have hs1 : W1.heap.size = w.heap.size + 1 := by rw [← hW1]; simp
  obtain ⟨Q, hQ⟩ : ∃ Q, W1.heap.size = Q := ⟨_, rfl⟩
  have hQw : w.heap.size < Q := by omega
  rw [hW1] at m1 b1
  have m2 := m1.alloc (.cells (dk.cells b).toArray 27)
  have b2 := b1.alloc b1.size (.cells (dk.cells b).toArray 27)
  have r2 := heap_alloc_new W1 (.cells (dk.cells b).toArray 27)
  obtain ⟨W2, hW2⟩ : ∃ W2, W1.alloc (.cells (dk.cells b).toArray 27) = W2 := ⟨_, rfl⟩
  rw [hQ] at r2
  rw [hW2] at m2 b2 r2
  have hl2 := (Array.getElem?_eq_some_iff.1 r2).1
  have q0 := m2.c0
  have q1 := m2.c1
  have q2 := m2.c2
  clear hS hf hq hN2 hy2 he2 hcs2 m1 b1 hs1
  go_enter Tryd.func5, Tryd.ntmps5
  go_wp2_with fail
  refine (HP.out _ (ht.below b2)).mono ?_
  rintro e w3 ⟨rfl, b3⟩
  have b23 := b2.trans (b3.mono b2.size)
  have m3 := m2.below b3 m2.lt
  have r3 := (b3.block Q hl2).trans r2
  have hl3 := b3.size
  have n3 := heap_alloc_new w3 (.cells (dk.cells dk.zero).toArray 27)
  obtain ⟨X, hX⟩ : ∃ X, w3.heap.size = X := ⟨_, rfl⟩
  rw [hX] at n3
  clear q0 q1 q2 m2 r2 b2 b3 HP hW2
  go_wp2_with (refine wp_st0 (.tmp 7) (.tmp 21) S n3 zero_len hSl rfl rfl rfl rfl ?_; intro w4 W4 c4; rw [← hX] at c4; have b34 := new_chg c4; have b4 := b23.trans (b34.mono b23.size); have m4 := m3.below b34 m3.lt; have r4 := (b34.block Q (by omega)).trans r3; have q0 := m4.c0; have q1 := m4.c1; have q2 := m4.c2)
  refine (HM1.out _).mono ?_
  rintro e w5 ⟨rfl, b5⟩
  have b45 := b4.trans (b5.mono b4.size)
  have m5 := m4.below b5 m4.lt
  have r5 := (b5.block Q (by have := b34.size; omega)).trans r4
  have W5 := (b5.block X (Array.getElem?_eq_some_iff.1 W4).1).trans W4
  have hX5 := (Array.getElem?_eq_some_iff.1 W5).1
  have hQ5 := (Array.getElem?_eq_some_iff.1 r5).1
  have g5 := blk_range W5
  have f5 := blk_range r5
  clear q0 q1 q2 m3 r3 b23 n3 c4 b34 b4 m4 r4 b5 W4 HM1 hl3 hl2 hX hW1
  rcases hcs with ⟨rfl, i1, i2, rfl, hget⟩ | hcs
  case' inl =>
    rw [hget] at HG1
    clear hget
    go_wp2_with (refine wp_ld (.tmp 7) S g5 hSl rfl rfl rfl ?_)
    refine (HG1.out _ (ht.below b45)).mono ?_
    rintro e w6 ⟨rfl, b6⟩
    have b56 := b45.trans (b6.mono b45.size)
    have m6 := m5.below b6 m5.lt
    have r6 := (b6.block Q hQ5).trans r5
    have hl6 := b6.size
    have n6 := HM.new w6 25 hd.zero
    obtain ⟨X1, hX1⟩ : ∃ X, w6.heap.size = X := ⟨_, rfl⟩
    rw [hX1] at n6
    clear g5 f5 m5 r5 b45 b6 W5
    go_wp2_with (first
      | (refine wp_sth (.tmp 10) (.tmp 42) h hd.zero n6 rfl rfl rfl rfl ?_; intro w7 m7 c7; rw [← hX1] at c7; have b67 := new_chg c7; have b7 := b56.trans (b67.mono b56.size); have r7 := (b67.block Q (by omega)).trans r6; have m17 := m6.below b67 m6.lt; have q0 := m17.c0; have q1 := m17.c1; have q2 := m17.c2; have p0 := m7.c0; have p1 := m7.c1; have p2 := m7.c2; have f7 := blk_range r7)
      | refine wp_ld (.tmp 5) b f7 hb rfl rfl rfl ?_)
    clear n6 c7 b67 b56 m6 r6 m17 m7 q0 q1 q2 p0 p1 p2 f7
  case' inr =>
    obtain ⟨w7, hw7⟩ : ∃ w7, w7 = w5 := ⟨_, rfl⟩
    subst hw7
    have b7 := b45
    have r7 := r5
    clear HG1 m5
    rcases hcs with ⟨rfl, rfl⟩ | ⟨rfl, rfl, i1⟩ | ⟨rfl, rfl, i1, i2⟩
    all_goals
      go_wp2_with (refine wp_ld (.tmp 5) b f5 hb rfl rfl rfl ?_)
      clear b45 r5 W5 g5 f5
  all_goals
    refine (HG2.out _ (ht.below b7)).mono ?_
    rintro e w8 ⟨rfl, b8⟩
    have b78 := b7.trans (b8.mono b7.size)
    have hQ7 := (Array.getElem?_eq_some_iff.1 r7).1
    have r8 := (b8.block Q hQ7).trans r7
    have hl8 := b8.size
    have n8 := HM.new w8 25 hd.zero
    obtain ⟨Y, hY⟩ : ∃ X, w8.heap.size = X := ⟨_, rfl⟩
    rw [hY] at n8
    clear b7 b8 r7 HG2
    rcases HC2.out with ⟨rfl, hp2⟩ | ⟨he2, rfl, rfl⟩
    · have HP3 := HP2
      rw [hp2] at HP3
      clear HC2 HP2 hp2
      go_wp2_with (first
        | (refine wp_sth (.tmp 13) (.tmp 60) y2 hd.zero n8 rfl rfl rfl rfl ?_; intro w9 m9 c9; rw [← hY] at c9; have b89 := new_chg c9; have b9 := b78.trans (b89.mono b78.size); have r9 := (b89.block Q (by omega)).trans r8)
        | refine wp_ldh (.tmp 13) y2 m9 rfl rfl rfl ?_)
      refine (HP3.out _ (ht.below b9)).mono ?_
      rintro e w10 ⟨rfl, b10⟩
      have b910 := b9.trans (b10.mono b9.size)
      have r10 := (b10.block Q (by have := b89.size; omega)).trans r9
      have n10 := heap_alloc_new w10 (.cells (dk.cells dk.zero).toArray 27)
      have hQ10 := (Array.getElem?_eq_some_iff.1 r10).1
      obtain ⟨Z, hZ⟩ : ∃ X, w10.heap.size = X := ⟨_, rfl⟩
      rw [hZ] at n10
      clear n8 c9 b89 b9 r9 b10 m9 HP3 r8 b78
      go_wp2_with (first
        | (refine wp_st0 (.tmp 15) (.tmp 78) b n10 zero_len hb rfl rfl rfl rfl ?_; intro w11 W11 c11; rw [← hZ] at c11; have bb := new_chg c11; have b11 := b910.trans (bb.mono b910.size); have f11 := blk_range ((bb.block Q hQ10).trans r10); have g11 := blk_range W11)
        | refine wp_ld (.tmp 15) b g11 hb rfl rfl rfl ?_
        | refine wp_ld (.tmp 5) b f11 hb rfl rfl rfl ?_)
      refine (lives06_any _ (ht.below b11)).mono ?_
      rintro e w12 ⟨rfl, b12⟩
      go_wp2_with fail
      go_ret
      exact ⟨rfl, b11.trans (b12.mono b11.size)⟩
    · have he2' : (e2 != 0) = true := by simp [he2]
      clear HC2 HP2
      go_wp2_with (refine wp_sth (.tmp 13) (.tmp 60) hd.zero hd.zero n8 rfl rfl rfl rfl ?_; intro w9 m9 c9; rw [← hY] at c9; have b89 := new_chg c9; have b9 := b78.trans (b89.mono b78.size); have p0 := m9.c0; have p1 := m9.c1; have p2 := m9.c2)
      refine (lives06_any _ (ht.below b9)).mono ?_
      rintro e w12 ⟨rfl, b12⟩
      go_wp2_with fail
      go_ret
      exact ⟨rfl, b9.trans (b12.mono b9.size)⟩
end Go.Proofs.YtiiigbhkbpdciaaDoor
