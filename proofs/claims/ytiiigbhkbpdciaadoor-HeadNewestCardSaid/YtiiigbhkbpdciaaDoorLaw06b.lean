/-
  cardexlaw06's walks: HeadGets.
-/
import Derived.Test.YtiiigbhkbpdciaaDoorLives06
namespace Go.Proofs.YtiiigbhkbpdciaaDoor
open Go.RowKit

set_option maxHeartbeats 4000000 in
set_option maxRecDepth 100000 in
theorem walk_HeadGets (a b : dk.Blk) (n : Nat) (A : Option Addr) (k c : Nat) (body : List UInt8) (w : World) (ha : a.length = 128) (hb : b.length = 128) (hn : n < 18446744073709551616) (hB : BS w A k c body) (ht : Tabs w) :
    Calls Tryd.prog 4 #[dk.val a, dk.val b, .int .u64 n, .slice A k c] w fun e w' => e = .returned (.bool true) ∧ Below w.heap.size w w' := by
  obtain ⟨hz, -⟩ := zero_of_info zero_blk
  obtain ⟨hzh, -⟩ := zero_of_info info_head
  obtain ⟨x0, hx0⟩ : ∃ e, (sl.put n body).1 = e := ⟨_, rfl⟩
  obtain ⟨e0, he0⟩ : ∃ e, (sl.put n body).2 = e := ⟨_, rfl⟩
  have hx0l : x0.length = 128 := by
    rw [← hx0]
    unfold sl.put
    split
    · exact zero_len
    · split
      · exact zero_len
      · exact sl.seal_length n (by omega)
  have HP := Lib.hid (fun W (hW : BS W A k c body) => rput5_any n hn A k c body W hW)
  rw [hx0, he0] at HP
  have h1 := heap_alloc_new w (.cells (dk.cells a).toArray 27)
  have h1' := (Below.heap_alloc (w.alloc (.cells (dk.cells a).toArray 27)) (.cells (dk.cells b).toArray 27) w.heap.size (by simp)).trans h1
  have h2 := heap_alloc_new (w.alloc (.cells (dk.cells a).toArray 27)) (.cells (dk.cells b).toArray 27)
  rw [show (w.alloc (.cells (dk.cells a).toArray 27)).heap.size = w.heap.size + 1 from by simp] at h2
  have hb2 : Below w.heap.size w ((w.alloc (.cells (dk.cells a).toArray 27)).alloc (.cells (dk.cells b).toArray 27)) := ((Below.refl _ _).alloc (Nat.le_refl _) _).alloc (by simp) _
  obtain ⟨W2, hW2⟩ : ∃ W2, (w.alloc (.cells (dk.cells a).toArray 27)).alloc (.cells (dk.cells b).toArray 27) = W2 := ⟨_, rfl⟩
  rw [hW2] at h1' h2 hb2
  have hl2 := (Array.getElem?_eq_some_iff.1 h2).1
  clear h1 hx0 he0
  go_enter Tryd.func4, Tryd.ntmps4
  go_wp2_with fail
  refine (HP.out _ (hB.below hb2)).mono ?_
  rintro e w3 ⟨rfl, b3⟩
  have b23 := hb2.trans (b3.mono hb2.size)
  have r3 := (b3.block w.heap.size (by omega)).trans h1'
  have s3 := (b3.block (w.heap.size + 1) (by omega)).trans h2
  have hl3 := b3.size
  have n3 := heap_alloc_new w3 (.cells (dk.cells dk.zero).toArray 27)
  obtain ⟨X, hX⟩ : ∃ X, w3.heap.size = X := ⟨_, rfl⟩
  rw [hX] at n3
  clear h1' h2 hb2 hW2 b3 HP hB
  have hcs : e0 = 0 ∨ ¬ e0 = 0 := by omega
  rcases hcs with he | he
  case' inl => have he' : (e0 != 0) = false := by simp [he]
  case' inr => have he' : (e0 != 0) = true := by simp [he]
  case' inl =>
    obtain ⟨x, hxx⟩ : ∃ x, x = x0 := ⟨_, rfl⟩
    subst hxx
    have hxl := hx0l
    go_wp2_with (first
      | (refine wp_st0 (.tmp 9) (.tmp 27) x n3 zero_len hxl rfl rfl rfl rfl ?_; intro w5 W5 c5; rw [← hX] at c5; have b35 := new_chg c5; have b5 := b23.trans (b35.mono b23.size); have s5 := (b35.block (w.heap.size + 1) (by omega)).trans s3; have g5 := blk_range W5)
      | refine wp_ld (.tmp 9) x g5 hxl rfl rfl rfl ?_)
  case' inr =>
    obtain ⟨x, hxx⟩ : ∃ x, x = a := ⟨_, rfl⟩
    subst hxx
    have hxl := ha
    go_wp2_with (first
      | (refine wp_st0 (.tmp 9) (.tmp 27) x0 n3 zero_len hx0l rfl rfl rfl rfl ?_; intro w4 W4 c4; rw [← hX] at c4; have b34 := new_chg c4; have b4 := b23.trans (b34.mono b23.size); have s4 := (b34.block (w.heap.size + 1) (by omega)).trans s3; have g4 := blk_range ((b34.block w.heap.size (by omega)).trans r3))
      | refine wp_ld (.tmp 4) x g4 hxl rfl rfl rfl ?_
      | (refine wp_st0 (.tmp 9) (.tmp 31) x W4 hx0l hxl rfl rfl rfl rfl ?_; intro w5 W5 c5; have b5 := (Chg.of_below b4 [X]).trans c5 (Sub.refl _ _) |>.below (Nat.le_refl _) (fun k hk => by simp at hk; omega); have s5 := (c5.block (w.heap.size + 1) (by have := b34.size; omega) (by simp; omega)).trans s4; have g5 := blk_range W5)
      | refine wp_ld (.tmp 9) x g5 hxl rfl rfl rfl ?_)
  all_goals
    obtain ⟨N1, hN1⟩ : ∃ e, (hd.get x).1 = e := ⟨_, rfl⟩
    obtain ⟨y1, hy1⟩ : ∃ e, (hd.get x).2.1 = e := ⟨_, rfl⟩
    obtain ⟨e1, he1⟩ : ∃ e, (hd.get x).2.2 = e := ⟨_, rfl⟩
    obtain ⟨N2, hN2⟩ : ∃ e, (hd.newest x b).1 = e := ⟨_, rfl⟩
    obtain ⟨y2, hy2⟩ : ∃ e, (hd.newest x b).2.1 = e := ⟨_, rfl⟩
    obtain ⟨e2, he2⟩ : ∃ e, (hd.newest x b).2.2 = e := ⟨_, rfl⟩
    have ok1 : y1.Ok := by rw [← hy1]; exact hd.get_Ok x
    have ok2 : y2.Ok := by rw [← hy2]; exact hd.newest_Ok x b
    have HG := Lib.hid (fun W hT => ch_get x hxl W hT)
    have HR := Lib.hid (fun W => rget6_any x hxl W)
    have HN := Lib.hid (fun W hT => ch_newest x b hxl hb W hT)
    have HM1 := Lib.hid (fun W => rnewest6_any x b hxl hb W)
    rw [hN1, hy1, he1] at HG HR
    rw [hN2, hy2, he2] at HN HM1
    have E1 := eq_head y1 y1 ok1 ok1
    have E2 := eq_head y2 y2 ok2 ok2
    rw [decide_eq_true rfl] at E1 E2
    have hlX := (Array.getElem?_eq_some_iff.1 W5).1
    have hlb := (Array.getElem?_eq_some_iff.1 s5).1
    clear hN1 hy1 he1 hN2 hy2 he2 n3 g5 s3 r3 b23
    refine (HG.out _ (ht.below b5)).mono ?_
    rintro e w6 ⟨rfl, b6⟩
    have b56 := b5.trans (b6.mono b5.size)
    have W6 := (b6.block X hlX).trans W5
    have s6 := (b6.block (w.heap.size + 1) hlb).trans s5
    have hl6 := b6.size
    have n6 := HM.new w6 25 hd.zero
    obtain ⟨X1, hX1⟩ : ∃ X, w6.heap.size = X := ⟨_, rfl⟩
    rw [hX1] at n6
    clear b5 b6 W5 s5 HG
    go_wp2_with (first
      | (refine wp_sth (.tmp 12) (.tmp 36) y1 hd.zero n6 rfl rfl rfl rfl ?_; intro w7 m7 c7; rw [← hX1] at c7; have b67 := new_chg c7; have b7 := b56.trans (b67.mono b56.size); have s7 := (b67.block (w.heap.size + 1) (by omega)).trans s6; have W7 := (b67.block X (by omega)).trans W6; have g7 := blk_range W7; have hl7 := b67.size)
      | refine wp_ld (.tmp 9) x g7 hxl rfl rfl rfl ?_)
    clear n6 c7 b67 b56 W6 s6 g7
    refine (HR.out _).mono ?_
    rintro e w8 ⟨rfl, b8⟩
    have b78 := b7.trans (b8.mono b7.size)
    have W8 := (b8.block X (by omega)).trans W7
    have s8 := (b8.block (w.heap.size + 1) (by omega)).trans s7
    have m8 := m7.below b8 m7.lt
    have hl8 := b8.size
    have n8 := HM.new w8 25 hd.zero
    obtain ⟨X2, hX2⟩ : ∃ X, w8.heap.size = X := ⟨_, rfl⟩
    rw [hX2] at n8
    have hm7 := m7.lt
    clear b7 b8 W7 s7 m7 HR
    go_wp2_with (first
      | (refine wp_sth (.tmp 15) (.tmp 42) y1 hd.zero n8 rfl rfl rfl rfl ?_; intro w9 k9 c9; rw [← hX2] at c9; have b89 := new_chg c9; have b9 := b78.trans (b89.mono b78.size); have s9 := (b89.block (w.heap.size + 1) (by omega)).trans s8; have W9 := (b89.block X (by omega)).trans W8; have g9 := blk_range W9; have f9 := blk_range s9; have hl9 := b89.size; have m9 := m8.below b89 m8.lt)
      | refine wp_ld (.tmp 9) x g9 hxl rfl rfl rfl ?_
      | refine wp_ld (.tmp 5) b f9 hb rfl rfl rfl ?_)
    clear n8 c9 b89 b78 W8 s8 g9 f9 m8
    refine (HN.out _ (ht.below b9)).mono ?_
    rintro e w10 ⟨rfl, b10⟩
    have b910 := b9.trans (b10.mono b9.size)
    have W10 := (b10.block X (by omega)).trans W9
    have s10 := (b10.block (w.heap.size + 1) (by omega)).trans s9
    have m10 := m9.below b10 m9.lt
    have k10 := k9.below b10 k9.lt
    have hl10 := b10.size
    have hk9 := k9.lt
    have n10 := HM.new w10 25 hd.zero
    obtain ⟨X3, hX3⟩ : ∃ X, w10.heap.size = X := ⟨_, rfl⟩
    rw [hX3] at n10
    clear b9 b10 W9 s9 m9 k9 HN
    go_wp2_with (first
      | (refine wp_sth (.tmp 18) (.tmp 49) y2 hd.zero n10 rfl rfl rfl rfl ?_; intro w11 j11 c11; rw [← hX3] at c11; have bb := new_chg c11; have b11 := b910.trans (bb.mono b910.size); have s11 := (bb.block (w.heap.size + 1) (by omega)).trans s10; have W11 := (bb.block X (by omega)).trans W10; have g11 := blk_range W11; have f11 := blk_range s11; have hl11 := bb.size; have m11 := m10.below bb m10.lt; have k11 := k10.below bb k10.lt)
      | refine wp_ld (.tmp 9) x g11 hxl rfl rfl rfl ?_
      | refine wp_ld (.tmp 5) b f11 hb rfl rfl rfl ?_)
    clear n10 c11 bb b910 W10 s10 g11 f11 m10 k10
    refine (HM1.out _).mono ?_
    rintro e w12 ⟨rfl, b12⟩
    have b1112 := b11.trans (b12.mono b11.size)
    have m12 := m11.below b12 m11.lt
    have k12 := k11.below b12 k11.lt
    have j12 := j11.below b12 j11.lt
    have hl12 := b12.size
    have hj11 := j11.lt
    have n12 := HM.new w12 25 hd.zero
    obtain ⟨X4, hX4⟩ : ∃ X, w12.heap.size = X := ⟨_, rfl⟩
    rw [hX4] at n12
    clear b11 b12 W11 s11 m11 k11 j11 HM1
    go_wp2_with (first
      | (refine wp_sth (.tmp 21) (.tmp 56) y2 hd.zero n12 rfl rfl rfl rfl ?_; intro w13 i13 c13; rw [← hX4] at c13; have bb := new_chg c13; have b13 := b1112.trans (bb.mono b1112.size); have m13 := m12.below bb m12.lt; have k13 := k12.below bb k12.lt; have j13 := j12.below bb j12.lt; have qa := m13.c0; have qb := m13.c1; have qc := m13.c2; have qd := k13.c0; have qe := k13.c1; have qf := k13.c2; have qg := j13.c0; have qh := j13.c1; have qi := j13.c2; have qj := i13.c0; have qk := i13.c1; have ql := i13.c2; clear n12 c13 bb b1112 m12 k12 j12))
    refine (lives06_any _ (ht.below b13)).mono ?_
    rintro e w14 ⟨rfl, b14⟩
    go_wp2_with fail
    go_ret
    exact ⟨rfl, b13.trans (b14.mono b13.size)⟩
end Go.Proofs.YtiiigbhkbpdciaaDoor
