/-
  THE PROGRAM's head: Put, Get, Newest: the contracts that the laws want.
-/
import Derived.Test.YtknndmhkfonfmaaDoorM2
import Derived.Test.YtknndmhkfonfmaaDoorM3
import Derived.Test.YtknndmhkfonfmaaDoorM1
import Derived.Deep.RegionHeldLaw
import Derived.Test.YtknndmhkfonfmaaDoorM4
namespace Go.Proofs.YtknndmhkfonfmaaDoor
open Go.RowKit

set_option maxHeartbeats 4000000 in
set_option maxRecDepth 100000 in
theorem ch_put (n : Nat) (hn : n < 18446744073709551616) (h : hd.H) (hok : h.Ok) (w : World) (ht : Tabs w) : Calls Tryd.prog 34 #[.int .u64 n, hd.val h] w fun e w' =>
    e = .returned (.tuple #[dk.val (hd.put n h).1, .int .i64 (hd.put n h).2]) ∧ Below w.heap.size w w' := by
  obtain ⟨hz, -⟩ := zero_of_info zero_blk
  have m1 := HM.new w 51 h
  have m2 := m1.alloc (.cells (dk.cells dk.zero).toArray 62)
  have b1 : Below w.heap.size w (w.alloc (.cells #[bv h.bank, .int .u32 h.blocks, .int .u32 h.batches] 51)) := (Below.refl _ _).alloc (Nat.le_refl _) _
  have b2 := b1.alloc b1.size (.cells (dk.cells dk.zero).toArray 62)
  have r2 := heap_alloc_new (w.alloc (.cells #[bv h.bank, .int .u32 h.blocks, .int .u32 h.batches] 51)) (.cells (dk.cells dk.zero).toArray 62)
  rw [show (w.alloc (.cells #[bv h.bank, .int .u32 h.blocks, .int .u32 h.batches] 51)).heap.size = w.heap.size + 1 from by simp] at r2
  obtain ⟨W2, hW2⟩ : ∃ W2, (w.alloc (.cells #[bv h.bank, .int .u32 h.blocks, .int .u32 h.batches] 51)).alloc (.cells (dk.cells dk.zero).toArray 62) = W2 := ⟨_, rfl⟩
  rw [hW2] at m2 b2 r2
  have hlR : w.heap.size + 1 < W2.heap.size := (Array.getElem?_eq_some_iff.1 r2).1
  have ht2 := ht.below b2
  have hmay := ch_may h hok W2
  have c0 := m2.c0
  have c1 := m2.c1
  have c2 := m2.c2
  obtain ⟨q2, hq2⟩ : ∃ q, hd.may h = q := ⟨_, rfl⟩
  rw [hq2] at hmay
  have HMAY := Lib.hid hmay
  have HQ2 := Lib.hid hq2
  clear hmay m1 b1 hq2
  by_cases hnum : hd.num n = true
  · obtain ⟨hn1, hn2⟩ := hd.num_ok hnum
    have hc0 : ((n : Int) == 0) = false := by
      have : ¬ (n : Int) = 0 := by omega
      simpa using this
    have hc1 : ¬ (4611686018427387904 : Int) < (n : Int) := by omega
    cases q2 with
    | false =>
      have hp := hd.put_no (n := n) (h := h) (by rw [HQ2.out, Bool.and_false])
      have HP := Lib.hid hp
      clear hp hnum
      go_enter Tryd.func34, Tryd.ntmps34
      go_wp2_with fail
      refine HMAY.out.mono ?_
      rintro e w4 ⟨rfl, b4⟩
      have b24 := b2.trans (b4.mono b2.size)
      have r4 := (b4.block _ hlR).trans r2
      clear r2
      go_wp2_with (refine wp_st0 (.tmp 4) (.tmp 17) dk.zero r4 zero_len zero_len rfl rfl rfl rfl ?_; intro W hW hc)
      refine bodyPost_ret (results_cell_tmp rfl rfl (blk_load (blk_range hW) zero_len)) rfl ⟨?_, (Chg.of_below b24 [w.heap.size + 1]).trans hc (Sub.refl _ _) |>.below (Nat.le_refl _) (fun k hk => by simp at hk; omega)⟩
      rw [HP.out]
      rfl
    | true =>
      have hp := hd.put_yes hnum HQ2.out
      have HP := Lib.hid hp
      have hbl := hd.bodyOf_length h
      have hs : sl.put n (hd.bodyOf h) = (sl.sealB n (hd.bodyOf h), 0) := by rw [sl.put, if_neg (by omega), if_neg (by rw [hbl]; omega)]
      have p5 := fun W A c (hB : BS W A 9 c (hd.bodyOf h)) hT => cs_put n hn A 9 c (hd.bodyOf h) W hB hT
      simp only [hs] at p5
      have P5 := Lib.hid p5
      have hsl := sl.seal_length n (body := hd.bodyOf h) (by rw [hbl]; omega)
      have HBODY := Lib.hid (fun W hT => hbody_any h hok W hT)
      obtain ⟨L, hL⟩ : ∃ L, hd.bodyOf h = L := ⟨_, rfl⟩
      rw [hL] at hbl P5 HBODY hsl HP
      generalize sl.sealB n L = S at *
      clear hp hs p5 hL hnum
      have HBL := Lib.hid hbl
      clear hbl
      go_enter Tryd.func34, Tryd.ntmps34
      go_wp2_with fail
      refine HMAY.out.mono ?_
      rintro e w4 ⟨rfl, b4⟩
      have b24 := b2.trans (b4.mono b2.size)
      have hl4 := b4.size
      have r4 := (b4.block _ hlR).trans r2
      have m4 := m2.below b4 m2.lt
      have ht4 := ht2.below b4
      have d0 := m4.c0
      have d1 := m4.c1
      have d2 := m4.c2
      clear r2 m2 c0 c1 c2 b2 b4
      go_wp2_with fail
      refine (HBODY.out w4 ht4.siz).mono ?_
      rintro e w5 ⟨v5, rfl, o5, b5⟩
      obtain ⟨A5, c5, rfl, hB5⟩ := o5.form
      rw [HBL.out] at hB5 ⊢
      have b25 := b24.trans (b5.mono b24.size)
      have r5 := (b5.block _ (by omega)).trans r4
      have hl5 := b5.size
      have ht5 := ht4.below b5
      clear r4 m4 d0 d1 d2 b24 b5
      go_wp2_with fail
      refine (P5.out _ _ _ hB5 ht5.tab).mono ?_
      rintro e w6 ⟨rfl, b6⟩
      have b26 := b25.trans (b6.mono b25.size)
      have r6 := (b6.block _ (by omega)).trans r5
      clear r5 b25 b6 o5 hB5
      go_wp2_with (refine wp_st0 (.tmp 4) (.tmp 22) S r6 zero_len hsl rfl rfl rfl rfl ?_; intro W hW hc)
      refine bodyPost_ret (results_cell_tmp rfl rfl (blk_load (blk_range hW) hsl)) rfl ⟨?_, (Chg.of_below b26 [w.heap.size + 1]).trans hc (Sub.refl _ _) |>.below (Nat.le_refl _) (fun k hk => by simp at hk; omega)⟩
      rw [HP.out]
      rfl
  · have hp := hd.put_no (n := n) (h := h) (by simp [hnum])
    have HP := Lib.hid hp
    have hout : n = 0 ∨ 4611686018427387904 < n := by
      simp only [hd.num, Bool.and_eq_true, decide_eq_true_eq] at hnum
      omega
    clear hp hnum
    by_cases h0 : n = 0
    · have hc0 : ((n : Int) == 0) = true := by simp [h0]
      clear h0 hout
      go_enter Tryd.func34, Tryd.ntmps34
      go_wp2_with (refine wp_st0 (.tmp 4) (.tmp 17) dk.zero r2 zero_len zero_len rfl rfl rfl rfl ?_; intro W hW hc)
      refine bodyPost_ret (results_cell_tmp rfl rfl (blk_load (blk_range hW) zero_len)) rfl ⟨?_, (Chg.of_below b2 [w.heap.size + 1]).trans hc (Sub.refl _ _) |>.below (Nat.le_refl _) (fun k hk => by simp at hk; omega)⟩
      rw [HP.out]
      rfl
    · have hc0 : ((n : Int) == 0) = false := by
        have : ¬ (n : Int) = 0 := by omega
        simpa using this
      have hc1 : (4611686018427387904 : Int) < (n : Int) := by omega
      clear h0 hout
      go_enter Tryd.func34, Tryd.ntmps34
      go_wp2_with (refine wp_st0 (.tmp 4) (.tmp 17) dk.zero r2 zero_len zero_len rfl rfl rfl rfl ?_; intro W hW hc)
      refine bodyPost_ret (results_cell_tmp rfl rfl (blk_load (blk_range hW) zero_len)) rfl ⟨?_, (Chg.of_below b2 [w.heap.size + 1]).trans hc (Sub.refl _ _) |>.below (Nat.le_refl _) (fun k hk => by simp at hk; omega)⟩
      rw [HP.out]
      rfl
set_option maxHeartbeats 4000000 in
set_option maxRecDepth 100000 in
theorem ch_get (b : dk.Blk) (hb : b.length = 128) (w : World) (ht : Tabs w) : Calls Tryd.prog 43 #[dk.val b] w fun e w' =>
    e = .returned (.tuple #[.int .u64 (hd.get b).1, hd.val (hd.get b).2.1, .int .i64 (hd.get b).2.2]) ∧ Below w.heap.size w w' := by
  obtain ⟨hz, -⟩ := zero_of_info zero_blk
  obtain ⟨hzh, -⟩ := zero_of_info info_head
  have r1 := heap_alloc_new w (.cells (dk.cells b).toArray 62)
  have b1 : Below w.heap.size w (w.alloc (.cells (dk.cells b).toArray 62)) := (Below.refl _ _).alloc (Nat.le_refl _) _
  have r2 := (Below.heap_alloc (w.alloc (.cells (dk.cells b).toArray 62)) (.cells #[bv hd.zero.bank, .int .u32 hd.zero.blocks, .int .u32 hd.zero.batches] 51) w.heap.size (by simp)).trans r1
  have m2 := HM.new (w.alloc (.cells (dk.cells b).toArray 62)) 51 hd.zero
  rw [show (w.alloc (.cells (dk.cells b).toArray 62)).heap.size = w.heap.size + 1 from by simp] at m2
  have b2 := b1.alloc b1.size (.cells #[bv hd.zero.bank, .int .u32 hd.zero.blocks, .int .u32 hd.zero.batches] 51)
  have hlen2 : w.heap.size + 1 < ((w.alloc (.cells (dk.cells b).toArray 62)).alloc (.cells #[bv hd.zero.bank, .int .u32 hd.zero.blocks, .int .u32 hd.zero.batches] 51)).heap.size := by simp
  obtain ⟨W2, hW2⟩ : ∃ W2, (w.alloc (.cells (dk.cells b).toArray 62)).alloc (.cells #[bv hd.zero.bank, .int .u32 hd.zero.blocks, .int .u32 hd.zero.batches] 51) = W2 := ⟨_, rfl⟩
  have m2' : HM 51 W2 (w.heap.size + 1) hd.zero := by rw [← hW2]; exact m2
  rw [hW2] at r2 b2 hlen2
  obtain ⟨N, hN⟩ : ∃ e, (sl.get b).1 = e := ⟨_, rfl⟩
  obtain ⟨l, hl⟩ : ∃ e, (sl.get b).2.1 = e := ⟨_, rfl⟩
  obtain ⟨e0, he⟩ : ∃ e, (sl.get b).2.2 = e := ⟨_, rfl⟩
  have ht2 := ht.below b2
  have hg := cs_get b hb W2 ht2.tab
  rw [hN, hl, he] at hg
  have HG := Lib.hid hg
  have rg := blk_range r2
  have hdef : hd.get b = if e0 = 0 then (if (hd.put N (hd.headOf l)).2 = 0 ∧ (hd.put N (hd.headOf l)).1 = b then (N, hd.headOf l, 0) else (0, hd.zero, 5)) else (0, hd.zero, e0) := by rw [← hN, ← hl, ← he]; rfl
  have HDEF := Lib.hid hdef
  have hlen : e0 = 0 → l.length = 108 := fun h => by rw [← hl]; exact sl.get_len hb (he.trans h)
  have HLEN := Lib.hid hlen
  have hNlt : N < 18446744073709551616 := by rw [← hN]; exact sl.worth_lt b
  clear hg r1 b1 m2 hdef hN hl he hlen
  go_enter Tryd.func43, Tryd.ntmps43
  go_wp2_with (refine wp_ld (.tmp 1) b rg hb rfl rfl rfl ?_)
  refine HG.out.mono ?_
  rintro e w3 ⟨v3, rfl, o3, b3⟩
  have b23 := b2.trans (b3.mono b2.size)
  have m3 := m2'.below b3 hlen2
  have r3 := (b3.block w.heap.size (by omega)).trans r2
  have hl3 := b3.size
  clear HG rg hW2 m2' r2 b2
  by_cases he0 : e0 = 0
  · have he0' : (e0 != 0) = false := by simp [he0]
    have hll := HLEN.out he0
    obtain ⟨A3, c3, rfl, hB3⟩ := o3.form
    rw [hll] at hB3 ⊢
    have hcap := hB3.cap
    have hmax := hB3.max
    have hOk := hd.headOf_Ok l
    have hin := hin_any A3 108 c3 l w3 hB3 (by omega) (ht2.below b3).siz
    obtain ⟨hh, hhe⟩ : ∃ x, hd.headOf l = x := ⟨_, rfl⟩
    have hdef := HDEF.out
    rw [if_pos he0] at hdef
    rw [hhe] at hOk hdef hin
    have hput := fun W hT => ch_put N hNlt hh hOk W hT
    obtain ⟨S, hS⟩ : ∃ e, (hd.put N hh).1 = e := ⟨_, rfl⟩
    obtain ⟨f, hf⟩ : ∃ e, (hd.put N hh).2 = e := ⟨_, rfl⟩
    have hSl : S.length = 128 := by rw [← hS]; exact hd.put_len _ _
    simp only [hS, hf] at hput
    rw [hS, hf] at hdef
    have HD := Lib.hid hdef
    have HPUT := Lib.hid hput
    have HIN := Lib.hid hin
    have ht3 := ht2.below b3
    clear hput hdef hin hhe hS hf HDEF HLEN hB3 ht2
    go_wp2_with fail
    refine HIN.out.mono ?_
    rintro e w3' ⟨rfl, b3'⟩
    have b23' := b23.trans (b3'.mono b23.size)
    have m3' := m3.below b3' m3.lt
    have r3' := (b3'.block w.heap.size (by omega)).trans r3
    have hl3' := b3'.size
    have ht3' := ht3.below b3'
    have n3 := HM.new w3' 51 hd.zero
    obtain ⟨X1, hX1⟩ : ∃ X, w3'.heap.size = X := ⟨_, rfl⟩
    rw [hX1] at n3
    clear HIN m3 r3 b23 b3 o3 ht3
    go_wp2_with (first
      | (refine wp_sth (.tmp 8) (.tmp 22) hh hd.zero n3 rfl rfl rfl rfl ?_; intro w4 m4 hc4; rw [← hX1] at hc4; have b4 := new_chg hc4)
      | refine wp_ldh (.tmp 8) hh m4 rfl rfl rfl ?_)
    have b24 := b23'.trans (b4.mono b23'.size)
    have m34 := m3'.below b4 m3'.lt
    have r4 := (b4.block w.heap.size (by omega)).trans r3'
    have hl4 := b4.size
    have ht4 := ht3'.below b4
    clear hc4 n3 m3' r3' b23'
    refine (HPUT.out w4 ht4).mono ?_
    rintro e w5 ⟨rfl, b5⟩
    have b25 := b24.trans (b5.mono b24.size)
    have m35 := m34.below b5 m34.lt
    have m5 := m4.below b5 m4.lt
    have r5 := (b5.block w.heap.size (by omega)).trans r4
    have hl5 := b5.size
    have n5 := heap_alloc_new w5 (.cells (dk.cells dk.zero).toArray 62)
    have hX1l := m4.lt
    obtain ⟨X2, hX2⟩ : ∃ X, w5.heap.size = X := ⟨_, rfl⟩
    rw [hX2] at n5
    have hE := eq_blk S b hSl hb
    clear m34 m4 r4 b24 b4 b5 HPUT
    by_cases hf0 : f = 0
    · have hf0' : (f != 0) = false := by simp [hf0]
      by_cases hSb : S = b
      · rw [decide_eq_true hSb] at hE
        have hd := HD.out
        rw [if_pos ⟨hf0, hSb⟩] at hd
        have HD' := Lib.hid hd
        clear hd HD hSb
        go_wp2_with (first
          | (refine wp_st0 (.tmp 9) (.tmp 27) S n5 zero_len hSl rfl rfl rfl rfl ?_; intro w6 hW6 hc6; rw [← hX2] at hc6; have b6 := new_chg hc6; have g6 := blk_range hW6; have g7 := blk_range ((b6.block w.heap.size (by omega)).trans r5))
          | refine wp_ldw (.tmp 9) S g6 hSl rfl rfl (by rfl) ?_
          | refine wp_ldw (.tmp 1) b g7 hb rfl rfl (by rfl) ?_)
        have m6 := m5.below b6 (by omega)
        have m36 := m35.below b6 m35.lt
        have b26 := b25.trans (b6.mono b25.size)
        have c0 := m6.c0
        have c1 := m6.c1
        have c2 := m6.c2
        have d0 := m36.c0
        have d1 := m36.c1
        have d2 := m36.c2
        have f0 := m36.fz 0
        have f1 := m36.fz 1
        have f2 := m36.fz 2
        have hne : X1 ≠ w.heap.size + 1 := by omega
        clear hW6 hc6 b6 g6 g7 m6 m5 hE n5 r5
        have hset := m36.set3 hh
        have HSET := Lib.hid hset
        clear hset
        go_region
        have hset := HSET.out
        clear c0 c1 c2 d0 d1 d2 f0 f1 f2 m35 m36 HSET
        obtain ⟨hs1, hs2⟩ := hset
        have hs3 := hs1.drew
        have hs4 := (hs2.trans (Chg.drew _ _) (Sub.refl _ _))
        generalize ((((w6.setCell ⟨w.heap.size + 1, 0, none⟩ (bv hh.bank)).setCell ⟨w.heap.size + 1, 1, none⟩ (.int .u32 hh.blocks)).setCell ⟨w.heap.size + 1, 2, none⟩ (.int .u32 hh.batches)).drew) = w7 at *
        go_wp2_with fail
        refine bodyPost_ret (results_tct rfl rfl (head_load hs3)) rfl ⟨?_, (Chg.of_below b26 [w.heap.size + 1]).trans hs4 (Sub.refl _ _) |>.below (Nat.le_refl _) (fun k hk => by simp at hk; omega)⟩
        rw [HD'.out]
        rfl
      · rw [decide_eq_false hSb] at hE
        have hd := HD.out
        rw [if_neg (fun h => hSb h.2)] at hd
        have HD' := Lib.hid hd
        clear hd HD hSb
        go_wp2_with (first
          | (refine wp_st0 (.tmp 9) (.tmp 27) S n5 zero_len hSl rfl rfl rfl rfl ?_; intro w6 hW6 hc6; rw [← hX2] at hc6; have b6 := new_chg hc6; have g6 := blk_range hW6; have g7 := blk_range ((b6.block w.heap.size (by omega)).trans r5); have m36 := m35.below b6 m35.lt; have b26 := b25.trans (b6.mono b25.size))
          | refine wp_ldw (.tmp 9) S g6 hSl rfl rfl (by rfl) ?_
          | refine wp_ldw (.tmp 1) b g7 hb rfl rfl (by rfl) ?_
          | (refine wp_sth (.tmp 3) (.tmp 36) hd.zero hd.zero m36 rfl rfl rfl rfl ?_; intro w7 m7 hc7))
        refine bodyPost_ret (results_tct rfl rfl (head_load m7)) rfl ⟨?_, (Chg.of_below b26 [w.heap.size + 1]).trans hc7 (Sub.refl _ _) |>.below (Nat.le_refl _) (fun k hk => by simp at hk; omega)⟩
        rw [HD'.out]
        rfl
    · have hf0' : (f != 0) = true := by simp [hf0]
      have hd := HD.out
      rw [if_neg (fun h => hf0 h.1)] at hd
      have HD' := Lib.hid hd
      clear hd HD hE
      go_wp2_with (first
        | (refine wp_st0 (.tmp 9) (.tmp 27) S n5 zero_len hSl rfl rfl rfl rfl ?_; intro w6 hW6 hc6; rw [← hX2] at hc6; have b6 := new_chg hc6; have m36 := m35.below b6 m35.lt; have b26 := b25.trans (b6.mono b25.size))
        | (refine wp_sth (.tmp 3) (.tmp 36) hd.zero hd.zero m36 rfl rfl rfl rfl ?_; intro w7 m7 hc7))
      refine bodyPost_ret (results_tct rfl rfl (head_load m7)) rfl ⟨?_, (Chg.of_below b26 [w.heap.size + 1]).trans hc7 (Sub.refl _ _) |>.below (Nat.le_refl _) (fun k hk => by simp at hk; omega)⟩
      rw [HD'.out]
      rfl
  · have he0' : (e0 != 0) = true := by simp [he0]
    have hdef := HDEF.out
    rw [if_neg he0] at hdef
    have HD := Lib.hid hdef
    clear hdef
    go_wp2_with (refine wp_sth (.tmp 3) (.tmp 19) hd.zero hd.zero m3 rfl rfl rfl rfl ?_; intro w4 m4 hc4)
    refine bodyPost_ret (results_tct rfl rfl (head_load m4)) rfl ⟨?_, (Chg.of_below b23 [w.heap.size + 1]).trans hc4 (Sub.refl _ _) |>.below (Nat.le_refl _) (fun k hk => by simp at hk; omega)⟩
    rw [HD.out]
    rfl
set_option maxHeartbeats 4000000 in
set_option maxRecDepth 100000 in
theorem ch_newest (a b : dk.Blk) (ha : a.length = 128) (hb : b.length = 128) (w : World) (ht : Tabs w) : Calls Tryd.prog 28 #[dk.val a, dk.val b] w fun e w' =>
    e = .returned (.tuple #[.int .u64 (hd.newest a b).1, hd.val (hd.newest a b).2.1, .int .i64 (hd.newest a b).2.2]) ∧ Below w.heap.size w w' := by
  obtain ⟨hzh, -⟩ := zero_of_info info_head
  obtain ⟨N1, hN1⟩ : ∃ e, (hd.get a).1 = e := ⟨_, rfl⟩
  obtain ⟨h1, hh1⟩ : ∃ e, (hd.get a).2.1 = e := ⟨_, rfl⟩
  obtain ⟨e1, he1⟩ : ∃ e, (hd.get a).2.2 = e := ⟨_, rfl⟩
  obtain ⟨N2, hN2⟩ : ∃ e, (hd.get b).1 = e := ⟨_, rfl⟩
  obtain ⟨h2, hh2⟩ : ∃ e, (hd.get b).2.1 = e := ⟨_, rfl⟩
  obtain ⟨e2, he2⟩ : ∃ e, (hd.get b).2.2 = e := ⟨_, rfl⟩
  have HA := Lib.hid (fun W hT => ch_get a ha W hT)
  have HB := Lib.hid (fun W hT => ch_get b hb W hT)
  have hdef : hd.newest a b = if ¬ e1 = 0 ∧ ¬ e2 = 0 then (0, hd.zero, 7) else if N1 < N2 then (N2, h2, 0) else (N1, h1, 0) := by rw [← hN1, ← hN2, ← hh1, ← hh2, ← he1, ← he2]; rfl
  rw [hN1, hh1, he1] at HA
  rw [hN2, hh2, he2] at HB
  have hz1 : e1 = 0 ↔ ¬ N1 = 0 := by
    rw [← he1, ← hN1]
    constructor
    · intro h
      have := (hd.get_num h).1
      omega
    · intro h
      by_cases hx : (hd.get a).2.2 = 0
      · exact hx
      · exact absurd (hd.get_err hx).1 h
  have hz2 : e2 = 0 ↔ ¬ N2 = 0 := by
    rw [← he2, ← hN2]
    constructor
    · intro h
      have := (hd.get_num h).1
      omega
    · intro h
      by_cases hx : (hd.get b).2.2 = 0
      · exact hx
      · exact absurd (hd.get_err hx).1 h
  have hdef' : hd.newest a b = if N1 = 0 ∧ N2 = 0 then (0, hd.zero, 7) else if N1 < N2 then (N2, h2, 0) else (N1, h1, 0) := by
    rw [hdef]
    have hc : (¬ e1 = 0 ∧ ¬ e2 = 0) = (N1 = 0 ∧ N2 = 0) := by rw [hz1, hz2]; simp
    simp only [hc]
  have HDEF := Lib.hid hdef'
  clear hdef' hz1 hz2
  have r1 := heap_alloc_new w (.cells (dk.cells a).toArray 62)
  have b1 : Below w.heap.size w (w.alloc (.cells (dk.cells a).toArray 62)) := (Below.refl _ _).alloc (Nat.le_refl _) _
  obtain ⟨Wa, hWa⟩ : ∃ Wa, w.alloc (.cells (dk.cells a).toArray 62) = Wa := ⟨_, rfl⟩
  have hsa : Wa.heap.size = w.heap.size + 1 := by rw [← hWa]; simp
  rw [hWa] at r1 b1
  have r2 := (Below.heap_alloc Wa (.cells (dk.cells b).toArray 62) w.heap.size (by omega)).trans r1
  have s2 := heap_alloc_new Wa (.cells (dk.cells b).toArray 62)
  have b2 := b1.alloc b1.size (.cells (dk.cells b).toArray 62)
  obtain ⟨Wb, hWb⟩ : ∃ Wb, Wa.alloc (.cells (dk.cells b).toArray 62) = Wb := ⟨_, rfl⟩
  have hsb : Wb.heap.size = w.heap.size + 2 := by rw [← hWb]; simp; omega
  rw [hWb] at r2 s2 b2
  rw [hsa] at s2
  have r3 := (Below.heap_alloc Wb (.cells #[bv hd.zero.bank, .int .u32 hd.zero.blocks, .int .u32 hd.zero.batches] 51) w.heap.size (by omega)).trans r2
  have s3 := (Below.heap_alloc Wb (.cells #[bv hd.zero.bank, .int .u32 hd.zero.blocks, .int .u32 hd.zero.batches] 51) (w.heap.size + 1) (by omega)).trans s2
  have m3 := HM.new Wb 51 hd.zero
  have b3 := b2.alloc b2.size (.cells #[bv hd.zero.bank, .int .u32 hd.zero.blocks, .int .u32 hd.zero.batches] 51)
  rw [hsb] at m3
  obtain ⟨W3, hW3⟩ : ∃ W3, Wb.alloc (.cells #[bv hd.zero.bank, .int .u32 hd.zero.blocks, .int .u32 hd.zero.batches] 51) = W3 := ⟨_, rfl⟩
  rw [hW3] at r3 s3 m3 b3
  have m3' : HM 51 W3 (w.heap.size + 1 + 1) hd.zero := m3
  have hl3 : w.heap.size + 1 + 1 < W3.heap.size := m3.lt
  have g3 := blk_range r3
  have hj : W3 = ((w.alloc (.cells (dk.cells a).toArray 62)).alloc (.cells (dk.cells b).toArray 62)).alloc (.cells #[bv hd.zero.bank, .int .u32 hd.zero.blocks, .int .u32 hd.zero.batches] 51) := by rw [← hW3, ← hWb, ← hWa]
  have HJ := Lib.hid hj
  clear hdef hN1 hN2 hh1 hh2 he1 he2 r1 b1 r2 s2 b2 hWb hWa hW3 hsa hsb hj
  go_enter Tryd.func28, Tryd.ntmps28
  go_wp2_with (first | (rw [← HJ.out]; refine wp_ld (.tmp 2) a g3 ha rfl rfl rfl ?_) | refine wp_ld (.tmp 2) a g3 ha rfl rfl rfl ?_)
  have ht3 := ht.below b3
  refine (HA.out _ ht3).mono ?_
  rintro e w4 ⟨rfl, b4⟩
  have b34 := b3.trans (b4.mono b3.size)
  have ht4 := ht3.below b4
  have m4 := m3'.below b4 hl3
  have s4 := (b4.block (w.heap.size + 1) (by omega)).trans s3
  have hl4 := b4.size
  have n4 := HM.new w4 51 hd.zero
  obtain ⟨X1, hX1⟩ : ∃ X, w4.heap.size = X := ⟨_, rfl⟩
  rw [hX1] at n4
  clear g3 r3 s3 m3 m3' b3 b4 HA HJ
  go_wp2_with (first
    | (refine wp_sth (.tmp 8) (.tmp 17) h1 hd.zero n4 rfl rfl rfl rfl ?_; intro w5 n5 hc5; rw [← hX1] at hc5; have b5 := new_chg hc5; have g5 := blk_range ((b5.block (w.heap.size + 1) (by omega)).trans s4))
    | refine wp_ld (.tmp 3) b g5 hb rfl rfl rfl ?_)
  have b35 := b34.trans (b5.mono b34.size)
  have ht5 := ht4.below b5
  have m5 := m4.below b5 (by omega)
  have hl5 := b5.size
  have hX1l := n5.lt
  clear g5 s4 m4 n4 hc5 b34 b5
  refine (HB.out _ ht5).mono ?_
  rintro e w6 ⟨rfl, b6⟩
  have b36 := b35.trans (b6.mono b35.size)
  have m6 := m5.below b6 m5.lt
  have n56 := n5.below b6 n5.lt
  have hl6 := b6.size
  have n6 := HM.new w6 51 hd.zero
  obtain ⟨X2, hX2⟩ : ∃ X, w6.heap.size = X := ⟨_, rfl⟩
  rw [hX2] at n6
  clear m5 n5 b35 b6 HB
  have hcs : (N1 = 0 ∧ N2 = 0) ∨ ¬ N1 = 0 ∨ (N1 = 0 ∧ ¬ N2 = 0) := by omega
  have hstep : ∀ w7, HM 51 w7 X2 h2 → Chg (w6.alloc (.cells #[bv hd.zero.bank, .int .u32 hd.zero.blocks, .int .u32 hd.zero.batches] 51)) w7 [X2] → HM 51 w7 (w.heap.size + 1 + 1) hd.zero ∧ HM 51 w7 X1 h1 ∧ Below w.heap.size w w7 := fun w7 n7 hc7 => by
    rw [← hX2] at hc7
    have b7 := new_chg hc7
    exact ⟨m6.below b7 m6.lt, n56.below b7 n56.lt, b36.trans (b7.mono b36.size)⟩
  have HSTEP := Lib.hid hstep
  have hne1 : X1 ≠ w.heap.size + 1 + 1 := by omega
  have hne2 : X2 ≠ w.heap.size + 1 + 1 := by omega
  clear hstep m6 n56 b36
  rcases hcs with ⟨he1, he2⟩ | hcs
  · have he1' : ((N1 : Int) == 0) = true := by simp [he1]
    have he2' : ((N2 : Int) == 0) = true := by simp [he2]
    have hd := HDEF.out
    rw [if_pos ⟨he1, he2⟩] at hd
    have HD := Lib.hid hd
    clear hd HDEF
    go_wp2_with (first
      | (refine wp_sth (.tmp 11) (.tmp 23) h2 hd.zero n6 rfl rfl rfl rfl ?_; intro w7 n8 hc7; obtain ⟨m7, n7, b7⟩ := HSTEP.out w7 n8 hc7)
      | (refine wp_sth (.tmp 5) (.tmp 31) hd.zero hd.zero m7 rfl rfl rfl rfl ?_; intro w8 m8 hc8))
    refine bodyPost_ret (results_tct rfl rfl (head_load m8)) rfl ⟨?_, (Chg.of_below b7 [w.heap.size + 1 + 1]).trans hc8 (Sub.refl _ _) |>.below (Nat.le_refl _) (fun k hk => by simp at hk; omega)⟩
    rw [HD.out]
    rfl
  · have hd := HDEF.out
    rw [if_neg (fun h => by omega)] at hd
    have HD0 := Lib.hid hd
    clear hd HDEF
    by_cases hlt : N1 < N2
    · have hlt' : (N1 : Int) < (N2 : Int) := by omega
      have hd := HD0.out
      rw [if_pos hlt] at hd
      have HD := Lib.hid hd
      clear hd HD0
      rcases hcs with he1 | ⟨he1, he2⟩
      case' inl => have he1' : ((N1 : Int) == 0) = false := by simp; omega
      case' inr => have he1' : ((N1 : Int) == 0) = true := by simp [he1]
      case' inr => have he2' : ((N2 : Int) == 0) = false := by simp; omega
      all_goals
        go_wp2_with (refine wp_sth (.tmp 11) (.tmp 23) h2 hd.zero n6 rfl rfl rfl rfl ?_; intro w7 n8 hc7; obtain ⟨m7, n7, b7⟩ := HSTEP.out w7 n8 hc7)
        have c0 := n8.c0
        have c1 := n8.c1
        have c2 := n8.c2
        have d0 := m7.c0
        have d1 := m7.c1
        have d2 := m7.c2
        have f0 := m7.fz 0
        have f1 := m7.fz 1
        have f2 := m7.fz 2
        have HSET := Lib.hid (m7.set3 h2)
        clear m7 n7 n8
        go_wp2_with fail
        go_region
        obtain ⟨hs1, hs2⟩ := HSET.out
        have hs3 := hs1.drew
        have hs4 := (hs2.trans (Chg.drew _ _) (Sub.refl _ _))
        clear c0 c1 c2 d0 d1 d2 f0 f1 f2 HSET hs1 hs2
        generalize ((((w7.setCell ⟨w.heap.size + 1 + 1, 0, none⟩ (bv h2.bank)).setCell ⟨w.heap.size + 1 + 1, 1, none⟩ (.int .u32 h2.blocks)).setCell ⟨w.heap.size + 1 + 1, 2, none⟩ (.int .u32 h2.batches)).drew) = w8 at *
        go_wp2_with fail
        refine bodyPost_ret (results_tct rfl rfl (head_load hs3)) rfl ⟨?_, (Chg.of_below b7 [w.heap.size + 1 + 1]).trans hs4 (Sub.refl _ _) |>.below (Nat.le_refl _) (fun k hk => by simp at hk; omega)⟩
        rw [HD.out]
        rfl
    · have hlt' : ¬ (N1 : Int) < (N2 : Int) := by omega
      have hd := HD0.out
      rw [if_neg hlt] at hd
      have HD := Lib.hid hd
      clear hd HD0
      rcases hcs with he1 | ⟨he1, he2⟩
      case' inl => have he1' : ((N1 : Int) == 0) = false := by simp; omega
      case inr => exact absurd (show N1 < N2 by omega) hlt
      all_goals
        go_wp2_with (refine wp_sth (.tmp 11) (.tmp 23) h2 hd.zero n6 rfl rfl rfl rfl ?_; intro w7 n8 hc7; obtain ⟨m7, n7, b7⟩ := HSTEP.out w7 n8 hc7)
        have c0 := n7.c0
        have c1 := n7.c1
        have c2 := n7.c2
        have d0 := m7.c0
        have d1 := m7.c1
        have d2 := m7.c2
        have f0 := m7.fz 0
        have f1 := m7.fz 1
        have f2 := m7.fz 2
        have HSET := Lib.hid (m7.set3 h1)
        clear m7 n7 n8
        go_wp2_with fail
        go_region
        obtain ⟨hs1, hs2⟩ := HSET.out
        have hs3 := hs1.drew
        have hs4 := (hs2.trans (Chg.drew _ _) (Sub.refl _ _))
        clear c0 c1 c2 d0 d1 d2 f0 f1 f2 HSET hs1 hs2
        generalize ((((w7.setCell ⟨w.heap.size + 1 + 1, 0, none⟩ (bv h1.bank)).setCell ⟨w.heap.size + 1 + 1, 1, none⟩ (.int .u32 h1.blocks)).setCell ⟨w.heap.size + 1 + 1, 2, none⟩ (.int .u32 h1.batches)).drew) = w8 at *
        go_wp2_with fail
        refine bodyPost_ret (results_tct rfl rfl (head_load hs3)) rfl ⟨?_, (Chg.of_below b7 [w.heap.size + 1 + 1]).trans hs4 (Sub.refl _ _) |>.below (Nat.le_refl _) (fun k hk => by simp at hk; omega)⟩
        rw [HD.out]
        rfl
end Go.Proofs.YtknndmhkfonfmaaDoor

/-
  THE PROGRAM's journal: the number and the place of the next head.
-/
namespace Go.Proofs.YtknndmhkfonfmaaDoor
open Go.RowKit
namespace jn
/-- the number of the next head, and over which block it goes, as the program has it -/
def nx (a b : Blk) : Nat × Int := ((hd.newest a b).1 + 1, sl.next a b)
/-- it is the document's -/
theorem next_ok (a b : Blk) : nx a b = ((hd.newest a b).1 + 1, sl.next a b) := rfl
theorem nx_pos (a b : Blk) : (nx a b).2 = ((nx a b).2.toNat : Int) ∧ (nx a b).2.toNat < 2 := by
  unfold nx sl.next
  split
  · exact ⟨rfl, show _ < 2 by simp⟩
  · exact ⟨rfl, show _ < 2 by simp⟩
theorem newest_lt (a b : Blk) : (hd.newest a b).1 ≤ 4611686018427387904 := by
  unfold hd.newest
  split
  · show 0 ≤ _; omega
  · split
    · exact hd.get_lt b
    · exact hd.get_lt a
theorem nx_lt (a b : Blk) : (nx a b).1 < 18446744073709551616 := by
  have := newest_lt a b
  show (hd.newest a b).1 + 1 < _
  omega
/-- which number a block is sealed with, told by its ends and by whether its sum is refused -/
theorem worth_ends (b : Blk) : sl.worth b = if b.drop 120 = sl.last (sl.number b) ∧ (hd.get b).2.2 ≠ 6 then sl.number b else 0 := by
  unfold sl.worth hd.get
  by_cases h1 : sl.number b = 0
  · have hg : sl.get b = (0, [], 5) := by unfold sl.get; rw [if_pos (.inl h1)]
    rw [hg, h1, ite_self]
  · by_cases h2 : b.drop 120 = sl.last (sl.number b)
    · by_cases h3 : leVal ((b.drop 116).take 4) = (crc.of (b.take 116)).toNat
      · have hg : sl.get b = (sl.number b, (b.drop 8).take 108, 0) := by
          unfold sl.get
          rw [if_neg (by rw [← h2]; simpa using h1), if_neg (by simpa using h3)]
        rw [hg]
        simp only [if_true]
        rw [if_pos]
        refine ⟨h2, ?_⟩
        split
        · exact show (0 : Int) ≠ 6 by decide
        · exact show (5 : Int) ≠ 6 by decide
      · have hg : sl.get b = (0, [], 6) := by
          unfold sl.get
          rw [if_neg (by rw [← h2]; simpa using h1), if_pos h3]
        rw [hg]
        rw [if_neg]
        rintro ⟨-, h⟩
        exact h rfl
    · have hg : sl.get b = (0, [], 5) := by unfold sl.get; rw [if_pos (.inr h2)]
      rw [hg, if_neg (fun h => h2 h.1)]
end jn
set_option maxHeartbeats 4000000 in
set_option maxRecDepth 100000 in
theorem cj_sealNumber (b : dk.Blk) (hb : b.length = 128) (w : World) (ht : Tabs w) : Calls Tryd.prog 64 #[dk.val b] w fun e w' =>
    e = .returned (.int .u64 (sl.worth b)) ∧ Below w.heap.size w w' := by
  obtain ⟨hzh, -⟩ := zero_of_info info_head
  have hr1 : RowB 62 (w.alloc (.cells (dk.cells b).toArray 62)) w.heap.size b := heap_alloc_new w _
  have hb1 : Below w.heap.size w (w.alloc (.cells (dk.cells b).toArray 62)) := (Below.refl _ _).alloc (Nat.le_refl _) _
  obtain ⟨W, hW⟩ : ∃ W, w.alloc (.cells (dk.cells b).toArray 62) = W := ⟨_, rfl⟩
  rw [hW] at hr1 hb1
  have hBS := bs_mid_row hr1 (at_ := 0) (k := 128) (by omega) (by omega)
  rw [List.drop_zero, List.take_of_length_le (by omega)] at hBS
  have ga := blk_range hr1
  obtain ⟨N, hN⟩ : ∃ N, sl.number b = N := ⟨_, rfl⟩
  have hNlt := sl.number_lt b
  rw [hN] at hNlt
  have g1 := get_yes _ 128 128 b 0 8 W hBS (by rfl) (by omega)
  rw [List.drop_zero, show leVal (b.take 8) = N from hN] at g1
  have G1 := Lib.hid g1
  obtain ⟨L, hL⟩ : ∃ L, leVal (b.drop 120) = L := ⟨_, rfl⟩
  have g2 := get_yes _ 128 128 b 120 8 W hBS (by rfl) (by omega)
  rw [List.take_of_length_le (by rw [List.length_drop]; omega), hL] at g2
  have G2 := Lib.hid g2
  have hlast : L = 18446744073709551615 - N ↔ b.drop 120 = sl.last N := by
    rw [← hL, sl.last]
    constructor
    · intro e
      rw [← e]
      exact (leBytes_val _ _ (by rw [List.length_drop]; omega)).symm
    · intro e
      rw [e, leVal_bytes]
      exact Nat.mod_eq_of_lt (by omega)
  have hnot := u64_not N hNlt
  have hw := jn.worth_ends b
  have HG := Lib.hid (ch_get b hb W (ht.below hb1))
  obtain ⟨k1, hk1⟩ : ∃ e, (hd.get b).1 = e := ⟨_, rfl⟩
  obtain ⟨k, hk⟩ : ∃ e, (hd.get b).2.1 = e := ⟨_, rfl⟩
  obtain ⟨f, hf⟩ : ∃ e, (hd.get b).2.2 = e := ⟨_, rfl⟩
  rw [hk1, hk, hf] at HG
  rw [hN, hf] at hw
  obtain ⟨R, hR⟩ : ∃ R, sl.worth b = R := ⟨_, rfl⟩
  rw [hR] at hw ⊢
  have HW := Lib.hid hW
  clear g1 g2 hW hR hk1 hk hf hBS hN hL
  go_enter Tryd.func64, Tryd.ntmps64
  go_wp2_with fail
  rw [HW.out]
  refine G1.out.mono ?_
  rintro e w1 ⟨rfl, rfl⟩
  go_wp2_with fail
  refine G2.out.mono ?_
  rintro e w1 ⟨rfl, rfl⟩
  obtain ⟨M, hM⟩ : ∃ M, 18446744073709551615 - N = M := ⟨_, rfl⟩
  rw [hM] at hlast hnot
  have hnot' : bits .xor .u64 (if IntKind.u64.signed = true then -1 else IntKind.u64.max) (N : Int) = (M : Int) := by rw [if_neg (by decide)]; exact hnot
  clear G1 G2 hr1
  by_cases hl : L = M
  · have hne : ((L : Int) != (M : Int)) = false := by simp [hl]
    have hdl := hlast.1 hl
    by_cases h6 : f = 6
    · have h6' : (f == 6) = true := by simp [h6]
      rw [if_neg (fun h => h.2 h6)] at hw
      have HX := Lib.hid hw
      clear hw hlast hl hdl h6
      go_wp2_with (refine wp_ld (.tmp 1) b ga hb rfl rfl rfl ?_)
      refine HG.out.mono ?_
      rintro e w4 ⟨rfl, b4⟩
      have b14 := hb1.trans (b4.mono hb1.size)
      have n4 := HM.new w4 51 hd.zero
      obtain ⟨X4, hX4⟩ : ∃ X, w4.heap.size = X := ⟨_, rfl⟩
      rw [hX4] at n4
      clear HG
      go_wp2_with (refine wp_sth (.tmp 8) (.tmp 28) k hd.zero n4 rfl rfl rfl rfl ?_; intro w5 n5 c5; rw [← hX4] at c5; have b5 := new_chg c5; have b15 := b14.trans (b5.mono b14.size); clear n4)
      go_ret
      exact ⟨by rw [HX.out]; rfl, b15⟩
    · have h6' : (f == 6) = false := by simp [h6]
      rw [if_pos ⟨hdl, h6⟩] at hw
      have HX := Lib.hid hw
      clear hw hlast hl hdl h6
      go_wp2_with (refine wp_ld (.tmp 1) b ga hb rfl rfl rfl ?_)
      refine HG.out.mono ?_
      rintro e w4 ⟨rfl, b4⟩
      have b14 := hb1.trans (b4.mono hb1.size)
      have n4 := HM.new w4 51 hd.zero
      obtain ⟨X4, hX4⟩ : ∃ X, w4.heap.size = X := ⟨_, rfl⟩
      rw [hX4] at n4
      clear HG
      go_wp2_with (refine wp_sth (.tmp 8) (.tmp 28) k hd.zero n4 rfl rfl rfl rfl ?_; intro w5 n5 c5; rw [← hX4] at c5; have b5 := new_chg c5; have b15 := b14.trans (b5.mono b14.size); clear n4)
      go_ret
      exact ⟨by rw [HX.out]; rfl, b15⟩
  · have hne : ((L : Int) != (M : Int)) = true := by rw [bne_iff_ne]; omega
    rw [if_neg (fun h => hl (hlast.2 h.1))] at hw
    have HX := Lib.hid hw
    clear hw hlast HG
    go_wp2_with fail
    go_ret
    exact ⟨by rw [HX.out]; rfl, hb1⟩
set_option maxHeartbeats 4000000 in
set_option maxRecDepth 100000 in
theorem cj_place (a b : dk.Blk) (ha : a.length = 128) (hb : b.length = 128) (w : World) (ht : Tabs w) : Calls Tryd.prog 50 #[dk.val a, dk.val b] w fun e w' =>
    e = .returned (.int .i64 (sl.next a b)) ∧ Below w.heap.size w w' := by
  have uB := Tryd.underlying62
  have r0 := heap_alloc_new w (.cells (dk.cells a).toArray 62)
  have b0 : Below w.heap.size w (w.alloc (.cells (dk.cells a).toArray 62)) := (Below.refl _ _).alloc (Nat.le_refl _) _
  have r1 := heap_alloc_new (w.alloc (.cells (dk.cells a).toArray 62)) (.cells (dk.cells b).toArray 62)
  have b1 := b0.alloc b0.size (.cells (dk.cells b).toArray 62)
  have r01 := (Below.heap_alloc (w.alloc (.cells (dk.cells a).toArray 62)) (.cells (dk.cells b).toArray 62) w.heap.size (by simp)).trans r0
  rw [show (w.alloc (.cells (dk.cells a).toArray 62)).heap.size = w.heap.size + 1 from by simp] at r1
  obtain ⟨W1, hW1⟩ : ∃ W1, (w.alloc (.cells (dk.cells a).toArray 62)).alloc (.cells (dk.cells b).toArray 62) = W1 := ⟨_, rfl⟩
  rw [hW1] at r1 r01 b1
  have hl1 : w.heap.size + 1 < W1.heap.size := (Array.getElem?_eq_some_iff.1 r1).1
  have HA := Lib.hid (fun W hT => cj_sealNumber a ha W hT)
  have HB := Lib.hid (fun W hT => cj_sealNumber b hb W hT)
  have hn : sl.next a b = if 0 < sl.worth a ∧ sl.worth b ≤ sl.worth a then 1 else 0 := rfl
  obtain ⟨x, hx⟩ : ∃ x, sl.worth a = x := ⟨_, rfl⟩
  obtain ⟨y, hy⟩ : ∃ y, sl.worth b = y := ⟨_, rfl⟩
  rw [hx, hy] at hn
  rw [hx] at HA
  rw [hy] at HB
  obtain ⟨R, hR⟩ : ∃ R, sl.next a b = R := ⟨_, rfl⟩
  rw [hR] at hn ⊢
  have HN := Lib.hid hn
  have HW1 := Lib.hid hW1
  have iA := info_blk' ha
  have iB := info_blk' hb
  clear hR hx hy r0 b0 hn hW1
  go_enter Tryd.func50, Tryd.ntmps50
  go_wp2_with fail
  rw [HW1.out]
  have r01' : W1.drew.heap[w.heap.size]? = some (.cells (dk.cells a).toArray 62) := r01
  have r1' : W1.drew.heap[w.heap.size + 1]? = some (.cells (dk.cells b).toArray 62) := r1
  have b1' : Below w.heap.size w W1.drew := b1.drew
  have hs1 : w.heap.size + 1 < W1.drew.heap.size := hl1
  clear r01 r1
  refine wp_region_held_drew (S := fun W => W.heap[w.heap.size]? = some (.cells (dk.cells a).toArray 62) ∧ W.heap[w.heap.size + 1]? = some (.cells (dk.cells b).toArray 62)) (by kernel_rfl) ⟨r01', r1'⟩ (fun hHeld => ?_)
  refine wpAnyH_take (i := 0) (v := dk.val a) rfl (by kernel_rfl) (by kernel_rfl) (by kernel_rfl) (fun _ _ _ h => h) (yieldsIf_load_mid (by rfl) 62 (.tmp 2) rfl (w.heap.size) (0) rfl (dk.cells a) _ (fun w h => blk_range h.1) uB rfl iA) hHeld ?_
  simp only [List.getElem_toArray, List.getElem_cons_zero, Act.put, List.setIfInBounds_toArray, List.set_cons_zero, List.set_cons_succ]
  refine wpAnyH_take (i := 2) (v := dk.val b) rfl (by kernel_rfl) (by kernel_rfl) (by kernel_rfl) (fun _ _ _ h => h) (yieldsIf_load_mid (by rfl) 62 (.tmp 3) rfl (w.heap.size + 1) (0) rfl (dk.cells b) _ (fun w h => blk_range h.2) uB rfl iB) hHeld ?_
  simp only [List.getElem_toArray, List.getElem_cons_zero, List.getElem_cons_succ, Act.put, List.setIfInBounds_toArray, List.set_cons_zero, List.set_cons_succ]
  refine wpAnyH_ready (rs := [1]) (by kernel_rfl) (by simp) ?_
  refine AllReadyH.cons rfl (fun K hK => ?_) AllReadyH.nil
  rw [if_pos (by rfl)]
  go_simp
  refine (HA.out _ (ht.below b1')).mono ?_
  rintro e w2 ⟨rfl, b2⟩
  have b12 := b1'.trans (b2.mono b1'.size)
  refine hK.out _ _ ⟨(b2.block _ (by omega)).trans hHeld.1, (b2.block _ hs1).trans hHeld.2⟩ (fun hHeld => ?_)
  clear hK K
  refine wpAnyH_ready (rs := [3]) (by kernel_rfl) (by simp) ?_
  refine AllReadyH.cons rfl (fun K hK => ?_) AllReadyH.nil
  rw [if_pos (by rfl)]
  go_simp
  refine (HB.out _ (ht.below b12)).mono ?_
  rintro e w3 ⟨rfl, b3⟩
  have b13 := b12.trans (b3.mono b12.size)
  refine hK.out _ _ ⟨(b3.block _ (by have := b2.size; omega)).trans hHeld.1, (b3.block _ (Nat.lt_of_lt_of_le hs1 b2.size)).trans hHeld.2⟩ (fun hHeld => ?_)
  clear hK K
  refine wpAnyH_take (i := 4) (v := ?_) rfl (by kernel_rfl) (by kernel_rfl) (by kernel_rfl) (fun _ _ _ h => h) (Or.inl ⟨by rfl, ?_⟩) hHeld ?_
  rotate_left
  · intro w hSw; clear hSw; go_simp; try rfl
  simp only [List.getElem_toArray, List.getElem_cons_zero, List.getElem_cons_succ, Act.put, List.setIfInBounds_toArray, List.set_cons_zero, List.set_cons_succ]
  refine wpAnyH_take (i := 5) (v := ?_) rfl (by kernel_rfl) (by kernel_rfl) (by kernel_rfl) (fun _ _ _ h => h) (Or.inl ⟨by rfl, ?_⟩) hHeld ?_
  rotate_left
  · intro w hSw; clear hSw; go_simp; try rfl
  simp only [List.getElem_toArray, List.getElem_cons_zero, List.getElem_cons_succ, Act.put, List.setIfInBounds_toArray, List.set_cons_zero, List.set_cons_succ]
  refine wpAnyH_done (by kernel_rfl) ?_ _
  clear hHeld
  by_cases h0 : x = 0
  · have h0' : ((x : Int) == 0) = true := by simp [h0]
    have hr := HN.out
    rw [if_neg (by omega)] at hr
    have HX := Lib.hid hr
    clear hr HN h0
    go_wp2_with fail
    go_ret
    exact ⟨by rw [HX.out]; rfl, b13⟩
  · have h0' : ((x : Int) == 0) = false := by simp [h0]
    by_cases h1 : x < y
    · have hr := HN.out
      rw [if_neg (by omega)] at hr
      have HX := Lib.hid hr
      clear hr HN
      go_wp2_with fail
      go_ret
      exact ⟨by rw [HX.out]; rfl, b13⟩
    · have hr := HN.out
      rw [if_pos (by omega)] at hr
      have HX := Lib.hid hr
      clear hr HN
      go_wp2_with fail
      go_ret
      exact ⟨by rw [HX.out]; rfl, b13⟩
set_option maxHeartbeats 4000000 in
set_option maxRecDepth 100000 in
theorem cj_next (a b : dk.Blk) (ha : a.length = 128) (hb : b.length = 128) (w : World) (ht : Tabs w) : Calls Tryd.prog 33 #[dk.val a, dk.val b] w fun e w' =>
    e = .returned (.tuple #[.int .u64 (jn.nx a b).1, .int .i64 (jn.nx a b).2]) ∧ Below w.heap.size w w' := by
  obtain ⟨hzh, -⟩ := zero_of_info info_head
  have r0 := heap_alloc_new w (.cells (dk.cells a).toArray 62)
  have b0 : Below w.heap.size w (w.alloc (.cells (dk.cells a).toArray 62)) := (Below.refl _ _).alloc (Nat.le_refl _) _
  have r1 := heap_alloc_new (w.alloc (.cells (dk.cells a).toArray 62)) (.cells (dk.cells b).toArray 62)
  have b1 := b0.alloc b0.size (.cells (dk.cells b).toArray 62)
  have r01 := (Below.heap_alloc (w.alloc (.cells (dk.cells a).toArray 62)) (.cells (dk.cells b).toArray 62) w.heap.size (by simp)).trans r0
  rw [show (w.alloc (.cells (dk.cells a).toArray 62)).heap.size = w.heap.size + 1 from by simp] at r1
  obtain ⟨W1, hW1⟩ : ∃ W1, (w.alloc (.cells (dk.cells a).toArray 62)).alloc (.cells (dk.cells b).toArray 62) = W1 := ⟨_, rfl⟩
  rw [hW1] at r1 r01 b1
  have hl1 : w.heap.size + 1 < W1.heap.size := (Array.getElem?_eq_some_iff.1 r1).1
  have ga := blk_range r01
  have gb := blk_range r1
  have HN := Lib.hid (ch_newest a b ha hb W1 (ht.below b1))
  have HP := Lib.hid (fun W hT => cj_place a b ha hb W hT)
  have hNl := jn.newest_lt a b
  obtain ⟨N, hN⟩ : ∃ e, (hd.newest a b).1 = e := ⟨_, rfl⟩
  obtain ⟨k, hk⟩ : ∃ e, (hd.newest a b).2.1 = e := ⟨_, rfl⟩
  obtain ⟨f, hf⟩ : ∃ e, (hd.newest a b).2.2 = e := ⟨_, rfl⟩
  have HNX := Lib.hid (show jn.nx a b = (N + 1, sl.next a b) by rw [jn.next_ok, hN])
  rw [hN, hk, hf] at HN
  rw [hN] at hNl
  obtain ⟨R, hR⟩ : ∃ R, jn.nx a b = R := ⟨_, rfl⟩
  rw [hR] at HNX ⊢
  obtain ⟨M, hM⟩ : ∃ e, sl.next a b = e := ⟨_, rfl⟩
  rw [hM] at HNX HP
  clear hN hk hf hR hM r0 b0
  go_enter Tryd.func33, Tryd.ntmps33
  go_wp2_with (first
    | refine wp_ld (.tmp 2) a ga ha rfl rfl rfl ?_
    | refine wp_ld (.tmp 3) b gb hb rfl rfl rfl ?_)
  refine HN.out.mono ?_
  rintro e w2 ⟨rfl, b2⟩
  have b12 := b1.trans (b2.mono b1.size)
  have r2 := (b2.block _ (show w.heap.size < W1.heap.size by omega)).trans r01
  have r3 := (b2.block _ hl1).trans r1
  have n2 := HM.new w2 51 hd.zero
  obtain ⟨X2, hX2⟩ : ∃ X, w2.heap.size = X := ⟨_, rfl⟩
  rw [hX2] at n2
  have hs2 := b2.size
  have ht2 := ht.below b12
  clear HN ga gb r01 r1 hW1
  go_wp2_with (first
    | (refine wp_sth (.tmp 7) (.tmp 14) k hd.zero n2 rfl rfl rfl rfl ?_; intro w3 n3 c3; rw [← hX2] at c3; have b3 := new_chg c3; have b13 := b12.trans (b3.mono b12.size); have ga3 := blk_range ((b3.block _ (show w.heap.size < w2.heap.size by omega)).trans r2); have gb3 := blk_range ((b3.block _ (show w.heap.size + 1 < w2.heap.size by omega)).trans r3); have ht3 := ht2.below b3; clear n2)
    | refine wp_ld (.tmp 2) a ga3 ha rfl rfl rfl ?_
    | refine wp_ld (.tmp 3) b gb3 hb rfl rfl rfl ?_)
  refine (HP.out _ ht3).mono ?_
  rintro e w4 ⟨rfl, b4⟩
  have b14 := b13.trans (b4.mono b13.size)
  clear HP ga3 gb3 c3 n3 b3 b13 ht3 hX2
  go_wp2_with fail
  go_ret2
  exact ⟨by rw [HNX.out]; rfl, b14⟩
end Go.Proofs.YtknndmhkfonfmaaDoor

/-
  THE PROGRAM's journal: steps are taken, and a head is laid behind them.
-/
namespace Go.Proofs.YtknndmhkfonfmaaDoor
open Go.RowKit Go.Shelf
variable {w w' : World} {F : List Nat} {d : Value} {s : dk.St}
/-- a journal in memory: the disk, and the head that it goes by -/
def JM (w : World) (p : Nat) (d : Value) (k : hd.H) : Prop := w.heap[p]? = some (.cells #[d, bv k.bank, .int .u32 k.blocks, .int .u32 k.batches] 53 (0, 0))
namespace JM
variable {p : Nat} {k : hd.H}
theorem lt (m : JM w p d k) : p < w.heap.size := (Array.getElem?_eq_some_iff.1 m).1
theorem c0 (m : JM w p d k) : w.cell? ⟨p, 0, none⟩ = some d := by rw [cell_of_row _ _ 0 _ _ _ m]; rfl
theorem c1 (m : JM w p d k) : w.cell? ⟨p, 1, none⟩ = some (bv k.bank) := by rw [cell_of_row _ _ 1 _ _ _ m]; rfl
theorem c2 (m : JM w p d k) : w.cell? ⟨p, 2, none⟩ = some (.int .u32 k.blocks) := by rw [cell_of_row _ _ 2 _ _ _ m]; rfl
theorem c3 (m : JM w p d k) : w.cell? ⟨p, 3, none⟩ = some (.int .u32 k.batches) := by rw [cell_of_row _ _ 3 _ _ _ m]; rfl
theorem below {B : Nat} (m : JM w p d k) (hb : Below B w w') (hp : p < B) : JM w' p d k := (hb.block p hp).trans m
theorem chg {G : List Nat} (m : JM w p d k) (hc : Chg w w' G) (hp : p ∉ G) : JM w' p d k := (hc.block p m.lt hp).trans m
theorem range (m : JM w p d k) : w.rangeAt p 1 (hd.cells k) := range_of m 1 _ fun j v hj => by
  rw [Nat.add_comm]
  exact hj
end JM
section
variable {ops : Array Oper} {rest : List Oper} {o : Oper} {a : Act} {w : World} {Q : Exit → Act → World → Prop}
/-- the head of a journal is loaded -/
theorem wp_ldj (x : Operand) (k : hd.H) {p : Nat} (m : JM w p d k) (hgd : o.guard = none) (ho : o.op = .load 51 x) (hx : a.eval x = .pointer (some ⟨p, 1, none⟩))
    (hk : wpList Tryd.prog ops Q rest (a.put o.dst (hd.val k)) w) : wpList Tryd.prog ops Q (o :: rest) a w :=
  wpList_load_mid hgd _ x ho p 1 hx _ _ m.range Tryd.underlying51 rfl head_size hk
/-- the head of a journal is stored -/
theorem wp_stj (x y : Operand) (k old : hd.H) {p : Nat} (m : JM w p d old) (hgd : o.guard = none) (ho : o.op = .store 51 x y) (hx : a.eval x = .pointer (some ⟨p, 1, none⟩)) (hy : a.eval y = hd.val k)
    (hk : ∀ W, JM W p d k → Chg w W [p] → wpList Tryd.prog ops Q rest (a.put o.dst undef) W) : wpList Tryd.prog ops Q (o :: rest) a w := by
  have h2 := block_sets (hd.cells k) 1 [d, bv old.bank, .int .u32 old.blocks, .int .u32 old.batches] w m (by simp)
  refine wpList_store_mid hgd _ x y ho p 1 (hd.cells k).toArray hx hy ?_ (by simpa using head_size) (all_oneCell_toArray (by intro v hv; simp at hv; rcases hv with rfl | rfl | rfl <;> rfl)) ?_
  · have := there_of (cs := [d, bv old.bank, .int .u32 old.blocks, .int .u32 old.batches]) m 1 3 (by simp)
    simpa using this
  · exact hk _ h2 (Chg.setCells p _ _ _)
end
section
variable {o : Oper} {a : Act} {w : World} {K : Act → World → Prop} {Q : Exit → Act → World → Prop}
theorem wpo_bs1 (x : Operand) (b : dk.Blk) (hb : b.length = 128) (ho : o.op = .buildSlice 45 1 #[(0, x)]) (hx : a.eval x = dk.val b)
    (h : K (a.put o.dst (.slice (some ⟨w.heap.size, 0, none⟩) 1 1)) (w.alloc (.cells (dk.cells b).toArray 62))) : o.wp Tryd.prog a w K Q := by
  obtain ⟨i0, hi0, hz0, hs0, _⟩ := info_parts5 info_blk3'
  refine wp_buildSlice 45 62 1 _ ho (dk.cells b).toArray i0 _ Tryd.underlying45 hi0 hz0 (by rw [hs0]; omega) (by rw [hs0]; omega) ?_ h
  rw [hs0]
  simp only [List.map_toArray, List.map_cons, List.map_nil, hx]
  exact fill_blk b hb _ (by rw [Array.size_map, Array.size_range])
theorem wpo_apf (x y : Operand) {v : Value} {n m c : Nat} {xs ys : List Value} {B base : Nat} (hown : w.ownsRow base 59 1 v n xs) (hbase : base ≤ w.heap.size) (hB : ∀ j u, ys[j]? = some u → w.cell? ⟨B, j, none⟩ = some u) (hy1 : ∀ u ∈ ys, u.oneCell' = true) (hyl : ys.length = m) (hm : 0 < m) (hn : n + m ≤ 1048576)
    (ho : o.op = .call { callee := .builtin .append, args := #[x, y], argTypes := #[57, 57] }) (hx : a.eval x = v) (hy : a.eval y = .slice (some ⟨B, 0, none⟩) m c)
    (h : ∀ g cap W', W'.ownsRow base 59 1 (.slice (some ⟨g, 0, none⟩) (n + m) cap) (n + m) (xs ++ ys) → w.grownBy W' v.ownBlock → (v.ownBlock = some g ∨ g = w.heap.size) → g < W'.heap.size → K (a.put o.dst (.slice (some ⟨g, 0, none⟩) (n + m) cap)) W') : o.wp Tryd.prog a w K Q := by
  obtain ⟨i0, hi0, hz0, hs0, hb0⟩ := info_parts24 info_fn
  refine wp_append_lies w x y 57 ho base 59 i0 _ 1 8 Tryd.underlying57 hi0 hz0 hs0 hb0 rfl (by omega) v n xs hx hown ⟨B, 0, none⟩ m c ys hy (by omega) ?_ hy1 hm (by rw [maxLen_eq]; omega) (by omega) hbase _ rfl h
  intro j u hj
  have hadd : (⟨B, 0, none⟩ : Addr).add j = ⟨B, j, none⟩ := by unfold Addr.add; split <;> simp_all
  rw [hadd]
  exact hB j u hj
end
/-- what lay comes to: the steps, the head, a flush -/
def jn.layOps (a b : jn.Blk) (L : List jn.Op) (h : hd.H) : List jn.Op := L ++ [.wr (jn.nx a b).2.toNat (hd.put (jn.nx a b).1 h).1, .fl]
set_option maxHeartbeats 8000000 in
set_option maxRecDepth 100000 in
theorem cj_lay {p q g m c gn cn : Nat} {k : hd.H} {fs : List FV} {L : List jn.Op} (hd0 : d = .pointer (some ⟨q, 0, none⟩)) (hm : JM w p d k) (hpF : p ∉ F)
    (hown : w.ownsRow 0 59 1 (.slice (some ⟨g, 0, none⟩) m c) m (fs.map FV.val)) (hgF : g ∉ F) (hgp : g ≠ p) (hst : StepsOf w F d fs L) (hfm : fs.length = m) (hmm : m ≤ 524288)
    {a b : dk.Blk} (hnow : BlS w (some ⟨gn, 0, none⟩) 2 cn [a, b]) (hD : CD w F d s) (ht : Tabs w) {h : hd.H} (hok : h.Ok) (hput : (hd.put (jn.nx a b).1 h).2 = 0) (hf : s.many + m + 2 < 1048576 ∧ s.L.length + m + 2 < 1048576) :
    Calls Tryd.prog 21 #[.pointer (some ⟨p, 0, none⟩), .slice (some ⟨g, 0, none⟩) m c, .slice (some ⟨gn, 0, none⟩) 2 cn, hd.val h] w fun e w' =>
      ∃ F', e = .returned (.int .i64 (jn.runOps s (jn.layOps a b L h)).1) ∧ CD w' F' d (jn.runOps s (jn.layOps a b L h)).2 ∧ JM w' p d (if (jn.runOps s (jn.layOps a b L h)).1 = 0 then h else k) ∧ Chg w w' (g :: p :: F) ∧ Sub w F' F := by
  subst hd0
  obtain ⟨hz, -⟩ := zero_of_info zero_blk
  have ha := hnow.lens a (by simp)
  have hb := hnow.lens b (by simp)
  obtain ⟨gn', egn, hgnl, hrng⟩ := hnow.has (by omega)
  injection egn with egn
  injection egn with egn _
  subst egn
  have ra := hrng 0 (by simp)
  have rb := hrng 1 (by simp)
  simp only [List.getElem_cons_zero, List.getElem_cons_succ, Nat.zero_mul, Nat.one_mul] at ra rb
  have hcn := hnow.cap
  have hcn2 := hnow.max
  have uB := Tryd.underlying62
  have iA := info_blk' ha
  have iB := info_blk' hb
  have m1 := HM.new w 51 h
  have b1 : Below w.heap.size w (w.alloc (.cells #[bv h.bank, .int .u32 h.blocks, .int .u32 h.batches] 51)) := (Below.refl _ _).alloc (Nat.le_refl _) _
  have b1d := b1.drew
  obtain ⟨W1, hW1⟩ : ∃ W1, (w.alloc (.cells #[bv h.bank, .int .u32 h.blocks, .int .u32 h.batches] 51)) = W1 := ⟨_, rfl⟩
  rw [hW1] at m1 b1 b1d
  obtain ⟨H, hH⟩ : ∃ H, w.heap.size = H := ⟨_, rfl⟩
  rw [hH] at m1
  have HNX := Lib.hid (fun W (hb' : Below w.heap.size w W) => cj_next a b ha hb W (ht.below hb'))
  have HPUT := Lib.hid (fun W (hb' : Below w.heap.size w W) => ch_put (jn.nx a b).1 (jn.nx_lt a b) h hok W (ht.below hb'))
  rw [hput] at HPUT
  have hXl := hd.put_len (jn.nx a b).1 h
  have hpos := jn.nx_pos a b
  have hops : jn.layOps a b L h = L ++ [.wr (jn.nx a b).2.toNat (hd.put (jn.nx a b).1 h).1, .fl] := rfl
  obtain ⟨N, hN⟩ : ∃ N, (jn.nx a b).1 = N := ⟨_, rfl⟩
  obtain ⟨at_, hat⟩ : ∃ t, (jn.nx a b).2.toNat = t := ⟨_, rfl⟩
  rw [hat] at hpos hops
  obtain ⟨hp1, hp2⟩ := hpos
  rw [hN, hp1] at HNX
  rw [hN] at HPUT hXl hops
  generalize (hd.put N h).1 = X at *
  rw [hops]
  obtain ⟨r, hr⟩ : ∃ r, (jn.runOps s (L ++ [.wr at_ X, .fl])).1 = r := ⟨_, rfl⟩
  obtain ⟨t, ht2⟩ : ∃ t, (jn.runOps s (L ++ [.wr at_ X, .fl])).2 = t := ⟨_, rfl⟩
  rw [hr, ht2]
  obtain ⟨R, hR⟩ : ∃ R, (if r = 0 then h else k) = R := ⟨_, rfl⟩
  rw [hR]
  have HR := Lib.hid hR
  have HRT := Lib.hid (And.intro hr ht2)
  have hHw : w.heap.size ≤ H := by omega
  clear hops hr ht2 hR
  clear hN hat hp1 hput hrng hnow
  have S1 := b1.drew
  go_enter Tryd.func21, Tryd.ntmps21
  go_wp2_with fail
  refine wp_region_held_drew (S := fun W => W.rangeAt gn 0 (dk.cells a) ∧ W.rangeAt gn 128 (dk.cells b)) (by kernel_rfl) ⟨dk.range_below ra b1d, dk.range_below rb b1d⟩ (fun hHeld => ?_)
  refine wpAnyH_take (i := 0) (v := ?_) rfl (by kernel_rfl) (by kernel_rfl) (by kernel_rfl) (fun _ _ _ h => h) (Or.inl ⟨by rfl, ?_⟩) hHeld ?_
  rotate_left
  · intro w hSw; clear hSw; go_simp; try rfl
  simp only [List.getElem_toArray, List.getElem_cons_zero, Act.put, List.setIfInBounds_toArray, List.set_cons_zero, List.set_cons_succ]
  refine wpAnyH_take (i := 1) (v := ?_) rfl (by kernel_rfl) (by kernel_rfl) (by kernel_rfl) (fun _ _ _ h => h) (Or.inl ⟨by rfl, ?_⟩) hHeld ?_
  rotate_left
  · intro w hSw; clear hSw; go_simp; try rfl
  simp only [List.getElem_toArray, List.getElem_cons_zero, List.getElem_cons_succ, Act.put, List.setIfInBounds_toArray, List.set_cons_zero, List.set_cons_succ]
  refine wpAnyH_take (i := 2) (v := dk.val a) rfl (by kernel_rfl) (by kernel_rfl) (by kernel_rfl) (fun _ _ _ h => h) (yieldsIf_load_mid (by rfl) 62 (.tmp 16) rfl gn (0) rfl (dk.cells a) _ (fun w h => h.1) uB rfl iA) hHeld ?_
  simp only [List.getElem_toArray, List.getElem_cons_zero, List.getElem_cons_succ, Act.put, List.setIfInBounds_toArray, List.set_cons_zero, List.set_cons_succ]
  refine wpAnyH_take (i := 3) (v := ?_) rfl (by kernel_rfl) (by kernel_rfl) (by kernel_rfl) (fun _ _ _ h => h) (Or.inl ⟨by rfl, ?_⟩) hHeld ?_
  rotate_left
  · intro w hSw; clear hSw; go_simp; try rfl
  simp only [List.getElem_toArray, List.getElem_cons_zero, List.getElem_cons_succ, Act.put, List.setIfInBounds_toArray, List.set_cons_zero, List.set_cons_succ]
  refine wpAnyH_take (i := 4) (v := ?_) rfl (by kernel_rfl) (by kernel_rfl) (by kernel_rfl) (fun _ _ _ h => h) (Or.inl ⟨by rfl, ?_⟩) hHeld ?_
  rotate_left
  · intro w hSw; clear hSw; go_simp; try rfl
  simp only [List.getElem_toArray, List.getElem_cons_zero, List.getElem_cons_succ, Act.put, List.setIfInBounds_toArray, List.set_cons_zero, List.set_cons_succ]
  refine wpAnyH_take (i := 5) (v := dk.val b) rfl (by kernel_rfl) (by kernel_rfl) (by kernel_rfl) (fun _ _ _ h => h) (yieldsIf_load_mid (by rfl) 62 (.tmp 19) rfl gn (128) rfl (dk.cells b) _ (fun w h => h.2) uB rfl iB) hHeld ?_
  simp only [List.getElem_toArray, List.getElem_cons_zero, List.getElem_cons_succ, Act.put, List.setIfInBounds_toArray, List.set_cons_zero, List.set_cons_succ]
  refine wpAnyH_ready (rs := [6]) (by kernel_rfl) (by simp) ?_
  refine AllReadyH.cons rfl (fun K hK => ?_) AllReadyH.nil
  rw [if_pos (by rfl)]
  go_simp
  refine (HNX.out _ b1d).mono ?_
  rintro e w2 ⟨rfl, b2⟩
  have m2 := (HM.drew m1).below b2 (HM.drew m1).lt
  have b12 := b1d.trans (b2.mono b1d.size)
  refine hK.out _ _ ⟨dk.range_below hHeld.1 b2, dk.range_below hHeld.2 b2⟩ (fun hHeld => ?_)
  clear hK K
  refine wpAnyH_take (i := 7) (v := ?_) rfl (by kernel_rfl) (by kernel_rfl) (by kernel_rfl) (fun _ _ _ h => h) (Or.inl ⟨by rfl, ?_⟩) hHeld ?_
  rotate_left
  · intro w hSw; clear hSw; go_simp; try rfl
  simp only [List.getElem_toArray, List.getElem_cons_zero, List.getElem_cons_succ, Act.put, List.setIfInBounds_toArray, List.set_cons_zero, List.set_cons_succ]
  refine wpAnyH_take (i := 8) (v := ?_) rfl (by kernel_rfl) (by kernel_rfl) (by kernel_rfl) (fun _ _ _ h => h) (Or.inl ⟨by rfl, ?_⟩) hHeld ?_
  rotate_left
  · intro w hSw; clear hSw; go_simp; try rfl
  simp only [List.getElem_toArray, List.getElem_cons_zero, List.getElem_cons_succ, Act.put, List.setIfInBounds_toArray, List.set_cons_zero, List.set_cons_succ]
  refine wpAnyH_take (i := 9) (v := ?_) rfl (by kernel_rfl) (by kernel_rfl) (by kernel_rfl) (fun _ _ _ h => h) (Or.inl ⟨by rfl, ?_⟩) hHeld ?_
  rotate_left
  · intro w hSw; clear hSw; go_simp; try rfl
  simp only [List.getElem_toArray, List.getElem_cons_zero, List.getElem_cons_succ, Act.put, List.setIfInBounds_toArray, List.set_cons_zero, List.set_cons_succ]
  refine wpAnyH_take (i := 10) (v := ?_) rfl (by kernel_rfl) (by kernel_rfl) (by kernel_rfl) (fun _ _ _ h => h) (Or.inl ⟨by rfl, ?_⟩) hHeld ?_
  rotate_left
  · intro w hSw; clear hSw; go_simp; try rfl
  simp only [List.getElem_toArray, List.getElem_cons_zero, List.getElem_cons_succ, Act.put, List.setIfInBounds_toArray, List.set_cons_zero, List.set_cons_succ]
  refine wpAnyH_take (i := 11) (v := ?_) rfl (by kernel_rfl) (by kernel_rfl) (by kernel_rfl) (fun _ _ _ h => h) (Or.inl ⟨by rfl, ?_⟩) hHeld ?_
  rotate_left
  · intro w hSw; clear hSw; go_simp; try rfl
  simp only [List.getElem_toArray, List.getElem_cons_zero, List.getElem_cons_succ, Act.put, List.setIfInBounds_toArray, List.set_cons_zero, List.set_cons_succ]
  refine wpAnyH_done (by kernel_rfl) ?_ _
  clear HNX b1 b1d S1 m1 hW1 b2 hHeld
  go_wp2_with (refine wp_ldh (.tmp 7) h m2 rfl rfl rfl ?_)
  refine (HPUT.out w2 b12).mono ?_
  rintro e w3 ⟨rfl, b3⟩
  have b13 := b12.trans (b3.mono b12.size)
  have m3 := m2.below b3 m2.lt
  have n3 := heap_alloc_new w3 (.cells (dk.cells dk.zero).toArray 62)
  obtain ⟨X3, hX3⟩ : ∃ X, w3.heap.size = X := ⟨_, rfl⟩
  rw [hX3] at n3
  clear HPUT b12 m2
  go_wp2_with (refine wp_st0 (.tmp 11) (.tmp 28) X n3 zero_len hXl rfl rfl rfl rfl ?_; intro w4 n4 c4; rw [← hX3] at c4; have b4 := new_chg c4; have b14 := b13.trans (b4.mono b13.size); have m4 := m3.below b4 m3.lt; clear n3 m3)
  have hX3l : w.heap.size ≤ X3 := by have := b13.size; omega
  have b14d := b14.drew
  have hm4 : JM w4.drew p (.pointer (some ⟨q, 0, none⟩)) k := hm.below b14d hm.lt
  have n4d : w4.drew.heap[X3]? = some (.cells (dk.cells X).toArray 62 (0, 0)) := n4
  have m4d := HM.drew m4
  have iX := info_blk' hXl
  have own4 := own_keepB (w' := w4.drew) hown (fun k' hk' => b14d.block k' (own_lt hown k' hk'))
  have st4 := hst.below b14d
  have hF4 : Ther w4.drew F := hD.there.mono b14d.size
  clear n4 m4 c4 b4 b14 b13 b3 hX3 hH
  refine wp_region_held_drew (S := fun W => JM W p (.pointer (some ⟨q, 0, none⟩)) k ∧ W.heap[X3]? = some (.cells (dk.cells X).toArray 62 (0, 0))) (by kernel_rfl) ⟨hm4, n4d⟩ (fun hHeld => ?_)
  generalize w4.drew = wd at *
  refine wpAnyH_take (i := 0) (v := ?_) rfl (by kernel_rfl) (by kernel_rfl) (by kernel_rfl) (fun _ _ _ h => h) (Or.inl ⟨by rfl, ?_⟩) hHeld ?_
  rotate_left
  · intro w hSw; clear hSw; go_simp; try rfl
  simp only [List.getElem_toArray, List.getElem_cons_zero, Act.put, List.setIfInBounds_toArray, List.set_cons_zero, List.set_cons_succ]
  refine wpAnyH_take (i := 1) (v := ?_) rfl (by kernel_rfl) (by kernel_rfl) (by kernel_rfl) (fun _ _ _ h => h) (Or.inl ⟨by rfl, ?_⟩) hHeld ?_
  rotate_left
  · intro w hSw; clear hSw; go_simp; try rfl
  simp only [List.getElem_toArray, List.getElem_cons_zero, List.getElem_cons_succ, Act.put, List.setIfInBounds_toArray, List.set_cons_zero, List.set_cons_succ]
  refine wpAnyH_take (i := 2) (v := ?_) rfl (by kernel_rfl) (by kernel_rfl) (by kernel_rfl) (fun _ _ _ h => h) (Or.inl ⟨by rfl, ?_⟩) hHeld ?_
  rotate_left
  · intro w hSw; clear hSw; go_simp; try rfl
  simp only [List.getElem_toArray, List.getElem_cons_zero, List.getElem_cons_succ, Act.put, List.setIfInBounds_toArray, List.set_cons_zero, List.set_cons_succ]
  refine wpAnyH_take (i := 3) (v := ?_) rfl (by kernel_rfl) (by kernel_rfl) (by kernel_rfl) (fun _ _ _ h => h) (Or.inl ⟨by rfl, ?_⟩) hHeld ?_
  rotate_left
  · intro w hSw; clear hSw; go_simp; try rfl
  simp only [List.getElem_toArray, List.getElem_cons_zero, List.getElem_cons_succ, Act.put, List.setIfInBounds_toArray, List.set_cons_zero, List.set_cons_succ]
  refine wpAnyH_take (i := 4) (v := ?_) rfl (by kernel_rfl) (by kernel_rfl) (by kernel_rfl) (fun _ _ _ h => h) (Or.inl ⟨by rfl, ?_⟩) hHeld ?_
  rotate_left
  · intro w hSw; have c0 := hSw.1.c0; clear hSw; go_simp; try rfl
  simp only [List.getElem_toArray, List.getElem_cons_zero, List.getElem_cons_succ, Act.put, List.setIfInBounds_toArray, List.set_cons_zero, List.set_cons_succ]
  refine wpAnyH_take (i := 5) (v := ?_) rfl (by kernel_rfl) (by kernel_rfl) (by kernel_rfl) (fun _ _ _ h => h) (Or.inl ⟨by rfl, ?_⟩) hHeld ?_
  rotate_left
  · intro w hSw; clear hSw; go_simp; try rfl
  simp only [List.getElem_toArray, List.getElem_cons_zero, List.getElem_cons_succ, Act.put, List.setIfInBounds_toArray, List.set_cons_zero, List.set_cons_succ]
  refine wpAnyH_take (i := 6) (v := dk.val X) rfl (by kernel_rfl) (by kernel_rfl) (by kernel_rfl) (fun _ _ _ h => h) (yieldsIf_load_mid (by rfl) 62 (.tmp 11) rfl X3 (0) rfl (dk.cells X) _ (fun w h => (blk_range h.2)) uB rfl iX) hHeld ?_
  simp only [List.getElem_toArray, List.getElem_cons_zero, List.getElem_cons_succ, Act.put, List.setIfInBounds_toArray, List.set_cons_zero, List.set_cons_succ]
  refine wpAnyH_ready (rs := [7]) (by kernel_rfl) (by simp) ?_
  refine AllReadyH.cons rfl (fun K hK => ?_) AllReadyH.nil
  rw [if_pos (by rfl)]
  refine wpo_bs1 (.tmp 38) X hXl rfl rfl ?_
  have hlX := (Array.getElem?_eq_some_iff.1 hHeld.2).1
  refine hK.out _ _ ⟨hHeld.1.below ((Below.refl _ _).alloc (Nat.le_refl _) _) hHeld.1.lt, (Below.heap_alloc _ _ _ hlX).trans hHeld.2⟩ (fun hHeld => ?_)
  clear hK K
  simp only [List.getElem_toArray, List.getElem_cons_zero, List.getElem_cons_succ, Act.put, List.setIfInBounds_toArray, List.set_cons_zero, List.set_cons_succ]
  have rw5 := heap_alloc_new wd (.cells (dk.cells X).toArray 62)
  have b5 : Below wd.heap.size wd (wd.alloc (.cells (dk.cells X).toArray 62)) := (Below.refl _ _).alloc (Nat.le_refl _) _
  obtain ⟨w5, hw5⟩ : ∃ w5, wd.alloc (.cells (dk.cells X).toArray 62) = w5 := ⟨_, rfl⟩
  rw [hw5] at rw5 b5 hHeld ⊢
  have hbls : BlS w5 (some ⟨wd.heap.size, 0, none⟩) 1 1 [X] := RowBl.bls (l := [X]) (show w5.heap[_]? = _ by rw [rw5]; simp [dk.cellsS]) (by simp; exact hXl) rfl (by omega)
  refine wpAnyH_ready (rs := [8]) (by kernel_rfl) (by simp) ?_
  refine AllReadyH.cons rfl (fun K hK => ?_) AllReadyH.nil
  rw [if_pos (by rfl)]
  go_simp
  refine (cwritten_any q at_ rfl (by omega) hbls (by omega) (hF4.mono b5.size)).mono ?_
  rintro e w6 ⟨g2, cap2, fs2, rfl, own2, st2, b6⟩
  have b56 := b5.trans (b6.mono b5.size)
  have hm6 := hHeld.1.below b6 hHeld.1.lt
  have n6 := (b6.block X3 (Array.getElem?_eq_some_iff.1 hHeld.2).1).trans hHeld.2
  refine hK.out _ _ ⟨hm6, n6⟩ (fun hHeld => ?_)
  clear hK K
  have own6 := own_keepB (w' := w6) own4 (fun k' hk' => b56.block k' (own_lt own4 k' hk'))
  have st6 := st4.below b56
  have hl2 : fs2.length = 2 := st2.1
  refine wpAnyH_ready (rs := [9]) (by kernel_rfl) (by simp) ?_
  refine AllReadyH.cons rfl (fun K hK => ?_) AllReadyH.nil
  rw [if_pos (by rfl)]
  refine wpo_apf (.tmp 32) (.tmp 40) (m := 2) (ys := fs2.map FV.val) own6 (by omega) (fun j u hj => by
    have hj2 : j < 2 := by
      have := (List.getElem?_eq_some_iff.1 hj).1
      rwa [List.length_map, hl2] at this
    rw [own2.cellAt j (by omega)]
    exact hj) (by intro u hu; obtain ⟨y, _, rfl⟩ := List.mem_map.1 hu; rfl) (by rw [List.length_map, hl2]) (by omega) (by omega) rfl rfl rfl ?_
  intro g3 cap3 w7 own7 g7 at7 lt7
  rw [← List.map_append] at own7
  have c67 := Chg.grown g7
  have st7 := (st6.app st2).grown g7 (own_fn own6)
  have hgX : g ≠ X3 := fun e => by
    have := own_lt hown g rfl
    omega
  have hm7 := hm6.chg c67 (by simp [Value.ownBlock]; exact fun e => hgp e.symm)
  have n7 := (c67.block X3 (Array.getElem?_eq_some_iff.1 n6).1 (by simp [Value.ownBlock]; exact fun e => hgX e.symm)).trans n6
  refine hK.out _ _ ⟨hm7, n7⟩ (fun hHeld => ?_)
  clear hK K
  refine wpAnyH_take (i := 10) (v := ?_) rfl (by kernel_rfl) (by kernel_rfl) (by kernel_rfl) (fun _ _ _ h => h) (Or.inl ⟨by rfl, ?_⟩) hHeld ?_
  rotate_left
  · intro w hSw; clear hSw; go_simp; try rfl
  simp only [List.getElem_toArray, List.getElem_cons_zero, List.getElem_cons_succ, Act.put, List.setIfInBounds_toArray, List.set_cons_zero, List.set_cons_succ]
  refine wpAnyH_done (by kernel_rfl) ?_ _
  have hD6 := (hD.below b14d).below b56
  have hF6 : Ther w6 F := hF4.mono b56.size
  have hD7 : CD w7 F (.pointer (some ⟨q, 0, none⟩)) s := hD6.keep (c67.same (fun x hx => by simp only [Value.ownBlock, Option.toList_some, List.mem_singleton] at hx; rw [hx]; exact hgF) hF6)
  have hg3F : g3 ∉ F := by
    rcases at7 with e | e
    · simp only [Value.ownBlock, Option.some.injEq] at e
      rw [← e]; exact hgF
    · rw [e]; exact fun hm => Nat.lt_irrefl _ (hF6 _ hm)
  obtain ⟨hcap1, hcap2⟩ : m + 2 ≤ cap3 ∧ cap3 ≤ 9223372036854775807 := by
    rcases own7.2 with ⟨e, _⟩ | ⟨_, _, _, e, _, _, h1, h2, _⟩
    · cases e
    · injection e with _ _ e
      subst e
      exact ⟨h1, by rw [maxLen_eq] at h2; exact h2⟩
  have hlen7 : (fs ++ fs2).length = m + 2 := by rw [List.length_append, hfm, hl2]
  have hrow7 : ∀ i (hi : i < (fs ++ fs2).length), w7.cell? ⟨g3, i, none⟩ = some (fs ++ fs2)[i].val := fun i hi => by
    rw [own7.cellAt i (by omega), List.getElem?_map, List.getElem?_eq_getElem hi]
    rfl
  have hrun := crun_any (L := L ++ [.wr at_ X, .fl]) hlen7 (by rw [← hlen7]; exact st7.1.symm) hcap1 hcap2 hrow7 lt7 hg3F st7.2 hD7 (by omega)
  rw [HRT.out.1, HRT.out.2] at hrun
  have HRUN := Lib.hid hrun
  have c47 : Chg wd w7 [g] := (Chg.of_below b56 [g]).trans c67 (fun x hx => .inl hx)
  have hwl := b14d.size
  have hHl : H < wd.heap.size := m4d.lt
  have hgw : g < w.heap.size := own_lt hown g rfl
  have hgH : H ≠ g := by omega
  have m7 := m4d.chg c47 (by simpa using hgH)
  have hc07 : Chg w w7 (g :: p :: F) := ((Chg.of_below b14d [g]).trans c47 (Sub.refl _ _)).mono (fun x hx => .inl (by simp at hx; simp [hx]))
  have hw7 : w.heap.size ≤ w7.heap.size := hc07.size
  have hHF : H ∉ F := fun hm => by have := hD.there H hm; omega
  have hpw := hm.lt
  have hHp : H ≠ p := by omega
  have hsF : ∀ F', Sub w7 F' F → Sub w F' F := fun F' hs x hx => (hs x hx).imp id (fun e => Nat.le_trans hw7 e)
  clear hrun hD6 hD7 own7 own6 own4 own2 st7 st6 st4 st2 g7 hrow7 hHeld n7 n6 n4d hm4 hm6 b5 b6 b56 c47 c67 rw5 hw5 hbls m4d lt7 hg3F hlen7 at7
  by_cases h0 : r = 0
  · have hR := HR.out
    rw [if_pos h0] at hR
    have hr0 : (r != 0) = false := by simp [h0]
    subst hR
    have H0 := Lib.hid h0
    clear h0
    go_wp2_with fail
    refine HRUN.out.mono ?_
    rintro e w8 ⟨F', rfl, hD8, c8, s8⟩
    have m8 := m7.chg c8 hHF
    have hm8 := hm7.chg c8 hpF
    have hF8 : Ther w8 F' := hD8.there
    have hpF' : p ∉ F' := fun hm => (s8 p hm).elim hpF (by have := hm7.lt; omega)
    clear HRUN
    go_wp2_with (first
      | refine wp_ldh (.tmp 7) h m8 rfl rfl rfl ?_
      | (refine wp_stj (.tmp 50) (.tmp 48) h k hm8 rfl rfl rfl rfl ?_; intro w9 hm9 c9))
    go_ret
    exact ⟨F', by rw [H0.out]; rfl, hD8.keep (c9.same (fun x hx => by simp at hx; rw [hx]; exact hpF') hF8), hm9, ((hc07.trans c8 (fun x hx => .inl (by simp [hx]))).trans c9 (fun x hx => .inl (by simp at hx; simp [hx]))), hsF F' s8⟩
  · have hR := HR.out
    rw [if_neg h0] at hR
    have hr0 : (r != 0) = true := by simp [h0]
    subst hR
    clear h0
    go_wp2_with fail
    refine HRUN.out.mono ?_
    rintro e w8 ⟨F', rfl, hD8, c8, s8⟩
    have hm8 := hm7.chg c8 hpF
    clear HRUN
    go_wp2_with fail
    go_ret
    exact ⟨F', rfl, hD8, hm8, hc07.trans c8 (fun x hx => .inl (by simp [hx])), hsF F' s8⟩
end Go.Proofs.YtknndmhkfonfmaaDoor

/-
  THE PROGRAM's journal: a batch is laid behind those of a head.
-/
namespace Go.Proofs.YtknndmhkfonfmaaDoor
open Go.RowKit Go.Shelf
variable {w w' : World} {F : List Nat} {d : Value} {s : dk.St}
theorem CD.drewN' (h : CD w F d s) (n : Nat) : CD (w.drewN n) F d s := h.keep (fun _ _ => rfl)
theorem JM.drewN {p : Nat} {k : hd.H} (m : JM w p d k) (n : Nat) : JM (w.drewN n) p d k := m
theorem cj_none {p q : Nat} {k : hd.H} (hd0 : d = .pointer (some ⟨q, 0, none⟩)) (m : JM w p d k) : Calls Tryd.prog 24 #[.pointer (some ⟨p, 0, none⟩)] w fun e w' => e = .returned (.bool false) ∧ w = w' := by
  subst hd0
  have c0 := m.c0
  go_enter Tryd.func24, Tryd.ntmps24
  go_wp2_with fail
  go_ret
  exact ⟨rfl, rfl⟩
/-- blocks of other types were written -/
theorem StepsOf.keepT {fs : List FV} {L : List jn.Op} (h : StepsOf w F d fs L) (hk : ∀ (q : Nat) (cs : Array Value) (t : TypeId), w.heap[q]? = some (.cells cs t (0, 0)) → t = 25 ∨ t = 3 ∨ t = 62 → w'.heap[q]? = w.heap[q]?) : StepsOf w' F d fs L :=
  ⟨h.1, fun i hi o ho => by
    have h0 := h.2 i hi o ho
    cases o with
    | fl => exact h0
    | wr n b =>
      obtain ⟨D, T, I, B, a, i, h1, h2, h3, h4, h5, hD, hT, hI, hB, n1, n2, n3, n4⟩ := h0
      exact ⟨D, T, I, B, a, i, h1, h2, h3, h4, h5, (hk _ _ _ hD (.inl rfl)).trans hD, (hk _ _ _ hT (.inr (.inl rfl))).trans hT, (hk _ _ _ hI (.inr (.inl rfl))).trans hI, (hk _ _ _ hB (.inr (.inr rfl))).trans hB, n1, n2, n3, n4⟩⟩
theorem jn.rds_two (s : jn.St) : jn.rds s 0 2 = [jn.rd s 0, jn.rd s 1] := rfl
namespace jn
/-- what a batch laid behind those of a head comes to -/
def addR (s : St) (h : hd.H) (b : List UInt8) : Int × St :=
  if 1048576 < b.length then (3, s) else if s.black then (9, s) else if half s < h.blocks + (blocks b).length then (10, s)
  else runOps s (layOps (rd s 0) (rd s 1) (wrs (first s h.bank + h.blocks) (blocks b) ++ [.fl]) ⟨h.bank, h.blocks + (blocks b).length, h.batches + 1⟩)
end jn
set_option maxHeartbeats 8000000 in
set_option maxRecDepth 100000 in
theorem cj_add {p q : Nat} {k h : hd.H} (hd0 : d = .pointer (some ⟨q, 0, none⟩)) (hm : JM w p d k) (hpF : p ∉ F) (hD : CD w F d s) (ht : Tabs w) (hbk : h.bank.toNat ≤ 1) (hfit : h.blocks ≤ jn.half s) (hba : h.batches ≤ h.blocks)
    {A : Option Addr} {n cp : Nat} {b : List UInt8} (hB : BS w A n cp b) (hmany : s.many + 4200 < 1048576 ∧ s.L.length + 4200 < 1048576)
    (hput : s.black = false → ¬ 1048576 < b.length → ¬ jn.half s < h.blocks + (jn.blocks b).length → (hd.put (jn.nx (jn.rd s 0) (jn.rd s 1)).1 ⟨h.bank, h.blocks + (jn.blocks b).length, h.batches + 1⟩).2 = 0) :
    Calls Tryd.prog 25 #[.pointer (some ⟨p, 0, none⟩), hd.val h, .slice A n cp] w fun e w' =>
      ∃ F', e = .returned (.int .i64 (jn.addR s h b).1) ∧ CD w' F' d (jn.addR s h b).2 ∧ JM w' p d (if (jn.addR s h b).1 = 0 then ⟨h.bank, h.blocks + (jn.blocks b).length, h.batches + 1⟩ else k) ∧ Chg w w' (p :: F) ∧ Sub w F' F := by
  have hok := hD.ok
  have hhalf := jn.half_le hok
  have h64 := hok.some
  have hmost := hok.most
  have hpw := hm.lt
  have hblen := hB.len
  have hbcap := hB.cap
  have hbmax := hB.max
  have hbsm := hB.small
  have m1 := HM.new w 51 h
  have b1 : Below w.heap.size w (w.alloc (.cells #[bv h.bank, .int .u32 h.blocks, .int .u32 h.batches] 51)) := (Below.refl _ _).alloc (Nat.le_refl _) _
  obtain ⟨W1, hW1⟩ : ∃ W1, (w.alloc (.cells #[bv h.bank, .int .u32 h.blocks, .int .u32 h.batches] 51)) = W1 := ⟨_, rfl⟩
  rw [hW1] at m1 b1
  obtain ⟨H, hH⟩ : ∃ H, w.heap.size = H := ⟨_, rfl⟩
  rw [hH] at m1
  have hHw : w.heap.size ≤ H := by omega
  have hm1 := hm.below b1 hm.lt
  have hD1 := hD.below b1
  have hDk := Lib.hid hD
  have hadd : jn.addR s h b = if 1048576 < b.length then (3, s) else if s.black then (9, s) else if jn.half s < h.blocks + (jn.blocks b).length then (10, s)
    else jn.runOps s (jn.layOps (jn.rd s 0) (jn.rd s 1) (jn.wrs (jn.first s h.bank + h.blocks) (jn.blocks b) ++ [.fl]) ⟨h.bank, h.blocks + (jn.blocks b).length, h.batches + 1⟩) := rfl
  have HADD := Lib.hid hadd
  obtain ⟨R, hR⟩ : ∃ R, jn.addR s h b = R := ⟨_, rfl⟩
  rw [hR] at HADD ⊢
  obtain ⟨KK, hKK⟩ : ∃ KK, (if R.1 = 0 then (⟨h.bank, h.blocks + (jn.blocks b).length, h.batches + 1⟩ : hd.H) else k) = KK := ⟨_, rfl⟩
  rw [hKK]
  have HKK := Lib.hid hKK
  clear hadd hR hKK hD
  have c0 := hm1.c0
  have HDARK := Lib.hid (cd_dark hD1)
  obtain ⟨bl, hbl⟩ : ∃ bl, s.black = bl := ⟨_, rfl⟩
  rw [hbl] at HDARK
  by_cases hbig : 1048576 < n
  · have hbig' : (1048576 : Int) < (n : Int) := by omega
    have h1 := HADD.out
    rw [if_pos (by omega)] at h1
    have H1 := Lib.hid h1
    have h2 := HKK.out
    rw [h1, if_neg (show ¬ (3 : Int) = 0 by decide)] at h2
    subst hd0
    subst h2
    clear HADD HDARK hput hbl h1
    go_enter Tryd.func25, Tryd.ntmps25
    go_wp2_with fail
    go_ret
    exact ⟨F, by rw [H1.out]; rfl, by rw [H1.out]; exact hD1, hm1, Chg.of_below b1 _, Sub.refl _ _⟩
  · have hbig' : ¬ (1048576 : Int) < (n : Int) := by omega
    have h1 := HADD.out
    rw [if_neg (by omega)] at h1
    have HADD := Lib.hid h1
    clear h1
    cases bl with
    | true =>
      have h1 := HADD.out
      rw [if_pos hbl] at h1
      have H1 := Lib.hid h1
      have h2 := HKK.out
      rw [h1, if_neg (show ¬ (9 : Int) = 0 by decide)] at h2
      subst hd0
      subst h2
      clear HADD hput hbl h1 hHw
      go_enter Tryd.func25, Tryd.ntmps25
      go_wp2_with fail
      refine HDARK.out.mono ?_
      rintro e w2 ⟨rfl, rfl⟩
      go_wp2_with fail
      go_ret
      exact ⟨F, by rw [H1.out]; rfl, by rw [H1.out]; exact hD1, hm1, Chg.of_below b1 _, Sub.refl _ _⟩
    | false =>
      have h1 := HADD.out
      rw [if_neg (by rw [hbl]; decide)] at h1
      have HADD := Lib.hid h1
      clear h1
      have HROW := Lib.hid (fun W (hb' : Below w.heap.size w W) => row_any A n cp b W (hB.below hb') (by omega))
      have hbl2 := jn.blocks_length b
      have hcp := jn.count_pos b.length
      have hbls := jn.blocks_len b
      have hfb : jn.blocks b = jn.firstB (leBytes n 4 ++ b) (jn.count (n + 4)) := by
        unfold jn.blocks jn.firstB jn.rowOf
        rw [hblen, List.length_append, leBytes_length, hblen, Nat.add_comm 4 n]
      have HFB := Lib.hid hfb
      have hrl : (leBytes n 4 ++ b).length = n + 4 := by rw [List.length_append, leBytes_length, hblen]; omega
      have HRL := Lib.hid hrl
      have HCNT := Lib.hid (show (jn.blocks b).length = jn.count (n + 4) by rw [hbl2, hblen])
      have hcm : (jn.blocks b).length ≤ 8193 := by rw [hbl2, hblen]; unfold jn.count; omega
      have hcm1 : 1 ≤ (jn.blocks b).length := by rw [hbl2]; omega
      obtain ⟨BS_, hBS⟩ : ∃ l, jn.blocks b = l := ⟨_, rfl⟩
      rw [hBS] at HFB HCNT hcm hcm1 hbls HADD HKK hput
      obtain ⟨M, hM⟩ : ∃ M, BS_.length = M := ⟨_, rfl⟩
      rw [hM] at HCNT hcm hcm1 HADD HKK hput
      have HM_ := Lib.hid hM
      have hput := hput hbl (by omega)
      clear hfb hrl hbl2 hcp hBS hM
      have hatl : jn.first s h.bank ≤ 2049 := by
        rw [jn.first]
        have : h.bank.toNat * jn.half s ≤ 1 * 2047 := Nat.mul_le_mul hbk hhalf
        omega
      subst hd0
      have HB0 := Lib.hid hB
      clear hB
      have hww : IntKind.i64.wrap (h.blocks : Int) = (h.blocks : Int) := IntWalk.i64_in _ ⟨by omega, by omega⟩
      have HSIZE := Lib.hid (fun W n (hb' : Below w.heap.size w W) => cj_size ((hDk.out.below hb').drewN' n))
      go_enter Tryd.func25, Tryd.ntmps25
      go_wp2_with fail
      refine HDARK.out.mono ?_
      rintro e w2 ⟨rfl, rfl⟩
      clear HDARK
      go_wp2_with fail
      refine (HROW.out _ b1).mono ?_
      rintro e w2 ⟨v2, rfl, o2, b2⟩
      have b12 := b1.trans (b2.mono b1.size)
      have m2 := m1.below b2 m1.lt
      have hm2 := hm1.below b2 hm1.lt
      rcases o2 with ⟨_, hnil⟩ | ⟨g2, r2, rfl, hg2, ho2, ho3, ho4⟩
      · have := HRL.out
        rw [hnil] at this
        simp at this
      have hB2 : BS w2 (some ⟨g2, 0, none⟩) (leBytes n 4 ++ b).length ((leBytes n 4 ++ b).length + r2.length) (leBytes n 4 ++ b) := OwnB.bs (.inr ⟨g2, r2, rfl, hg2, ho2, ho3, ho4⟩)
      rw [HRL.out] at hB2 ⊢
      generalize n + 4 + r2.length = C2 at *
      generalize leBytes n 4 ++ b = row at *
      clear HROW c0 hm1 m1
      go_wp2_with fail
      refine (cblocks_any g2 (n + 4) C2 row w2 hB2 (by omega) (by omega)).mono ?_
      rintro e w3 ⟨v3, rfl, own3, b3⟩
      rw [← HCNT.out, show jn.firstB row M = BS_ by rw [HFB.out, HCNT.out]] at own3
      obtain ⟨A3, c3, rfl, hbl3⟩ := BlS.of_own own3 hbls HM_.out
      have b13 := b12.trans (b3.mono b12.size)
      have m3 := m2.below b3 m2.lt
      have hm3 := hm2.below b3 hm2.lt
      have k0 := hm3.c0
      have q1 := m3.c1
      clear b1 b12 b2 b3 hB2 ho2 m2 hm2 own3 hW1
      go_wp2_with fail
      go_quiet (first | (go_at_call 29; exact quiet_is (HSIZE.out _ _ b13)))
      have b13q : Below w.heap.size w (w3.drewN nq) := ⟨b13.os, b13.tape, b13.output, b13.size, b13.block⟩
      have m3q : HM 51 (w3.drewN nq) H h := m3
      have hm3q : JM (w3.drewN nq) p (.pointer (some ⟨q, 0, none⟩)) k := hm3
      have hbl3q : BlS (w3.drewN nq) A3 M c3 BS_ := hbl3.below ⟨rfl, rfl, rfl, Nat.le_refl _, fun _ _ => rfl⟩
      have htq := ht.below b13q
      clear b13 m3 hm3 hbl3 k0 q1 HSIZE
      generalize w3.drewN nq = w4 at *
      have hD4 := hDk.out.below b13q
      by_cases hroom : jn.half s < h.blocks + M
      · have hri : (jn.half s : Int) - (h.blocks : Int) < (M : Int) := by omega
        have h1 := HADD.out
        rw [if_pos hroom] at h1
        have H1 := Lib.hid h1
        have h2 := HKK.out
        rw [h1, if_neg (show ¬ (10 : Int) = 0 by decide)] at h2
        subst h2
        clear HADD hput h1
        go_wp2_with fail
        go_ret
        exact ⟨F, by rw [H1.out]; rfl, by rw [H1.out]; exact hD4, hm3q, Chg.of_below b13q _, Sub.refl _ _⟩
      · have hri : ¬ (jn.half s : Int) - (h.blocks : Int) < (M : Int) := by omega
        have h1 := HADD.out
        rw [if_neg hroom] at h1
        have HADD := Lib.hid h1
        have hput := hput hroom
        clear h1
        have k0 := hm3q.c0
        have HREAD := Lib.hid (cj_read 0 2 (by omega) (by omega) hD4 (.inl hbl))
        go_wp2_with fail
        refine HREAD.out.mono ?_
        rintro e w5 ⟨rfl, r5, b5⟩
        have b15 := b13q.trans (b5.mono b13q.size)
        have m5 := m3q.below b5 m3q.lt
        have hm5 := hm3q.below b5 hm3q.lt
        have hbl5 := hbl3q.below b5
        have ht5 := htq.below b5
        have hD5 := hD4.below b5
        have hHgn : H < w4.heap.size := m3q.lt
        generalize w4.heap.size = gn at *
        clear HREAD b5 m3q hm3q hbl3q b13q k0 htq hD4
        go_wp2_with fail
        have b15d := b15.drew
        have m5d := HM.drew m5
        have hm5d : JM w5.drew p (.pointer (some ⟨q, 0, none⟩)) k := hm5
        have r5d : RowBl w5.drew gn (jn.rds s 0 2) := r5
        have hbl5d : BlS w5.drew A3 M c3 BS_ := hbl5.below (Below.refl _ _).drew
        have ht5d : Tabs w5.drew := ht5.below (Below.refl _ _).drew
        have hD5d := hD5.below (Below.refl _ _).drew
        clear b15 m5 hm5 r5 hbl5 ht5 hD5
        refine wp_region_held_drew (S := fun W => JM W p (.pointer (some ⟨q, 0, none⟩)) k ∧ HM 51 W H h) (by kernel_rfl) ⟨hm5d, m5d⟩ (fun hHeld => ?_)
        generalize w5.drew = wd at *
        refine wpAnyH_take (i := 0) (v := ?_) rfl (by kernel_rfl) (by kernel_rfl) (by kernel_rfl) (fun _ _ _ h => h) (Or.inl ⟨by rfl, ?_⟩) hHeld ?_
        rotate_left
        · intro w hSw; clear hSw; go_simp; try rfl
        simp only [List.getElem_toArray, List.getElem_cons_zero, Act.put, List.setIfInBounds_toArray, List.set_cons_zero, List.set_cons_succ]
        refine wpAnyH_take (i := 1) (v := ?_) rfl (by kernel_rfl) (by kernel_rfl) (by kernel_rfl) (fun _ _ _ h => h) (Or.inl ⟨by rfl, ?_⟩) hHeld ?_
        rotate_left
        · intro w hSw; clear hSw; go_simp; try rfl
        simp only [List.getElem_toArray, List.getElem_cons_zero, List.getElem_cons_succ, Act.put, List.setIfInBounds_toArray, List.set_cons_zero, List.set_cons_succ]
        refine wpAnyH_take (i := 2) (v := ?_) rfl (by kernel_rfl) (by kernel_rfl) (by kernel_rfl) (fun _ _ _ h => h) (Or.inl ⟨by rfl, ?_⟩) hHeld ?_
        rotate_left
        · intro w hSw; clear hSw; go_simp; try rfl
        simp only [List.getElem_toArray, List.getElem_cons_zero, List.getElem_cons_succ, Act.put, List.setIfInBounds_toArray, List.set_cons_zero, List.set_cons_succ]
        refine wpAnyH_take (i := 3) (v := ?_) rfl (by kernel_rfl) (by kernel_rfl) (by kernel_rfl) (fun _ _ _ h => h) (Or.inl ⟨by rfl, ?_⟩) hHeld ?_
        rotate_left
        · intro w hSw; have c0 := hSw.1.c0; clear hSw; go_simp; try rfl
        simp only [List.getElem_toArray, List.getElem_cons_zero, List.getElem_cons_succ, Act.put, List.setIfInBounds_toArray, List.set_cons_zero, List.set_cons_succ]
        refine wpAnyH_take (i := 4) (v := ?_) rfl (by kernel_rfl) (by kernel_rfl) (by kernel_rfl) (fun _ _ _ h => h) (Or.inl ⟨by rfl, ?_⟩) hHeld ?_
        rotate_left
        · intro w hSw; clear hSw; go_simp; try rfl
        simp only [List.getElem_toArray, List.getElem_cons_zero, List.getElem_cons_succ, Act.put, List.setIfInBounds_toArray, List.set_cons_zero, List.set_cons_succ]
        refine wpAnyH_take (i := 5) (v := ?_) rfl (by kernel_rfl) (by kernel_rfl) (by kernel_rfl) (fun _ _ _ h => h) (Or.inl ⟨by rfl, ?_⟩) hHeld ?_
        rotate_left
        · intro w hSw; clear hSw; go_simp; try rfl
        simp only [List.getElem_toArray, List.getElem_cons_zero, List.getElem_cons_succ, Act.put, List.setIfInBounds_toArray, List.set_cons_zero, List.set_cons_succ]
        refine wpAnyH_take (i := 6) (v := ?_) rfl (by kernel_rfl) (by kernel_rfl) (by kernel_rfl) (fun _ _ _ h => h) (Or.inl ⟨by rfl, ?_⟩) hHeld ?_
        rotate_left
        · intro w hSw; clear hSw; go_simp; try rfl
        simp only [List.getElem_toArray, List.getElem_cons_zero, List.getElem_cons_succ, Act.put, List.setIfInBounds_toArray, List.set_cons_zero, List.set_cons_succ]
        refine wpAnyH_take (i := 7) (v := ?_) rfl (by kernel_rfl) (by kernel_rfl) (by kernel_rfl) (fun _ _ _ h => h) (Or.inl ⟨by rfl, ?_⟩) hHeld ?_
        rotate_left
        · intro w hSw; have c0 := hSw.1.c0; clear hSw; go_simp; try rfl
        simp only [List.getElem_toArray, List.getElem_cons_zero, List.getElem_cons_succ, Act.put, List.setIfInBounds_toArray, List.set_cons_zero, List.set_cons_succ]
        refine wpAnyH_take (i := 8) (v := ?_) rfl (by kernel_rfl) (by kernel_rfl) (by kernel_rfl) (fun _ _ _ h => h) (Or.inl ⟨by rfl, ?_⟩) hHeld ?_
        rotate_left
        · intro w hSw; clear hSw; go_simp; try rfl
        simp only [List.getElem_toArray, List.getElem_cons_zero, List.getElem_cons_succ, Act.put, List.setIfInBounds_toArray, List.set_cons_zero, List.set_cons_succ]
        refine wpAnyH_take (i := 9) (v := ?_) rfl (by kernel_rfl) (by kernel_rfl) (by kernel_rfl) (fun _ _ _ h => h) (Or.inl ⟨by rfl, ?_⟩) hHeld ?_
        rotate_left
        · intro w hSw; have e0 := hSw.2.c0; clear hSw; go_simp; try rfl
        simp only [List.getElem_toArray, List.getElem_cons_zero, List.getElem_cons_succ, Act.put, List.setIfInBounds_toArray, List.set_cons_zero, List.set_cons_succ]
        refine wpAnyH_take (i := 11) (v := ?_) rfl (by kernel_rfl) (by kernel_rfl) (by kernel_rfl) (fun _ _ _ h => h) (Or.inl ⟨by rfl, ?_⟩) hHeld ?_
        rotate_left
        · intro w hSw; clear hSw; go_simp; try rfl
        simp only [List.getElem_toArray, List.getElem_cons_zero, List.getElem_cons_succ, Act.put, List.setIfInBounds_toArray, List.set_cons_zero, List.set_cons_succ]
        refine wpAnyH_take (i := 12) (v := ?_) rfl (by kernel_rfl) (by kernel_rfl) (by kernel_rfl) (fun _ _ _ h => h) (Or.inl ⟨by rfl, ?_⟩) hHeld ?_
        rotate_left
        · intro w hSw; have e1 := hSw.2.c1; clear hSw; go_simp; try rfl
        simp only [List.getElem_toArray, List.getElem_cons_zero, List.getElem_cons_succ, Act.put, List.setIfInBounds_toArray, List.set_cons_zero, List.set_cons_succ]
        refine wpAnyH_take (i := 13) (v := ?_) rfl (by kernel_rfl) (by kernel_rfl) (by kernel_rfl) (fun _ _ _ h => h) (Or.inl ⟨by rfl, ?_⟩) hHeld ?_
        rotate_left
        · intro w hSw; have hww' := hww; clear hSw; go_simp; try rfl
        simp only [List.getElem_toArray, List.getElem_cons_zero, List.getElem_cons_succ, Act.put, List.setIfInBounds_toArray, List.set_cons_zero, List.set_cons_succ]
        refine wpAnyH_take (i := 15) (v := ?_) rfl (by kernel_rfl) (by kernel_rfl) (by kernel_rfl) (fun _ _ _ h => h) (Or.inl ⟨by rfl, ?_⟩) hHeld ?_
        rotate_left
        · intro w hSw; clear hSw; go_simp; try rfl
        simp only [List.getElem_toArray, List.getElem_cons_zero, List.getElem_cons_succ, Act.put, List.setIfInBounds_toArray, List.set_cons_zero, List.set_cons_succ]
        refine wpAnyH_ready (rs := [10]) (by kernel_rfl) (by simp) ?_
        refine AllReadyH.cons rfl (fun K hK => ?_) AllReadyH.nil
        rw [if_pos (by rfl)]
        go_simp
        refine (cj_at h.bank hD5d).mono ?_
        rintro e w6 ⟨rfl, rfl⟩
        refine hK.out _ _ hHeld (fun hHeld => ?_)
        clear hK K
        have hww2 : IntKind.i64.wrap ((jn.first s h.bank : Int) + (h.blocks : Int)) = (jn.first s h.bank : Int) + (h.blocks : Int) := IntWalk.i64_in _ ⟨by omega, by omega⟩
        refine wpAnyH_take (i := 14) (v := ?_) rfl (by kernel_rfl) (by kernel_rfl) (by kernel_rfl) (fun _ _ _ h => h) (Or.inl ⟨by rfl, ?_⟩) hHeld ?_
        rotate_left
        · intro w hSw; have hai := hww2; clear hSw; go_simp; try rfl
        simp only [List.getElem_toArray, List.getElem_cons_zero, List.getElem_cons_succ, Act.put, List.setIfInBounds_toArray, List.set_cons_zero, List.set_cons_succ]
        have hwr := cwritten_any (F := F) q (jn.first s h.bank + h.blocks) rfl (by omega) hbl5d (by omega) hD5d.there
        rw [Int.natCast_add] at hwr
        have HWR := Lib.hid hwr
        clear hwr
        refine wpAnyH_ready (rs := [16]) (by kernel_rfl) (by simp) ?_
        refine AllReadyH.cons rfl (fun K hK => ?_) AllReadyH.nil
        rw [if_pos (by rfl)]
        go_simp
        refine HWR.out.mono ?_
        rintro e w7 ⟨g7, c7, fs7, rfl, own7, st7, b7⟩
        refine hK.out _ _ ⟨hm5d.below b7 hm5d.lt, m5d.below b7 m5d.lt⟩ (fun hHeld => ?_)
        clear hK K HWR
        refine wpAnyH_take (i := 17) (v := ?_) rfl (by kernel_rfl) (by kernel_rfl) (by kernel_rfl) (fun _ _ _ h => h) (Or.inl ⟨by rfl, ?_⟩) hHeld ?_
        rotate_left
        · intro w hSw; clear hSw; go_simp; try rfl
        simp only [List.getElem_toArray, List.getElem_cons_zero, List.getElem_cons_succ, Act.put, List.setIfInBounds_toArray, List.set_cons_zero, List.set_cons_succ]
        refine wpAnyH_done (by kernel_rfl) ?_ _
        have hm7 := hHeld.1
        have m7 := hHeld.2
        have b17 := b15d.trans (b7.mono b15d.size)
        have r7 := r5d.below b7 r5d.lt
        have ht7 := ht5d.below b7
        have hD7 := hD5d.below b7
        have hg7 := own_base own7 g7 rfl
        have hwd := b15d.size
        have hgd := r5d.lt
        have e1 := m7.c1
        have z1 := m7.fz 1
        have e2 := m7.c2
        have z2 := m7.fz 2
        have hlen7 : fs7.length = M + 1 := by
          have := st7.1
          rw [this, List.length_append, jn.wrs_length, HM_.out]
          rfl
        clear b15d m5d hm5d r5d hbl5d ht5d hD5d b7 hHeld
        have hu1 : IntKind.u32.wrap (M : Int) = (M : Int) := IntWalk.u32_in _ ⟨by omega, by omega⟩
        have hu2 : IntKind.u32.wrap ((h.blocks : Int) + (M : Int)) = (h.blocks : Int) + (M : Int) := IntWalk.u32_in _ ⟨by omega, by omega⟩
        have hu3 : IntKind.u32.wrap ((h.batches : Int) + 1) = (h.batches : Int) + 1 := IntWalk.u32_in _ ⟨by omega, by omega⟩
        have m8 : HM 51 ((w7.setCell ⟨H, 1, none⟩ (.int .u32 ((h.blocks : Int) + (M : Int)))).setCell ⟨H, 2, none⟩ (.int .u32 ((h.batches : Int) + 1))) H ⟨h.bank, h.blocks + M, h.batches + 1⟩ := by
          have x1 := block_set (i := 1) (show w7.heap[H]? = _ from m7) (.int .u32 ((h.blocks : Int) + (M : Int)))
          have x2 := block_set (i := 2) x1 (.int .u32 ((h.batches : Int) + 1))
          rw [HM, x2]
          simp [Int.natCast_add]
        have c8 : Chg w7 ((w7.setCell ⟨H, 1, none⟩ (.int .u32 ((h.blocks : Int) + (M : Int)))).setCell ⟨H, 2, none⟩ (.int .u32 ((h.batches : Int) + 1))) [H] := (Chg.setCell _ _ _ _).trans (Chg.setCell _ _ _ _) (Sub.refl _ _)
        have hHF : H ∉ F := fun hm => by have := hDk.out.there H hm; omega
        have hg7F : g7 ∉ F := fun hm => by have := hDk.out.there g7 hm; omega
        have own8 := ownsRow_base (own_keepB (w' := ((w7.setCell ⟨H, 1, none⟩ (.int .u32 ((h.blocks : Int) + (M : Int)))).setCell ⟨H, 2, none⟩ (.int .u32 ((h.batches : Int) + 1)))) own7 (fun x hx => c8.block x (own_lt own7 x hx) (by simp only [Value.ownBlock, Option.some.injEq] at hx; simp; omega))) (Nat.zero_le _)
        have st8 := st7.keepT (w' := ((w7.setCell ⟨H, 1, none⟩ (.int .u32 ((h.blocks : Int) + (M : Int)))).setCell ⟨H, 2, none⟩ (.int .u32 ((h.batches : Int) + 1)))) (fun x cs t hx hty => c8.block x (Array.getElem?_eq_some_iff.1 hx).1 (fun hm => by
          simp only [List.mem_singleton] at hm
          rw [hm, show w7.heap[H]? = _ from m7] at hx
          have hx2 := Option.some.inj hx
          simp only [Obj.cells.injEq] at hx2
          rcases hty with e | e | e <;> (rw [e] at hx2; exact absurd hx2.2.1 (by decide))))
        have hm8 := hm7.chg c8 (by simp; omega)
        have r8 := r7.chg c8 (by simp; omega)
        have hD8 := hD7.keep (c8.same (fun x hx => by simp at hx; rw [hx]; exact hHF) hD7.there)
        have b18 := b17.trans (c8.below (B := w.heap.size) b17.size (fun x hx => by simp at hx; omega))
        have ht8 := ht.below b18
        generalize hw8 : (w7.setCell ⟨H, 1, none⟩ (.int .u32 ((h.blocks : Int) + (M : Int)))).setCell ⟨H, 2, none⟩ (.int .u32 ((h.batches : Int) + 1)) = w8 at *
        have hl0 := rd_lenP hok 0
        have hl1 := rd_lenP hok 1
        have hnow : BlS w8 (some ⟨gn, 0, none⟩) 2 2 [jn.rd s 0, jn.rd s 1] := RowBl.bls (jn.rds_two s ▸ r8) (by intro x hx; simp at hx; rcases hx with rfl | rfl; exact hl0; exact hl1) rfl (by omega)
        have HLAY := Lib.hid (cj_lay rfl hm8 hpF own8 hg7F (by omega) st8 hlen7 (by omega) hnow hD8 ht8 (h := ⟨h.bank, h.blocks + M, h.batches + 1⟩) ⟨by simp only; omega, by simp only; omega⟩ hput ⟨by omega, by omega⟩)
        rw [← HADD.out] at HLAY
        rw [HKK.out] at HLAY
        clear own7 own8 st7 st8 hm7 hm8 r7 r8 hD7 hD8 ht7 ht8 hnow hput HADD HKK b17 m7 hl0 hl1 c8
        go_wp2_with (refine wp_ldh (.tmp 4) ⟨h.bank, h.blocks + M, h.batches + 1⟩ m8 rfl rfl rfl ?_)
        refine HLAY.out.mono ?_
        rintro e w9 ⟨F', rfl, hD9, hm9, c9, s9⟩
        clear HLAY
        go_wp2_with fail
        go_ret
        exact ⟨F', rfl, hD9, hm9, (Chg.of_below b18 (p :: F)).trans c9 (fun x hx => by
          rcases List.mem_cons.1 hx with rfl | hx
          · exact .inr (by omega)
          · exact .inl hx), fun x hx => (s9 x hx).imp id (fun e => Nat.le_trans b18.size e)⟩
end Go.Proofs.YtknndmhkfonfmaaDoor

/-
  THE PROGRAM's journal: Append, Replace, Batches, Room, Head.
-/
namespace Go.Proofs.YtknndmhkfonfmaaDoor
open Go.RowKit Go.Shelf
variable {w w' : World} {F : List Nat} {d : Value} {s : dk.St} {p q : Nat} {k : hd.H}
set_option maxHeartbeats 4000000 in
set_option maxRecDepth 100000 in
theorem cj_append (hd0 : d = .pointer (some ⟨q, 0, none⟩)) (hm : JM w p d k) (hpF : p ∉ F) (hD : CD w F d s) (ht : Tabs w) (hk : hd.may k = true) (hfit : k.blocks ≤ jn.half s)
    {A : Option Addr} {n cp : Nat} {b : List UInt8} (hB : BS w A n cp b) (hmany : s.many + 4200 < 1048576 ∧ s.L.length + 4200 < 1048576)
    (hput : s.black = false → ¬ 1048576 < b.length → ¬ jn.half s < k.blocks + (jn.blocks b).length → (hd.put (jn.nx (jn.rd s 0) (jn.rd s 1)).1 (jn.appendH k b)).2 = 0) :
    Calls Tryd.prog 10 #[.pointer (some ⟨p, 0, none⟩), .slice A n cp] w fun e w' =>
      ∃ F', e = .returned (.int .i64 (jn.addR s k b).1) ∧ CD w' F' d (jn.addR s k b).2 ∧ JM w' p d (if (jn.addR s k b).1 = 0 then jn.appendH k b else k) ∧ Chg w w' (p :: F) ∧ Sub w F' F := by
  have hmay := hd.may_ok hk
  have HN := Lib.hid (cj_none hd0 hm)
  have HA := Lib.hid (cj_add hd0 hm hpF hD ht hmay.1 hfit hmay.2.2 hB hmany hput)
  obtain ⟨R, hR⟩ : ∃ R, jn.addR s k b = R := ⟨_, rfl⟩
  rw [show jn.appendH k b = ⟨k.bank, k.blocks + (jn.blocks b).length, k.batches + 1⟩ from rfl]
  rw [hR] at HA ⊢
  obtain ⟨K2, hK2⟩ : ∃ K2, (if R.1 = 0 then (⟨k.bank, k.blocks + (jn.blocks b).length, k.batches + 1⟩ : hd.H) else k) = K2 := ⟨_, rfl⟩
  rw [hK2] at HA ⊢
  clear hR hK2 hput hD hB
  go_enter Tryd.func10, Tryd.ntmps10
  go_wp2_with fail
  refine HN.out.mono ?_
  rintro e w1 ⟨rfl, rfl⟩
  go_wp2_with (refine wp_ldj (.tmp 10) k hm rfl rfl rfl ?_)
  refine HA.out.mono ?_
  rintro e w2 ⟨F', rfl, h1, h2, h3, h4⟩
  clear HA HN
  go_wp2_with fail
  go_ret
  exact ⟨F', rfl, h1, h2, h3, h4⟩
set_option maxHeartbeats 4000000 in
set_option maxRecDepth 100000 in
theorem cj_replace (hd0 : d = .pointer (some ⟨q, 0, none⟩)) (hm : JM w p d k) (hpF : p ∉ F) (hD : CD w F d s) (ht : Tabs w) (hk : hd.may k = true)
    {A : Option Addr} {n cp : Nat} {b : List UInt8} (hB : BS w A n cp b) (hmany : s.many + 4200 < 1048576 ∧ s.L.length + 4200 < 1048576)
    (hput : s.black = false → ¬ 1048576 < b.length → ¬ jn.half s < (jn.blocks b).length → (hd.put (jn.nx (jn.rd s 0) (jn.rd s 1)).1 (jn.replaceH k b)).2 = 0) :
    Calls Tryd.prog 9 #[.pointer (some ⟨p, 0, none⟩), .slice A n cp] w fun e w' =>
      ∃ F', e = .returned (.int .i64 (jn.addR s ⟨1 - k.bank, 0, 0⟩ b).1) ∧ CD w' F' d (jn.addR s ⟨1 - k.bank, 0, 0⟩ b).2 ∧ JM w' p d (if (jn.addR s ⟨1 - k.bank, 0, 0⟩ b).1 = 0 then jn.replaceH k b else k) ∧ Chg w w' (p :: F) ∧ Sub w F' F := by
  have hmay := hd.may_ok hk
  have HN := Lib.hid (cj_none hd0 hm)
  have hbk := jn.bank_cases hmay.1
  have hr1 : (1 - k.bank).toNat ≤ 1 := by rcases hbk with e | e <;> rw [e] <;> decide
  have HA := Lib.hid (cj_add (h := ⟨1 - k.bank, 0, 0⟩) hd0 hm hpF hD ht hr1 (Nat.zero_le _) (Nat.le_refl _) hB hmany (by
    simp only [Nat.zero_add]
    exact hput))
  obtain ⟨R, hR⟩ : ∃ R, jn.addR s ⟨1 - k.bank, 0, 0⟩ b = R := ⟨_, rfl⟩
  rw [show jn.replaceH k b = ⟨1 - k.bank, 0 + (jn.blocks b).length, 0 + 1⟩ by rw [Nat.zero_add, Nat.zero_add]; rfl]
  rw [hR] at HA ⊢
  obtain ⟨K2, hK2⟩ : ∃ K2, (if R.1 = 0 then (⟨1 - k.bank, 0 + (jn.blocks b).length, 0 + 1⟩ : hd.H) else k) = K2 := ⟨_, rfl⟩
  rw [hK2] at HA ⊢
  clear hR hK2 hput hD hB hr1
  have k1 := hm.c1
  rcases hbk with e | e
  · rw [e] at k1 HA
    clear e
    go_enter Tryd.func9, Tryd.ntmps9
    go_wp2_with fail
    refine HN.out.mono ?_
    rintro e w1 ⟨rfl, rfl⟩
    go_wp2_with fail
    refine HA.out.mono ?_
    rintro e w2 ⟨F', rfl, h1, h2, h3, h4⟩
    clear HA HN
    go_wp2_with fail
    go_ret
    exact ⟨F', rfl, h1, h2, h3, h4⟩
  · rw [e] at k1 HA
    clear e
    go_enter Tryd.func9, Tryd.ntmps9
    go_wp2_with fail
    refine HN.out.mono ?_
    rintro e w1 ⟨rfl, rfl⟩
    go_wp2_with fail
    refine HA.out.mono ?_
    rintro e w2 ⟨F', rfl, h1, h2, h3, h4⟩
    clear HA HN
    go_wp2_with fail
    go_ret
    exact ⟨F', rfl, h1, h2, h3, h4⟩
set_option maxHeartbeats 4000000 in
set_option maxRecDepth 100000 in
theorem cj_batches0 (hd0 : d = .pointer (some ⟨q, 0, none⟩)) (hm : JM w p d k) (hD : CD w F d s) (hk : hd.may k = true) (hfit : k.blocks ≤ jn.half s) (hl : s.black = false) :
    Calls Tryd.prog 16 #[.pointer (some ⟨p, 0, none⟩)] w fun e w' =>
      ∃ A n c, e = .returned (.slice A n c) ∧ ((jn.batches s k).2 = true → RS w' A n c (jn.batches s k).1) ∧ (¬ (jn.batches s k).2 = true → A = none ∧ n = 0 ∧ c = 0) ∧ Below w.heap.size w w' := by
  have HN := Lib.hid (cj_none hd0 hm)
  have hD1 := hD.below (Below.refl _ _).drew
  have hm1 : JM w.drew p d k := hm
  have HBT := Lib.hid (cj_batches hD1 k hk hfit (.inl hl))
  subst hd0
  suffices H : ∀ (J : World → Option Addr → Nat → Nat → Prop) (E : Int), Hid (∀ w' A n c, ((jn.batches s k).2 = true → RS w' A n c (jn.batches s k).1) → (¬ (jn.batches s k).2 = true → A = none ∧ n = 0 ∧ c = 0) → J w' A n c) → Hid (E = if (jn.batches s k).2 = true then 0 else 5) →
      Calls Tryd.prog 16 #[.pointer (some ⟨p, 0, none⟩)] w fun e w' => ∃ A n c, e = .returned (.slice A n c) ∧ J w' A n c ∧ Below w.heap.size w w' from
    (H (fun w' A n c => ((jn.batches s k).2 = true → RS w' A n c (jn.batches s k).1) ∧ (¬ (jn.batches s k).2 = true → A = none ∧ n = 0 ∧ c = 0)) _ (Lib.hid fun _ _ _ _ h1 h2 => ⟨h1, h2⟩) (Lib.hid rfl)).mono fun e w' ⟨A, n, c, h1, ⟨h2, h3⟩, h4⟩ => ⟨A, n, c, h1, h2, h3, h4⟩
  intro J E HJ HE
  rw [← HE.out] at HBT
  have HBT2 := Lib.hid (HBT.out.mono (R' := fun e w' => ∃ A n c, e = .returned (.tuple #[.slice A n c, .int .i64 E]) ∧ J w' A n c ∧ Below w.drew.heap.size w.drew w') (by
    rintro e w' ⟨A, n, c, h1, h2, h3, h4⟩
    exact ⟨A, n, c, h1, HJ.out _ _ _ _ h2 h3, h4⟩))
  clear HBT HJ HE hD1 hD
  go_enter Tryd.func16, Tryd.ntmps16
  go_wp2_with fail
  refine HN.out.mono ?_
  rintro e w1 ⟨rfl, rfl⟩
  go_wp2_with fail
  refine wp_region_held_drew (S := fun W => JM W p (.pointer (some ⟨q, 0, none⟩)) k) (by kernel_rfl) hm1 (fun hHeld => ?_)
  refine wpAnyH_take (i := 0) (v := ?_) rfl (by kernel_rfl) (by kernel_rfl) (by kernel_rfl) (fun _ _ _ h => h) (Or.inl ⟨by rfl, ?_⟩) hHeld ?_
  rotate_left
  · intro w hSw; clear hSw; go_simp; try rfl
  simp only [List.getElem_toArray, List.getElem_cons_zero, Act.put, List.setIfInBounds_toArray, List.set_cons_zero, List.set_cons_succ]
  refine wpAnyH_take (i := 1) (v := ?_) rfl (by kernel_rfl) (by kernel_rfl) (by kernel_rfl) (fun _ _ _ h => h) (Or.inl ⟨by rfl, ?_⟩) hHeld ?_
  rotate_left
  · intro w hSw; clear hSw; go_simp; try rfl
  simp only [List.getElem_toArray, List.getElem_cons_zero, List.getElem_cons_succ, Act.put, List.setIfInBounds_toArray, List.set_cons_zero, List.set_cons_succ]
  refine wpAnyH_take (i := 2) (v := ?_) rfl (by kernel_rfl) (by kernel_rfl) (by kernel_rfl) (fun _ _ _ h => h) (Or.inl ⟨by rfl, ?_⟩) hHeld ?_
  rotate_left
  · intro w hSw; clear hSw; go_simp; try rfl
  simp only [List.getElem_toArray, List.getElem_cons_zero, List.getElem_cons_succ, Act.put, List.setIfInBounds_toArray, List.set_cons_zero, List.set_cons_succ]
  refine wpAnyH_take (i := 3) (v := ?_) rfl (by kernel_rfl) (by kernel_rfl) (by kernel_rfl) (fun _ _ _ h => h) (Or.inl ⟨by rfl, ?_⟩) hHeld ?_
  rotate_left
  · intro w hSw; have c0 := hSw.c0; clear hSw; go_simp; try rfl
  simp only [List.getElem_toArray, List.getElem_cons_zero, List.getElem_cons_succ, Act.put, List.setIfInBounds_toArray, List.set_cons_zero, List.set_cons_succ]
  refine wpAnyH_take (i := 4) (v := ?_) rfl (by kernel_rfl) (by kernel_rfl) (by kernel_rfl) (fun _ _ _ h => h) (Or.inl ⟨by rfl, ?_⟩) hHeld ?_
  rotate_left
  · intro w hSw; clear hSw; go_simp; try rfl
  simp only [List.getElem_toArray, List.getElem_cons_zero, List.getElem_cons_succ, Act.put, List.setIfInBounds_toArray, List.set_cons_zero, List.set_cons_succ]
  refine wpAnyH_take (i := 5) (v := ?_) rfl (by kernel_rfl) (by kernel_rfl) (by kernel_rfl) (fun _ _ _ h => h) (Or.inl ⟨by rfl, ?_⟩) hHeld ?_
  rotate_left
  · intro w hSw; clear hSw; go_simp; try rfl
  simp only [List.getElem_toArray, List.getElem_cons_zero, List.getElem_cons_succ, Act.put, List.setIfInBounds_toArray, List.set_cons_zero, List.set_cons_succ]
  refine wpAnyH_take (i := 6) (v := ?_) rfl (by kernel_rfl) (by kernel_rfl) (by kernel_rfl) (fun _ _ _ h => h) (Or.inl ⟨by rfl, ?_⟩) hHeld ?_
  rotate_left
  · intro w hSw; clear hSw; go_simp; try rfl
  simp only [List.getElem_toArray, List.getElem_cons_zero, List.getElem_cons_succ, Act.put, List.setIfInBounds_toArray, List.set_cons_zero, List.set_cons_succ]
  refine wpAnyH_take (i := 7) (v := ?_) rfl (by kernel_rfl) (by kernel_rfl) (by kernel_rfl) (fun _ _ _ h => h) (Or.inl ⟨by rfl, ?_⟩) hHeld ?_
  rotate_left
  · intro w hSw; have c1 := hSw.c1; have c2 := hSw.c2; have c3 := hSw.c3; clear hSw; go_simp; try rfl
  simp only [List.getElem_toArray, List.getElem_cons_zero, List.getElem_cons_succ, Act.put, List.setIfInBounds_toArray, List.set_cons_zero, List.set_cons_succ]
  refine wpAnyH_ready (rs := [8]) (by kernel_rfl) (by simp) ?_
  refine AllReadyH.cons rfl (fun K hK => ?_) AllReadyH.nil
  rw [if_pos (by rfl)]
  go_simp
  refine HBT2.out.mono ?_
  rintro e w2 ⟨A, n, c, rfl, hJ, hb⟩
  refine hK.out _ _ (hHeld.below hb hHeld.lt) (fun hHeld => ?_)
  clear hK K HBT2
  refine wpAnyH_take (i := 9) (v := ?_) rfl (by kernel_rfl) (by kernel_rfl) (by kernel_rfl) (fun _ _ _ h => h) (Or.inl ⟨by rfl, ?_⟩) hHeld ?_
  rotate_left
  · intro w hSw; clear hSw; go_simp; try rfl
  simp only [List.getElem_toArray, List.getElem_cons_zero, List.getElem_cons_succ, Act.put, List.setIfInBounds_toArray, List.set_cons_zero, List.set_cons_succ]
  refine wpAnyH_take (i := 10) (v := ?_) rfl (by kernel_rfl) (by kernel_rfl) (by kernel_rfl) (fun _ _ _ h => h) (Or.inl ⟨by rfl, ?_⟩) hHeld ?_
  rotate_left
  · intro w hSw; clear hSw; go_simp; try rfl
  simp only [List.getElem_toArray, List.getElem_cons_zero, List.getElem_cons_succ, Act.put, List.setIfInBounds_toArray, List.set_cons_zero, List.set_cons_succ]
  refine wpAnyH_take (i := 11) (v := ?_) rfl (by kernel_rfl) (by kernel_rfl) (by kernel_rfl) (fun _ _ _ h => h) (Or.inl ⟨by rfl, ?_⟩) hHeld ?_
  rotate_left
  · intro w hSw; clear hSw; go_simp; try rfl
  simp only [List.getElem_toArray, List.getElem_cons_zero, List.getElem_cons_succ, Act.put, List.setIfInBounds_toArray, List.set_cons_zero, List.set_cons_succ]
  refine wpAnyH_take (i := 12) (v := ?_) rfl (by kernel_rfl) (by kernel_rfl) (by kernel_rfl) (fun _ _ _ h => h) (Or.inl ⟨by rfl, ?_⟩) hHeld ?_
  rotate_left
  · intro w hSw; clear hSw; go_simp; try rfl
  simp only [List.getElem_toArray, List.getElem_cons_zero, List.getElem_cons_succ, Act.put, List.setIfInBounds_toArray, List.set_cons_zero, List.set_cons_succ]
  refine wpAnyH_take (i := 13) (v := ?_) rfl (by kernel_rfl) (by kernel_rfl) (by kernel_rfl) (fun _ _ _ h => h) (Or.inl ⟨by rfl, ?_⟩) hHeld ?_
  rotate_left
  · intro w hSw; clear hSw; go_simp; try rfl
  simp only [List.getElem_toArray, List.getElem_cons_zero, List.getElem_cons_succ, Act.put, List.setIfInBounds_toArray, List.set_cons_zero, List.set_cons_succ]
  refine wpAnyH_done (by kernel_rfl) ?_ _
  have hb2 : Below w.heap.size w w2 := (Below.refl _ _).drew.trans hb
  go_wp2_with fail
  go_ret
  exact ⟨A, n, c, rfl, hJ, hb2⟩
set_option maxHeartbeats 4000000 in
set_option maxRecDepth 100000 in
theorem cj_room (hd0 : d = .pointer (some ⟨q, 0, none⟩)) (hm : JM w p d k) (hD : CD w F d s) (hk : hd.may k = true) :
    Calls Tryd.prog 18 #[.pointer (some ⟨p, 0, none⟩)] w fun e w' => e = .returned (.int .i64 ((jn.half s : Int) - (k.blocks : Int))) ∧ Below w.heap.size w w' := by
  have HN := Lib.hid (cj_none hd0 hm)
  have hmay := hd.may_ok hk
  have hhalf := jn.half_le hD.ok
  have HSIZE := Lib.hid (fun n => cj_size (hD.drewN' n))
  obtain ⟨hf, hhf⟩ : ∃ h, jn.half s = h := ⟨_, rfl⟩
  rw [hhf] at HSIZE hhalf ⊢
  obtain ⟨h1, h2, h3⟩ := hmay
  subst hd0
  have c0 := hm.c0
  have c2 := hm.c2
  have hww : IntKind.i64.wrap (k.blocks : Int) = (k.blocks : Int) := IntWalk.i64_in _ ⟨by omega, by omega⟩
  clear hD hhf
  go_enter Tryd.func18, Tryd.ntmps18
  go_wp2_with fail
  refine HN.out.mono ?_
  rintro e w1 ⟨rfl, rfl⟩
  go_wp2_with fail
  go_quiet (first | (go_at_call 29; exact quiet_is (HSIZE.out _)))
  go_wp2_with fail
  go_ret
  exact ⟨rfl, ⟨rfl, rfl, rfl, Nat.le_refl _, fun _ _ => rfl⟩⟩
set_option maxHeartbeats 4000000 in
set_option maxRecDepth 100000 in
theorem cj_head (hd0 : d = .pointer (some ⟨q, 0, none⟩)) (hm : JM w p d k) :
    Calls Tryd.prog 20 #[.pointer (some ⟨p, 0, none⟩)] w fun e w' => e = .returned (hd.val k) ∧ Below w.heap.size w w' := by
  obtain ⟨hzh, -⟩ := zero_of_info info_head
  have n1 := HM.new w 51 hd.zero
  have b1 : Below w.heap.size w (w.alloc (.cells #[bv hd.zero.bank, .int .u32 hd.zero.blocks, .int .u32 hd.zero.batches] 51)) := (Below.refl _ _).alloc (Nat.le_refl _) _
  obtain ⟨W1, hW1⟩ : ∃ W1, w.alloc (.cells #[bv hd.zero.bank, .int .u32 hd.zero.blocks, .int .u32 hd.zero.batches] 51) = W1 := ⟨_, rfl⟩
  rw [hW1] at n1 b1
  have hm1 := hm.below b1 hm.lt
  have HN := Lib.hid (cj_none hd0 hm1)
  subst hd0
  go_enter Tryd.func20, Tryd.ntmps20
  go_wp2_with fail
  refine HN.out.mono ?_
  rintro e w1 ⟨rfl, rfl⟩
  clear hW1 HN
  go_wp2_with (first
    | refine wp_ldj (.tmp 8) k hm1 rfl rfl rfl ?_
    | (refine wp_sth (.tmp 2) (.tmp 9) k hd.zero n1 rfl rfl rfl rfl ?_; intro w2 n2 c2))
  exact bodyPost_ret (results_cell rfl rfl (head_load n2)) rfl ⟨rfl, b1.trans (c2.below (B := w.heap.size) b1.size (fun x hx => by simp at hx; omega))⟩
end Go.Proofs.YtknndmhkfonfmaaDoor

/-
  THE PROGRAM's journal: Make, Open.
-/
namespace Go.Proofs.YtknndmhkfonfmaaDoor
open Go.RowKit Go.Shelf
variable {w w' : World} {F : List Nat} {d : Value} {s : dk.St} {q : Nat}
namespace jn
/-- what Make comes to -/
def makeR (s : St) : Int × St := runOps s (layOps dk.zero dk.zero (wrs 0 [dk.zero, dk.zero] ++ [.fl]) hd.zero)
end jn
theorem row_two (w : World) (g : Nat) (C : Array Value) (hC : (dk.cellsS (List.replicate 2 dk.zero)).toArray = C) (h : w.heap[g]? = some (.cells C 62 (0, 0))) : RowBl w g [dk.zero, dk.zero] := by
  rw [RowBl, h, ← hC]
  rfl
set_option maxHeartbeats 4000000 in
set_option maxRecDepth 100000 in
theorem cj_make (hd0 : d = .pointer (some ⟨q, 0, none⟩)) (hD : CD w F d s) (ht : Tabs w) (hmany : s.many + 4200 < 1048576 ∧ s.L.length + 4200 < 1048576) :
    Calls Tryd.prog 7 #[d] w fun e w' => ∃ v p F', e = .returned (.tuple #[v, .int .i64 (jn.makeR s).1]) ∧ CD w' F' d (jn.makeR s).2 ∧ ((jn.makeR s).1 = 0 → v = .pointer (some ⟨p, 0, none⟩) ∧ JM w' p d hd.zero) ∧ (¬ (jn.makeR s).1 = 0 → v = .pointer none) ∧ w.heap.size ≤ p ∧ p ∉ F' ∧ Chg w w' F ∧ Sub w F' F := by
  have hq := hd0
  subst hd0
  obtain ⟨i0, hi0, hz0, hs0, hb0⟩ := info_parts5 info_blk3'
  have hmk := fun W => run_make (P := Tryd.prog) W 45 62 i0 _ Tryd.underlying45 hi0 hz0 .i64 .i64 (2 : Int) (2 : Int) (by omega) (by omega) (by rw [hb0]; omega) (by omega)
  rw [hs0] at hmk
  simp only [show Int.toNat 2 = 2 from rfl, made_blocks] at hmk
  obtain ⟨C, hC⟩ : ∃ C, (dk.cellsS (List.replicate 2 dk.zero)).toArray = C := ⟨_, rfl⟩
  rw [hC] at hmk
  have r1 := heap_alloc_new w (.cells #[.pointer (some ⟨q, 0, none⟩), Value.int .u8 0, .int .u32 0, .int .u32 0] 53)
  have b1 : Below w.heap.size w (w.alloc (.cells #[.pointer (some ⟨q, 0, none⟩), Value.int .u8 0, .int .u32 0, .int .u32 0] 53)) := (Below.refl _ _).alloc (Nat.le_refl _) _
  have r2 := heap_alloc_new (w.alloc (.cells #[.pointer (some ⟨q, 0, none⟩), Value.int .u8 0, .int .u32 0, .int .u32 0] 53)) (.cells C 62)
  have b2 := b1.alloc b1.size (.cells C 62)
  have r12 := (Below.heap_alloc (w.alloc (.cells #[.pointer (some ⟨q, 0, none⟩), Value.int .u8 0, .int .u32 0, .int .u32 0] 53)) (.cells C 62) w.heap.size (by simp)).trans r1
  rw [show (w.alloc (.cells #[.pointer (some ⟨q, 0, none⟩), Value.int .u8 0, .int .u32 0, .int .u32 0] 53)).heap.size = w.heap.size + 1 from by simp] at r2
  obtain ⟨W2, hW2⟩ : ∃ W2, (w.alloc (.cells #[.pointer (some ⟨q, 0, none⟩), Value.int .u8 0, .int .u32 0, .int .u32 0] 53)).alloc (.cells C 62) = W2 := ⟨_, rfl⟩
  rw [hW2] at r2 b2 r12
  have hrow := row_two W2 (w.heap.size + 1) C hC r2
  have hnow : BlS W2 (some ⟨w.heap.size + 1, 0, none⟩) 2 2 [dk.zero, dk.zero] := RowBl.bls hrow (by intro x hx; simp at hx; rw [hx]; rfl) rfl (by omega)
  have hm2 : JM W2 w.heap.size (.pointer (some ⟨q, 0, none⟩)) hd.zero := r12
  have hD2 := hD.below b2
  have hlt2 : w.heap.size + 1 < W2.heap.size := hrow.lt
  have hwr := cwritten_any (F := F) q 0 rfl (by omega) hnow (by omega) (hD.there.mono b2.size)
  rw [Int.natCast_zero] at hwr
  have HWR := Lib.hid hwr
  clear hwr
  have hpF : w.heap.size ∉ F := fun hm => Nat.lt_irrefl _ (hD.there _ hm)
  have HLAY := Lib.hid (fun (w3 : World) (g c : Nat) (fs : List FV) (hb : Below W2.heap.size W2 w3) (hown : w3.ownsRow W2.heap.size 59 1 (.slice (some ⟨g, 0, none⟩) 3 c) 3 (fs.map FV.val)) (hst : StepsOf w3 F (.pointer (some ⟨q, 0, none⟩)) fs (jn.wrs 0 [dk.zero, dk.zero] ++ [.fl])) =>
    cj_lay (h := hd.zero) rfl (hm2.below hb hm2.lt) hpF (ownsRow_base hown (Nat.zero_le _)) (fun hm => by have := hD.there g hm; have := own_base hown g rfl; omega) (by have := own_base hown g rfl; omega) hst (hst.1.trans rfl) (by omega) (hnow.below hb) (hD2.below hb) (ht.below (b2.trans (hb.mono b2.size))) hd.zero_ok (by
      rw [jn.next_ok, jn.newest_zero]
      rfl) ⟨by omega, by omega⟩)
  rw [show jn.layOps dk.zero dk.zero (jn.wrs 0 [dk.zero, dk.zero] ++ [.fl]) hd.zero = jn.layOps dk.zero dk.zero (jn.wrs 0 [dk.zero, dk.zero] ++ [.fl]) hd.zero from rfl] at HLAY
  have hmr : jn.makeR s = jn.runOps s (jn.layOps dk.zero dk.zero (jn.wrs 0 [dk.zero, dk.zero] ++ [.fl]) hd.zero) := rfl
  obtain ⟨R, hR⟩ : ∃ R, jn.makeR s = R := ⟨_, rfl⟩
  rw [← hmr, hR] at HLAY
  rw [hR]
  simp only [ite_self] at HLAY
  generalize jn.wrs 0 [dk.zero, dk.zero] ++ [jn.Op.fl] = OPS at *
  clear hmr hR hC hD2 r1 r2 r12 hrow hnow hm2 b1 hD
  have HPF := Lib.hid hpF
  clear hpF
  by_cases h0 : R.1 = 0
  · have hr0 : (R.1 != 0) = false := by simp [h0]
    have H0 := Lib.hid h0
    clear h0
    obtain ⟨R1, R2⟩ := R
    simp only at *
    go_enter Tryd.func7, Tryd.ntmps7
    go_wp2_with fail
    refine HWR.out.mono ?_
    rintro e w3 ⟨g, c, fs, rfl, own3, st3, b3⟩
    have hLY := HLAY.out w3 g c fs b3 own3 st3
    have HLY := Lib.hid hLY
    have b23 := b2.trans (b3.mono b2.size)
    have hg3 := own_base own3 g rfl
    have hs3 := b3.size
    clear HLAY HWR hLY own3 st3
    go_wp2_with fail
    refine HLY.out.mono ?_
    rintro e w4 ⟨F', rfl, h1, h2, h3, h4⟩
    clear HLY
    go_wp2_with fail
    go_ret2
    have hsub : ∀ x ∈ F', x ∈ F ∨ w3.heap.size ≤ x := h4
    refine ⟨_, w.heap.size, F', by rw [H0.out]; rfl, h1, fun _ => ⟨rfl, h2⟩, fun h => absurd H0.out h, Nat.le_refl _, fun hm => (hsub _ hm).elim HPF.out (by omega), (Chg.of_below b23 F).trans h3 (fun x hx => ?_), fun x hx => (hsub x hx).imp id (fun e => by omega)⟩
    rcases List.mem_cons.1 hx with rfl | hx
    · exact .inr (by omega)
    · rcases List.mem_cons.1 hx with rfl | hx
      · exact .inr (Nat.le_refl _)
      · exact .inl hx
  · have hr0 : (R.1 != 0) = true := by simp [h0]
    have H0 := Lib.hid h0
    clear h0
    obtain ⟨R1, R2⟩ := R
    simp only at *
    go_enter Tryd.func7, Tryd.ntmps7
    go_wp2_with fail
    refine HWR.out.mono ?_
    rintro e w3 ⟨g, c, fs, rfl, own3, st3, b3⟩
    have hLY := HLAY.out w3 g c fs b3 own3 st3
    have HLY := Lib.hid hLY
    have b23 := b2.trans (b3.mono b2.size)
    have hg3 := own_base own3 g rfl
    have hs3 := b3.size
    clear HLAY HWR hLY own3 st3
    go_wp2_with fail
    refine HLY.out.mono ?_
    rintro e w4 ⟨F', rfl, h1, h2, h3, h4⟩
    clear HLY
    go_wp2_with fail
    go_ret2
    have hsub : ∀ x ∈ F', x ∈ F ∨ w3.heap.size ≤ x := h4
    refine ⟨_, w.heap.size, F', rfl, h1, fun h => absurd h H0.out, fun _ => rfl, Nat.le_refl _, fun hm => (hsub _ hm).elim HPF.out (by omega), (Chg.of_below b23 F).trans h3 (fun x hx => ?_), fun x hx => (hsub x hx).imp id (fun e => by omega)⟩
    rcases List.mem_cons.1 hx with rfl | hx
    · exact .inr (by omega)
    · rcases List.mem_cons.1 hx with rfl | hx
      · exact .inr (Nat.le_refl _)
      · exact .inl hx
theorem dk.range_chg {b o : Nat} {cs : List Value} {G : List Nat} (h : w.rangeAt b o cs) (hc : Chg w w' G) (hb : b < w.heap.size) (hG : b ∉ G) : w'.rangeAt b o cs := fun j v hj => by
  have e : w'.cell? ⟨b, o + j, none⟩ = w.cell? ⟨b, o + j, none⟩ := by simp only [World.cell?, hc.block b hb hG]
  rw [e]
  exact h j v hj
section
variable {o : Oper} {a : Act} {w : World} {K : Act → World → Prop} {Q : Exit → Act → World → Prop}
theorem wpo_sth (x y : Operand) (h old : hd.H) {E : TypeId} {g : Nat} (m : HM E w g old) (ho : o.op = .store 51 x y) (hx : a.eval x = .pointer (some ⟨g, 0, none⟩)) (hy : a.eval y = hd.val h)
    (hk : ∀ W, HM E W g h → Chg w W [g] → K (a.put o.dst undef) W) : o.wp Tryd.prog a w K Q := by
  have h2 := block_sets (hd.cells h) 0 (hd.cells old) w m (by simp)
  refine wp_store_mid _ x y ho g 0 (hd.cells h).toArray hx hy ?_ (by simpa using head_size) (by simp [Value.oneCell']) ?_
  · have := there_of (cs := hd.cells old) m 0 3 (by simp)
    simpa using this
  · exact hk _ (show _ = _ by simpa using h2) (Chg.setCells g _ _ _)
end
set_option maxHeartbeats 8000000 in
set_option maxRecDepth 100000 in
theorem cj_open (hd0 : d = .pointer (some ⟨q, 0, none⟩)) (hD : CD w F d s) (ht : Tabs w) :
    Calls Tryd.prog 14 #[d] w fun e w' => ∃ v p, e = .returned (.tuple #[v, .int .i64 (jn.opens s)]) ∧ (jn.opens s = 0 → v = .pointer (some ⟨p, 0, none⟩) ∧ JM w' p d (jn.newest s).2.1) ∧ (¬ jn.opens s = 0 → v = .pointer none) ∧ w.heap.size ≤ p ∧ Below w.heap.size w w' := by
  have hok := hD.ok
  have h64 := hok.some
  have hmost := hok.most
  have hopen : jn.opens s = if s.black then 9 else if ¬ (jn.newest s).2.2 = 0 ∨ 2305843009213693952 < (jn.newest s).1 then 5 else if (jn.batches s (jn.newest s).2.1).2 then 0 else 5 := rfl
  obtain ⟨R, hR⟩ : ∃ R, jn.opens s = R := ⟨_, rfl⟩
  rw [hR] at hopen ⊢
  by_cases hbl : s.black = true
  · rw [if_pos hbl] at hopen
    have hrd : (dk.read s 0).2 = 9 := by
      have hq : dk.asks s 0 = 9 := by unfold dk.asks; rw [if_pos hbl]
      unfold dk.read
      rw [if_neg (by rw [hq]; decide)]
      exact hq
    have HREAD := Lib.hid (cj_read_no (w := w) d 0 2 (by omega) (by omega) (by omega) 9 (by decide) (fun W hb => (cd_read 0 (hD.below hb)).mono (by
      rintro e w' ⟨h1, h2⟩
      rw [hrd] at h1
      exact ⟨_, rd_lenP hok 0, h1, h2⟩)))
    have HO := Lib.hid hopen
    subst hd0
    clear hopen hD hrd hR
    go_enter Tryd.func14, Tryd.ntmps14
    go_wp2_with fail
    refine HREAD.out.mono ?_
    rintro e w2 ⟨rfl, b2⟩
    clear HREAD
    go_wp2_with fail
    go_ret2
    exact ⟨_, w.heap.size, by rw [HO.out]; rfl, fun h => absurd (HO.out.symm.trans h) (by decide), fun _ => rfl, Nat.le_refl _, b2⟩
  · rw [if_neg hbl] at hopen
    have hbl : s.black = false := by simpa using hbl
    have HREAD := Lib.hid (cj_read 0 2 (by omega) (by omega) hD (.inl hbl))
    have HD := Lib.hid hD
    have hl0 := rd_lenP hok 0
    have hl1 := rd_lenP hok 1
    have HNEW := Lib.hid (fun W (hb : Below w.heap.size w W) => ch_newest (jn.rd s 0) (jn.rd s 1) hl0 hl1 W (ht.below hb))
    rw [show hd.newest (jn.rd s 0) (jn.rd s 1) = jn.newest s from rfl] at HNEW
    have HR2 := Lib.hid (jn.rds_two s)
    generalize jn.rd s 0 = xa at *
    generalize jn.rd s 1 = xb at *
    have uB := Tryd.underlying62
    have iA := info_blk' hl0
    have iB := info_blk' hl1
    obtain ⟨N, hN⟩ : ∃ e, (jn.newest s).1 = e := ⟨_, rfl⟩
    obtain ⟨k, hk⟩ : ∃ e, (jn.newest s).2.1 = e := ⟨_, rfl⟩
    obtain ⟨f, hf⟩ : ∃ e, (jn.newest s).2.2 = e := ⟨_, rfl⟩
    have hmk : hd.may k = true := by
      rw [← hk]
      have hg : ∀ x : dk.Blk, hd.may (hd.get x).2.1 = true := fun x => by
        by_cases h : (hd.get x).2.2 = 0
        · exact (hd.get_num h).2.2
        · rw [(hd.get_err h).2]; rfl
      unfold jn.newest hd.newest
      split
      · rfl
      · split
        · exact hg _
        · exact hg _
    rw [hN, hk, hf] at HNEW hopen
    rw [hk]
    have HO := Lib.hid hopen
    clear hopen hR hN hk hf hD
    obtain ⟨hzh, -⟩ := zero_of_info info_head
    subst hd0
    go_enter Tryd.func14, Tryd.ntmps14
    go_wp2_with fail
    refine HREAD.out.mono ?_
    rintro e w2 ⟨rfl, r2, b2⟩
    rw [HR2.out] at r2
    have hlr : ∀ b ∈ [xa, xb], b.length = 128 := by
      intro x hx
      simp at hx
      rcases hx with rfl | rfl
      · exact hl0
      · exact hl1
    have ra := r2.range hlr (i := 0) (by simp)
    have rb := r2.range hlr (i := 1) (by simp)
    simp only [List.getElem_cons_zero, List.getElem_cons_succ, Nat.zero_mul, Nat.one_mul] at ra rb
    have hgl := r2.lt
    obtain ⟨gn, hgn⟩ : ∃ g, w.heap.size = g := ⟨_, rfl⟩
    rw [hgn] at ra rb hgl
    have HGN := Lib.hid hgn
    rw [hgn]
    clear HREAD r2 hlr hgn
    go_wp2_with fail
    have b2d := b2.drew
    have hgld : gn < w2.drew.heap.size := hgl
    refine wp_region_held_drew (S := fun W => W.rangeAt gn 0 (dk.cells xa) ∧ W.rangeAt gn 128 (dk.cells xb)) (by kernel_rfl) ⟨dk.range_below ra (Below.refl _ _).drew, dk.range_below rb (Below.refl _ _).drew⟩ (fun hHeld => ?_)
    generalize w2.drew = wd at *
    refine wpAnyH_take (i := 0) (v := ?_) rfl (by kernel_rfl) (by kernel_rfl) (by kernel_rfl) (fun _ _ _ h => h) (Or.inl ⟨by rfl, ?_⟩) hHeld ?_
    rotate_left
    · intro w hSw; clear hSw; go_simp; try rfl
    simp only [List.getElem_toArray, List.getElem_cons_zero, Act.put, List.setIfInBounds_toArray, List.set_cons_zero, List.set_cons_succ]
    refine wpAnyH_take (i := 1) (v := ?_) rfl (by kernel_rfl) (by kernel_rfl) (by kernel_rfl) (fun _ _ _ h => h) (Or.inl ⟨by rfl, ?_⟩) hHeld ?_
    rotate_left
    · intro w hSw; clear hSw; go_simp; try rfl
    simp only [List.getElem_toArray, List.getElem_cons_zero, List.getElem_cons_succ, Act.put, List.setIfInBounds_toArray, List.set_cons_zero, List.set_cons_succ]
    refine wpAnyH_take (i := 2) (v := dk.val xa) rfl (by kernel_rfl) (by kernel_rfl) (by kernel_rfl) (fun _ _ _ h => h) (yieldsIf_load_mid (by rfl) 62 (.tmp 20) rfl gn (0) rfl (dk.cells xa) _ (fun w h => h.1) uB rfl iA) hHeld ?_
    simp only [List.getElem_toArray, List.getElem_cons_zero, List.getElem_cons_succ, Act.put, List.setIfInBounds_toArray, List.set_cons_zero, List.set_cons_succ]
    refine wpAnyH_take (i := 3) (v := ?_) rfl (by kernel_rfl) (by kernel_rfl) (by kernel_rfl) (fun _ _ _ h => h) (Or.inl ⟨by rfl, ?_⟩) hHeld ?_
    rotate_left
    · intro w hSw; clear hSw; go_simp; try rfl
    simp only [List.getElem_toArray, List.getElem_cons_zero, List.getElem_cons_succ, Act.put, List.setIfInBounds_toArray, List.set_cons_zero, List.set_cons_succ]
    refine wpAnyH_take (i := 4) (v := ?_) rfl (by kernel_rfl) (by kernel_rfl) (by kernel_rfl) (fun _ _ _ h => h) (Or.inl ⟨by rfl, ?_⟩) hHeld ?_
    rotate_left
    · intro w hSw; clear hSw; go_simp; try rfl
    simp only [List.getElem_toArray, List.getElem_cons_zero, List.getElem_cons_succ, Act.put, List.setIfInBounds_toArray, List.set_cons_zero, List.set_cons_succ]
    refine wpAnyH_take (i := 5) (v := dk.val xb) rfl (by kernel_rfl) (by kernel_rfl) (by kernel_rfl) (fun _ _ _ h => h) (yieldsIf_load_mid (by rfl) 62 (.tmp 23) rfl gn (128) rfl (dk.cells xb) _ (fun w h => h.2) uB rfl iB) hHeld ?_
    simp only [List.getElem_toArray, List.getElem_cons_zero, List.getElem_cons_succ, Act.put, List.setIfInBounds_toArray, List.set_cons_zero, List.set_cons_succ]
    refine wpAnyH_ready (rs := [6, 11]) (by kernel_rfl) (by simp) ?_
    refine AllReadyH.cons rfl (fun K hK => ?_) (AllReadyH.cons rfl (fun K hK => ?_) AllReadyH.nil)
    · rw [if_pos (by rfl)]
      go_simp
      refine (HNEW.out _ b2d).mono ?_
      rintro e w3 ⟨rfl, b3⟩
      have b23 := b2d.trans (b3.mono b2d.size)
      refine hK.out _ _ ⟨dk.range_below hHeld.1 b3, dk.range_below hHeld.2 b3⟩ (fun hHeld => ?_)
      clear hK K
      refine wpAnyH_take (i := 7) (v := ?_) rfl (by kernel_rfl) (by kernel_rfl) (by kernel_rfl) (fun _ _ _ h => h) (Or.inl ⟨by rfl, ?_⟩) hHeld ?_
      rotate_left
      · intro w hSw; clear hSw; go_simp; try rfl
      simp only [List.getElem_toArray, List.getElem_cons_zero, List.getElem_cons_succ, Act.put, List.setIfInBounds_toArray, List.set_cons_zero, List.set_cons_succ]
      refine wpAnyH_take (i := 8) (v := ?_) rfl (by kernel_rfl) (by kernel_rfl) (by kernel_rfl) (fun _ _ _ h => h) (Or.inl ⟨by rfl, ?_⟩) hHeld ?_
      rotate_left
      · intro w hSw; clear hSw; go_simp; try rfl
      simp only [List.getElem_toArray, List.getElem_cons_zero, List.getElem_cons_succ, Act.put, List.setIfInBounds_toArray, List.set_cons_zero, List.set_cons_succ]
      refine wpAnyH_take (i := 9) (v := ?_) rfl (by kernel_rfl) (by kernel_rfl) (by kernel_rfl) (fun _ _ _ h => h) (Or.inl ⟨by rfl, ?_⟩) hHeld ?_
      rotate_left
      · intro w hSw; clear hSw; go_simp; try rfl
      simp only [List.getElem_toArray, List.getElem_cons_zero, List.getElem_cons_succ, Act.put, List.setIfInBounds_toArray, List.set_cons_zero, List.set_cons_succ]
      refine wpAnyH_take (i := 10) (v := ?_) rfl (by kernel_rfl) (by kernel_rfl) (by kernel_rfl) (fun _ _ _ h => h) (Or.inl ⟨by rfl, ?_⟩) hHeld ?_
      rotate_left
      · intro w hSw; clear hSw; go_simp; try rfl
      simp only [List.getElem_toArray, List.getElem_cons_zero, List.getElem_cons_succ, Act.put, List.setIfInBounds_toArray, List.set_cons_zero, List.set_cons_succ]
      have nX := HM.new w3 51 hd.zero
      have b24 := b23.alloc b23.size (.cells #[bv hd.zero.bank, .int .u32 hd.zero.blocks, .int .u32 hd.zero.batches] 51)
      refine wpAnyH_ready (rs := [11]) (by kernel_rfl) (by simp) ?_
      refine AllReadyH.cons rfl (fun K hK => ?_) AllReadyH.nil
      rw [if_pos (by rfl)]
      go_simp
      refine hK.out _ _ ⟨dk.range_below hHeld.1 ((Below.refl _ _).alloc (Nat.le_refl _) _), dk.range_below hHeld.2 ((Below.refl _ _).alloc (Nat.le_refl _) _)⟩ (fun hHeld => ?_)
      clear hK K
      obtain ⟨X, hX⟩ : ∃ X, w3.heap.size = X := ⟨_, rfl⟩
      rw [hX] at nX
      simp only [hX]
      have hgX : gn ≠ X := by have := b3.size; omega
      have hXw : w.heap.size ≤ X := by rw [← hX]; exact b23.size
      have hg4 : gn < (w3.alloc (.cells #[bv hd.zero.bank, .int .u32 hd.zero.blocks, .int .u32 hd.zero.batches] 51)).heap.size := by have := b3.size; simp; omega
      generalize w3.alloc (.cells #[bv hd.zero.bank, .int .u32 hd.zero.blocks, .int .u32 hd.zero.batches] 51) = w4 at *
      refine wpAnyH_take (i := 12) (v := ?_) rfl (by kernel_rfl) (by kernel_rfl) (by kernel_rfl) (fun _ _ _ h => h) (Or.inl ⟨by rfl, ?_⟩) hHeld ?_
      rotate_left
      · intro w hSw; clear hSw; go_simp; try rfl
      simp only [List.getElem_toArray, List.getElem_cons_zero, List.getElem_cons_succ, Act.put, List.setIfInBounds_toArray, List.set_cons_zero, List.set_cons_succ]
      refine wpAnyH_ready (rs := [13]) (by kernel_rfl) (by simp) ?_
      refine AllReadyH.cons rfl (fun K hK => ?_) AllReadyH.nil
      rw [if_pos (by rfl)]
      refine wpo_sth (.tmp 7) (.tmp 27) k hd.zero nX rfl rfl rfl ?_
      intro w5 n5 c5
      refine hK.out _ _ ⟨dk.range_chg hHeld.1 c5 hg4 (by simp; exact hgX), dk.range_chg hHeld.2 c5 hg4 (by simp; exact hgX)⟩ (fun hHeld => ?_)
      clear hK K
      simp only [List.getElem_toArray, List.getElem_cons_zero, List.getElem_cons_succ, Act.put]
      refine wpAnyH_take (i := 14) (v := ?_) rfl (by kernel_rfl) (by kernel_rfl) (by kernel_rfl) (fun _ _ _ h => h) (Or.inl ⟨by rfl, ?_⟩) hHeld ?_
      rotate_left
      · intro w hSw; clear hSw; go_simp; try rfl
      simp only [List.getElem_toArray, List.getElem_cons_zero, List.getElem_cons_succ, Act.put, List.setIfInBounds_toArray, List.set_cons_zero, List.set_cons_succ]
      refine wpAnyH_done (by kernel_rfl) ?_ _
      have b25 := b24.trans (c5.below (B := w.heap.size) b24.size (fun x hx => by simp at hx; rw [hx]; exact hXw))
      clear hHeld c5 nX b24 hg4 HNEW
      have e1 := n5.c1
      have e2 := n5.c2
      have e0 := n5.c0
      by_cases hf0 : f = 0
      · have hf0' : (f != 0) = false := by simp [hf0]
        by_cases hNb : 2305843009213693952 < N
        · have hNd : decide ((2305843009213693952 : Int) < (N : Int)) = true := decide_eq_true (by omega)
          have hNi : (2305843009213693952 : Int) < (N : Int) := by omega
          have ho := HO.out
          rw [if_pos (.inr hNb)] at ho
          have HO5 := Lib.hid ho
          clear ho HO hf0 hNb
          go_wp2_with fail
          go_quiet (fail)
          go_wp2_with fail
          go_ret2
          exact ⟨_, w.heap.size, by rw [HO5.out]; rfl, fun h => absurd (HO5.out.symm.trans h) (by decide), fun _ => rfl, Nat.le_refl _, ⟨b25.os, b25.tape, b25.output, b25.size, b25.block⟩⟩
        · have hNd : decide ((2305843009213693952 : Int) < (N : Int)) = false := decide_eq_false (by omega)
          have hNi : ¬ (2305843009213693952 : Int) < (N : Int) := by omega
          have ho := HO.out
          rw [if_neg (by intro h; rcases h with h | h; exact h hf0; exact hNb h)] at ho
          have HO5 := Lib.hid ho
          have hmay := hd.may_ok hmk
          obtain ⟨hmy1, hmy2, hmy3⟩ := hmay
          have hhalf := jn.half_le hok
          have hww : IntKind.i64.wrap (k.blocks : Int) = (k.blocks : Int) := IntWalk.i64_in _ ⟨by omega, by omega⟩
          have HSIZE := Lib.hid (fun n => cj_size ((HD.out.below b25).drewN' n))
          obtain ⟨hf, hhf⟩ : ∃ h, jn.half s = h := ⟨_, rfl⟩
          rw [hhf] at HSIZE hhalf
          clear ho HO hf0 hNb
          by_cases hbig : hf < k.blocks
          · have hbi : decide ((hf : Int) < (k.blocks : Int)) = true := decide_eq_true (by omega)
            have hbi2 : (hf : Int) < (k.blocks : Int) := by omega
            have h5 : R = 5 := by
              have hb0 : jn.batches s k = ([], false) := by rw [jn.batches, if_pos (by rw [hhf]; exact hbig)]
              rw [HO5.out, hb0]
              rfl
            have H5 := Lib.hid h5
            clear h5 HO5 hbig
            go_wp2_with fail
            go_quiet (first | (go_at_call 29; exact quiet_is (HSIZE.out _)))
            go_wp2_with fail
            go_ret2
            exact ⟨_, w.heap.size, by rw [H5.out]; rfl, fun h => absurd (H5.out.symm.trans h) (by decide), fun _ => rfl, Nat.le_refl _, ⟨b25.os, b25.tape, b25.output, b25.size, b25.block⟩⟩
          · have hbi : decide ((hf : Int) < (k.blocks : Int)) = false := decide_eq_false (by omega)
            have hbi2 : ¬ (hf : Int) < (k.blocks : Int) := by omega
            have HBT := Lib.hid (fun W (hb : Below w.heap.size w W) => cj_batches (HD.out.below hb) k hmk (by omega) (.inl hbl))
            obtain ⟨B2, hB2⟩ : ∃ b, (jn.batches s k).2 = b := ⟨_, rfl⟩
            rw [hB2] at HBT HO5
            clear hB2 hbig
            go_wp2_with fail
            go_quiet (first | (go_at_call 29; exact quiet_is (HSIZE.out _)))
            have b25q : Below w.heap.size w (w5.drewN nq) := ⟨b25.os, b25.tape, b25.output, b25.size, b25.block⟩
            have n5q : HM 51 (w5.drewN nq) X k := n5
            clear b25 n5 e0 e1 e2 HSIZE
            generalize w5.drewN nq = w6 at *
            go_wp2_with (refine wp_ldh (.tmp 7) k n5q rfl rfl rfl ?_)
            refine (HBT.out _ b25q).mono ?_
            rintro e w7 ⟨A, n, c, rfl, _, _, b7⟩
            have b27 := b25q.trans (b7.mono b25q.size)
            have n7 := n5q.below b7 n5q.lt
            clear HBT b25q n5q b7
            cases B2 with
            | true =>
              have H5 := Lib.hid (show R = 0 from HO5.out)
              clear HO5
              have hj := heap_alloc_new w7 (.cells #[.pointer (some ⟨q, 0, none⟩), bv k.bank, .int .u32 k.blocks, .int .u32 k.batches] 53)
              have b28 := b27.alloc b27.size (.cells #[.pointer (some ⟨q, 0, none⟩), bv k.bank, .int .u32 k.blocks, .int .u32 k.batches] 53)
              have hs7 := b27.size
              go_wp2_with (refine wp_ldh (.tmp 7) k n7 rfl rfl rfl ?_)
              go_ret2
              exact ⟨_, w7.heap.size, by rw [H5.out]; rfl, fun _ => ⟨rfl, hj⟩, fun h => absurd H5.out h, hs7, b28⟩
            | false =>
              have H5 := Lib.hid (show R = 5 from HO5.out)
              clear HO5
              go_wp2_with fail
              go_ret2
              exact ⟨_, w.heap.size, by rw [H5.out]; rfl, fun h => absurd (H5.out.symm.trans h) (by decide), fun _ => rfl, Nat.le_refl _, b27⟩
      · have hf0' : (f != 0) = true := by simp [hf0]
        have ho := HO.out
        rw [if_pos (.inl hf0)] at ho
        have HO5 := Lib.hid ho
        clear ho HO hf0
        go_wp2_with fail
        go_quiet (fail)
        go_wp2_with fail
        go_ret2
        exact ⟨_, w.heap.size, by rw [HO5.out]; rfl, fun h => absurd (HO5.out.symm.trans h) (by decide), fun _ => rfl, Nat.le_refl _, ⟨b25.os, b25.tape, b25.output, b25.size, b25.block⟩⟩
    · rw [if_pos (by rfl)]
      have n0 := HM.new wd 51 hd.zero
      have b23 := b2d.alloc b2d.size (.cells #[bv hd.zero.bank, .int .u32 hd.zero.blocks, .int .u32 hd.zero.batches] 51)
      go_simp
      refine hK.out _ _ ⟨dk.range_below hHeld.1 ((Below.refl _ _).alloc (Nat.le_refl _) _), dk.range_below hHeld.2 ((Below.refl _ _).alloc (Nat.le_refl _) _)⟩ (fun hHeld => ?_)
      clear hK K
      obtain ⟨X, hX⟩ : ∃ X, wd.heap.size = X := ⟨_, rfl⟩
      rw [hX] at n0
      simp only [hX]
      have hgX : gn ≠ X := by omega
      have hXw : w.heap.size ≤ X := by rw [← hX]; exact b2d.size
      have hg3 : gn < (wd.alloc (.cells #[bv hd.zero.bank, .int .u32 hd.zero.blocks, .int .u32 hd.zero.batches] 51)).heap.size := by simp; omega
      generalize wd.alloc (.cells #[bv hd.zero.bank, .int .u32 hd.zero.blocks, .int .u32 hd.zero.batches] 51) = w3 at *
      refine wpAnyH_ready (rs := [6]) (by kernel_rfl) (by simp) ?_
      refine AllReadyH.cons rfl (fun K hK => ?_) AllReadyH.nil
      rw [if_pos (by rfl)]
      go_simp
      refine (HNEW.out _ b23).mono ?_
      rintro e w4 ⟨rfl, b4⟩
      have b24 := b23.trans (b4.mono b23.size)
      have nX := n0.below b4 n0.lt
      have hg4 : gn < w4.heap.size := Nat.lt_of_lt_of_le hg3 b4.size
      refine hK.out _ _ ⟨dk.range_below hHeld.1 b4, dk.range_below hHeld.2 b4⟩ (fun hHeld => ?_)
      clear hK K
      refine wpAnyH_take (i := 7) (v := ?_) rfl (by kernel_rfl) (by kernel_rfl) (by kernel_rfl) (fun _ _ _ h => h) (Or.inl ⟨by rfl, ?_⟩) hHeld ?_
      rotate_left
      · intro w hSw; clear hSw; go_simp; try rfl
      simp only [List.getElem_toArray, List.getElem_cons_zero, List.getElem_cons_succ, Act.put, List.setIfInBounds_toArray, List.set_cons_zero, List.set_cons_succ]
      refine wpAnyH_take (i := 8) (v := ?_) rfl (by kernel_rfl) (by kernel_rfl) (by kernel_rfl) (fun _ _ _ h => h) (Or.inl ⟨by rfl, ?_⟩) hHeld ?_
      rotate_left
      · intro w hSw; clear hSw; go_simp; try rfl
      simp only [List.getElem_toArray, List.getElem_cons_zero, List.getElem_cons_succ, Act.put, List.setIfInBounds_toArray, List.set_cons_zero, List.set_cons_succ]
      refine wpAnyH_take (i := 9) (v := ?_) rfl (by kernel_rfl) (by kernel_rfl) (by kernel_rfl) (fun _ _ _ h => h) (Or.inl ⟨by rfl, ?_⟩) hHeld ?_
      rotate_left
      · intro w hSw; clear hSw; go_simp; try rfl
      simp only [List.getElem_toArray, List.getElem_cons_zero, List.getElem_cons_succ, Act.put, List.setIfInBounds_toArray, List.set_cons_zero, List.set_cons_succ]
      refine wpAnyH_take (i := 10) (v := ?_) rfl (by kernel_rfl) (by kernel_rfl) (by kernel_rfl) (fun _ _ _ h => h) (Or.inl ⟨by rfl, ?_⟩) hHeld ?_
      rotate_left
      · intro w hSw; clear hSw; go_simp; try rfl
      simp only [List.getElem_toArray, List.getElem_cons_zero, List.getElem_cons_succ, Act.put, List.setIfInBounds_toArray, List.set_cons_zero, List.set_cons_succ]
      refine wpAnyH_take (i := 12) (v := ?_) rfl (by kernel_rfl) (by kernel_rfl) (by kernel_rfl) (fun _ _ _ h => h) (Or.inl ⟨by rfl, ?_⟩) hHeld ?_
      rotate_left
      · intro w hSw; clear hSw; go_simp; try rfl
      simp only [List.getElem_toArray, List.getElem_cons_zero, List.getElem_cons_succ, Act.put, List.setIfInBounds_toArray, List.set_cons_zero, List.set_cons_succ]
      refine wpAnyH_ready (rs := [13]) (by kernel_rfl) (by simp) ?_
      refine AllReadyH.cons rfl (fun K hK => ?_) AllReadyH.nil
      rw [if_pos (by rfl)]
      refine wpo_sth (.tmp 7) (.tmp 27) k hd.zero nX rfl rfl rfl ?_
      intro w5 n5 c5
      refine hK.out _ _ ⟨dk.range_chg hHeld.1 c5 hg4 (by simp; exact hgX), dk.range_chg hHeld.2 c5 hg4 (by simp; exact hgX)⟩ (fun hHeld => ?_)
      clear hK K
      simp only [List.getElem_toArray, List.getElem_cons_zero, List.getElem_cons_succ, Act.put]
      refine wpAnyH_take (i := 14) (v := ?_) rfl (by kernel_rfl) (by kernel_rfl) (by kernel_rfl) (fun _ _ _ h => h) (Or.inl ⟨by rfl, ?_⟩) hHeld ?_
      rotate_left
      · intro w hSw; clear hSw; go_simp; try rfl
      simp only [List.getElem_toArray, List.getElem_cons_zero, List.getElem_cons_succ, Act.put, List.setIfInBounds_toArray, List.set_cons_zero, List.set_cons_succ]
      refine wpAnyH_done (by kernel_rfl) ?_ _
      have b25 := b24.trans (c5.below (B := w.heap.size) b24.size (fun x hx => by simp at hx; rw [hx]; exact hXw))
      clear hHeld c5 nX b24 hg4 HNEW
      have e1 := n5.c1
      have e2 := n5.c2
      have e0 := n5.c0
      by_cases hf0 : f = 0
      · have hf0' : (f != 0) = false := by simp [hf0]
        by_cases hNb : 2305843009213693952 < N
        · have hNd : decide ((2305843009213693952 : Int) < (N : Int)) = true := decide_eq_true (by omega)
          have hNi : (2305843009213693952 : Int) < (N : Int) := by omega
          have ho := HO.out
          rw [if_pos (.inr hNb)] at ho
          have HO5 := Lib.hid ho
          clear ho HO hf0 hNb
          go_wp2_with fail
          go_quiet (fail)
          go_wp2_with fail
          go_ret2
          exact ⟨_, w.heap.size, by rw [HO5.out]; rfl, fun h => absurd (HO5.out.symm.trans h) (by decide), fun _ => rfl, Nat.le_refl _, ⟨b25.os, b25.tape, b25.output, b25.size, b25.block⟩⟩
        · have hNd : decide ((2305843009213693952 : Int) < (N : Int)) = false := decide_eq_false (by omega)
          have hNi : ¬ (2305843009213693952 : Int) < (N : Int) := by omega
          have ho := HO.out
          rw [if_neg (by intro h; rcases h with h | h; exact h hf0; exact hNb h)] at ho
          have HO5 := Lib.hid ho
          have hmay := hd.may_ok hmk
          obtain ⟨hmy1, hmy2, hmy3⟩ := hmay
          have hhalf := jn.half_le hok
          have hww : IntKind.i64.wrap (k.blocks : Int) = (k.blocks : Int) := IntWalk.i64_in _ ⟨by omega, by omega⟩
          have HSIZE := Lib.hid (fun n => cj_size ((HD.out.below b25).drewN' n))
          obtain ⟨hf, hhf⟩ : ∃ h, jn.half s = h := ⟨_, rfl⟩
          rw [hhf] at HSIZE hhalf
          clear ho HO hf0 hNb
          by_cases hbig : hf < k.blocks
          · have hbi : decide ((hf : Int) < (k.blocks : Int)) = true := decide_eq_true (by omega)
            have hbi2 : (hf : Int) < (k.blocks : Int) := by omega
            have h5 : R = 5 := by
              have hb0 : jn.batches s k = ([], false) := by rw [jn.batches, if_pos (by rw [hhf]; exact hbig)]
              rw [HO5.out, hb0]
              rfl
            have H5 := Lib.hid h5
            clear h5 HO5 hbig
            go_wp2_with fail
            go_quiet (first | (go_at_call 29; exact quiet_is (HSIZE.out _)))
            go_wp2_with fail
            go_ret2
            exact ⟨_, w.heap.size, by rw [H5.out]; rfl, fun h => absurd (H5.out.symm.trans h) (by decide), fun _ => rfl, Nat.le_refl _, ⟨b25.os, b25.tape, b25.output, b25.size, b25.block⟩⟩
          · have hbi : decide ((hf : Int) < (k.blocks : Int)) = false := decide_eq_false (by omega)
            have hbi2 : ¬ (hf : Int) < (k.blocks : Int) := by omega
            have HBT := Lib.hid (fun W (hb : Below w.heap.size w W) => cj_batches (HD.out.below hb) k hmk (by omega) (.inl hbl))
            obtain ⟨B2, hB2⟩ : ∃ b, (jn.batches s k).2 = b := ⟨_, rfl⟩
            rw [hB2] at HBT HO5
            clear hB2 hbig
            go_wp2_with fail
            go_quiet (first | (go_at_call 29; exact quiet_is (HSIZE.out _)))
            have b25q : Below w.heap.size w (w5.drewN nq) := ⟨b25.os, b25.tape, b25.output, b25.size, b25.block⟩
            have n5q : HM 51 (w5.drewN nq) X k := n5
            clear b25 n5 e0 e1 e2 HSIZE
            generalize w5.drewN nq = w6 at *
            go_wp2_with (refine wp_ldh (.tmp 7) k n5q rfl rfl rfl ?_)
            refine (HBT.out _ b25q).mono ?_
            rintro e w7 ⟨A, n, c, rfl, _, _, b7⟩
            have b27 := b25q.trans (b7.mono b25q.size)
            have n7 := n5q.below b7 n5q.lt
            clear HBT b25q n5q b7
            cases B2 with
            | true =>
              have H5 := Lib.hid (show R = 0 from HO5.out)
              clear HO5
              have hj := heap_alloc_new w7 (.cells #[.pointer (some ⟨q, 0, none⟩), bv k.bank, .int .u32 k.blocks, .int .u32 k.batches] 53)
              have b28 := b27.alloc b27.size (.cells #[.pointer (some ⟨q, 0, none⟩), bv k.bank, .int .u32 k.blocks, .int .u32 k.batches] 53)
              have hs7 := b27.size
              go_wp2_with (refine wp_ldh (.tmp 7) k n7 rfl rfl rfl ?_)
              go_ret2
              exact ⟨_, w7.heap.size, by rw [H5.out]; rfl, fun _ => ⟨rfl, hj⟩, fun h => absurd H5.out h, hs7, b28⟩
            | false =>
              have H5 := Lib.hid (show R = 5 from HO5.out)
              clear HO5
              go_wp2_with fail
              go_ret2
              exact ⟨_, w.heap.size, by rw [H5.out]; rfl, fun h => absurd (H5.out.symm.trans h) (by decide), fun _ => rfl, Nat.le_refl _, b27⟩
      · have hf0' : (f != 0) = true := by simp [hf0]
        have ho := HO.out
        rw [if_pos (.inl hf0)] at ho
        have HO5 := Lib.hid ho
        clear ho HO hf0
        go_wp2_with fail
        go_quiet (fail)
        go_wp2_with fail
        go_ret2
        exact ⟨_, w.heap.size, by rw [HO5.out]; rfl, fun h => absurd (HO5.out.symm.trans h) (by decide), fun _ => rfl, Nat.le_refl _, ⟨b25.os, b25.tape, b25.output, b25.size, b25.block⟩⟩
end Go.Proofs.YtknndmhkfonfmaaDoor
