/-
  THE PROGRAM's head: Put, Get, Newest: the contracts that the laws want.
-/
import Derived.Test.YtiiigbhkbpdciaaDoorHeadP
namespace Go.Proofs.YtiiigbhkbpdciaaDoor
open Go.RowKit

set_option maxHeartbeats 4000000 in
set_option maxRecDepth 100000 in
theorem ch_put (n : Nat) (hn : n < 18446744073709551616) (h : hd.H) (hok : h.Ok) (w : World) (ht : Tabs w) : Calls Tryd.prog 7 #[.int .u64 n, hd.val h] w fun e w' =>
    e = .returned (.tuple #[dk.val (hd.put n h).1, .int .i64 (hd.put n h).2]) ∧ Below w.heap.size w w' := by
  obtain ⟨hz, -⟩ := zero_of_info zero_blk
  have m1 := HM.new w 25 h
  have m2 := m1.alloc (.cells (dk.cells dk.zero).toArray 27)
  have b1 : Below w.heap.size w (w.alloc (.cells #[bv h.bank, .int .u32 h.blocks, .int .u32 h.batches] 25)) := (Below.refl _ _).alloc (Nat.le_refl _) _
  have b2 := b1.alloc b1.size (.cells (dk.cells dk.zero).toArray 27)
  have r2 := heap_alloc_new (w.alloc (.cells #[bv h.bank, .int .u32 h.blocks, .int .u32 h.batches] 25)) (.cells (dk.cells dk.zero).toArray 27)
  rw [show (w.alloc (.cells #[bv h.bank, .int .u32 h.blocks, .int .u32 h.batches] 25)).heap.size = w.heap.size + 1 from by simp] at r2
  obtain ⟨W2, hW2⟩ : ∃ W2, (w.alloc (.cells #[bv h.bank, .int .u32 h.blocks, .int .u32 h.batches] 25)).alloc (.cells (dk.cells dk.zero).toArray 27) = W2 := ⟨_, rfl⟩
  rw [hW2] at m2 b2 r2
  have hlR : w.heap.size + 1 < W2.heap.size := (Array.getElem?_eq_some_iff.1 r2).1
  have ht2 := ht.below b2
  have hmay := ch_may h hok W2
  have c0 := m2.c0
  have c1 := m2.c1
  have c2 := m2.c2
  obtain ⟨q2, hq2⟩ : ∃ q, hd.may h = q := ⟨_, rfl⟩
  rw [hq2] at hmay
  have HMAY := Lib.hid hmay
  have HQ2 := Lib.hid hq2
  clear hmay m1 b1 hq2
  by_cases hnum : hd.num n = true
  · obtain ⟨hn1, hn2⟩ := hd.num_ok hnum
    have hc0 : ((n : Int) == 0) = false := by
      have : ¬ (n : Int) = 0 := by omega
      simpa using this
    have hc1 : ¬ (4611686018427387904 : Int) < (n : Int) := by omega
    cases q2 with
    | false =>
      have hp := hd.put_no (n := n) (h := h) (by rw [HQ2.out, Bool.and_false])
      have HP := Lib.hid hp
      clear hp hnum
      go_enter Tryd.func7, Tryd.ntmps7
      go_wp2_with fail
      refine HMAY.out.mono ?_
      rintro e w4 ⟨rfl, b4⟩
      have b24 := b2.trans (b4.mono b2.size)
      have r4 := (b4.block _ hlR).trans r2
      clear r2
      go_wp2_with (refine wp_st0 (.tmp 4) (.tmp 17) dk.zero r4 zero_len zero_len rfl rfl rfl rfl ?_; intro W hW hc)
      refine bodyPost_ret (results_cell_tmp rfl rfl (blk_load (blk_range hW) zero_len)) rfl ⟨?_, (Chg.of_below b24 [w.heap.size + 1]).trans hc (Sub.refl _ _) |>.below (Nat.le_refl _) (fun k hk => by simp at hk; omega)⟩
      rw [HP.out]
      rfl
    | true =>
      have hp := hd.put_yes hnum HQ2.out
      have HP := Lib.hid hp
      have hbl := hd.bodyOf_length h
      have hs : sl.put n (hd.bodyOf h) = (sl.sealB n (hd.bodyOf h), 0) := by rw [sl.put, if_neg (by omega), if_neg (by rw [hbl]; omega)]
      have p5 := fun W A c (hB : BS W A 9 c (hd.bodyOf h)) hT => cs_put n hn A 9 c (hd.bodyOf h) W hB hT
      simp only [hs] at p5
      have P5 := Lib.hid p5
      have hsl := sl.seal_length n (body := hd.bodyOf h) (by rw [hbl]; omega)
      have HBODY := Lib.hid (fun W hT => hbody_any h hok W hT)
      obtain ⟨L, hL⟩ : ∃ L, hd.bodyOf h = L := ⟨_, rfl⟩
      rw [hL] at hbl P5 HBODY hsl HP
      generalize sl.sealB n L = S at *
      clear hp hs p5 hL hnum
      have HBL := Lib.hid hbl
      clear hbl
      go_enter Tryd.func7, Tryd.ntmps7
      go_wp2_with fail
      refine HMAY.out.mono ?_
      rintro e w4 ⟨rfl, b4⟩
      have b24 := b2.trans (b4.mono b2.size)
      have hl4 := b4.size
      have r4 := (b4.block _ hlR).trans r2
      have m4 := m2.below b4 m2.lt
      have ht4 := ht2.below b4
      have d0 := m4.c0
      have d1 := m4.c1
      have d2 := m4.c2
      clear r2 m2 c0 c1 c2 b2 b4
      go_wp2_with fail
      refine (HBODY.out w4 ht4.siz).mono ?_
      rintro e w5 ⟨v5, rfl, o5, b5⟩
      obtain ⟨A5, c5, rfl, hB5⟩ := o5.form
      rw [HBL.out] at hB5 ⊢
      have b25 := b24.trans (b5.mono b24.size)
      have r5 := (b5.block _ (by omega)).trans r4
      have hl5 := b5.size
      have ht5 := ht4.below b5
      clear r4 m4 d0 d1 d2 b24 b5
      go_wp2_with fail
      refine (P5.out _ _ _ hB5 ht5.tab).mono ?_
      rintro e w6 ⟨rfl, b6⟩
      have b26 := b25.trans (b6.mono b25.size)
      have r6 := (b6.block _ (by omega)).trans r5
      clear r5 b25 b6 o5 hB5
      go_wp2_with (refine wp_st0 (.tmp 4) (.tmp 22) S r6 zero_len hsl rfl rfl rfl rfl ?_; intro W hW hc)
      refine bodyPost_ret (results_cell_tmp rfl rfl (blk_load (blk_range hW) hsl)) rfl ⟨?_, (Chg.of_below b26 [w.heap.size + 1]).trans hc (Sub.refl _ _) |>.below (Nat.le_refl _) (fun k hk => by simp at hk; omega)⟩
      rw [HP.out]
      rfl
  · have hp := hd.put_no (n := n) (h := h) (by simp [hnum])
    have HP := Lib.hid hp
    have hout : n = 0 ∨ 4611686018427387904 < n := by
      simp only [hd.num, Bool.and_eq_true, decide_eq_true_eq] at hnum
      omega
    clear hp hnum
    by_cases h0 : n = 0
    · have hc0 : ((n : Int) == 0) = true := by simp [h0]
      clear h0 hout
      go_enter Tryd.func7, Tryd.ntmps7
      go_wp2_with (refine wp_st0 (.tmp 4) (.tmp 17) dk.zero r2 zero_len zero_len rfl rfl rfl rfl ?_; intro W hW hc)
      refine bodyPost_ret (results_cell_tmp rfl rfl (blk_load (blk_range hW) zero_len)) rfl ⟨?_, (Chg.of_below b2 [w.heap.size + 1]).trans hc (Sub.refl _ _) |>.below (Nat.le_refl _) (fun k hk => by simp at hk; omega)⟩
      rw [HP.out]
      rfl
    · have hc0 : ((n : Int) == 0) = false := by
        have : ¬ (n : Int) = 0 := by omega
        simpa using this
      have hc1 : (4611686018427387904 : Int) < (n : Int) := by omega
      clear h0 hout
      go_enter Tryd.func7, Tryd.ntmps7
      go_wp2_with (refine wp_st0 (.tmp 4) (.tmp 17) dk.zero r2 zero_len zero_len rfl rfl rfl rfl ?_; intro W hW hc)
      refine bodyPost_ret (results_cell_tmp rfl rfl (blk_load (blk_range hW) zero_len)) rfl ⟨?_, (Chg.of_below b2 [w.heap.size + 1]).trans hc (Sub.refl _ _) |>.below (Nat.le_refl _) (fun k hk => by simp at hk; omega)⟩
      rw [HP.out]
      rfl
set_option maxHeartbeats 4000000 in
set_option maxRecDepth 100000 in
theorem ch_get (b : dk.Blk) (hb : b.length = 128) (w : World) (ht : Tabs w) : Calls Tryd.prog 13 #[dk.val b] w fun e w' =>
    e = .returned (.tuple #[.int .u64 (hd.get b).1, hd.val (hd.get b).2.1, .int .i64 (hd.get b).2.2]) ∧ Below w.heap.size w w' := by
  obtain ⟨hz, -⟩ := zero_of_info zero_blk
  obtain ⟨hzh, -⟩ := zero_of_info info_head
  have r1 := heap_alloc_new w (.cells (dk.cells b).toArray 27)
  have b1 : Below w.heap.size w (w.alloc (.cells (dk.cells b).toArray 27)) := (Below.refl _ _).alloc (Nat.le_refl _) _
  have r2 := (Below.heap_alloc (w.alloc (.cells (dk.cells b).toArray 27)) (.cells #[bv hd.zero.bank, .int .u32 hd.zero.blocks, .int .u32 hd.zero.batches] 25) w.heap.size (by simp)).trans r1
  have m2 := HM.new (w.alloc (.cells (dk.cells b).toArray 27)) 25 hd.zero
  rw [show (w.alloc (.cells (dk.cells b).toArray 27)).heap.size = w.heap.size + 1 from by simp] at m2
  have b2 := b1.alloc b1.size (.cells #[bv hd.zero.bank, .int .u32 hd.zero.blocks, .int .u32 hd.zero.batches] 25)
  have hlen2 : w.heap.size + 1 < ((w.alloc (.cells (dk.cells b).toArray 27)).alloc (.cells #[bv hd.zero.bank, .int .u32 hd.zero.blocks, .int .u32 hd.zero.batches] 25)).heap.size := by simp
  obtain ⟨W2, hW2⟩ : ∃ W2, (w.alloc (.cells (dk.cells b).toArray 27)).alloc (.cells #[bv hd.zero.bank, .int .u32 hd.zero.blocks, .int .u32 hd.zero.batches] 25) = W2 := ⟨_, rfl⟩
  have m2' : HM 25 W2 (w.heap.size + 1) hd.zero := by rw [← hW2]; exact m2
  rw [hW2] at r2 b2 hlen2
  obtain ⟨N, hN⟩ : ∃ e, (sl.get b).1 = e := ⟨_, rfl⟩
  obtain ⟨l, hl⟩ : ∃ e, (sl.get b).2.1 = e := ⟨_, rfl⟩
  obtain ⟨e0, he⟩ : ∃ e, (sl.get b).2.2 = e := ⟨_, rfl⟩
  have ht2 := ht.below b2
  have hg := cs_get b hb W2 ht2.tab
  rw [hN, hl, he] at hg
  have HG := Lib.hid hg
  have rg := blk_range r2
  have hdef : hd.get b = if e0 = 0 then (if (hd.put N (hd.headOf l)).2 = 0 ∧ (hd.put N (hd.headOf l)).1 = b then (N, hd.headOf l, 0) else (0, hd.zero, 5)) else (0, hd.zero, e0) := by rw [← hN, ← hl, ← he]; rfl
  have HDEF := Lib.hid hdef
  have hlen : e0 = 0 → l.length = 108 := fun h => by rw [← hl]; exact sl.get_len hb (he.trans h)
  have HLEN := Lib.hid hlen
  have hNlt : N < 18446744073709551616 := by rw [← hN]; exact sl.worth_lt b
  clear hg r1 b1 m2 hdef hN hl he hlen
  go_enter Tryd.func13, Tryd.ntmps13
  go_wp2_with (refine wp_ld (.tmp 1) b rg hb rfl rfl rfl ?_)
  refine HG.out.mono ?_
  rintro e w3 ⟨v3, rfl, o3, b3⟩
  have b23 := b2.trans (b3.mono b2.size)
  have m3 := m2'.below b3 hlen2
  have r3 := (b3.block w.heap.size (by omega)).trans r2
  have hl3 := b3.size
  clear HG rg hW2 m2' r2 b2
  by_cases he0 : e0 = 0
  · have he0' : (e0 != 0) = false := by simp [he0]
    have hll := HLEN.out he0
    obtain ⟨A3, c3, rfl, hB3⟩ := o3.form
    rw [hll] at hB3 ⊢
    have hcap := hB3.cap
    have hmax := hB3.max
    have hOk := hd.headOf_Ok l
    have hin := hin_any A3 108 c3 l w3 hB3 (by omega) (ht2.below b3).siz
    obtain ⟨hh, hhe⟩ : ∃ x, hd.headOf l = x := ⟨_, rfl⟩
    have hdef := HDEF.out
    rw [if_pos he0] at hdef
    rw [hhe] at hOk hdef hin
    have hput := fun W hT => ch_put N hNlt hh hOk W hT
    obtain ⟨S, hS⟩ : ∃ e, (hd.put N hh).1 = e := ⟨_, rfl⟩
    obtain ⟨f, hf⟩ : ∃ e, (hd.put N hh).2 = e := ⟨_, rfl⟩
    have hSl : S.length = 128 := by rw [← hS]; exact hd.put_len _ _
    simp only [hS, hf] at hput
    rw [hS, hf] at hdef
    have HD := Lib.hid hdef
    have HPUT := Lib.hid hput
    have HIN := Lib.hid hin
    have ht3 := ht2.below b3
    clear hput hdef hin hhe hS hf HDEF HLEN hB3 ht2
    go_wp2_with fail
    refine HIN.out.mono ?_
    rintro e w3' ⟨rfl, b3'⟩
    have b23' := b23.trans (b3'.mono b23.size)
    have m3' := m3.below b3' m3.lt
    have r3' := (b3'.block w.heap.size (by omega)).trans r3
    have hl3' := b3'.size
    have ht3' := ht3.below b3'
    have n3 := HM.new w3' 25 hd.zero
    obtain ⟨X1, hX1⟩ : ∃ X, w3'.heap.size = X := ⟨_, rfl⟩
    rw [hX1] at n3
    clear HIN m3 r3 b23 b3 o3 ht3
    go_wp2_with (first
      | (refine wp_sth (.tmp 8) (.tmp 22) hh hd.zero n3 rfl rfl rfl rfl ?_; intro w4 m4 hc4; rw [← hX1] at hc4; have b4 := new_chg hc4)
      | refine wp_ldh (.tmp 8) hh m4 rfl rfl rfl ?_)
    have b24 := b23'.trans (b4.mono b23'.size)
    have m34 := m3'.below b4 m3'.lt
    have r4 := (b4.block w.heap.size (by omega)).trans r3'
    have hl4 := b4.size
    have ht4 := ht3'.below b4
    clear hc4 n3 m3' r3' b23'
    refine (HPUT.out w4 ht4).mono ?_
    rintro e w5 ⟨rfl, b5⟩
    have b25 := b24.trans (b5.mono b24.size)
    have m35 := m34.below b5 m34.lt
    have m5 := m4.below b5 m4.lt
    have r5 := (b5.block w.heap.size (by omega)).trans r4
    have hl5 := b5.size
    have n5 := heap_alloc_new w5 (.cells (dk.cells dk.zero).toArray 27)
    have hX1l := m4.lt
    obtain ⟨X2, hX2⟩ : ∃ X, w5.heap.size = X := ⟨_, rfl⟩
    rw [hX2] at n5
    have hE := eq_blk S b hSl hb
    clear m34 m4 r4 b24 b4 b5 HPUT
    by_cases hf0 : f = 0
    · have hf0' : (f != 0) = false := by simp [hf0]
      by_cases hSb : S = b
      · rw [decide_eq_true hSb] at hE
        have hd := HD.out
        rw [if_pos ⟨hf0, hSb⟩] at hd
        have HD' := Lib.hid hd
        clear hd HD hSb
        go_wp2_with (first
          | (refine wp_st0 (.tmp 9) (.tmp 27) S n5 zero_len hSl rfl rfl rfl rfl ?_; intro w6 hW6 hc6; rw [← hX2] at hc6; have b6 := new_chg hc6; have g6 := blk_range hW6; have g7 := blk_range ((b6.block w.heap.size (by omega)).trans r5))
          | refine wp_ldw (.tmp 9) S g6 hSl rfl rfl (by rfl) ?_
          | refine wp_ldw (.tmp 1) b g7 hb rfl rfl (by rfl) ?_)
        have m6 := m5.below b6 (by omega)
        have m36 := m35.below b6 m35.lt
        have b26 := b25.trans (b6.mono b25.size)
        have c0 := m6.c0
        have c1 := m6.c1
        have c2 := m6.c2
        have d0 := m36.c0
        have d1 := m36.c1
        have d2 := m36.c2
        have f0 := m36.fz 0
        have f1 := m36.fz 1
        have f2 := m36.fz 2
        have hne : X1 ≠ w.heap.size + 1 := by omega
        clear hW6 hc6 b6 g6 g7 m6 m5 hE n5 r5
        have hset := m36.set3 hh
        have HSET := Lib.hid hset
        clear hset
        go_region
        have hset := HSET.out
        clear c0 c1 c2 d0 d1 d2 f0 f1 f2 m35 m36 HSET
        obtain ⟨hs1, hs2⟩ := hset
        have hs3 := hs1.drew
        have hs4 := (hs2.trans (Chg.drew _ _) (Sub.refl _ _))
        generalize ((((w6.setCell ⟨w.heap.size + 1, 0, none⟩ (bv hh.bank)).setCell ⟨w.heap.size + 1, 1, none⟩ (.int .u32 hh.blocks)).setCell ⟨w.heap.size + 1, 2, none⟩ (.int .u32 hh.batches)).drew) = w7 at *
        go_wp2_with fail
        refine bodyPost_ret (results_tct rfl rfl (head_load hs3)) rfl ⟨?_, (Chg.of_below b26 [w.heap.size + 1]).trans hs4 (Sub.refl _ _) |>.below (Nat.le_refl _) (fun k hk => by simp at hk; omega)⟩
        rw [HD'.out]
        rfl
      · rw [decide_eq_false hSb] at hE
        have hd := HD.out
        rw [if_neg (fun h => hSb h.2)] at hd
        have HD' := Lib.hid hd
        clear hd HD hSb
        go_wp2_with (first
          | (refine wp_st0 (.tmp 9) (.tmp 27) S n5 zero_len hSl rfl rfl rfl rfl ?_; intro w6 hW6 hc6; rw [← hX2] at hc6; have b6 := new_chg hc6; have g6 := blk_range hW6; have g7 := blk_range ((b6.block w.heap.size (by omega)).trans r5); have m36 := m35.below b6 m35.lt; have b26 := b25.trans (b6.mono b25.size))
          | refine wp_ldw (.tmp 9) S g6 hSl rfl rfl (by rfl) ?_
          | refine wp_ldw (.tmp 1) b g7 hb rfl rfl (by rfl) ?_
          | (refine wp_sth (.tmp 3) (.tmp 36) hd.zero hd.zero m36 rfl rfl rfl rfl ?_; intro w7 m7 hc7))
        refine bodyPost_ret (results_tct rfl rfl (head_load m7)) rfl ⟨?_, (Chg.of_below b26 [w.heap.size + 1]).trans hc7 (Sub.refl _ _) |>.below (Nat.le_refl _) (fun k hk => by simp at hk; omega)⟩
        rw [HD'.out]
        rfl
    · have hf0' : (f != 0) = true := by simp [hf0]
      have hd := HD.out
      rw [if_neg (fun h => hf0 h.1)] at hd
      have HD' := Lib.hid hd
      clear hd HD hE
      go_wp2_with (first
        | (refine wp_st0 (.tmp 9) (.tmp 27) S n5 zero_len hSl rfl rfl rfl rfl ?_; intro w6 hW6 hc6; rw [← hX2] at hc6; have b6 := new_chg hc6; have m36 := m35.below b6 m35.lt; have b26 := b25.trans (b6.mono b25.size))
        | (refine wp_sth (.tmp 3) (.tmp 36) hd.zero hd.zero m36 rfl rfl rfl rfl ?_; intro w7 m7 hc7))
      refine bodyPost_ret (results_tct rfl rfl (head_load m7)) rfl ⟨?_, (Chg.of_below b26 [w.heap.size + 1]).trans hc7 (Sub.refl _ _) |>.below (Nat.le_refl _) (fun k hk => by simp at hk; omega)⟩
      rw [HD'.out]
      rfl
  · have he0' : (e0 != 0) = true := by simp [he0]
    have hdef := HDEF.out
    rw [if_neg he0] at hdef
    have HD := Lib.hid hdef
    clear hdef
    go_wp2_with (refine wp_sth (.tmp 3) (.tmp 19) hd.zero hd.zero m3 rfl rfl rfl rfl ?_; intro w4 m4 hc4)
    refine bodyPost_ret (results_tct rfl rfl (head_load m4)) rfl ⟨?_, (Chg.of_below b23 [w.heap.size + 1]).trans hc4 (Sub.refl _ _) |>.below (Nat.le_refl _) (fun k hk => by simp at hk; omega)⟩
    rw [HD.out]
    rfl
set_option maxHeartbeats 4000000 in
set_option maxRecDepth 100000 in
theorem ch_newest (a b : dk.Blk) (ha : a.length = 128) (hb : b.length = 128) (w : World) (ht : Tabs w) : Calls Tryd.prog 15 #[dk.val a, dk.val b] w fun e w' =>
    e = .returned (.tuple #[.int .u64 (hd.newest a b).1, hd.val (hd.newest a b).2.1, .int .i64 (hd.newest a b).2.2]) ∧ Below w.heap.size w w' := by
  obtain ⟨hzh, -⟩ := zero_of_info info_head
  obtain ⟨N1, hN1⟩ : ∃ e, (hd.get a).1 = e := ⟨_, rfl⟩
  obtain ⟨h1, hh1⟩ : ∃ e, (hd.get a).2.1 = e := ⟨_, rfl⟩
  obtain ⟨e1, he1⟩ : ∃ e, (hd.get a).2.2 = e := ⟨_, rfl⟩
  obtain ⟨N2, hN2⟩ : ∃ e, (hd.get b).1 = e := ⟨_, rfl⟩
  obtain ⟨h2, hh2⟩ : ∃ e, (hd.get b).2.1 = e := ⟨_, rfl⟩
  obtain ⟨e2, he2⟩ : ∃ e, (hd.get b).2.2 = e := ⟨_, rfl⟩
  have HA := Lib.hid (fun W hT => ch_get a ha W hT)
  have HB := Lib.hid (fun W hT => ch_get b hb W hT)
  have hdef : hd.newest a b = if ¬ e1 = 0 ∧ ¬ e2 = 0 then (0, hd.zero, 7) else if N1 < N2 then (N2, h2, 0) else (N1, h1, 0) := by rw [← hN1, ← hN2, ← hh1, ← hh2, ← he1, ← he2]; rfl
  rw [hN1, hh1, he1] at HA
  rw [hN2, hh2, he2] at HB
  have hz1 : e1 = 0 ↔ ¬ N1 = 0 := by
    rw [← he1, ← hN1]
    constructor
    · intro h
      have := (hd.get_num h).1
      omega
    · intro h
      by_cases hx : (hd.get a).2.2 = 0
      · exact hx
      · exact absurd (hd.get_err hx).1 h
  have hz2 : e2 = 0 ↔ ¬ N2 = 0 := by
    rw [← he2, ← hN2]
    constructor
    · intro h
      have := (hd.get_num h).1
      omega
    · intro h
      by_cases hx : (hd.get b).2.2 = 0
      · exact hx
      · exact absurd (hd.get_err hx).1 h
  have hdef' : hd.newest a b = if N1 = 0 ∧ N2 = 0 then (0, hd.zero, 7) else if N1 < N2 then (N2, h2, 0) else (N1, h1, 0) := by
    rw [hdef]
    have hc : (¬ e1 = 0 ∧ ¬ e2 = 0) = (N1 = 0 ∧ N2 = 0) := by rw [hz1, hz2]; simp
    simp only [hc]
  have HDEF := Lib.hid hdef'
  clear hdef' hz1 hz2
  have r1 := heap_alloc_new w (.cells (dk.cells a).toArray 27)
  have b1 : Below w.heap.size w (w.alloc (.cells (dk.cells a).toArray 27)) := (Below.refl _ _).alloc (Nat.le_refl _) _
  obtain ⟨Wa, hWa⟩ : ∃ Wa, w.alloc (.cells (dk.cells a).toArray 27) = Wa := ⟨_, rfl⟩
  have hsa : Wa.heap.size = w.heap.size + 1 := by rw [← hWa]; simp
  rw [hWa] at r1 b1
  have r2 := (Below.heap_alloc Wa (.cells (dk.cells b).toArray 27) w.heap.size (by omega)).trans r1
  have s2 := heap_alloc_new Wa (.cells (dk.cells b).toArray 27)
  have b2 := b1.alloc b1.size (.cells (dk.cells b).toArray 27)
  obtain ⟨Wb, hWb⟩ : ∃ Wb, Wa.alloc (.cells (dk.cells b).toArray 27) = Wb := ⟨_, rfl⟩
  have hsb : Wb.heap.size = w.heap.size + 2 := by rw [← hWb]; simp; omega
  rw [hWb] at r2 s2 b2
  rw [hsa] at s2
  have r3 := (Below.heap_alloc Wb (.cells #[bv hd.zero.bank, .int .u32 hd.zero.blocks, .int .u32 hd.zero.batches] 25) w.heap.size (by omega)).trans r2
  have s3 := (Below.heap_alloc Wb (.cells #[bv hd.zero.bank, .int .u32 hd.zero.blocks, .int .u32 hd.zero.batches] 25) (w.heap.size + 1) (by omega)).trans s2
  have m3 := HM.new Wb 25 hd.zero
  have b3 := b2.alloc b2.size (.cells #[bv hd.zero.bank, .int .u32 hd.zero.blocks, .int .u32 hd.zero.batches] 25)
  rw [hsb] at m3
  obtain ⟨W3, hW3⟩ : ∃ W3, Wb.alloc (.cells #[bv hd.zero.bank, .int .u32 hd.zero.blocks, .int .u32 hd.zero.batches] 25) = W3 := ⟨_, rfl⟩
  rw [hW3] at r3 s3 m3 b3
  have m3' : HM 25 W3 (w.heap.size + 1 + 1) hd.zero := m3
  have hl3 : w.heap.size + 1 + 1 < W3.heap.size := m3.lt
  have g3 := blk_range r3
  have hj : W3 = ((w.alloc (.cells (dk.cells a).toArray 27)).alloc (.cells (dk.cells b).toArray 27)).alloc (.cells #[bv hd.zero.bank, .int .u32 hd.zero.blocks, .int .u32 hd.zero.batches] 25) := by rw [← hW3, ← hWb, ← hWa]
  have HJ := Lib.hid hj
  clear hdef hN1 hN2 hh1 hh2 he1 he2 r1 b1 r2 s2 b2 hWb hWa hW3 hsa hsb hj
  go_enter Tryd.func15, Tryd.ntmps15
  go_wp2_with (first | (rw [← HJ.out]; refine wp_ld (.tmp 2) a g3 ha rfl rfl rfl ?_) | refine wp_ld (.tmp 2) a g3 ha rfl rfl rfl ?_)
  have ht3 := ht.below b3
  refine (HA.out _ ht3).mono ?_
  rintro e w4 ⟨rfl, b4⟩
  have b34 := b3.trans (b4.mono b3.size)
  have ht4 := ht3.below b4
  have m4 := m3'.below b4 hl3
  have s4 := (b4.block (w.heap.size + 1) (by omega)).trans s3
  have hl4 := b4.size
  have n4 := HM.new w4 25 hd.zero
  obtain ⟨X1, hX1⟩ : ∃ X, w4.heap.size = X := ⟨_, rfl⟩
  rw [hX1] at n4
  clear g3 r3 s3 m3 m3' b3 b4 HA HJ
  go_wp2_with (first
    | (refine wp_sth (.tmp 8) (.tmp 17) h1 hd.zero n4 rfl rfl rfl rfl ?_; intro w5 n5 hc5; rw [← hX1] at hc5; have b5 := new_chg hc5; have g5 := blk_range ((b5.block (w.heap.size + 1) (by omega)).trans s4))
    | refine wp_ld (.tmp 3) b g5 hb rfl rfl rfl ?_)
  have b35 := b34.trans (b5.mono b34.size)
  have ht5 := ht4.below b5
  have m5 := m4.below b5 (by omega)
  have hl5 := b5.size
  have hX1l := n5.lt
  clear g5 s4 m4 n4 hc5 b34 b5
  refine (HB.out _ ht5).mono ?_
  rintro e w6 ⟨rfl, b6⟩
  have b36 := b35.trans (b6.mono b35.size)
  have m6 := m5.below b6 m5.lt
  have n56 := n5.below b6 n5.lt
  have hl6 := b6.size
  have n6 := HM.new w6 25 hd.zero
  obtain ⟨X2, hX2⟩ : ∃ X, w6.heap.size = X := ⟨_, rfl⟩
  rw [hX2] at n6
  clear m5 n5 b35 b6 HB
  have hcs : (N1 = 0 ∧ N2 = 0) ∨ ¬ N1 = 0 ∨ (N1 = 0 ∧ ¬ N2 = 0) := by omega
  have hstep : ∀ w7, HM 25 w7 X2 h2 → Chg (w6.alloc (.cells #[bv hd.zero.bank, .int .u32 hd.zero.blocks, .int .u32 hd.zero.batches] 25)) w7 [X2] → HM 25 w7 (w.heap.size + 1 + 1) hd.zero ∧ HM 25 w7 X1 h1 ∧ Below w.heap.size w w7 := fun w7 n7 hc7 => by
    rw [← hX2] at hc7
    have b7 := new_chg hc7
    exact ⟨m6.below b7 m6.lt, n56.below b7 n56.lt, b36.trans (b7.mono b36.size)⟩
  have HSTEP := Lib.hid hstep
  have hne1 : X1 ≠ w.heap.size + 1 + 1 := by omega
  have hne2 : X2 ≠ w.heap.size + 1 + 1 := by omega
  clear hstep m6 n56 b36
  rcases hcs with ⟨he1, he2⟩ | hcs
  · have he1' : ((N1 : Int) == 0) = true := by simp [he1]
    have he2' : ((N2 : Int) == 0) = true := by simp [he2]
    have hd := HDEF.out
    rw [if_pos ⟨he1, he2⟩] at hd
    have HD := Lib.hid hd
    clear hd HDEF
    go_wp2_with (first
      | (refine wp_sth (.tmp 11) (.tmp 23) h2 hd.zero n6 rfl rfl rfl rfl ?_; intro w7 n8 hc7; obtain ⟨m7, n7, b7⟩ := HSTEP.out w7 n8 hc7)
      | (refine wp_sth (.tmp 5) (.tmp 31) hd.zero hd.zero m7 rfl rfl rfl rfl ?_; intro w8 m8 hc8))
    refine bodyPost_ret (results_tct rfl rfl (head_load m8)) rfl ⟨?_, (Chg.of_below b7 [w.heap.size + 1 + 1]).trans hc8 (Sub.refl _ _) |>.below (Nat.le_refl _) (fun k hk => by simp at hk; omega)⟩
    rw [HD.out]
    rfl
  · have hd := HDEF.out
    rw [if_neg (fun h => by omega)] at hd
    have HD0 := Lib.hid hd
    clear hd HDEF
    by_cases hlt : N1 < N2
    · have hlt' : (N1 : Int) < (N2 : Int) := by omega
      have hd := HD0.out
      rw [if_pos hlt] at hd
      have HD := Lib.hid hd
      clear hd HD0
      rcases hcs with he1 | ⟨he1, he2⟩
      case' inl => have he1' : ((N1 : Int) == 0) = false := by simp; omega
      case' inr => have he1' : ((N1 : Int) == 0) = true := by simp [he1]
      case' inr => have he2' : ((N2 : Int) == 0) = false := by simp; omega
      all_goals
        go_wp2_with (refine wp_sth (.tmp 11) (.tmp 23) h2 hd.zero n6 rfl rfl rfl rfl ?_; intro w7 n8 hc7; obtain ⟨m7, n7, b7⟩ := HSTEP.out w7 n8 hc7)
        have c0 := n8.c0
        have c1 := n8.c1
        have c2 := n8.c2
        have d0 := m7.c0
        have d1 := m7.c1
        have d2 := m7.c2
        have f0 := m7.fz 0
        have f1 := m7.fz 1
        have f2 := m7.fz 2
        have HSET := Lib.hid (m7.set3 h2)
        clear m7 n7 n8
        go_wp2_with fail
        go_region
        obtain ⟨hs1, hs2⟩ := HSET.out
        have hs3 := hs1.drew
        have hs4 := (hs2.trans (Chg.drew _ _) (Sub.refl _ _))
        clear c0 c1 c2 d0 d1 d2 f0 f1 f2 HSET hs1 hs2
        generalize ((((w7.setCell ⟨w.heap.size + 1 + 1, 0, none⟩ (bv h2.bank)).setCell ⟨w.heap.size + 1 + 1, 1, none⟩ (.int .u32 h2.blocks)).setCell ⟨w.heap.size + 1 + 1, 2, none⟩ (.int .u32 h2.batches)).drew) = w8 at *
        go_wp2_with fail
        refine bodyPost_ret (results_tct rfl rfl (head_load hs3)) rfl ⟨?_, (Chg.of_below b7 [w.heap.size + 1 + 1]).trans hs4 (Sub.refl _ _) |>.below (Nat.le_refl _) (fun k hk => by simp at hk; omega)⟩
        rw [HD.out]
        rfl
    · have hlt' : ¬ (N1 : Int) < (N2 : Int) := by omega
      have hd := HD0.out
      rw [if_neg hlt] at hd
      have HD := Lib.hid hd
      clear hd HD0
      rcases hcs with he1 | ⟨he1, he2⟩
      case' inl => have he1' : ((N1 : Int) == 0) = false := by simp; omega
      case inr => exact absurd (show N1 < N2 by omega) hlt
      all_goals
        go_wp2_with (refine wp_sth (.tmp 11) (.tmp 23) h2 hd.zero n6 rfl rfl rfl rfl ?_; intro w7 n8 hc7; obtain ⟨m7, n7, b7⟩ := HSTEP.out w7 n8 hc7)
        have c0 := n7.c0
        have c1 := n7.c1
        have c2 := n7.c2
        have d0 := m7.c0
        have d1 := m7.c1
        have d2 := m7.c2
        have f0 := m7.fz 0
        have f1 := m7.fz 1
        have f2 := m7.fz 2
        have HSET := Lib.hid (m7.set3 h1)
        clear m7 n7 n8
        go_wp2_with fail
        go_region
        obtain ⟨hs1, hs2⟩ := HSET.out
        have hs3 := hs1.drew
        have hs4 := (hs2.trans (Chg.drew _ _) (Sub.refl _ _))
        clear c0 c1 c2 d0 d1 d2 f0 f1 f2 HSET hs1 hs2
        generalize ((((w7.setCell ⟨w.heap.size + 1 + 1, 0, none⟩ (bv h1.bank)).setCell ⟨w.heap.size + 1 + 1, 1, none⟩ (.int .u32 h1.blocks)).setCell ⟨w.heap.size + 1 + 1, 2, none⟩ (.int .u32 h1.batches)).drew) = w8 at *
        go_wp2_with fail
        refine bodyPost_ret (results_tct rfl rfl (head_load hs3)) rfl ⟨?_, (Chg.of_below b7 [w.heap.size + 1 + 1]).trans hs4 (Sub.refl _ _) |>.below (Nat.le_refl _) (fun k hk => by simp at hk; omega)⟩
        rw [HD.out]
        rfl
end Go.Proofs.YtiiigbhkbpdciaaDoor
