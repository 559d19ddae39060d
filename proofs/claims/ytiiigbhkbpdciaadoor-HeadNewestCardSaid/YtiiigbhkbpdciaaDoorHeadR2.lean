/-
  contracts of cardexref06: Get, Newest.
-/
import Derived.Test.YtiiigbhkbpdciaaDoorHeadR
namespace Go.Proofs.YtiiigbhkbpdciaaDoor
open Go.RowKit

theorem head_size : (Tryd.prog.info? 25).map (·.size) = some 3 := by kernel_rfl
set_option maxRecDepth 100000 in
theorem head_load {w : World} {g : Nat} {h : hd.H} {E : TypeId} (m : HM E w g h) : (loadVar 25 ⟨g, 0, none⟩).run Tryd.prog w = .ok (hd.val h) w :=
  run_loadVar_mid w g 0 _ _ _ m.range Tryd.underlying25 rfl head_size
set_option maxRecDepth 100000 in
theorem results_tct {fn : Func} {s t u : Tmp} {T : TypeId} (h : fn.results = #[.tmp s, .cell t T, .tmp u]) {tmps : Array Value} {P : Program} {w : World} {a : Addr} {x : Value} (ht : tmps.getD t undef = .pointer (some a)) (hl : (loadVar T a).run P w = .ok x w) :
    (results fn tmps).run P w = .ok (.tuple #[tmps.getD s undef, x, tmps.getD u undef]) w := by
  have ht' : tmps[t]?.getD undef = .pointer (some a) := by simpa using ht
  simp [results, h, ht', asAddr, hl]
set_option maxRecDepth 100000 in
/-- a head's cells are stored one by one -/
theorem HM.set3 {E : TypeId} {w : World} {g : Nat} {old : hd.H} (m : HM E w g old) (h : hd.H) :
    HM E (((w.setCell ⟨g, 0, none⟩ (bv h.bank)).setCell ⟨g, 1, none⟩ (.int .u32 h.blocks)).setCell ⟨g, 2, none⟩ (.int .u32 h.batches)) g h ∧
      Chg w (((w.setCell ⟨g, 0, none⟩ (bv h.bank)).setCell ⟨g, 1, none⟩ (.int .u32 h.blocks)).setCell ⟨g, 2, none⟩ (.int .u32 h.batches)) [g] := by
  refine ⟨?_, ((Chg.setCell _ _ _ _).trans (Chg.setCell _ _ _ _) (Sub.refl _ _)).trans (Chg.setCell _ _ _ _) (Sub.refl _ _)⟩
  have h1 := block_set (i := 0) m (bv h.bank)
  have h2 := block_set (i := 1) h1 (.int .u32 h.blocks)
  have h3 := block_set (i := 2) h2 (.int .u32 h.batches)
  exact h3.trans (by simp)
section
variable {ops : Array Oper} {rest : List Oper} {o : Oper} {a : Act} {w : World} {Q : Exit → Act → World → Prop}
set_option maxRecDepth 100000 in
/-- a head is loaded -/
theorem wp_ldh (x : Operand) (h : hd.H) {E : TypeId} {g : Nat} (m : HM E w g h) (hgd : o.guard = none) (ho : o.op = .load 25 x) (hx : a.eval x = .pointer (some ⟨g, 0, none⟩))
    (hk : wpList Tryd.prog ops Q rest (a.put o.dst (hd.val h)) w) : wpList Tryd.prog ops Q (o :: rest) a w :=
  wpList_load_mid hgd _ x ho g 0 hx _ _ m.range Tryd.underlying25 rfl head_size hk
set_option maxRecDepth 100000 in
/-- a head is stored -/
theorem wp_sth (x y : Operand) (h old : hd.H) {E : TypeId} {g : Nat} (m : HM E w g old) (hgd : o.guard = none) (ho : o.op = .store 25 x y) (hx : a.eval x = .pointer (some ⟨g, 0, none⟩)) (hy : a.eval y = hd.val h)
    (hk : ∀ W, HM E W g h → Chg w W [g] → wpList Tryd.prog ops Q rest (a.put o.dst undef) W) : wpList Tryd.prog ops Q (o :: rest) a w := by
  have h2 := block_sets (hd.cells h) 0 (hd.cells old) w m (by simp)
  refine wpList_store_mid hgd _ x y ho g 0 (hd.cells h).toArray hx hy ?_ (by simpa using head_size) (by simp [Value.oneCell']) ?_
  · have := there_of (cs := hd.cells old) m 0 3 (by simp)
    simpa using this
  · exact hk _ (show _ = _ by simpa using h2) (Chg.setCells g _ _ _)
end

theorem cells_head : Tryd.prog.cellsOf 25 = 3 := by kernel_rfl
theorem cells_u32' : Tryd.prog.cellsOf 23 = 1 := by kernel_rfl
set_option maxRecDepth 100000 in
theorem wf_u32' {n : Nat} (h : n < 4294967296) : (Lit.int .u32 (n : Int)).wf = true := by
  simp [Lit.wf, IntKind.min, IntKind.max, IntKind.signed, IntKind.bits]
  omega
set_option maxRecDepth 100000 in
theorem lits_head (h : hd.H) (hok : h.Ok) : Tryd.prog.keyLits 2 25 (hd.val h).cells.toList = some [.int .u8 (h.bank.toNat : Int), .int .u32 (h.blocks : Int), .int .u32 (h.batches : Int)] := by
  have hc : (hd.val h).cells.toList = hd.cells h := rfl
  rw [hc]
  have k0 : Tryd.prog.keyLits 1 5 [bv h.bank] = some [.int .u8 (h.bank.toNat : Int)] := by
    unfold Program.keyLits
    rw [Tryd.underlying5]
    simp [wf_u8']
  have k1 : ∀ n : Nat, n < 4294967296 → Tryd.prog.keyLits 1 23 [.int .u32 (n : Int)] = some [.int .u32 (n : Int)] := fun n hn => by
    unfold Program.keyLits
    rw [Tryd.underlying23]
    simp [wf_u32' hn]
  have k2 := k1 h.blocks hok.blocks
  have k3 := k1 h.batches hok.batches
  unfold Program.keyLits
  rw [Tryd.underlying25]
  simp only [cells_head]
  rw [if_pos ⟨rfl, by kernel_rfl⟩]
  simp [List.mapM_cons, cells_u8', cells_u32', k0, k2, k3]
set_option maxRecDepth 100000 in
/-- heads compared -/
theorem eq_head (h k : hd.H) (hh : h.Ok) (hk : k.Ok) (W : World) : (Op.equalIn 10000 25 (hd.val h) (hd.val k)).run Tryd.prog W = .ok (decide (h = k)) W := by
  obtain ⟨r, hr, hiff⟩ := run_equalIn_deep (P := Tryd.prog) 9998 2 25 (by kernel_rfl) W 2 2 _ _ _ _ (by simp [Value.formed, Tryd.underlying25, cells_head]) (by simp [Value.formed, Tryd.underlying25, cells_head]) (lits_head h hh) (lits_head k hk)
  refine hr.trans ?_
  congr 1
  rw [Bool.eq_iff_iff, hiff, decide_eq_true_iff]
  obtain ⟨a0, a1, a2⟩ := h
  obtain ⟨b0, b1, b2⟩ := k
  simp only [List.cons.injEq, Lit.int.injEq, true_and, and_true, hd.H.mk.injEq]
  constructor
  · rintro ⟨e0, e1, e2⟩
    exact ⟨UInt8.toNat_inj.1 (by omega), by omega, by omega⟩
  · rintro ⟨rfl, rfl, rfl⟩
    exact ⟨rfl, rfl, rfl⟩

set_option maxRecDepth 100000 in
theorem hd.headOf_Ok (l : List UInt8) : (hd.headOf l).Ok := by
  refine ⟨?_, ?_⟩
  · have h1 := leVal_lt ((l.drop 1).take 4)
    refine Nat.lt_of_lt_of_le h1 ?_
    exact Nat.pow_le_pow_right (by omega) (show 8 * ((l.drop 1).take 4).length ≤ 32 by rw [List.length_take]; omega)
  · have h1 := leVal_lt ((l.drop 5).take 4)
    refine Nat.lt_of_lt_of_le h1 ?_
    exact Nat.pow_le_pow_right (by omega) (show 8 * ((l.drop 5).take 4).length ≤ 32 by rw [List.length_take]; omega)
set_option maxRecDepth 100000 in
theorem sl.get_len {b : dk.Blk} (hb : b.length = 128) (h : (sl.get b).2.2 = 0) : (sl.get b).2.1.length = 108 := by
  obtain ⟨_, _, _, h4⟩ := sl.get_ok h
  rw [h4, List.length_take, List.length_drop]
  omega
set_option maxHeartbeats 4000000 in
set_option maxRecDepth 100000 in
theorem rget6_any (b : dk.Blk) (hb : b.length = 128) (w : World) : Calls Tryd.prog 14 #[dk.val b] w fun e w' =>
    e = .returned (.tuple #[.int .u64 (hd.get b).1, hd.val (hd.get b).2.1, .int .i64 (hd.get b).2.2]) ∧ Below w.heap.size w w' := by
  obtain ⟨hz, -⟩ := zero_of_info zero_blk
  obtain ⟨hzh, -⟩ := zero_of_info info_head
  have r1 := heap_alloc_new w (.cells (dk.cells b).toArray 27)
  have b1 : Below w.heap.size w (w.alloc (.cells (dk.cells b).toArray 27)) := (Below.refl _ _).alloc (Nat.le_refl _) _
  have r2 := (Below.heap_alloc (w.alloc (.cells (dk.cells b).toArray 27)) (.cells #[bv hd.zero.bank, .int .u32 hd.zero.blocks, .int .u32 hd.zero.batches] 25) w.heap.size (by simp)).trans r1
  have m2 := HM.new (w.alloc (.cells (dk.cells b).toArray 27)) 25 hd.zero
  rw [show (w.alloc (.cells (dk.cells b).toArray 27)).heap.size = w.heap.size + 1 from by simp] at m2
  have b2 := b1.alloc b1.size (.cells #[bv hd.zero.bank, .int .u32 hd.zero.blocks, .int .u32 hd.zero.batches] 25)
  have hlen2 : w.heap.size + 1 < ((w.alloc (.cells (dk.cells b).toArray 27)).alloc (.cells #[bv hd.zero.bank, .int .u32 hd.zero.blocks, .int .u32 hd.zero.batches] 25)).heap.size := by simp
  obtain ⟨W2, hW2⟩ : ∃ W2, (w.alloc (.cells (dk.cells b).toArray 27)).alloc (.cells #[bv hd.zero.bank, .int .u32 hd.zero.blocks, .int .u32 hd.zero.batches] 25) = W2 := ⟨_, rfl⟩
  have m2' : HM 25 W2 (w.heap.size + 1) hd.zero := by rw [← hW2]; exact m2
  rw [hW2] at r2 b2 hlen2
  obtain ⟨N, hN⟩ : ∃ e, (sl.get b).1 = e := ⟨_, rfl⟩
  obtain ⟨l, hl⟩ : ∃ e, (sl.get b).2.1 = e := ⟨_, rfl⟩
  obtain ⟨e0, he⟩ : ∃ e, (sl.get b).2.2 = e := ⟨_, rfl⟩
  have hg := rget5_any b hb W2
  rw [hN, hl, he] at hg
  have HG := Lib.hid hg
  have rg := blk_range r2
  have hdef : hd.get b = if e0 = 0 then (if (hd.put N (hd.headOf l)).2 = 0 ∧ (hd.put N (hd.headOf l)).1 = b then (N, hd.headOf l, 0) else (0, hd.zero, 5)) else (0, hd.zero, e0) := by rw [← hN, ← hl, ← he]; rfl
  have HDEF := Lib.hid hdef
  have hlen : e0 = 0 → l.length = 108 := fun h => by rw [← hl]; exact sl.get_len hb (he.trans h)
  have HLEN := Lib.hid hlen
  have hNlt : N < 18446744073709551616 := by rw [← hN]; exact sl.worth_lt b
  clear hg r1 b1 m2 hdef hN hl he hlen
  go_enter Tryd.func14, Tryd.ntmps14
  go_wp2_with (refine wp_ld (.tmp 1) b rg hb rfl rfl rfl ?_)
  refine HG.out.mono ?_
  rintro e w3 ⟨v3, rfl, o3, b3⟩
  have b23 := b2.trans (b3.mono b2.size)
  have m3 := m2'.below b3 hlen2
  have r3 := (b3.block w.heap.size (by omega)).trans r2
  have hl3 := b3.size
  clear HG rg hW2 m2' r2 b2
  by_cases he0 : e0 = 0
  · have he0' : (e0 != 0) = false := by simp [he0]
    have hll := HLEN.out he0
    obtain ⟨A3, c3, rfl, hB3⟩ := o3.form
    rw [hll] at hB3 ⊢
    have hcap := hB3.cap
    have hmax := hB3.max
    have hk1 := rget_yes A3 108 c3 l 1 4 w3 hB3 rfl (by omega)
    have hk2 := rget_yes A3 108 c3 l 5 4 w3 hB3 rfl (by omega)
    obtain ⟨x1, hx1⟩ : ∃ x, leVal ((l.drop 1).take 4) = x := ⟨_, rfl⟩
    obtain ⟨x2, hx2⟩ : ∃ x, leVal ((l.drop 5).take 4) = x := ⟨_, rfl⟩
    obtain ⟨x0, hx0⟩ : ∃ x, l.getD 0 0 = x := ⟨_, rfl⟩
    have hho : hd.headOf l = ⟨x0, x1, x2⟩ := by rw [hd.headOf, hx1, hx2, hx0]
    have hOk := hd.headOf_Ok l
    rw [hho] at hOk
    have k1 := hOk.blocks
    have k2 := hOk.batches
    simp only at k1 k2
    have hput := fun W => rput6_any N hNlt ⟨x0, x1, x2⟩ hOk W
    obtain ⟨S, hS⟩ : ∃ e, (hd.put N ⟨x0, x1, x2⟩).1 = e := ⟨_, rfl⟩
    obtain ⟨f, hf⟩ : ∃ e, (hd.put N ⟨x0, x1, x2⟩).2 = e := ⟨_, rfl⟩
    have hSl : S.length = 128 := by rw [← hS]; exact hd.put_len _ _
    simp only [hS, hf] at hput
    have hdef := HDEF.out
    rw [if_pos he0, hho, hS, hf] at hdef
    have HD := Lib.hid hdef
    have HPUT := Lib.hid hput
    rw [hx1] at hk1
    rw [hx2] at hk2
    have HK1 := Lib.hid hk1
    have HK2 := Lib.hid hk2
    obtain ⟨gb, go, rfl, hgl, hcell⟩ := hB3.has (by omega)
    have c00 := hcell 0 (by omega)
    have e00 : l[0]'(by omega) = x0 := by rw [← hx0, List.getD_eq_getElem?_getD, List.getElem?_eq_getElem (by omega)]; rfl
    rw [e00, Nat.add_zero] at c00
    have hw1 : IntKind.u32.wrap (x1 : Int) = (x1 : Int) := IntWalk.u32_in _ ⟨by omega, by omega⟩
    have hw2 : IntKind.u32.wrap (x2 : Int) = (x2 : Int) := IntWalk.u32_in _ ⟨by omega, by omega⟩
    clear hput hdef hk1 hk2 hx1 hx2 hx0 hho hS hf hcell e00 HDEF HLEN hB3
    go_wp2_with fail
    refine HK1.out.mono ?_
    rintro e w4 ⟨rfl, rfl⟩
    go_wp2_with fail
    refine HK2.out.mono ?_
    rintro e w4 ⟨rfl, rfl⟩
    have n3 := HM.new w3 25 hd.zero
    obtain ⟨X1, hX1⟩ : ∃ X, w3.heap.size = X := ⟨_, rfl⟩
    rw [hX1] at n3
    clear HK1 HK2
    go_wp2_with (first
      | (refine wp_sth (.tmp 12) (.tmp 42) ⟨x0, x1, x2⟩ hd.zero n3 rfl rfl rfl rfl ?_; intro w4 m4 hc4; rw [← hX1] at hc4; have b4 := new_chg hc4)
      | refine wp_ldh (.tmp 12) ⟨x0, x1, x2⟩ m4 rfl rfl rfl ?_)
    have b24 := b23.trans (b4.mono b23.size)
    have m34 := m3.below b4 m3.lt
    have r4 := (b4.block w.heap.size (by omega)).trans r3
    have hl4 := b4.size
    clear hc4 n3 m3 r3 c00 o3
    refine (HPUT.out w4).mono ?_
    rintro e w5 ⟨rfl, b5⟩
    have b25 := b24.trans (b5.mono b24.size)
    have m35 := m34.below b5 m34.lt
    have m5 := m4.below b5 m4.lt
    have r5 := (b5.block w.heap.size (by omega)).trans r4
    have hl5 := b5.size
    have n5 := heap_alloc_new w5 (.cells (dk.cells dk.zero).toArray 27)
    have hX1l := m4.lt
    obtain ⟨X2, hX2⟩ : ∃ X, w5.heap.size = X := ⟨_, rfl⟩
    rw [hX2] at n5
    have hE := eq_blk S b hSl hb
    clear m34 m4 r4 b24 b4 b5 HPUT
    by_cases hf0 : f = 0
    · have hf0' : (f != 0) = false := by simp [hf0]
      by_cases hSb : S = b
      · rw [decide_eq_true hSb] at hE
        have hd := HD.out
        rw [if_pos ⟨hf0, hSb⟩] at hd
        have HD' := Lib.hid hd
        clear hd HD hSb
        go_wp2_with (first
          | (refine wp_st0 (.tmp 13) (.tmp 47) S n5 zero_len hSl rfl rfl rfl rfl ?_; intro w6 hW6 hc6; rw [← hX2] at hc6; have b6 := new_chg hc6; have g6 := blk_range hW6; have g7 := blk_range ((b6.block w.heap.size (by omega)).trans r5))
          | refine wp_ldw (.tmp 13) S g6 hSl rfl rfl (by rfl) ?_
          | refine wp_ldw (.tmp 1) b g7 hb rfl rfl (by rfl) ?_)
        have m6 := m5.below b6 (by omega)
        have m36 := m35.below b6 m35.lt
        have b26 := b25.trans (b6.mono b25.size)
        have c0 := m6.c0
        have c1 := m6.c1
        have c2 := m6.c2
        have d0 := m36.c0
        have d1 := m36.c1
        have d2 := m36.c2
        have f0 := m36.fz 0
        have f1 := m36.fz 1
        have f2 := m36.fz 2
        have hne : X1 ≠ w.heap.size + 1 := by omega
        clear hW6 hc6 b6 g6 g7 m6 m5 hE n5 r5 b3
        have hset := m36.set3 ⟨x0, x1, x2⟩
        have HSET := Lib.hid hset
        clear hset
        go_region
        have hset := HSET.out
        clear c0 c1 c2 d0 d1 d2 f0 f1 f2 m35 m36 HSET
        obtain ⟨hs1, hs2⟩ := hset
        have hs3 := hs1.drew
        have hs4 := (hs2.trans (Chg.drew _ _) (Sub.refl _ _))
        generalize ((((w6.setCell ⟨w.heap.size + 1, 0, none⟩ (bv x0)).setCell ⟨w.heap.size + 1, 1, none⟩ (.int .u32 x1)).setCell ⟨w.heap.size + 1, 2, none⟩ (.int .u32 x2)).drew) = w7 at *
        go_wp2_with fail
        refine bodyPost_ret (results_tct rfl rfl (head_load hs3)) rfl ⟨?_, (Chg.of_below b26 [w.heap.size + 1]).trans hs4 (Sub.refl _ _) |>.below (Nat.le_refl _) (fun k hk => by simp at hk; omega)⟩
        rw [HD'.out]
        rfl
      · rw [decide_eq_false hSb] at hE
        have hd := HD.out
        rw [if_neg (fun h => hSb h.2)] at hd
        have HD' := Lib.hid hd
        clear hd HD hSb
        go_wp2_with (first
          | (refine wp_st0 (.tmp 13) (.tmp 47) S n5 zero_len hSl rfl rfl rfl rfl ?_; intro w6 hW6 hc6; rw [← hX2] at hc6; have b6 := new_chg hc6; have g6 := blk_range hW6; have g7 := blk_range ((b6.block w.heap.size (by omega)).trans r5); have m36 := m35.below b6 m35.lt; have b26 := b25.trans (b6.mono b25.size))
          | refine wp_ldw (.tmp 13) S g6 hSl rfl rfl (by rfl) ?_
          | refine wp_ldw (.tmp 1) b g7 hb rfl rfl (by rfl) ?_
          | (refine wp_sth (.tmp 3) (.tmp 56) hd.zero hd.zero m36 rfl rfl rfl rfl ?_; intro w7 m7 hc7))
        refine bodyPost_ret (results_tct rfl rfl (head_load m7)) rfl ⟨?_, (Chg.of_below b26 [w.heap.size + 1]).trans hc7 (Sub.refl _ _) |>.below (Nat.le_refl _) (fun k hk => by simp at hk; omega)⟩
        rw [HD'.out]
        rfl
    · have hf0' : (f != 0) = true := by simp [hf0]
      have hd := HD.out
      rw [if_neg (fun h => hf0 h.1)] at hd
      have HD' := Lib.hid hd
      clear hd HD hE
      go_wp2_with (first
        | (refine wp_st0 (.tmp 13) (.tmp 47) S n5 zero_len hSl rfl rfl rfl rfl ?_; intro w6 hW6 hc6; rw [← hX2] at hc6; have b6 := new_chg hc6; have m36 := m35.below b6 m35.lt; have b26 := b25.trans (b6.mono b25.size))
        | (refine wp_sth (.tmp 3) (.tmp 56) hd.zero hd.zero m36 rfl rfl rfl rfl ?_; intro w7 m7 hc7))
      refine bodyPost_ret (results_tct rfl rfl (head_load m7)) rfl ⟨?_, (Chg.of_below b26 [w.heap.size + 1]).trans hc7 (Sub.refl _ _) |>.below (Nat.le_refl _) (fun k hk => by simp at hk; omega)⟩
      rw [HD'.out]
      rfl
  · have he0' : (e0 != 0) = true := by simp [he0]
    have hdef := HDEF.out
    rw [if_neg he0] at hdef
    have HD := Lib.hid hdef
    clear hdef
    go_wp2_with (refine wp_sth (.tmp 3) (.tmp 23) hd.zero hd.zero m3 rfl rfl rfl rfl ?_; intro w4 m4 hc4)
    refine bodyPost_ret (results_tct rfl rfl (head_load m4)) rfl ⟨?_, (Chg.of_below b23 [w.heap.size + 1]).trans hc4 (Sub.refl _ _) |>.below (Nat.le_refl _) (fun k hk => by simp at hk; omega)⟩
    rw [HD.out]
    rfl
set_option maxHeartbeats 4000000 in
set_option maxRecDepth 100000 in
theorem rnewest6_any (a b : dk.Blk) (ha : a.length = 128) (hb : b.length = 128) (w : World) : Calls Tryd.prog 16 #[dk.val a, dk.val b] w fun e w' =>
    e = .returned (.tuple #[.int .u64 (hd.newest a b).1, hd.val (hd.newest a b).2.1, .int .i64 (hd.newest a b).2.2]) ∧ Below w.heap.size w w' := by
  obtain ⟨hzh, -⟩ := zero_of_info info_head
  obtain ⟨N1, hN1⟩ : ∃ e, (hd.get a).1 = e := ⟨_, rfl⟩
  obtain ⟨h1, hh1⟩ : ∃ e, (hd.get a).2.1 = e := ⟨_, rfl⟩
  obtain ⟨e1, he1⟩ : ∃ e, (hd.get a).2.2 = e := ⟨_, rfl⟩
  obtain ⟨N2, hN2⟩ : ∃ e, (hd.get b).1 = e := ⟨_, rfl⟩
  obtain ⟨h2, hh2⟩ : ∃ e, (hd.get b).2.1 = e := ⟨_, rfl⟩
  obtain ⟨e2, he2⟩ : ∃ e, (hd.get b).2.2 = e := ⟨_, rfl⟩
  have HA := Lib.hid (fun W => rget6_any a ha W)
  have HB := Lib.hid (fun W => rget6_any b hb W)
  have hdef : hd.newest a b = if ¬ e1 = 0 ∧ ¬ e2 = 0 then (0, hd.zero, 7) else if N1 < N2 then (N2, h2, 0) else (N1, h1, 0) := by rw [← hN1, ← hN2, ← hh1, ← hh2, ← he1, ← he2]; rfl
  rw [hN1, hh1, he1] at HA
  rw [hN2, hh2, he2] at HB
  have HDEF := Lib.hid hdef
  have r1 := heap_alloc_new w (.cells (dk.cells a).toArray 27)
  have b1 : Below w.heap.size w (w.alloc (.cells (dk.cells a).toArray 27)) := (Below.refl _ _).alloc (Nat.le_refl _) _
  obtain ⟨Wa, hWa⟩ : ∃ Wa, w.alloc (.cells (dk.cells a).toArray 27) = Wa := ⟨_, rfl⟩
  have hsa : Wa.heap.size = w.heap.size + 1 := by rw [← hWa]; simp
  rw [hWa] at r1 b1
  have r2 := (Below.heap_alloc Wa (.cells (dk.cells b).toArray 27) w.heap.size (by omega)).trans r1
  have s2 := heap_alloc_new Wa (.cells (dk.cells b).toArray 27)
  have b2 := b1.alloc b1.size (.cells (dk.cells b).toArray 27)
  obtain ⟨Wb, hWb⟩ : ∃ Wb, Wa.alloc (.cells (dk.cells b).toArray 27) = Wb := ⟨_, rfl⟩
  have hsb : Wb.heap.size = w.heap.size + 2 := by rw [← hWb]; simp; omega
  rw [hWb] at r2 s2 b2
  rw [hsa] at s2
  have r3 := (Below.heap_alloc Wb (.cells #[bv hd.zero.bank, .int .u32 hd.zero.blocks, .int .u32 hd.zero.batches] 25) w.heap.size (by omega)).trans r2
  have s3 := (Below.heap_alloc Wb (.cells #[bv hd.zero.bank, .int .u32 hd.zero.blocks, .int .u32 hd.zero.batches] 25) (w.heap.size + 1) (by omega)).trans s2
  have m3 := HM.new Wb 25 hd.zero
  have b3 := b2.alloc b2.size (.cells #[bv hd.zero.bank, .int .u32 hd.zero.blocks, .int .u32 hd.zero.batches] 25)
  rw [hsb] at m3
  obtain ⟨W3, hW3⟩ : ∃ W3, Wb.alloc (.cells #[bv hd.zero.bank, .int .u32 hd.zero.blocks, .int .u32 hd.zero.batches] 25) = W3 := ⟨_, rfl⟩
  rw [hW3] at r3 s3 m3 b3
  have m3' : HM 25 W3 (w.heap.size + 1 + 1) hd.zero := m3
  have hl3 : w.heap.size + 1 + 1 < W3.heap.size := m3.lt
  have g3 := blk_range r3
  have hj : W3 = ((w.alloc (.cells (dk.cells a).toArray 27)).alloc (.cells (dk.cells b).toArray 27)).alloc (.cells #[bv hd.zero.bank, .int .u32 hd.zero.blocks, .int .u32 hd.zero.batches] 25) := by rw [← hW3, ← hWb, ← hWa]
  have HJ := Lib.hid hj
  clear hdef hN1 hN2 hh1 hh2 he1 he2 r1 b1 r2 s2 b2 hWb hWa hW3 hsa hsb hj
  go_enter Tryd.func16, Tryd.ntmps16
  go_wp2_with (first | (rw [← HJ.out]; refine wp_ld (.tmp 2) a g3 ha rfl rfl rfl ?_) | refine wp_ld (.tmp 2) a g3 ha rfl rfl rfl ?_)
  refine (HA.out _).mono ?_
  rintro e w4 ⟨rfl, b4⟩
  have b34 := b3.trans (b4.mono b3.size)
  have m4 := m3'.below b4 hl3
  have s4 := (b4.block (w.heap.size + 1) (by omega)).trans s3
  have hl4 := b4.size
  have n4 := HM.new w4 25 hd.zero
  obtain ⟨X1, hX1⟩ : ∃ X, w4.heap.size = X := ⟨_, rfl⟩
  rw [hX1] at n4
  clear g3 r3 s3 m3 m3' b3 b4 HA HJ
  go_wp2_with (first
    | (refine wp_sth (.tmp 8) (.tmp 17) h1 hd.zero n4 rfl rfl rfl rfl ?_; intro w5 n5 hc5; rw [← hX1] at hc5; have b5 := new_chg hc5; have g5 := blk_range ((b5.block (w.heap.size + 1) (by omega)).trans s4))
    | refine wp_ld (.tmp 3) b g5 hb rfl rfl rfl ?_)
  have b35 := b34.trans (b5.mono b34.size)
  have m5 := m4.below b5 (by omega)
  have hl5 := b5.size
  have hX1l := n5.lt
  clear g5 s4 m4 n4 hc5 b34 b5
  refine (HB.out _).mono ?_
  rintro e w6 ⟨rfl, b6⟩
  have b36 := b35.trans (b6.mono b35.size)
  have m6 := m5.below b6 m5.lt
  have n56 := n5.below b6 n5.lt
  have hl6 := b6.size
  have n6 := HM.new w6 25 hd.zero
  obtain ⟨X2, hX2⟩ : ∃ X, w6.heap.size = X := ⟨_, rfl⟩
  rw [hX2] at n6
  clear m5 n5 b35 b6 HB
  have hcs : (¬ e1 = 0 ∧ ¬ e2 = 0) ∨ e1 = 0 ∨ (¬ e1 = 0 ∧ e2 = 0) := by omega
  have hstep : ∀ w7, HM 25 w7 X2 h2 → Chg (w6.alloc (.cells #[bv hd.zero.bank, .int .u32 hd.zero.blocks, .int .u32 hd.zero.batches] 25)) w7 [X2] → HM 25 w7 (w.heap.size + 1 + 1) hd.zero ∧ HM 25 w7 X1 h1 ∧ Below w.heap.size w w7 := fun w7 n7 hc7 => by
    rw [← hX2] at hc7
    have b7 := new_chg hc7
    exact ⟨m6.below b7 m6.lt, n56.below b7 n56.lt, b36.trans (b7.mono b36.size)⟩
  have HSTEP := Lib.hid hstep
  have hne1 : X1 ≠ w.heap.size + 1 + 1 := by omega
  have hne2 : X2 ≠ w.heap.size + 1 + 1 := by omega
  clear hstep m6 n56 b36
  rcases hcs with ⟨he1, he2⟩ | hcs
  · have he1' : (e1 != 0) = true := by simp [he1]
    have he2' : (e2 != 0) = true := by simp [he2]
    have hd := HDEF.out
    rw [if_pos ⟨he1, he2⟩] at hd
    have HD := Lib.hid hd
    clear hd HDEF
    go_wp2_with (first
      | (refine wp_sth (.tmp 11) (.tmp 23) h2 hd.zero n6 rfl rfl rfl rfl ?_; intro w7 n8 hc7; obtain ⟨m7, n7, b7⟩ := HSTEP.out w7 n8 hc7)
      | (refine wp_sth (.tmp 5) (.tmp 31) hd.zero hd.zero m7 rfl rfl rfl rfl ?_; intro w8 m8 hc8))
    refine bodyPost_ret (results_tct rfl rfl (head_load m8)) rfl ⟨?_, (Chg.of_below b7 [w.heap.size + 1 + 1]).trans hc8 (Sub.refl _ _) |>.below (Nat.le_refl _) (fun k hk => by simp at hk; omega)⟩
    rw [HD.out]
    rfl
  · have hd := HDEF.out
    rw [if_neg (fun h => by omega)] at hd
    have HD0 := Lib.hid hd
    clear hd HDEF
    by_cases hlt : N1 < N2
    · have hlt' : (N1 : Int) < (N2 : Int) := by omega
      have hd := HD0.out
      rw [if_pos hlt] at hd
      have HD := Lib.hid hd
      clear hd HD0
      rcases hcs with he1 | ⟨he1, he2⟩
      case' inl => have he1' : (e1 != 0) = false := by simp [he1]
      case' inr => have he1' : (e1 != 0) = true := by simp [he1]
      case' inr => have he2' : (e2 != 0) = false := by simp [he2]
      all_goals
        go_wp2_with (refine wp_sth (.tmp 11) (.tmp 23) h2 hd.zero n6 rfl rfl rfl rfl ?_; intro w7 n8 hc7; obtain ⟨m7, n7, b7⟩ := HSTEP.out w7 n8 hc7)
        have c0 := n8.c0
        have c1 := n8.c1
        have c2 := n8.c2
        have d0 := m7.c0
        have d1 := m7.c1
        have d2 := m7.c2
        have f0 := m7.fz 0
        have f1 := m7.fz 1
        have f2 := m7.fz 2
        have HSET := Lib.hid (m7.set3 h2)
        clear m7 n7 n8
        go_wp2_with fail
        go_region
        obtain ⟨hs1, hs2⟩ := HSET.out
        have hs3 := hs1.drew
        have hs4 := (hs2.trans (Chg.drew _ _) (Sub.refl _ _))
        clear c0 c1 c2 d0 d1 d2 f0 f1 f2 HSET hs1 hs2
        generalize ((((w7.setCell ⟨w.heap.size + 1 + 1, 0, none⟩ (bv h2.bank)).setCell ⟨w.heap.size + 1 + 1, 1, none⟩ (.int .u32 h2.blocks)).setCell ⟨w.heap.size + 1 + 1, 2, none⟩ (.int .u32 h2.batches)).drew) = w8 at *
        go_wp2_with fail
        refine bodyPost_ret (results_tct rfl rfl (head_load hs3)) rfl ⟨?_, (Chg.of_below b7 [w.heap.size + 1 + 1]).trans hs4 (Sub.refl _ _) |>.below (Nat.le_refl _) (fun k hk => by simp at hk; omega)⟩
        rw [HD.out]
        rfl
    · have hlt' : ¬ (N1 : Int) < (N2 : Int) := by omega
      have hd := HD0.out
      rw [if_neg hlt] at hd
      have HD := Lib.hid hd
      clear hd HD0
      rcases hcs with he1 | ⟨he1, he2⟩
      case' inl => have he1' : (e1 != 0) = false := by simp [he1]
      case' inr => have he1' : (e1 != 0) = true := by simp [he1]
      case' inr => have he2' : (e2 != 0) = false := by simp [he2]
      all_goals
        go_wp2_with (refine wp_sth (.tmp 11) (.tmp 23) h2 hd.zero n6 rfl rfl rfl rfl ?_; intro w7 n8 hc7; obtain ⟨m7, n7, b7⟩ := HSTEP.out w7 n8 hc7)
        have c0 := n7.c0
        have c1 := n7.c1
        have c2 := n7.c2
        have d0 := m7.c0
        have d1 := m7.c1
        have d2 := m7.c2
        have f0 := m7.fz 0
        have f1 := m7.fz 1
        have f2 := m7.fz 2
        have HSET := Lib.hid (m7.set3 h1)
        clear m7 n7 n8
        go_wp2_with fail
        go_region
        obtain ⟨hs1, hs2⟩ := HSET.out
        have hs3 := hs1.drew
        have hs4 := (hs2.trans (Chg.drew _ _) (Sub.refl _ _))
        clear c0 c1 c2 d0 d1 d2 f0 f1 f2 HSET hs1 hs2
        generalize ((((w7.setCell ⟨w.heap.size + 1 + 1, 0, none⟩ (bv h1.bank)).setCell ⟨w.heap.size + 1 + 1, 1, none⟩ (.int .u32 h1.blocks)).setCell ⟨w.heap.size + 1 + 1, 2, none⟩ (.int .u32 h1.batches)).drew) = w8 at *
        go_wp2_with fail
        refine bodyPost_ret (results_tct rfl rfl (head_load hs3)) rfl ⟨?_, (Chg.of_below b7 [w.heap.size + 1 + 1]).trans hs4 (Sub.refl _ _) |>.below (Nat.le_refl _) (fun k hk => by simp at hk; omega)⟩
        rw [HD.out]
        rfl
end Go.Proofs.YtiiigbhkbpdciaaDoor
