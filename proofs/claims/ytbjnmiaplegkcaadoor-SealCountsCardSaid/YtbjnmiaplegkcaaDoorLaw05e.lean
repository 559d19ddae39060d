/-
  cardexlaw05's walk: SealTells.
-/
import Derived.Test.YtbjnmiaplegkcaaDoorSealL2
import Derived.Test.YtbjnmiaplegkcaaDoorLaw05a
import Derived.Test.YtbjnmiaplegkcaaDoorRef00
import Derived.Deep.RegionHeldLaw
import Derived.Great.BuildSlice
namespace Go.Proofs.YtbjnmiaplegkcaaDoor
open Go.RowKit

namespace sl
theorem put_length (n : Nat) (body : List UInt8) : (put n body).1.length = 128 := put_len n body
end sl
theorem info_two : (Tryd.prog.info? 31).map (·.size) = some 256 := by kernel_rfl
theorem two_one (p q : dk.Blk) : (dk.cellsS [p, q]).toArray.all (·.oneCell') = true := by
  have e : dk.cellsS [p, q] = (p ++ q).map bv := by simp [dk.cellsS]
  rw [e]
  exact all_oneCell_toArray (bvs_one _)
theorem built_two (p q : dk.Blk) (hp : p.length = 128) (hq : q.length = 128) : Tryd.prog.built 31 [(0, dk.val p), (1, dk.val q)] = some (dk.cellsS [p, q]).toArray := by
  have hu : Tryd.prog.underlying 31 = some (.array 2 25) := by kernel_rfl
  have hz := zero_two
  have hi := info_blk
  unfold Program.built
  cases hit : Tryd.prog.info? 31 with
  | none => simp [hit] at hz
  | some it =>
    cases hie : Tryd.prog.info? 25 with
    | none => simp [hie] at hi
    | some ie =>
      simp only [hit, Option.map_some, Option.some.injEq, Prod.mk.injEq] at hz
      simp only [hie, Option.map_some, Option.some.injEq] at hi
      simp only [hu, hz.1, hie, hi]
      have hl0 := dk.two_len zero_len zero_len
      have hl1 := dk.two_len hp zero_len
      have s0 := dk.fold_set (dk.cells p) 0 0 (dk.cellsS [dk.zero, dk.zero]) (by rw [hl0, List.length_map]; omega)
      have s1 := dk.fold_set (dk.cells q) 128 0 (dk.cellsS [p, dk.zero]) (by rw [hl1, List.length_map]; omega)
      rw [List.length_map, hp, Nat.add_zero, Nat.zero_add] at s0
      rw [List.length_map, hq, Nat.add_zero] at s1
      have t0 := dk.two_set0 zero_len zero_len hp
      have t1 := dk.two_set1 hp zero_len hq
      rw [Nat.zero_add] at t0
      rw [t0] at s0
      rw [t1] at s1
      have c0 : (Value.agg (dk.cellsS [dk.zero, dk.zero]).toArray).cells = (dk.cellsS [dk.zero, dk.zero]).toArray := rfl
      have cp : (dk.val p).cells = (dk.cells p).toArray := rfl
      have cq : (dk.val q).cells = (dk.cells q).toArray := rfl
      have sp : (dk.cells p).toArray.size = 128 := by simp [hp]
      have sq : (dk.cells q).toArray.size = 128 := by simp [hq]
      have z0 : (dk.cellsS [dk.zero, dk.zero]).toArray.size = 256 := by simpa using hl0
      have z1 : (dk.cellsS [p, dk.zero]).toArray.size = 256 := by simpa using hl1
      rw [c0]
      unfold Instr.fill
      simp only [Nat.zero_mul, cp, sp, z0]
      rw [if_neg (by simp)]
      have s0' : List.foldl (fun (c : Array Value) (x : Value × Nat) => c.setIfInBounds (0 + x.snd) x.fst) (dk.cellsS [dk.zero, dk.zero]).toArray (dk.cells p).zipIdx = (dk.cellsS [p, dk.zero]).toArray := s0
      have s1' : List.foldl (fun (c : Array Value) (x : Value × Nat) => c.setIfInBounds (128 + x.snd) x.fst) (dk.cellsS [p, dk.zero]).toArray (dk.cells q).zipIdx = (dk.cellsS [p, q]).toArray := s1
      have f0 : Array.foldl (fun (c : Array Value) (x : Value × Nat) => c.setIfInBounds (0 + x.snd) x.fst) (dk.cellsS [dk.zero, dk.zero]).toArray (dk.cells p).toArray.zipIdx = (dk.cellsS [p, dk.zero]).toArray := by rw [← s0']; simp
      have f1 : Array.foldl (fun (c : Array Value) (x : Value × Nat) => c.setIfInBounds (128 + x.snd) x.fst) (dk.cellsS [p, dk.zero]).toArray (dk.cells q).toArray.zipIdx = (dk.cellsS [p, q]).toArray := by rw [← s1']; simp
      rw [f0]
      unfold Instr.fill
      simp only [Nat.one_mul, cq, sq, z1]
      rw [if_neg (by simp), f1]
      rfl
section
variable {ops : Array Oper} {rest : List Oper} {o : Oper} {a : Act} {w : World} {Q : Exit → Act → World → Prop}
/-- a pair of blocks is built -/
theorem wp_two (x y : Operand) (p q : dk.Blk) (hp : p.length = 128) (hq : q.length = 128) (hg : o.guard = none) (ho : o.op = .build 31 #[(0, x), (1, y)]) (hx : a.eval x = dk.val p) (hy : a.eval y = dk.val q)
    (h : wpList Tryd.prog ops Q rest (a.put o.dst (.agg (dk.cellsS [p, q]).toArray)) w) : wpList Tryd.prog ops Q (o :: rest) a w :=
  wpList_buildTo hg _ _ ho _ rfl _ (by simp only [List.map_toArray, List.map_cons, List.map_nil, hx, hy]; exact built_two p q hp hq) h
/-- a pair of blocks is stored -/
theorem wp_st2 (x y : Operand) (p q : dk.Blk) {g : Nat} {cs : Array Value} {E : TypeId} (hrow : w.heap[g]? = some (.cells cs E (0, 0))) (hlen : cs.size = 256) (hp : p.length = 128) (hq : q.length = 128) (hgd : o.guard = none)
    (ho : o.op = .store 31 x y) (hx : a.eval x = .pointer (some ⟨g, 0, none⟩)) (hy : a.eval y = .agg (dk.cellsS [p, q]).toArray)
    (h : ∀ W, W.heap[g]? = some (.cells (dk.cellsS [p, q]).toArray E (0, 0)) → Chg w W [g] → wpList Tryd.prog ops Q rest (a.put o.dst undef) W) : wpList Tryd.prog ops Q (o :: rest) a w := by
  have hl := dk.two_len hp hq
  obtain ⟨cl⟩ := cs
  have hcl : cl.length = 256 := by simpa using hlen
  have h2 := block_sets (dk.cellsS [p, q]) 0 cl w hrow (by rw [hl, hcl]; omega)
  rw [List.take_zero, List.nil_append, List.drop_of_length_le (by rw [hl, hcl]; omega), List.append_nil] at h2
  refine wpList_store_mid hgd _ x y ho g 0 (dk.cellsS [p, q]).toArray hx hy ?_ (by simpa [hl] using info_two) (two_one p q) ?_
  · have := there_of hrow 0 256 (by rw [hcl]; omega)
    simpa [hl] using this
  · exact h _ h2 (Chg.setCells g _ _ _)
end
set_option maxHeartbeats 4000000 in
set_option maxRecDepth 100000 in
theorem walk_SealTells (n : Nat) (A : Option Addr) (k c : Nat) (body : List UInt8) (a b : dk.Blk) (w : World) (hn : n < 18446744073709551616) (h : BS w A k c body) (hkm : k ≤ 140737488351232) (ha : a.length = 128) (hb : b.length = 128) (ht : Tab w) :
    Calls Tryd.prog 3 #[.int .u64 n, .slice A k c, dk.val a, dk.val b] w fun e w' => e = .returned (.bool true) ∧ Below w.heap.size w w' := by
  obtain ⟨hz, -⟩ := zero_of_info zero_blk
  obtain ⟨Z, hZ⟩ : ∃ Z : Array Value, Z = (dk.cellsS [dk.zero, dk.zero]).toArray := ⟨_, rfl⟩
  obtain ⟨hz2, -⟩ := zero_of_info zero_two
  rw [← hZ] at hz2
  have HZ := Lib.hid hZ
  have hk := h.len
  have hcap := h.cap
  have hmax := h.max
  obtain ⟨x0, hx0⟩ : ∃ e, (sl.put n body).1 = e := ⟨_, rfl⟩
  obtain ⟨e0, he0⟩ : ∃ e, (sl.put n body).2 = e := ⟨_, rfl⟩
  have hx0l : x0.length = 128 := by rw [← hx0]; exact sl.put_length n body
  have HA := Lib.hid (fun W A k c (hW : BS W A k c body) hT => cs_put n hn A k c body W hW hT)
  have HB := Lib.hid (fun W A k c (hW : BS W A k c body) => rput5_any n hn A k c body W hW)
  rw [hx0, he0] at HA HB
  have h1 := heap_alloc_new w (.cells (dk.cells a).toArray 25)
  have h1' := (Below.heap_alloc (w.alloc (.cells (dk.cells a).toArray 25)) (.cells (dk.cells b).toArray 25) w.heap.size (by simp)).trans h1
  have h2 := heap_alloc_new (w.alloc (.cells (dk.cells a).toArray 25)) (.cells (dk.cells b).toArray 25)
  rw [show (w.alloc (.cells (dk.cells a).toArray 25)).heap.size = w.heap.size + 1 from by simp] at h2
  have hb2 : Below w.heap.size w ((w.alloc (.cells (dk.cells a).toArray 25)).alloc (.cells (dk.cells b).toArray 25)) := ((Below.refl _ _).alloc (Nat.le_refl _) _).alloc (by simp) _
  have hw2 : w.heap.size + 1 < ((w.alloc (.cells (dk.cells a).toArray 25)).alloc (.cells (dk.cells b).toArray 25)).heap.size := by simp
  obtain ⟨W2, hW2⟩ : ∃ W2, (w.alloc (.cells (dk.cells a).toArray 25)).alloc (.cells (dk.cells b).toArray 25) = W2 := ⟨_, rfl⟩
  rw [hW2] at h1' h2 hb2 hw2
  clear h1 hx0 he0 hZ
  go_enter Tryd.func3, Tryd.ntmps3
  go_wp2_with fail
  refine (wide_any A k c body _ (h.below hb2) (by omega)).mono ?_
  rintro e w3 ⟨rfl, hown, hb3⟩
  have hb23 := hb2.trans (hb3.mono hb2.size)
  have hS : BS w3 (some ⟨W2.heap.size, 0, none⟩) k (k + 3) body := ⟨hk, by omega, by omega, by omega, fun _ => ⟨W2.heap.size, 0, rfl, hown.lt, fun i hi => by
    have := hown.cell (i := i) (by simp; omega)
    rw [Nat.zero_add, this, List.getElem_append_left hi]⟩⟩
  have h13 := (hb3.block w.heap.size (Array.getElem?_eq_some_iff.1 h1').1).trans h1'
  have h23 := (hb3.block (w.heap.size + 1) (Array.getElem?_eq_some_iff.1 h2).1).trans h2
  clear h1' h2 hb2 hW2
  go_wp2_with fail
  refine (HA.out _ _ _ _ hS (ht.below hb23)).mono ?_
  rintro e w4 ⟨rfl, hb4⟩
  have hb24 := hb23.trans (hb4.mono hb23.size)
  have h14 := (hb4.block w.heap.size (Array.getElem?_eq_some_iff.1 h13).1).trans h13
  have h24 := (hb4.block (w.heap.size + 1) (Array.getElem?_eq_some_iff.1 h23).1).trans h23
  have hown4 := hown.below hb4 hown.lt
  have hn4 := heap_alloc_new w4 (.cells (dk.cells dk.zero).toArray 25)
  obtain ⟨X1, hX1⟩ : ∃ X1, w4.heap.size = X1 := ⟨_, rfl⟩
  have hl14 := (Array.getElem?_eq_some_iff.1 h14).1
  have hl24 := (Array.getElem?_eq_some_iff.1 h24).1
  have hlo4 := hown4.lt
  rw [hX1] at hn4
  clear h13 h23 hS hown hb3 hb4 hb23
  go_wp2_with (refine wp_st0 (.tmp 10) (.tmp 35) x0 hn4 zero_len hx0l rfl rfl rfl rfl ?_; intro w5 hW5 hc5; rw [← hX1] at hc5; have hb5 := new_chg hc5)
  have hb25 := hb24.trans (hb5.mono hb24.size)
  have h15 := (hb5.block w.heap.size hl14).trans h14
  have h25 := (hb5.block (w.heap.size + 1) hl24).trans h24
  have hown5 := hown4.below hb5 hown4.lt
  have hl5 := hb5.size
  clear h14 h24 hown4 hc5 hb24 hn4
  refine (HB.out _ _ _ _ (h.below hb25)).mono ?_
  rintro e w6 ⟨rfl, hb6⟩
  have hb26 := hb25.trans (hb6.mono hb25.size)
  have hlX := (Array.getElem?_eq_some_iff.1 hW5).1
  have hW6 := (hb6.block X1 hlX).trans hW5
  have h16 := (hb6.block w.heap.size (by omega)).trans h15
  have h26 := (hb6.block (w.heap.size + 1) (by omega)).trans h25
  have hown6 := hown5.below hb6 hown5.lt
  have hl6 := hb6.size
  have hn6 := heap_alloc_new w6 (.cells (dk.cells dk.zero).toArray 25)
  obtain ⟨X2, hX2⟩ : ∃ X2, w6.heap.size = X2 := ⟨_, rfl⟩
  rw [hX2] at hn6
  have hE := eq_blk x0 x0 hx0l hx0l
  rw [decide_eq_true rfl] at hE
  clear hb25 h15 h25 hown5 hW5
  go_wp2_with (first
    | (refine wp_st0 (.tmp 12) (.tmp 41) x0 hn6 zero_len hx0l rfl rfl rfl rfl ?_; intro w7 hW7 hc7; rw [← hX2] at hc7; have hb7 := new_chg hc7; have g7 := blk_range hW7; have g8 := blk_range ((hb7.block X1 (by omega)).trans hW6))
    | refine wp_ld (.tmp 10) x0 g8 hx0l rfl rfl rfl ?_
    | refine wp_ld (.tmp 12) x0 g7 hx0l rfl rfl rfl ?_)
  have hb27 := hb26.trans (hb7.mono hb26.size)
  have hl7 := hb7.size
  have g1 := blk_range ((hb7.block w.heap.size (by omega)).trans h16)
  have g2 := blk_range ((hb7.block (w.heap.size + 1) (by omega)).trans h26)
  have hn7 := heap_alloc_new w7 (.cells Z 31)
  have hZs : Z.size = 256 := by rw [HZ.out, List.size_toArray]; exact dk.two_len zero_len zero_len
  have hleft := left_any A k c W2.heap.size body w7 (hown6.below hb7 hown6.lt) (h.below hb27) (by omega)
  obtain ⟨T, hT⟩ : ∃ T, w7.heap.size = T := ⟨_, rfl⟩
  have hTw : w.heap.size ≤ T := by omega
  rw [hT] at hn7
  clear g7 g8 hW7 hc7 hb7 hW6 h16 h26 hown6 hn6 hb26 hE HA HB hb5 hb6 hlX hl14 hl24 hlo4 hw2
  refine hleft.mono ?_
  rintro e w8 ⟨rfl, rfl⟩
  clear hleft
  go_wp2_with (first
    | refine wp_ld (.tmp 6) a g1 ha rfl rfl rfl ?_
    | refine wp_ld (.tmp 7) b g2 hb rfl rfl rfl ?_
    | refine wp_two (.tmp 57) (.tmp 58) a b ha hb rfl rfl rfl rfl ?_
    | (refine wp_st2 (.tmp 14) (.tmp 59) a b hn7 hZs ha hb rfl rfl rfl rfl ?_; intro w9 hW9 hc9; rw [← hT] at hc9; have hb9 := hb27.trans ((new_chg hc9).mono hb27.size)))
  clear g1 g2 hn7 hc9 hZs hz2 hb27
  go_loopw [15] (fun i wr => ∃ j : Nat, i = .int .i64 j ∧ j ≤ 2 ∧ wr.heap[T]? = some (.cells (dk.cellsS [a, b]).toArray 31 (0, 0)) ∧ Below w.heap.size w wr) (fun i _ => 2 - (intOf i).toNat)
  case atStart => exact ⟨0, rfl, by omega, hW9, hb9⟩
  case round =>
    clear hW9 hb9
    obtain ⟨j, rfl, hj2, hS, hbr⟩ := hrel
    by_cases hlt : j < 2
    · obtain ⟨kk, hk1, hkk, x, y, hxl, hyl, hxy⟩ : ∃ kk : Nat, (1 : Int) - (j : Int) = (kk : Int) ∧ kk < 2 ∧ ∃ x y : dk.Blk, x.length = 128 ∧ y.length = 128 ∧ ∀ W : World, W.heap[T]? = some (.cells (dk.cellsS [a, b]).toArray 31 (0, 0)) → W.rangeAt T (j * 128) (dk.cells x) ∧ W.rangeAt T (kk * 128) (dk.cells y) := by
        have hj : j = 0 ∨ j = 1 := by omega
        rcases hj with rfl | rfl
        · exact ⟨1, by omega, by omega, a, b, ha, hb, fun W hW => ⟨by simpa using dk.two0 ha hb hW, by simpa using dk.two1 ha hb hW⟩⟩
        · exact ⟨0, by omega, by omega, b, a, hb, ha, fun W hW => ⟨by simpa using dk.two1 ha hb hW, by simpa using dk.two0 ha hb hW⟩⟩
      have HXY := Lib.hid hxy
      obtain ⟨N1, hN1⟩ : ∃ e, (sl.get x).1 = e := ⟨_, rfl⟩
      obtain ⟨l1, hl1⟩ : ∃ e, (sl.get x).2.1 = e := ⟨_, rfl⟩
      obtain ⟨e1, he1⟩ : ∃ e, (sl.get x).2.2 = e := ⟨_, rfl⟩
      obtain ⟨s1, hs1⟩ : ∃ e, (sl.newest x y).1 = e := ⟨_, rfl⟩
      obtain ⟨t1, ht1⟩ : ∃ e, (sl.newest x y).2 = e := ⟨_, rfl⟩
      obtain ⟨u1, hu1⟩ : ∃ e, sl.next x y = e := ⟨_, rfl⟩
      have HG := Lib.hid (fun W hT => cs_get x hxl W hT)
      have HR := Lib.hid (fun W => rget5_any x hxl W)
      have HN := Lib.hid (fun W hT => cs_newest x y hxl hyl W hT)
      have HM := Lib.hid (fun W => rnewest_any x y hxl hyl W)
      have HU := Lib.hid (fun W hT => cs_next x y hxl hyl W hT)
      have HV := Lib.hid (fun W => rnext_any x y hxl hyl W)
      rw [hN1, hl1, he1] at HG HR
      rw [hs1, ht1] at HN HM
      rw [hu1] at HU HV
      clear hxy hN1 hl1 he1 hs1 ht1 hu1
      have hlt' : (j : Int) < 2 := by omega
      generalize hC : (dk.cellsS [a, b]).toArray = C at *
      have HC := Lib.hid hC
      clear hC hlt
      have g1 := (HXY.out wr hS).1
      go_wp2_with (refine wp_ld (.tmp 66) x g1 hxl rfl rfl rfl ?_)
      refine (HG.out _ (ht.below hbr)).mono ?_
      rintro e v1 ⟨q1, rfl, o1, d1⟩
      have hbr1 := hbr.trans (d1.mono hbr.size)
      have hTr := (Array.getElem?_eq_some_iff.1 hS).1
      have hS1 := (d1.block T hTr).trans hS
      have g2 := (HXY.out _ hS1).1
      obtain ⟨A1, c1, rfl, -⟩ := o1.form
      clear g1 hS
      go_wp2_with (refine wp_ld (.tmp 74) x g2 hxl rfl rfl rfl ?_)
      refine (HR.out _).mono ?_
      rintro e v2 ⟨q2, rfl, o2, d2⟩
      have hbr2 := hbr1.trans (d2.mono hbr1.size)
      have hS2 := (d2.block T (Nat.lt_of_lt_of_le hTr d1.size)).trans hS1
      have o12 := o1.below d2 (Nat.le_refl _)
      obtain ⟨A2, c2, rfl, -⟩ := o2.form
      have hsame := same_true _ _ _ _ _ _ l1 v2 o12.bs o2.bs
      have HSAME := Lib.hid hsame
      have o1lt := fun q hq => (o1.lt q hq).2
      clear g2 hS1 o1 hsame
      go_wp2_with fail
      refine HSAME.out.mono ?_
      rintro e v3 ⟨rfl, rfl⟩
      go_wp2_with fail
      refine (spoil_any A1 _ c1 wr.heap.size l1 3 _ o12).mono ?_
      rintro e v3 ⟨rfl, hg3⟩
      have hne : ∀ q, (Value.slice A1 l1.length c1).ownBlock = some q → wr.heap.size ≤ q ∧ q < v1.heap.size := fun q hq => ⟨(o12.lt q hq).1, o1lt q hq⟩
      have hd12 := d2.size
      have hd1 := d1.size
      have hbr3 : Below w.heap.size w v3 := hbr2.grown hg3 hbr2.size (fun q hq => Nat.le_trans hbr.size (hne q hq).1)
      have hS3 := (hg3.block T (by omega) (fun e => by have := (hne T e.symm).1; omega)).trans hS2
      have o23 : OwnB 5 v3 v1.heap.size (.slice A2 l1.length c2) l1 := o2.kept hg3 (by
        cases hq : (Value.slice A2 l1.length c2).ownBlock with
        | none => exact .inl rfl
        | some q => exact .inr (fun e => by have := (hne q e.symm).2; have := (o2.lt q hq).1; omega))
      have g3 := (HXY.out _ hS3).1
      have hl1s : l1.length ≤ 281474976710656 := o23.bs.small
      have hd3 := hg3.size
      clear hne o1lt HSAME o12 o2 hS2 hg3 d1 d2 hbr1 hbr2 HR
      go_wp2_with (refine wp_ld (.tmp 98) x g3 hxl rfl rfl rfl ?_)
      refine (HG.out _ (ht.below hbr3)).mono ?_
      rintro e v4 ⟨q4, rfl, o4, d4⟩
      have hbr4 := hbr3.trans (d4.mono hbr3.size)
      have hS4 := (d4.block T (by omega)).trans hS3
      have o24 := o23.below d4 (Nat.le_refl _)
      obtain ⟨A4, c4, rfl, -⟩ := o4.form
      have hd4 := d4.size
      have hkk' : (kk : Int) < 2 := by omega
      have hkw : IntKind.i64.wrap (kk : Int) = (kk : Int) := IntWalk.i64_in _ ⟨by omega, by omega⟩
      clear g3 hS3 o23 d4 HG hbr3
      go_wp2_with fail
      have uB := Tryd.underlying25
      have iX := info_blk' hxl
      have iY := info_blk' hyl
      refine wp_region_held_drew (S := fun W => W.heap[T]? = some (.cells C 31 (0, 0))) (by kernel_rfl) hS4 (fun hHeld => ?_)
      refine wpAnyH_take (i := 0) (v := ?_) rfl (by kernel_rfl) (by kernel_rfl) (by kernel_rfl) (fun _ _ _ h => h) (Or.inl ⟨by rfl, ?_⟩) hHeld ?_
      rotate_left
      · intro w hSw; clear hSw; go_simp; try rfl
      simp only [List.getElem_toArray, List.getElem_cons_zero, Act.put, List.setIfInBounds_toArray, List.set_cons_zero, List.set_cons_succ]
      refine wpAnyH_take (i := 1) (v := ?_) rfl (by kernel_rfl) (by kernel_rfl) (by kernel_rfl) (fun _ _ _ h => h) (Or.inl ⟨by rfl, ?_⟩) hHeld ?_
      rotate_left
      · intro w hSw; clear hSw; go_simp; try rfl
      simp only [List.getElem_toArray, List.getElem_cons_zero, List.getElem_cons_succ, Act.put, List.setIfInBounds_toArray, List.set_cons_zero, List.set_cons_succ]
      refine wpAnyH_take (i := 2) (v := dk.val x) rfl (by kernel_rfl) (by kernel_rfl) (by kernel_rfl) (fun _ _ _ h => h) (yieldsIf_load_mid (by rfl) 25 (.tmp 106) rfl T (j * 128) rfl (dk.cells x) _ (fun w h => (HXY.out w h).1) uB rfl iX) hHeld ?_
      simp only [List.getElem_toArray, List.getElem_cons_zero, List.getElem_cons_succ, Act.put, List.setIfInBounds_toArray, List.set_cons_zero, List.set_cons_succ]
      refine wpAnyH_take (i := 3) (v := ?_) rfl (by kernel_rfl) (by kernel_rfl) (by kernel_rfl) (fun _ _ _ h => h) (Or.inl ⟨by rfl, ?_⟩) hHeld ?_
      rotate_left
      · intro w hSw; clear hSw; go_simp; try rfl
      simp only [List.getElem_toArray, List.getElem_cons_zero, List.getElem_cons_succ, Act.put, List.setIfInBounds_toArray, List.set_cons_zero, List.set_cons_succ]
      refine wpAnyH_take (i := 4) (v := ?_) rfl (by kernel_rfl) (by kernel_rfl) (by kernel_rfl) (fun _ _ _ h => h) (Or.inl ⟨by rfl, ?_⟩) hHeld ?_
      rotate_left
      · intro w hSw; clear hSw; go_simp; try rfl
      simp only [List.getElem_toArray, List.getElem_cons_zero, List.getElem_cons_succ, Act.put, List.setIfInBounds_toArray, List.set_cons_zero, List.set_cons_succ]
      refine wpAnyH_take (i := 5) (v := ?_) rfl (by kernel_rfl) (by kernel_rfl) (by kernel_rfl) (fun _ _ _ h => h) (Or.inl ⟨by rfl, ?_⟩) hHeld ?_
      rotate_left
      · intro w hSw; clear hSw; go_simp; try rfl
      simp only [List.getElem_toArray, List.getElem_cons_zero, List.getElem_cons_succ, Act.put, List.setIfInBounds_toArray, List.set_cons_zero, List.set_cons_succ]
      refine wpAnyH_take (i := 6) (v := dk.val y) rfl (by kernel_rfl) (by kernel_rfl) (by kernel_rfl) (fun _ _ _ h => h) (yieldsIf_load_mid (by rfl) 25 (.tmp 110) rfl T (kk * 128) rfl (dk.cells y) _ (fun w h => (HXY.out w h).2) uB rfl iY) hHeld ?_
      simp only [List.getElem_toArray, List.getElem_cons_zero, List.getElem_cons_succ, Act.put, List.setIfInBounds_toArray, List.set_cons_zero, List.set_cons_succ]
      refine wpAnyH_ready (rs := [7]) (by kernel_rfl) (by simp) ?_
      refine AllReadyH.cons rfl (fun K hK => ?_) AllReadyH.nil
      rw [if_pos (by rfl)]
      go_simp
      refine (HN.out _ (ht.below hbr4.drew)).mono ?_
      rintro e v5 ⟨rfl, d5⟩
      have hbr5 := hbr4.drew.trans (d5.mono hbr4.size)
      have hS5 := (d5.block T (by show T < v4.heap.size; omega)).trans hS4
      have o25 := (o24.drew).below d5 (Nat.le_refl _)
      have o45 := (o4.drew).below d5 (Nat.le_refl _)
      have hd5 : v4.heap.size ≤ v5.heap.size := d5.size
      clear hHeld
      refine hK.out _ _ hS5 (fun hHeld => ?_)
      clear hK K hS4 o24 o4 d5 HN hbr4
      refine wpAnyH_take (i := 8) (v := ?_) rfl (by kernel_rfl) (by kernel_rfl) (by kernel_rfl) (fun _ _ _ h => h) (Or.inl ⟨by rfl, ?_⟩) hHeld ?_
      rotate_left
      · intro w hSw; clear hSw; go_simp; try rfl
      simp only [List.getElem_toArray, List.getElem_cons_zero, List.getElem_cons_succ, Act.put, List.setIfInBounds_toArray, List.set_cons_zero, List.set_cons_succ]
      refine wpAnyH_take (i := 9) (v := ?_) rfl (by kernel_rfl) (by kernel_rfl) (by kernel_rfl) (fun _ _ _ h => h) (Or.inl ⟨by rfl, ?_⟩) hHeld ?_
      rotate_left
      · intro w hSw; clear hSw; go_simp; try rfl
      simp only [List.getElem_toArray, List.getElem_cons_zero, List.getElem_cons_succ, Act.put, List.setIfInBounds_toArray, List.set_cons_zero, List.set_cons_succ]
      refine wpAnyH_take (i := 10) (v := ?_) rfl (by kernel_rfl) (by kernel_rfl) (by kernel_rfl) (fun _ _ _ h => h) (Or.inl ⟨by rfl, ?_⟩) hHeld ?_
      rotate_left
      · intro w hSw; clear hSw; go_simp; try rfl
      simp only [List.getElem_toArray, List.getElem_cons_zero, List.getElem_cons_succ, Act.put, List.setIfInBounds_toArray, List.set_cons_zero, List.set_cons_succ]
      refine wpAnyH_take (i := 11) (v := ?_) rfl (by kernel_rfl) (by kernel_rfl) (by kernel_rfl) (fun _ _ _ h => h) (Or.inl ⟨by rfl, ?_⟩) hHeld ?_
      rotate_left
      · intro w hSw; clear hSw; go_simp; try rfl
      simp only [List.getElem_toArray, List.getElem_cons_zero, List.getElem_cons_succ, Act.put, List.setIfInBounds_toArray, List.set_cons_zero, List.set_cons_succ]
      refine wpAnyH_take (i := 12) (v := ?_) rfl (by kernel_rfl) (by kernel_rfl) (by kernel_rfl) (fun _ _ _ h => h) (Or.inl ⟨by rfl, ?_⟩) hHeld ?_
      rotate_left
      · intro w hSw; clear hSw; go_simp; try rfl
      simp only [List.getElem_toArray, List.getElem_cons_zero, List.getElem_cons_succ, Act.put, List.setIfInBounds_toArray, List.set_cons_zero, List.set_cons_succ]
      refine wpAnyH_done (by kernel_rfl) ?_ _
      go_wp2_with fail
      refine wp_region_held_drew (S := fun W => W.heap[T]? = some (.cells C 31 (0, 0))) (by kernel_rfl) hS5 (fun hHeld => ?_)
      refine wpAnyH_take (i := 0) (v := ?_) rfl (by kernel_rfl) (by kernel_rfl) (by kernel_rfl) (fun _ _ _ h => h) (Or.inl ⟨by rfl, ?_⟩) hHeld ?_
      rotate_left
      · intro w hSw; clear hSw; go_simp; try rfl
      simp only [List.getElem_toArray, List.getElem_cons_zero, Act.put, List.setIfInBounds_toArray, List.set_cons_zero, List.set_cons_succ]
      refine wpAnyH_take (i := 1) (v := ?_) rfl (by kernel_rfl) (by kernel_rfl) (by kernel_rfl) (fun _ _ _ h => h) (Or.inl ⟨by rfl, ?_⟩) hHeld ?_
      rotate_left
      · intro w hSw; clear hSw; go_simp; try rfl
      simp only [List.getElem_toArray, List.getElem_cons_zero, List.getElem_cons_succ, Act.put, List.setIfInBounds_toArray, List.set_cons_zero, List.set_cons_succ]
      refine wpAnyH_take (i := 2) (v := dk.val x) rfl (by kernel_rfl) (by kernel_rfl) (by kernel_rfl) (fun _ _ _ h => h) (yieldsIf_load_mid (by rfl) 25 (.tmp 117) rfl T (j * 128) rfl (dk.cells x) _ (fun w h => (HXY.out w h).1) uB rfl iX) hHeld ?_
      simp only [List.getElem_toArray, List.getElem_cons_zero, List.getElem_cons_succ, Act.put, List.setIfInBounds_toArray, List.set_cons_zero, List.set_cons_succ]
      refine wpAnyH_take (i := 3) (v := ?_) rfl (by kernel_rfl) (by kernel_rfl) (by kernel_rfl) (fun _ _ _ h => h) (Or.inl ⟨by rfl, ?_⟩) hHeld ?_
      rotate_left
      · intro w hSw; clear hSw; go_simp; try rfl
      simp only [List.getElem_toArray, List.getElem_cons_zero, List.getElem_cons_succ, Act.put, List.setIfInBounds_toArray, List.set_cons_zero, List.set_cons_succ]
      refine wpAnyH_take (i := 4) (v := ?_) rfl (by kernel_rfl) (by kernel_rfl) (by kernel_rfl) (fun _ _ _ h => h) (Or.inl ⟨by rfl, ?_⟩) hHeld ?_
      rotate_left
      · intro w hSw; clear hSw; go_simp; try rfl
      simp only [List.getElem_toArray, List.getElem_cons_zero, List.getElem_cons_succ, Act.put, List.setIfInBounds_toArray, List.set_cons_zero, List.set_cons_succ]
      refine wpAnyH_take (i := 5) (v := ?_) rfl (by kernel_rfl) (by kernel_rfl) (by kernel_rfl) (fun _ _ _ h => h) (Or.inl ⟨by rfl, ?_⟩) hHeld ?_
      rotate_left
      · intro w hSw; clear hSw; go_simp; try rfl
      simp only [List.getElem_toArray, List.getElem_cons_zero, List.getElem_cons_succ, Act.put, List.setIfInBounds_toArray, List.set_cons_zero, List.set_cons_succ]
      refine wpAnyH_take (i := 6) (v := dk.val y) rfl (by kernel_rfl) (by kernel_rfl) (by kernel_rfl) (fun _ _ _ h => h) (yieldsIf_load_mid (by rfl) 25 (.tmp 121) rfl T (kk * 128) rfl (dk.cells y) _ (fun w h => (HXY.out w h).2) uB rfl iY) hHeld ?_
      simp only [List.getElem_toArray, List.getElem_cons_zero, List.getElem_cons_succ, Act.put, List.setIfInBounds_toArray, List.set_cons_zero, List.set_cons_succ]
      refine wpAnyH_ready (rs := [7]) (by kernel_rfl) (by simp) ?_
      refine AllReadyH.cons rfl (fun K hK => ?_) AllReadyH.nil
      rw [if_pos (by rfl)]
      go_simp
      refine (HM.out _).mono ?_
      rintro e v6 ⟨rfl, d6⟩
      have hbr6 := hbr5.drew.trans (d6.mono hbr5.size)
      have hS6 := (d6.block T (by show T < v5.heap.size; omega)).trans hS5
      have o26 := (o25.drew).below d6 (Nat.le_refl _)
      have o46 := (o45.drew).below d6 (Nat.le_refl _)
      have hd6 : v5.heap.size ≤ v6.heap.size := d6.size
      clear hHeld
      refine hK.out _ _ hS6 (fun hHeld => ?_)
      clear hK K hS5 o25 o45 d6 HM hbr5
      refine wpAnyH_take (i := 8) (v := ?_) rfl (by kernel_rfl) (by kernel_rfl) (by kernel_rfl) (fun _ _ _ h => h) (Or.inl ⟨by rfl, ?_⟩) hHeld ?_
      rotate_left
      · intro w hSw; clear hSw; go_simp; try rfl
      simp only [List.getElem_toArray, List.getElem_cons_zero, List.getElem_cons_succ, Act.put, List.setIfInBounds_toArray, List.set_cons_zero, List.set_cons_succ]
      refine wpAnyH_take (i := 9) (v := ?_) rfl (by kernel_rfl) (by kernel_rfl) (by kernel_rfl) (fun _ _ _ h => h) (Or.inl ⟨by rfl, ?_⟩) hHeld ?_
      rotate_left
      · intro w hSw; clear hSw; go_simp; try rfl
      simp only [List.getElem_toArray, List.getElem_cons_zero, List.getElem_cons_succ, Act.put, List.setIfInBounds_toArray, List.set_cons_zero, List.set_cons_succ]
      refine wpAnyH_take (i := 10) (v := ?_) rfl (by kernel_rfl) (by kernel_rfl) (by kernel_rfl) (fun _ _ _ h => h) (Or.inl ⟨by rfl, ?_⟩) hHeld ?_
      rotate_left
      · intro w hSw; clear hSw; go_simp; try rfl
      simp only [List.getElem_toArray, List.getElem_cons_zero, List.getElem_cons_succ, Act.put, List.setIfInBounds_toArray, List.set_cons_zero, List.set_cons_succ]
      refine wpAnyH_take (i := 11) (v := ?_) rfl (by kernel_rfl) (by kernel_rfl) (by kernel_rfl) (fun _ _ _ h => h) (Or.inl ⟨by rfl, ?_⟩) hHeld ?_
      rotate_left
      · intro w hSw; clear hSw; go_simp; try rfl
      simp only [List.getElem_toArray, List.getElem_cons_zero, List.getElem_cons_succ, Act.put, List.setIfInBounds_toArray, List.set_cons_zero, List.set_cons_succ]
      refine wpAnyH_take (i := 12) (v := ?_) rfl (by kernel_rfl) (by kernel_rfl) (by kernel_rfl) (fun _ _ _ h => h) (Or.inl ⟨by rfl, ?_⟩) hHeld ?_
      rotate_left
      · intro w hSw; clear hSw; go_simp; try rfl
      simp only [List.getElem_toArray, List.getElem_cons_zero, List.getElem_cons_succ, Act.put, List.setIfInBounds_toArray, List.set_cons_zero, List.set_cons_succ]
      refine wpAnyH_done (by kernel_rfl) ?_ _
      go_wp2_with fail
      refine wp_region_held_drew (S := fun W => W.heap[T]? = some (.cells C 31 (0, 0)) ∧ BS W A4 l1.length c4 l1 ∧ BS W A2 l1.length c2 l1) (by kernel_rfl) ⟨hS6, o46.bs.drew, o26.bs.drew⟩ (fun hHeld => ?_)
      refine wpAnyH_take (i := 0) (v := ?_) rfl (by kernel_rfl) (by kernel_rfl) (by kernel_rfl) (fun _ _ _ h => h) (Or.inl ⟨by rfl, ?_⟩) hHeld ?_
      rotate_left
      · intro w hSw; clear hSw; go_simp; try rfl
      simp only [List.getElem_toArray, List.getElem_cons_zero, Act.put, List.setIfInBounds_toArray, List.set_cons_zero, List.set_cons_succ]
      refine wpAnyH_take (i := 1) (v := ?_) rfl (by kernel_rfl) (by kernel_rfl) (by kernel_rfl) (fun _ _ _ h => h) (Or.inl ⟨by rfl, ?_⟩) hHeld ?_
      rotate_left
      · intro w hSw; clear hSw; go_simp; try rfl
      simp only [List.getElem_toArray, List.getElem_cons_zero, List.getElem_cons_succ, Act.put, List.setIfInBounds_toArray, List.set_cons_zero, List.set_cons_succ]
      refine wpAnyH_ready (rs := [2]) (by kernel_rfl) (by simp) ?_
      refine AllReadyH.cons rfl (fun K hK => ?_) AllReadyH.nil
      rw [if_pos (by rfl)]
      go_simp
      refine (same_true _ _ _ _ _ _ l1 _ hHeld.2.1 hHeld.2.2).mono ?_
      rintro e v7 ⟨rfl, rfl⟩
      refine hK.out _ _ hHeld (fun hHeld => ?_)
      clear hK K
      refine wpAnyH_take (i := 3) (v := ?_) rfl (by kernel_rfl) (by kernel_rfl) (by kernel_rfl) (fun _ _ _ h => h) (Or.inl ⟨by rfl, ?_⟩) hHeld ?_
      rotate_left
      · intro w hSw; clear hSw; go_simp; try rfl
      simp only [List.getElem_toArray, List.getElem_cons_zero, List.getElem_cons_succ, Act.put, List.setIfInBounds_toArray, List.set_cons_zero, List.set_cons_succ]
      refine wpAnyH_take (i := 4) (v := ?_) rfl (by kernel_rfl) (by kernel_rfl) (by kernel_rfl) (fun _ _ _ h => h) (Or.inl ⟨by rfl, ?_⟩) hHeld ?_
      rotate_left
      · intro w hSw; clear hSw; go_simp; try rfl
      simp only [List.getElem_toArray, List.getElem_cons_zero, List.getElem_cons_succ, Act.put, List.setIfInBounds_toArray, List.set_cons_zero, List.set_cons_succ]
      refine wpAnyH_take (i := 5) (v := ?_) rfl (by kernel_rfl) (by kernel_rfl) (by kernel_rfl) (fun _ _ _ h => h) (Or.inl ⟨by rfl, ?_⟩) hHeld ?_
      rotate_left
      · intro w hSw; clear hSw; go_simp; try rfl
      simp only [List.getElem_toArray, List.getElem_cons_zero, List.getElem_cons_succ, Act.put, List.setIfInBounds_toArray, List.set_cons_zero, List.set_cons_succ]
      refine wpAnyH_take (i := 6) (v := ?_) rfl (by kernel_rfl) (by kernel_rfl) (by kernel_rfl) (fun _ _ _ h => h) (Or.inl ⟨by rfl, ?_⟩) hHeld ?_
      rotate_left
      · intro w hSw; clear hSw; go_simp; try rfl
      simp only [List.getElem_toArray, List.getElem_cons_zero, List.getElem_cons_succ, Act.put, List.setIfInBounds_toArray, List.set_cons_zero, List.set_cons_succ]
      refine wpAnyH_take (i := 7) (v := ?_) rfl (by kernel_rfl) (by kernel_rfl) (by kernel_rfl) (fun _ _ _ h => h) (Or.inl ⟨by rfl, ?_⟩) hHeld ?_
      rotate_left
      · intro w hSw; clear hSw; go_simp; try rfl
      simp only [List.getElem_toArray, List.getElem_cons_zero, List.getElem_cons_succ, Act.put, List.setIfInBounds_toArray, List.set_cons_zero, List.set_cons_succ]
      refine wpAnyH_take (i := 8) (v := ?_) rfl (by kernel_rfl) (by kernel_rfl) (by kernel_rfl) (fun _ _ _ h => h) (Or.inl ⟨by rfl, ?_⟩) hHeld ?_
      rotate_left
      · intro w hSw; clear hSw; go_simp; try rfl
      simp only [List.getElem_toArray, List.getElem_cons_zero, List.getElem_cons_succ, Act.put, List.setIfInBounds_toArray, List.set_cons_zero, List.set_cons_succ]
      refine wpAnyH_take (i := 9) (v := ?_) rfl (by kernel_rfl) (by kernel_rfl) (by kernel_rfl) (fun _ _ _ h => h) (Or.inl ⟨by rfl, ?_⟩) hHeld ?_
      rotate_left
      · intro w hSw; clear hSw; go_simp; try rfl
      simp only [List.getElem_toArray, List.getElem_cons_zero, List.getElem_cons_succ, Act.put, List.setIfInBounds_toArray, List.set_cons_zero, List.set_cons_succ]
      refine wpAnyH_take (i := 10) (v := ?_) rfl (by kernel_rfl) (by kernel_rfl) (by kernel_rfl) (fun _ _ _ h => h) (Or.inl ⟨by rfl, ?_⟩) hHeld ?_
      rotate_left
      · intro w hSw; clear hSw; go_simp; try rfl
      simp only [List.getElem_toArray, List.getElem_cons_zero, List.getElem_cons_succ, Act.put, List.setIfInBounds_toArray, List.set_cons_zero, List.set_cons_succ]
      refine wpAnyH_take (i := 11) (v := ?_) rfl (by kernel_rfl) (by kernel_rfl) (by kernel_rfl) (fun _ _ _ h => h) (Or.inl ⟨by rfl, ?_⟩) hHeld ?_
      rotate_left
      · intro w hSw; clear hSw; go_simp; try rfl
      simp only [List.getElem_toArray, List.getElem_cons_zero, List.getElem_cons_succ, Act.put, List.setIfInBounds_toArray, List.set_cons_zero, List.set_cons_succ]
      refine wpAnyH_take (i := 12) (v := ?_) rfl (by kernel_rfl) (by kernel_rfl) (by kernel_rfl) (fun _ _ _ h => h) (Or.inl ⟨by rfl, ?_⟩) hHeld ?_
      rotate_left
      · intro w hSw; clear hSw; go_simp; try rfl
      simp only [List.getElem_toArray, List.getElem_cons_zero, List.getElem_cons_succ, Act.put, List.setIfInBounds_toArray, List.set_cons_zero, List.set_cons_succ]
      refine wpAnyH_take (i := 13) (v := ?_) rfl (by kernel_rfl) (by kernel_rfl) (by kernel_rfl) (fun _ _ _ h => h) (Or.inl ⟨by rfl, ?_⟩) hHeld ?_
      rotate_left
      · intro w hSw; clear hSw; go_simp; try rfl
      simp only [List.getElem_toArray, List.getElem_cons_zero, List.getElem_cons_succ, Act.put, List.setIfInBounds_toArray, List.set_cons_zero, List.set_cons_succ]
      refine wpAnyH_take (i := 14) (v := ?_) rfl (by kernel_rfl) (by kernel_rfl) (by kernel_rfl) (fun _ _ _ h => h) (Or.inl ⟨by rfl, ?_⟩) hHeld ?_
      rotate_left
      · intro w hSw; clear hSw; go_simp; try rfl
      simp only [List.getElem_toArray, List.getElem_cons_zero, List.getElem_cons_succ, Act.put, List.setIfInBounds_toArray, List.set_cons_zero, List.set_cons_succ]
      refine wpAnyH_take (i := 15) (v := ?_) rfl (by kernel_rfl) (by kernel_rfl) (by kernel_rfl) (fun _ _ _ h => h) (Or.inl ⟨by rfl, ?_⟩) hHeld ?_
      rotate_left
      · intro w hSw; clear hSw; go_simp; try rfl
      simp only [List.getElem_toArray, List.getElem_cons_zero, List.getElem_cons_succ, Act.put, List.setIfInBounds_toArray, List.set_cons_zero, List.set_cons_succ]
      refine wpAnyH_take (i := 16) (v := ?_) rfl (by kernel_rfl) (by kernel_rfl) (by kernel_rfl) (fun _ _ _ h => h) (Or.inl ⟨by rfl, ?_⟩) hHeld ?_
      rotate_left
      · intro w hSw; clear hSw; go_simp; try rfl
      simp only [List.getElem_toArray, List.getElem_cons_zero, List.getElem_cons_succ, Act.put, List.setIfInBounds_toArray, List.set_cons_zero, List.set_cons_succ]
      refine wpAnyH_take (i := 17) (v := dk.val x) rfl (by kernel_rfl) (by kernel_rfl) (by kernel_rfl) (fun _ _ _ h => h) (yieldsIf_load_mid (by rfl) 25 (.tmp 142) rfl T (j * 128) rfl (dk.cells x) _ (fun w h => (HXY.out w h.1).1) uB rfl iX) hHeld ?_
      simp only [List.getElem_toArray, List.getElem_cons_zero, List.getElem_cons_succ, Act.put, List.setIfInBounds_toArray, List.set_cons_zero, List.set_cons_succ]
      refine wpAnyH_take (i := 18) (v := ?_) rfl (by kernel_rfl) (by kernel_rfl) (by kernel_rfl) (fun _ _ _ h => h) (Or.inl ⟨by rfl, ?_⟩) hHeld ?_
      rotate_left
      · intro w hSw; clear hSw; go_simp; try rfl
      simp only [List.getElem_toArray, List.getElem_cons_zero, List.getElem_cons_succ, Act.put, List.setIfInBounds_toArray, List.set_cons_zero, List.set_cons_succ]
      refine wpAnyH_take (i := 19) (v := ?_) rfl (by kernel_rfl) (by kernel_rfl) (by kernel_rfl) (fun _ _ _ h => h) (Or.inl ⟨by rfl, ?_⟩) hHeld ?_
      rotate_left
      · intro w hSw; clear hSw; go_simp; try rfl
      simp only [List.getElem_toArray, List.getElem_cons_zero, List.getElem_cons_succ, Act.put, List.setIfInBounds_toArray, List.set_cons_zero, List.set_cons_succ]
      refine wpAnyH_take (i := 20) (v := ?_) rfl (by kernel_rfl) (by kernel_rfl) (by kernel_rfl) (fun _ _ _ h => h) (Or.inl ⟨by rfl, ?_⟩) hHeld ?_
      rotate_left
      · intro w hSw; clear hSw; go_simp; try rfl
      simp only [List.getElem_toArray, List.getElem_cons_zero, List.getElem_cons_succ, Act.put, List.setIfInBounds_toArray, List.set_cons_zero, List.set_cons_succ]
      refine wpAnyH_take (i := 21) (v := dk.val y) rfl (by kernel_rfl) (by kernel_rfl) (by kernel_rfl) (fun _ _ _ h => h) (yieldsIf_load_mid (by rfl) 25 (.tmp 146) rfl T (kk * 128) rfl (dk.cells y) _ (fun w h => (HXY.out w h.1).2) uB rfl iY) hHeld ?_
      simp only [List.getElem_toArray, List.getElem_cons_zero, List.getElem_cons_succ, Act.put, List.setIfInBounds_toArray, List.set_cons_zero, List.set_cons_succ]
      refine wpAnyH_take (i := 23) (v := ?_) rfl (by kernel_rfl) (by kernel_rfl) (by kernel_rfl) (fun _ _ _ h => h) (Or.inl ⟨by rfl, ?_⟩) hHeld ?_
      rotate_left
      · intro w hSw; clear hSw; go_simp; try rfl
      simp only [List.getElem_toArray, List.getElem_cons_zero, List.getElem_cons_succ, Act.put, List.setIfInBounds_toArray, List.set_cons_zero, List.set_cons_succ]
      refine wpAnyH_take (i := 24) (v := ?_) rfl (by kernel_rfl) (by kernel_rfl) (by kernel_rfl) (fun _ _ _ h => h) (Or.inl ⟨by rfl, ?_⟩) hHeld ?_
      rotate_left
      · intro w hSw; clear hSw; go_simp; try rfl
      simp only [List.getElem_toArray, List.getElem_cons_zero, List.getElem_cons_succ, Act.put, List.setIfInBounds_toArray, List.set_cons_zero, List.set_cons_succ]
      refine wpAnyH_take (i := 25) (v := dk.val x) rfl (by kernel_rfl) (by kernel_rfl) (by kernel_rfl) (fun _ _ _ h => h) (yieldsIf_load_mid (by rfl) 25 (.tmp 150) rfl T (j * 128) rfl (dk.cells x) _ (fun w h => (HXY.out w h.1).1) uB rfl iX) hHeld ?_
      simp only [List.getElem_toArray, List.getElem_cons_zero, List.getElem_cons_succ, Act.put, List.setIfInBounds_toArray, List.set_cons_zero, List.set_cons_succ]
      refine wpAnyH_take (i := 26) (v := ?_) rfl (by kernel_rfl) (by kernel_rfl) (by kernel_rfl) (fun _ _ _ h => h) (Or.inl ⟨by rfl, ?_⟩) hHeld ?_
      rotate_left
      · intro w hSw; clear hSw; go_simp; try rfl
      simp only [List.getElem_toArray, List.getElem_cons_zero, List.getElem_cons_succ, Act.put, List.setIfInBounds_toArray, List.set_cons_zero, List.set_cons_succ]
      refine wpAnyH_take (i := 27) (v := ?_) rfl (by kernel_rfl) (by kernel_rfl) (by kernel_rfl) (fun _ _ _ h => h) (Or.inl ⟨by rfl, ?_⟩) hHeld ?_
      rotate_left
      · intro w hSw; clear hSw; go_simp; try rfl
      simp only [List.getElem_toArray, List.getElem_cons_zero, List.getElem_cons_succ, Act.put, List.setIfInBounds_toArray, List.set_cons_zero, List.set_cons_succ]
      refine wpAnyH_take (i := 28) (v := ?_) rfl (by kernel_rfl) (by kernel_rfl) (by kernel_rfl) (fun _ _ _ h => h) (Or.inl ⟨by rfl, ?_⟩) hHeld ?_
      rotate_left
      · intro w hSw; clear hSw; go_simp; try rfl
      simp only [List.getElem_toArray, List.getElem_cons_zero, List.getElem_cons_succ, Act.put, List.setIfInBounds_toArray, List.set_cons_zero, List.set_cons_succ]
      refine wpAnyH_take (i := 29) (v := dk.val y) rfl (by kernel_rfl) (by kernel_rfl) (by kernel_rfl) (fun _ _ _ h => h) (yieldsIf_load_mid (by rfl) 25 (.tmp 154) rfl T (kk * 128) rfl (dk.cells y) _ (fun w h => (HXY.out w h.1).2) uB rfl iY) hHeld ?_
      simp only [List.getElem_toArray, List.getElem_cons_zero, List.getElem_cons_succ, Act.put, List.setIfInBounds_toArray, List.set_cons_zero, List.set_cons_succ]
      refine wpAnyH_ready (rs := [22]) (by kernel_rfl) (by simp) ?_
      refine AllReadyH.cons rfl (fun K hK => ?_) AllReadyH.nil
      rw [if_pos (by rfl)]
      go_simp
      refine (HU.out _ (ht.below hbr6.drew)).mono ?_
      rintro e v8 ⟨rfl, d8⟩
      have hbr8 := hbr6.drew.trans (d8.mono hbr6.size)
      have hS8 := (d8.block T (by show T < v6.heap.size; omega)).trans hS6
      have hd8 : v6.heap.size ≤ v8.heap.size := d8.size
      have hB4 := hHeld.2.1.below d8
      have hB2 := hHeld.2.2.below d8
      clear hHeld
      refine hK.out _ _ ⟨hS8, hB4, hB2⟩ (fun hHeld => ?_)
      clear hK K
      refine wpAnyH_ready (rs := [30]) (by kernel_rfl) (by simp) ?_
      refine AllReadyH.cons rfl (fun K hK => ?_) AllReadyH.nil
      rw [if_pos (by rfl)]
      go_simp
      refine (HV.out _).mono ?_
      rintro e v9 ⟨rfl, d9⟩
      have hbr9 := hbr8.trans (d9.mono hbr8.size)
      have hS9 := (d9.block T (by omega)).trans hS8
      have hB4' := hHeld.2.1.below d9
      have hB2' := hHeld.2.2.below d9
      clear hHeld
      refine hK.out _ _ ⟨hS9, hB4', hB2'⟩ (fun hHeld => ?_)
      clear hK K
      refine wpAnyH_take (i := 31) (v := ?_) rfl (by kernel_rfl) (by kernel_rfl) (by kernel_rfl) (fun _ _ _ h => h) (Or.inl ⟨by rfl, ?_⟩) hHeld ?_
      rotate_left
      · intro w hSw; clear hSw; go_simp; try rfl
      simp only [List.getElem_toArray, List.getElem_cons_zero, List.getElem_cons_succ, Act.put, List.setIfInBounds_toArray, List.set_cons_zero, List.set_cons_succ]
      refine wpAnyH_take (i := 32) (v := ?_) rfl (by kernel_rfl) (by kernel_rfl) (by kernel_rfl) (fun _ _ _ h => h) (Or.inl ⟨by rfl, ?_⟩) hHeld ?_
      rotate_left
      · intro w hSw; clear hSw; go_simp; try rfl
      simp only [List.getElem_toArray, List.getElem_cons_zero, List.getElem_cons_succ, Act.put, List.setIfInBounds_toArray, List.set_cons_zero, List.set_cons_succ]
      refine wpAnyH_done (by kernel_rfl) ?_ _
      go_wp2_with fail
      go_roundw
      case rel => exact ⟨j + 1, by go_num, by omega, hS9, hbr9⟩
      case measure => simp [intOf]; omega
    · have hlt' : ¬ (j : Int) < 2 := by omega
      go_wp2_with fail
      refine (lives05_any _ (ht.below hbr)).mono ?_
      rintro e w10 ⟨rfl, hb10⟩
      go_wp2_with fail
      go_ret
      exact ⟨rfl, hbr.trans (hb10.mono hbr.size)⟩
end Go.Proofs.YtbjnmiaplegkcaaDoor
