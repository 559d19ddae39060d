/-
  contracts of cardexref06: May, number, Put.
-/
import Derived.Test.YtiiigbhkbpdciaaDoorHeadL
import Derived.Test.YtiiigbhkbpdciaaDoorSealR3
import Derived.Test.YtiiigbhkbpdciaaDoorDiskE
import Derived.Deep.RegionHeldLaw
namespace Go.Proofs.YtiiigbhkbpdciaaDoor
open Go.RowKit

/-- A HEAD IN MEMORY -/
def HM (E : TypeId) (w : World) (g : Nat) (h : hd.H) : Prop := w.heap[g]? = some (.cells #[bv h.bank, .int .u32 h.blocks, .int .u32 h.batches] E (0, 0))
namespace HM
variable {E : TypeId} {w w' : World} {g : Nat} {h : hd.H}
theorem lt (m : HM E w g h) : g < w.heap.size := (Array.getElem?_eq_some_iff.1 m).1
theorem c0 (m : HM E w g h) : w.cell? ⟨g, 0, none⟩ = some (bv h.bank) := by rw [cell_of_row _ _ 0 _ _ _ m]; rfl
theorem c1 (m : HM E w g h) : w.cell? ⟨g, 1, none⟩ = some (.int .u32 h.blocks) := by rw [cell_of_row _ _ 1 _ _ _ m]; rfl
theorem c2 (m : HM E w g h) : w.cell? ⟨g, 2, none⟩ = some (.int .u32 h.batches) := by rw [cell_of_row _ _ 2 _ _ _ m]; rfl
set_option maxRecDepth 100000 in
theorem fz (m : HM E w g h) (i : Nat) : w.frozen? ⟨g, i, none⟩ = false := by
  unfold HM at m
  simp [World.frozen?, m]
theorem drew (m : HM E w g h) : HM E w.drew g h := m
theorem below {B : Nat} (m : HM E w g h) (hb : Below B w w') (hB : g < B) : HM E w' g h := (hb.block g hB).trans m
theorem alloc (m : HM E w g h) (o : Obj) : HM E (w.alloc o) g h := (Below.heap_alloc w o g m.lt).trans m
theorem new (w : World) (E : TypeId) (h : hd.H) : HM E (w.alloc (.cells #[bv h.bank, .int .u32 h.blocks, .int .u32 h.batches] E)) w.heap.size h := heap_alloc_new w _
theorem chg {F : List Nat} (m : HM E w g h) (hc : Chg w w' F) (hF : g ∉ F) : HM E w' g h := (hc.block g m.lt hF).trans m
theorem range (m : HM E w g h) : w.rangeAt g 0 (hd.cells h) := range_of m 0 _ fun j v hj => by rw [Nat.zero_add]; exact hj
end HM
theorem info_head : (Tryd.prog.info? 25).map (fun i => (i.zero, i.size)) = some (some (hd.val hd.zero), 3) := by kernel_rfl

set_option maxRecDepth 100000 in
set_option maxHeartbeats 1000000 in
theorem rmay_any (h : hd.H) (w : World) : Calls Tryd.prog 10 #[hd.val h] w fun e w' => e = .returned (.bool (hd.may h)) ∧ Below w.heap.size w w' := by
  have m := HM.new w 25 h
  have hb : Below w.heap.size w (w.alloc (.cells #[bv h.bank, .int .u32 h.blocks, .int .u32 h.batches] 25)) := (Below.refl _ _).alloc (Nat.le_refl _) _
  have q0 := m.c0
  have q1 := m.c1
  have q2 := m.c2
  by_cases h1 : h.bank.toNat ≤ 1
  · by_cases h2 : h.blocks ≤ 4096
    · by_cases h3 : h.batches ≤ h.blocks
      · have hm : hd.may h = true := by simp [hd.may, h1, h2, h3]
        have HM' := Lib.hid hm
        have i1 : (h.bank.toNat : Int) ≤ 1 := by omega
        have i2 : (h.blocks : Int) ≤ 4096 := by omega
        have i3 : (h.batches : Int) ≤ (h.blocks : Int) := by omega
        clear hm
        go_enter Tryd.func10, Tryd.ntmps10
        go_wp2_with fail
        go_ret
        exact ⟨by rw [HM'.out]; rfl, hb⟩
      · have hm : hd.may h = false := by simp [hd.may, h3]
        have HM' := Lib.hid hm
        have i1 : (h.bank.toNat : Int) ≤ 1 := by omega
        have i2 : (h.blocks : Int) ≤ 4096 := by omega
        have i3 : ¬ (h.batches : Int) ≤ (h.blocks : Int) := by omega
        clear hm
        go_enter Tryd.func10, Tryd.ntmps10
        go_wp2_with fail
        go_ret
        exact ⟨by rw [HM'.out]; rfl, hb⟩
    · have hm : hd.may h = false := by simp [hd.may, h2]
      have HM' := Lib.hid hm
      have i1 : (h.bank.toNat : Int) ≤ 1 := by omega
      have i2 : ¬ (h.blocks : Int) ≤ 4096 := by omega
      clear hm
      go_enter Tryd.func10, Tryd.ntmps10
      go_wp2_with fail
      go_ret
      exact ⟨by rw [HM'.out]; rfl, hb⟩
  · have hm : hd.may h = false := by simp [hd.may, h1]
    have HM' := Lib.hid hm
    have i1 : ¬ (h.bank.toNat : Int) ≤ 1 := by omega
    clear hm
    go_enter Tryd.func10, Tryd.ntmps10
    go_wp2_with fail
    go_ret
    exact ⟨by rw [HM'.out]; rfl, hb⟩

set_option maxRecDepth 100000 in
theorem rnumber_any (n : Nat) (w : World) : Calls Tryd.prog 19 #[.int .u64 n] w fun e w' => e = .returned (.bool (hd.num n)) ∧ w = w' := by
  by_cases h1 : 1 ≤ n
  · by_cases h2 : n ≤ 4611686018427387904
    · have hm : hd.num n = true := by simp [hd.num, h1, h2]
      have i1 : (1 : Int) ≤ (n : Int) := by omega
      have i2 : (n : Int) ≤ 4611686018427387904 := by omega
      rw [hm]
      clear hm h1 h2
      go_enter Tryd.func19, Tryd.ntmps19
      go_wp2_with fail
      go_ret
      exact ⟨rfl, rfl⟩
    · have hm : hd.num n = false := by simp [hd.num, h2]
      have i1 : (1 : Int) ≤ (n : Int) := by omega
      have i2 : ¬ (n : Int) ≤ 4611686018427387904 := by omega
      rw [hm]
      clear hm h1 h2
      go_enter Tryd.func19, Tryd.ntmps19
      go_wp2_with fail
      go_ret
      exact ⟨rfl, rfl⟩
  · have hm : hd.num n = false := by simp [hd.num, h1]
    have i1 : ¬ (1 : Int) ≤ (n : Int) := by omega
    rw [hm]
    clear hm h1
    go_enter Tryd.func19, Tryd.ntmps19
    go_wp2_with fail
    go_ret
    exact ⟨rfl, rfl⟩

set_option maxRecDepth 100000 in
theorem own_one (w : World) (e : TypeId) (x : UInt8) (B : Nat) (hB : B ≤ w.heap.size) : OwnB e (w.alloc (.cells #[bv x] e)) B (.slice (some ⟨w.heap.size, 0, none⟩) 1 1) [x] :=
  .inr ⟨w.heap.size, [], rfl, hB, heap_alloc_new w _, by simp, by simp⟩
set_option maxHeartbeats 4000000 in
set_option maxRecDepth 100000 in
theorem rput6_any (n : Nat) (hn : n < 18446744073709551616) (h : hd.H) (hok : h.Ok) (w : World) : Calls Tryd.prog 8 #[.int .u64 n, hd.val h] w fun e w' =>
    e = .returned (.tuple #[dk.val (hd.put n h).1, .int .i64 (hd.put n h).2]) ∧ Below w.heap.size w w' := by
  obtain ⟨hz, -⟩ := zero_of_info zero_blk
  obtain ⟨i0, hi, hz0, hz1, hz2⟩ := info_parts info_u8
  have m1 := HM.new w 25 h
  have m2 := m1.alloc (.cells (dk.cells dk.zero).toArray 27)
  have b1 : Below w.heap.size w (w.alloc (.cells #[bv h.bank, .int .u32 h.blocks, .int .u32 h.batches] 25)) := (Below.refl _ _).alloc (Nat.le_refl _) _
  have b2 := b1.alloc b1.size (.cells (dk.cells dk.zero).toArray 27)
  have r2 := heap_alloc_new (w.alloc (.cells #[bv h.bank, .int .u32 h.blocks, .int .u32 h.batches] 25)) (.cells (dk.cells dk.zero).toArray 27)
  rw [show (w.alloc (.cells #[bv h.bank, .int .u32 h.blocks, .int .u32 h.batches] 25)).heap.size = w.heap.size + 1 from by simp] at r2
  obtain ⟨W2, hW2⟩ : ∃ W2, (w.alloc (.cells #[bv h.bank, .int .u32 h.blocks, .int .u32 h.batches] 25)).alloc (.cells (dk.cells dk.zero).toArray 27) = W2 := ⟨_, rfl⟩
  rw [hW2] at m2 b2 r2
  have hlR : w.heap.size + 1 < W2.heap.size := (Array.getElem?_eq_some_iff.1 r2).1
  have hnum := rnumber_any n W2
  obtain ⟨q1, hq1⟩ : ∃ q, hd.num n = q := ⟨_, rfl⟩
  obtain ⟨q2, hq2⟩ : ∃ q, hd.may h = q := ⟨_, rfl⟩
  rw [hq1] at hnum
  have HNUM := Lib.hid hnum
  have hmay := fun W => rmay_any h W
  simp only [hq2] at hmay
  have HMAY := Lib.hid hmay
  have c0 := m2.c0
  have c1 := m2.c1
  have c2 := m2.c2
  have HQ1 := Lib.hid hq1
  have HQ2 := Lib.hid hq2
  clear hnum hmay m1 b1 hq1 hq2
  cases q1 with
  | false =>
    have hp := hd.put_no (n := n) (h := h) (by rw [HQ1.out, Bool.false_and])
    have HP := Lib.hid hp
    clear hp
    go_enter Tryd.func8, Tryd.ntmps8
    go_wp2_with fail
    refine HNUM.out.mono ?_
    rintro e w3 ⟨rfl, rfl⟩
    go_wp2_with (refine wp_st0 (.tmp 4) (.tmp 19) dk.zero r2 zero_len zero_len rfl rfl rfl rfl ?_; intro W hW hc)
    refine bodyPost_ret (results_cell_tmp rfl rfl (blk_load (blk_range hW) zero_len)) rfl ⟨?_, (Chg.of_below b2 [w.heap.size + 1]).trans hc (Sub.refl _ _) |>.below (Nat.le_refl _) (fun k hk => by simp at hk; omega)⟩
    rw [HP.out]
    rfl
  | true =>
    cases q2 with
    | false =>
      have hp := hd.put_no (n := n) (h := h) (by rw [HQ2.out, Bool.and_false])
      have HP := Lib.hid hp
      clear hp
      go_enter Tryd.func8, Tryd.ntmps8
      go_wp2_with fail
      refine HNUM.out.mono ?_
      rintro e w3 ⟨rfl, rfl⟩
      go_wp2_with fail
      refine (HMAY.out _).mono ?_
      rintro e w4 ⟨rfl, b4⟩
      have b24 := b2.trans (b4.mono b2.size)
      have r4 := (b4.block _ hlR).trans r2
      clear r2
      go_wp2_with (refine wp_st0 (.tmp 4) (.tmp 19) dk.zero r4 zero_len zero_len rfl rfl rfl rfl ?_; intro W hW hc)
      refine bodyPost_ret (results_cell_tmp rfl rfl (blk_load (blk_range hW) zero_len)) rfl ⟨?_, (Chg.of_below b24 [w.heap.size + 1]).trans hc (Sub.refl _ _) |>.below (Nat.le_refl _) (fun k hk => by simp at hk; omega)⟩
      rw [HP.out]
      rfl
    | true =>
      have hp := hd.put_yes HQ1.out HQ2.out
      have hnn := hd.num_ok HQ1.out
      have HP := Lib.hid hp
      have hbl := hd.bodyOf_length h
      have hk1 := hok.blocks
      have hk2 := hok.batches
      have p1 := fun W => rput_any h.blocks 4 W (by omega)
      have p2 := fun W => rput_any h.batches 4 W (by omega)
      simp only [put4 _ hk1, show Int.toNat 4 = 4 from rfl] at p1
      simp only [put4 _ hk2, show Int.toNat 4 = 4 from rfl] at p2
      have P1 := Lib.hid p1
      have P2 := Lib.hid p2
      have hl1 := leBytes_length h.blocks 4
      have hl2 := leBytes_length h.batches 4
      have hs : sl.put n (hd.bodyOf h) = (sl.sealB n (hd.bodyOf h), 0) := by rw [sl.put, if_neg (by omega), if_neg (by rw [hbl]; omega)]
      have p5 := fun W A c (hB : BS W A 9 c (hd.bodyOf h)) => rput5_any n hn A 9 c (hd.bodyOf h) W hB
      simp only [hs] at p5
      have P5 := Lib.hid p5
      have hsl := sl.seal_length n (body := hd.bodyOf h) (by rw [hbl]; omega)
      obtain ⟨L1, hL1⟩ : ∃ L, leBytes h.blocks 4 = L := ⟨_, rfl⟩
      obtain ⟨L2, hL2⟩ : ∃ L, leBytes h.batches 4 = L := ⟨_, rfl⟩
      have hbo : [h.bank] ++ L1 ++ L2 = hd.bodyOf h := by rw [← hL1, ← hL2, hd.bodyOf]
      rw [hL1] at P1 hl1
      rw [hL2] at P2 hl2
      have HBO := Lib.hid hbo
      have HL1 := Lib.hid hl1
      have HL2 := Lib.hid hl2
      have hw1 : IntKind.u64.wrap (h.blocks : Int) = (h.blocks : Int) := IntWalk.u64_in _ ⟨by omega, by omega⟩
      have hw2 : IntKind.u64.wrap (h.batches : Int) = (h.batches : Int) := IntWalk.u64_in _ ⟨by omega, by omega⟩
      clear hp hs p1 p2 p5 hbl hL1 hL2 hbo hl1 hl2 hk1 hk2
      generalize sl.sealB n (hd.bodyOf h) = S at *
      go_enter Tryd.func8, Tryd.ntmps8
      go_wp2_with fail
      refine HNUM.out.mono ?_
      rintro e w3 ⟨rfl, rfl⟩
      go_wp2_with fail
      refine (HMAY.out _).mono ?_
      rintro e w4 ⟨rfl, b4⟩
      have b24 := b2.trans (b4.mono b2.size)
      have hl4 := b4.size
      have r4 := (b4.block _ hlR).trans r2
      have m4 := m2.below b4 m2.lt
      have c01 := m4.c1
      clear r2 m2 c0 c1 c2 b2
      go_wp2_with fail
      refine (P1.out _).mono ?_
      rintro e w5 ⟨-, hv, b5⟩
      obtain ⟨v5, rfl, o5⟩ := hv rfl
      obtain ⟨A5, c5, rfl, hB5⟩ := o5.form
      rw [HL1.out] at o5 hB5 ⊢
      have b25 := b24.trans (b5.mono b24.size)
      have r5 := (b5.block _ (by omega)).trans r4
      have m5 := m4.below b5 m4.lt
      have c12 := m5.c2
      have hl5 := b5.size
      clear r4 m4 c01 b24 b4 b5
      go_wp2_with fail
      refine (P2.out _).mono ?_
      rintro e w6 ⟨-, hv, b6⟩
      obtain ⟨v6, rfl, o6⟩ := hv rfl
      obtain ⟨A6, c6, rfl, hB6⟩ := o6.form
      rw [HL2.out] at o6 hB6 ⊢
      have b26 := b25.trans (b6.mono b25.size)
      have r6 := (b6.block _ (by omega)).trans r5
      have m6 := m5.below b6 m5.lt
      have o56 := o5.below b6 (Nat.le_refl _)
      have c23 := m6.c0
      have hl6 := b6.size
      have n6 := own_one w6 5 h.bank w6.heap.size (Nat.le_refl _)
      have a6 := fun (o : Obj) => o56.bs.alloc o
      have a7 := fun (o : Obj) => o6.bs.alloc o
      clear r5 m5 c12 b25 b6 o5 hB5 hB6
      have hA6 : ∀ k, (Value.slice A6 4 c6).ownBlock = some k → k < w6.heap.size := fun k hk => (o6.lt k hk).2
      go_wp2_with (first
        | (refine wpList_append_bytes _ rfl (.tmp 37) (.tmp 38) 34 rfl 5 i0 Tryd.underlying34 hi hz0 hz1 hz2 w6.heap.size _ _ rfl n6 _ 4 c5 _ rfl (a6 _) (by simp) (by simp) ?_; intro v7 w7 o7 hg7 _ _; have hg7' : (w6.alloc (.cells #[bv h.bank] 5)).grownBy w7 (some w6.heap.size) := hg7; clear hg7; obtain ⟨A7, c7, rfl, hB7⟩ := o7.form; have hl7 := hg7'.size; have o67 := (o6.alloc (.cells #[bv h.bank] 5)).kept hg7' (by cases hq : (Value.slice A6 4 c6).ownBlock with | none => exact .inl rfl | some q => exact .inr (fun e => by injection e with e; have := hA6 q hq; omega)))
        | (refine wpList_append_bytes _ rfl (.tmp 40) (.tmp 41) 34 rfl 5 i0 Tryd.underlying34 hi hz0 hz1 hz2 w6.heap.size _ _ rfl o7 _ 4 c6 _ rfl o67.bs (by rw [List.length_append, HL1.out]; simp) (by simp at hl7; omega) ?_; intro v8 w8 o8 hg8 _ _; obtain ⟨A8, c8, rfl, hB8⟩ := o8.form))
      have r6a := (Below.heap_alloc w6 (.cells #[bv h.bank] 5) (w.heap.size + 1) (by omega)).trans r6
      have r7 := (hg7'.block (w.heap.size + 1) (by simp; omega) (fun e => by injection e with e; omega)).trans r6a
      have hs7 : w6.heap.size + 1 ≤ w7.heap.size := by simpa using hl7
      have r8 := (hg8.block (w.heap.size + 1) (by omega) (fun e => by have := (o7.lt _ e.symm).1; omega)).trans r7
      have b27 := OwnB.step (b26.alloc b26.size (.cells #[bv h.bank] 5)) ((own_one w6 5 h.bank w6.heap.size (Nat.le_refl _)).mono b26.size) hg7' (by simp; have := b26.size; omega)
      have b28 := OwnB.step b27 (o7.mono b26.size) hg8 (by have := b26.size; omega)
      have hlen : ([h.bank] ++ L1 ++ L2).length = 9 := by rw [List.length_append, List.length_append, HL1.out, HL2.out]; rfl
      rw [hlen, HBO.out] at hB8
      rw [HL1.out, HL2.out]
      refine (P5.out _ _ _ hB8).mono ?_
      rintro e w9 ⟨rfl, b9⟩
      have b29 := b28.trans (b9.mono b28.size)
      have r9 := (b9.block (w.heap.size + 1) (by have := hg8.size; omega)).trans r8
      clear r6a r7 r8 r6 hg8 hg7' o7 o67 hB7 hB8 o8 n6 a6 a7 m6 c23 b26 b27 b28 b9
      go_wp2_with (refine wp_st0 (.tmp 4) (.tmp 46) S r9 zero_len hsl rfl rfl rfl rfl ?_; intro W hW hc)
      refine bodyPost_ret (results_cell_tmp rfl rfl (blk_load (blk_range hW) hsl)) rfl ⟨?_, (Chg.of_below b29 [w.heap.size + 1]).trans hc (Sub.refl _ _) |>.below (Nat.le_refl _) (fun k hk => by simp at hk; omega)⟩
      rw [HP.out]
      rfl
end Go.Proofs.YtiiigbhkbpdciaaDoor
