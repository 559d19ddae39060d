/-
  THE PROGRAM's head: the table of sizes, May, bodyOf, headIn.
-/
import Derived.Test.YtiiigbhkbpdciaaDoorHeadR2
import Derived.Test.YtiiigbhkbpdciaaDoorSealP2
namespace Go.Proofs.YtiiigbhkbpdciaaDoor
open Go.RowKit

/-- the table of a head's sizes -/
structure Siz (w : World) : Prop where
  lt : 0 < w.heap.size
  c0 : w.cell? ⟨0, 0, none⟩ = some (.int .i64 1)
  c1 : w.cell? ⟨0, 1, none⟩ = some (.int .i64 4)
  c2 : w.cell? ⟨0, 2, none⟩ = some (.int .i64 4)
theorem Siz.below {w w' : World} (h : Siz w) (hb : Below w.heap.size w w') : Siz w' :=
  ⟨Nat.lt_of_lt_of_le h.lt hb.size, (hb.cell h.lt).trans h.c0, (hb.cell h.lt).trans h.c1, (hb.cell h.lt).trans h.c2⟩
theorem Siz.drew {w : World} (h : Siz w) : Siz w.drew := ⟨h.lt, h.c0, h.c1, h.c2⟩
theorem Siz.drewN {w : World} (h : Siz w) (k : Nat) : Siz (w.drewN k) := ⟨h.lt, h.c0, h.c1, h.c2⟩
theorem Siz.alloc {w : World} (h : Siz w) (o : Obj) : Siz (w.alloc o) := h.below ((Below.refl _ _).alloc (Nat.le_refl _) o)
/-- the program's tables, laid -/
structure Tabs (w : World) : Prop where
  tab : Tab w
  siz : Siz w
theorem Tabs.below {w w' : World} (h : Tabs w) (hb : Below w.heap.size w w') : Tabs w' := ⟨h.tab.below hb, h.siz.below hb⟩
theorem Tabs.drew {w : World} (h : Tabs w) : Tabs w.drew := ⟨h.tab.drew, h.siz.drew⟩
theorem Tabs.drewN {w : World} (h : Tabs w) (k : Nat) : Tabs (w.drewN k) := ⟨h.tab.drewN k, h.siz.drewN k⟩
theorem Tabs.alloc {w : World} (h : Tabs w) (o : Obj) : Tabs (w.alloc o) := ⟨h.tab.alloc o, h.siz.alloc o⟩

set_option maxRecDepth 100000 in
set_option maxHeartbeats 1000000 in
theorem ch_may (h : hd.H) (_hok : h.Ok) (w : World) : Calls Tryd.prog 9 #[hd.val h] w fun e w' => e = .returned (.bool (hd.may h)) ∧ Below w.heap.size w w' := by
  have m := HM.new w 25 h
  have hb : Below w.heap.size w (w.alloc (.cells #[bv h.bank, .int .u32 h.blocks, .int .u32 h.batches] 25)) := (Below.refl _ _).alloc (Nat.le_refl _) _
  have q0 := m.c0
  have q1 := m.c1
  have q2 := m.c2
  by_cases h1 : h.bank.toNat ≤ 1
  · by_cases h2 : h.blocks ≤ 4096
    · by_cases h3 : h.batches ≤ h.blocks
      · have hm : hd.may h = true := by simp [hd.may, h1, h2, h3]
        have HM' := Lib.hid hm
        have i1 : (h.bank.toNat : Int) ≤ 1 := by omega
        have i2 : (h.blocks : Int) ≤ 4096 := by omega
        have i3 : (h.batches : Int) ≤ (h.blocks : Int) := by omega
        clear hm
        go_enter Tryd.func9, Tryd.ntmps9
        go_wp2_with fail
        go_ret
        exact ⟨by rw [HM'.out]; rfl, hb⟩
      · have hm : hd.may h = false := by simp [hd.may, h3]
        have HM' := Lib.hid hm
        have i1 : (h.bank.toNat : Int) ≤ 1 := by omega
        have i2 : (h.blocks : Int) ≤ 4096 := by omega
        have i3 : ¬ (h.batches : Int) ≤ (h.blocks : Int) := by omega
        clear hm
        go_enter Tryd.func9, Tryd.ntmps9
        go_wp2_with fail
        go_ret
        exact ⟨by rw [HM'.out]; rfl, hb⟩
    · have hm : hd.may h = false := by simp [hd.may, h2]
      have HM' := Lib.hid hm
      have i1 : (h.bank.toNat : Int) ≤ 1 := by omega
      have i2 : ¬ (h.blocks : Int) ≤ 4096 := by omega
      clear hm
      go_enter Tryd.func9, Tryd.ntmps9
      go_wp2_with fail
      go_ret
      exact ⟨by rw [HM'.out]; rfl, hb⟩
  · have hm : hd.may h = false := by simp [hd.may, h1]
    have HM' := Lib.hid hm
    have i1 : ¬ (h.bank.toNat : Int) ≤ 1 := by omega
    clear hm
    go_enter Tryd.func9, Tryd.ntmps9
    go_wp2_with fail
    go_ret
    exact ⟨by rw [HM'.out]; rfl, hb⟩

namespace hd
/-- the first j numbers of a body -/
def part (h : H) : Nat → List UInt8
  | 0 => []
  | 1 => [h.bank]
  | 2 => [h.bank] ++ leBytes h.blocks 4
  | _ => bodyOf h
def nth (h : H) : Nat → Nat
  | 0 => h.bank.toNat
  | 1 => h.blocks
  | _ => h.batches
def siz : Nat → Nat
  | 0 => 1
  | _ => 4
theorem part_step (h : H) {j : Nat} (hj : j < 3) : part h j ++ leBytes (nth h j) (siz j) = part h (j + 1) := by
  have : j = 0 ∨ j = 1 ∨ j = 2 := by omega
  rcases this with rfl | rfl | rfl
  · simp [part, nth, siz, leBytes]
  · rfl
  · rfl
end hd
set_option maxHeartbeats 4000000 in
set_option maxRecDepth 100000 in
theorem hbody_any (h : hd.H) (hok : h.Ok) (w : World) (ht : Siz w) : Calls Tryd.prog 18 #[hd.val h] w (OwnEnd 5 (hd.bodyOf h) w) := by
  obtain ⟨i0, hi, hz0, hz1, hz2⟩ := info_parts info_u8
  have m := HM.new w 25 h
  have hb : Below w.heap.size w (w.alloc (.cells #[bv h.bank, .int .u32 h.blocks, .int .u32 h.batches] 25)) := (Below.refl _ _).alloc (Nat.le_refl _) _
  have ht1 := ht.below hb
  have q0 := m.c0
  have q1 := m.c1
  have q2 := m.c2
  have hw0 : IntKind.u64.wrap (h.bank.toNat : Int) = (h.bank.toNat : Int) := IntWalk.u64_in _ ⟨by omega, by have := h.bank.toNat_lt; omega⟩
  have hw1 : IntKind.u64.wrap (h.blocks : Int) = (h.blocks : Int) := IntWalk.u64_in _ ⟨by omega, by have := hok.blocks; omega⟩
  have hw2 : IntKind.u64.wrap (h.batches : Int) = (h.batches : Int) := IntWalk.u64_in _ ⟨by omega, by have := hok.batches; omega⟩
  go_enter Tryd.func18, Tryd.ntmps18
  go_wp2_with fail
  go_loopw [3, 18] (fun v t wr => ∃ j : Nat, t = .int .i64 j ∧ j ≤ 3 ∧ OwnB 5 wr w.heap.size v (hd.part h j) ∧ Below w.heap.size w wr) (fun _ t _ => 3 - (intOf t).toNat)
  case atStart => exact ⟨0, rfl, by omega, OwnB.nil_ _ _ _, hb⟩
  case round =>
    obtain ⟨j, rfl, hj, o, hbr⟩ := hrel
    by_cases hlt : j < 3
    · have hidx : ∀ W, (Instr.index 58 (.agg #[.int .u64 (h.bank.toNat : Int), .int .u64 (h.blocks : Int), .int .u64 (h.batches : Int)]) (.int .i64 (j : Int))).run Tryd.prog W = .ok (.int .u64 (hd.nth h j : Int)) W := fun W => by
        have : j = 0 ∨ j = 1 ∨ j = 2 := by omega
        rcases this with rfl | rfl | rfl <;> rfl
      have hcl : ∀ W : World, Siz W → W.cell? ⟨0, j, none⟩ = some (.int .i64 (hd.siz j : Int)) := fun W hW => by
        have : j = 0 ∨ j = 1 ∨ j = 2 := by omega
        rcases this with rfl | rfl | rfl
        · exact hW.c0
        · exact hW.c1
        · exact hW.c2
      have htr := ht.below hbr
      have hcr := hcl wr htr
      have hok1 : putOk (hd.nth h j) (hd.siz j) = true := by
        have : j = 0 ∨ j = 1 ∨ j = 2 := by omega
        have h0 := h.bank.toNat_lt
        have h1 := hok.blocks
        have h2 := hok.batches
        rcases this with rfl | rfl | rfl <;> simp [putOk, isSz, hd.nth, hd.siz] <;> omega
      have hput := put_yes (hd.nth h j) (hd.siz j) wr hok1
      have HPUT := Lib.hid hput
      have hst := hd.part_step h hlt
      have HST := Lib.hid hst
      have hlen : (hd.part h j).length ≤ 9 := by
        have : j = 0 ∨ j = 1 ∨ j = 2 := by omega
        rcases this with rfl | rfl | rfl <;> simp [hd.part, leBytes_length]
      have hs9 : hd.siz j ≤ 4 := by unfold hd.siz; split <;> omega
      generalize hd.nth h j = x at *
      generalize hd.siz j = y at *
      clear hput hst hcl hok1
      obtain ⟨A, c, rfl, hB⟩ := o.form
      go_wp2_with fail
      refine HPUT.out.mono ?_
      rintro e w1 ⟨v1, rfl, o1, b1⟩
      obtain ⟨A1, c1, rfl, hB1⟩ := o1.form
      rw [leBytes_length] at hB1
      have o0 := o.below b1 (Nat.le_refl _)
      have hbr1 := hbr.trans (b1.mono hbr.size)
      clear HPUT b1 hB
      rw [leBytes_length]
      go_wp2_with (at_builtin; refine wpList_append_bytes _ rfl (.tmp 30) (.tmp 31) 34 rfl 5 i0 Tryd.underlying34 hi hz0 hz1 hz2 w.heap.size _ _ rfl o0 A1 y c1 _ rfl hB1 (by omega) hbr1.size ?_; intro v2 w2 o2 hg2 _ _)
      go_roundw
      case rel => exact ⟨j + 1, by go_num, by omega, HST.out ▸ o2, OwnB.step hbr1 o0 hg2 hbr1.size⟩
      case measure => simp [intOf]; omega
    · obtain rfl : j = 3 := by omega
      go_wp2_with fail
      go_ret
      exact ⟨_, rfl, o, hbr⟩
namespace hd
/-- where the number j stands -/
def pos : Nat → Nat
  | 0 => 0
  | 1 => 1
  | 2 => 5
  | _ => 9
def nthIn (l : List UInt8) (j : Nat) : Nat := leVal ((l.drop (pos j)).take (siz j))
def got (l : List UInt8) (j i : Nat) : Nat := if i < j then nthIn l i else 0
theorem got_set (l : List UInt8) {j : Nat} (hj : j < 3) : (#[Value.int .u64 (got l j 0 : Int), .int .u64 (got l j 1 : Int), .int .u64 (got l j 2 : Int)]).setIfInBounds j (.int .u64 (nthIn l j : Int)) = #[.int .u64 (got l (j + 1) 0 : Int), .int .u64 (got l (j + 1) 1 : Int), .int .u64 (got l (j + 1) 2 : Int)] := by
  have : j = 0 ∨ j = 1 ∨ j = 2 := by omega
  rcases this with rfl | rfl | rfl <;> simp [got]
theorem headOf_nth (l : List UInt8) (hl : 9 ≤ l.length) : (headOf l).bank.toNat = nthIn l 0 ∧ (headOf l).blocks = nthIn l 1 ∧ (headOf l).batches = nthIn l 2 := by
  refine ⟨?_, rfl, rfl⟩
  obtain ⟨x, r, rfl⟩ : ∃ x r, l = x :: r := by
    cases l with
    | nil => simp at hl
    | cons x r => exact ⟨x, r, rfl⟩
  simp [headOf, nthIn, pos, siz, leVal]
end hd
theorem size_sizes : (Tryd.prog.info? 59).map (·.size) = some 3 := by kernel_rfl
set_option maxHeartbeats 4000000 in
set_option maxRecDepth 100000 in
theorem hin_any (A : Option Addr) (n c : Nat) (l : List UInt8) (w : World) (hB : BS w A n c l) (hn : 9 ≤ n) (ht : Siz w) : Calls Tryd.prog 24 #[.slice A n c] w fun e w' => e = .returned (hd.val (hd.headOf l)) ∧ Below w.heap.size w w' := by
  have m := HM.new w 25 hd.zero
  have b1 : Below w.heap.size w (w.alloc (.cells #[bv hd.zero.bank, .int .u32 hd.zero.blocks, .int .u32 hd.zero.batches] 25)) := (Below.refl _ _).alloc (Nat.le_refl _) _
  have m2 := m.alloc (.cells #[.int .u64 0, .int .u64 0, .int .u64 0] 58)
  have b2 := b1.alloc b1.size (.cells #[.int .u64 0, .int .u64 0, .int .u64 0] 58)
  have r2 := heap_alloc_new (w.alloc (.cells #[bv hd.zero.bank, .int .u32 hd.zero.blocks, .int .u32 hd.zero.batches] 25)) (.cells #[.int .u64 0, .int .u64 0, .int .u64 0] 58)
  rw [show (w.alloc (.cells #[bv hd.zero.bank, .int .u32 hd.zero.blocks, .int .u32 hd.zero.batches] 25)).heap.size = w.heap.size + 1 from by simp] at r2
  have hl := hB.len
  have ht2 := ht.below b2
  have hrg : ((w.alloc (.cells #[bv hd.zero.bank, .int .u32 hd.zero.blocks, .int .u32 hd.zero.batches] 25)).alloc (.cells #[.int .u64 0, .int .u64 0, .int .u64 0] 58)).rangeAt 0 0 [.int .i64 1, .int .i64 4, .int .i64 4] := fun j v hj => by
    match j with
    | 0 => exact ht2.c0.trans hj
    | 1 => exact ht2.c1.trans hj
    | 2 => exact ht2.c2.trans hj
    | j + 3 => simp at hj
  go_enter Tryd.func24, Tryd.ntmps24
  go_wp2_with (refine wpList_load_mid rfl _ _ rfl 0 0 rfl _ _ hrg Tryd.underlying59 rfl size_sizes ?_)
  clear hrg
  go_loopw [4, 8] (fun a t wr => ∃ j : Nat, t = .int .i64 j ∧ j ≤ 3 ∧ a = .int .i64 (hd.pos j : Int) ∧ HM 25 wr w.heap.size hd.zero ∧ wr.heap[w.heap.size + 1]? = some (.cells #[Value.int .u64 (hd.got l j 0 : Int), .int .u64 (hd.got l j 1 : Int), .int .u64 (hd.got l j 2 : Int)] 58 (0, 0)) ∧ Below w.heap.size w wr) (fun _ t _ => 3 - (intOf t).toNat)
  case atStart => exact ⟨0, rfl, by omega, rfl, m2, r2, b2⟩
  case round =>
    clear m m2 r2 b1 b2 ht2
    obtain ⟨j, rfl, hj, rfl, m, r, hbr⟩ := hrel
    by_cases hlt : j < 3
    · have hidx : ∀ W, (Instr.index 59 (.agg #[.int .i64 1, .int .i64 4, .int .i64 4]) (.int .i64 (j : Int))).run Tryd.prog W = .ok (.int .i64 (hd.siz j : Int)) W := fun W => by
        have : j = 0 ∨ j = 1 ∨ j = 2 := by omega
        rcases this with rfl | rfl | rfl <;> rfl
      have hat : hd.pos j + hd.siz j ≤ n ∧ isSz (hd.siz j) = true ∧ hd.pos j + hd.siz j = hd.pos (j + 1) ∧ hd.pos j ≤ 9 ∧ hd.siz j ≤ 4 := by
        have : j = 0 ∨ j = 1 ∨ j = 2 := by omega
        rcases this with rfl | rfl | rfl <;> simp [hd.pos, hd.siz, isSz] <;> omega
      obtain ⟨hat1, hat2, hat3, hat4, hat5⟩ := hat
      have hget := get_yes A n c l (hd.pos j) (hd.siz j) wr (hB.below hbr) hat2 hat1
      rw [show leVal ((l.drop (hd.pos j)).take (hd.siz j)) = hd.nthIn l j from rfl] at hget
      have HG := Lib.hid hget
      have hset := hd.got_set l hlt
      have hcx : wr.cell? ⟨w.heap.size + 1, j, none⟩ = some (.int .u64 (hd.got l j j : Int)) := by
        rw [cell_of_row _ _ j _ _ _ r]
        have : j = 0 ∨ j = 1 ∨ j = 2 := by omega
        rcases this with rfl | rfl | rfl <;> rfl
      have hfx : wr.frozen? ⟨w.heap.size + 1, j, none⟩ = false := by simp [World.frozen?, r]
      have hblk := block_set (i := j) r (.int .u64 (hd.nthIn l j : Int))
      rw [hset] at hblk
      have HBLK := Lib.hid hblk
      have hch := Chg.setCell wr (w.heap.size + 1) j (.int .u64 (hd.nthIn l j : Int))
      have HCH := Lib.hid hch
      have HAT := Lib.hid hat3
      generalize hd.nthIn l j = x at *
      generalize hd.siz j = y at *
      generalize hd.got l j j = z at *
      clear hget hset hblk hch hat3
      go_wp2_with fail
      refine HG.out.mono ?_
      rintro e w1 ⟨rfl, rfl⟩
      go_wp2_with fail
      go_roundw
      case rel => exact ⟨j + 1, by go_num, by omega, by rw [← HAT.out]; go_num, m.chg HCH.out (by simp), HBLK.out, hbr.trans (HCH.out.below hbr.size (fun k hk => by simp at hk; omega))⟩
      case measure => simp [intOf]; omega
    · obtain rfl : j = 3 := by omega
      obtain ⟨g0, g1, g2⟩ := hd.headOf_nth l (by omega)
      have hOk := hd.headOf_Ok l
      have k0 : wr.cell? ⟨w.heap.size + 1, 0, none⟩ = some (.int .u64 ((hd.headOf l).bank.toNat : Int)) := by rw [cell_of_row _ _ 0 _ _ _ r, g0]; rfl
      have k1 : wr.cell? ⟨w.heap.size + 1, 1, none⟩ = some (.int .u64 ((hd.headOf l).blocks : Int)) := by rw [cell_of_row _ _ 1 _ _ _ r, g1]; rfl
      have k2 : wr.cell? ⟨w.heap.size + 1, 2, none⟩ = some (.int .u64 ((hd.headOf l).batches : Int)) := by rw [cell_of_row _ _ 2 _ _ _ r, g2]; rfl
      have hb0 := (hd.headOf l).bank.toNat_lt
      have hb1 := hOk.blocks
      have hb2 := hOk.batches
      have hw0 : IntKind.u8.wrap ((hd.headOf l).bank.toNat : Int) = ((hd.headOf l).bank.toNat : Int) := IntWalk.u8_in _ ⟨by omega, by omega⟩
      have hw1 : IntKind.u32.wrap ((hd.headOf l).blocks : Int) = ((hd.headOf l).blocks : Int) := IntWalk.u32_in _ ⟨by omega, by omega⟩
      have hw2 : IntKind.u32.wrap ((hd.headOf l).batches : Int) = ((hd.headOf l).batches : Int) := IntWalk.u32_in _ ⟨by omega, by omega⟩
      clear g0 g1 g2 hOk r
      obtain ⟨h, hh⟩ : ∃ h, hd.headOf l = h := ⟨_, rfl⟩
      rw [hh] at k0 k1 k2 hb0 hb1 hb2 hw0 hw1 hw2
      have HH := Lib.hid hh
      clear hh
      go_wp2_with (refine wp_sth (.tmp 2) (.tmp 34) h hd.zero m rfl rfl rfl rfl ?_; intro w7 m7 hc7)
      refine bodyPost_ret (results_cell rfl rfl (head_load m7)) rfl ⟨by rw [HH.out], (Chg.of_below hbr [w.heap.size]).trans hc7 (Sub.refl _ _) |>.below (Nat.le_refl _) (fun k hk => by simp at hk; omega)⟩
end Go.Proofs.YtiiigbhkbpdciaaDoor
