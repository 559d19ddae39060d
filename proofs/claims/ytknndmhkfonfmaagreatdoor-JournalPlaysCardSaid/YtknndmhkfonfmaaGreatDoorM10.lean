/-
  cardexlaw07's walk: JournalOpens.
-/
import Derived.Test.YtknndmhkfonfmaaGreatDoorM8
import Derived.Test.YtknndmhkfonfmaaGreatDoorM9
import Derived.Test.YtknndmhkfonfmaaGreatDoorM1
import Derived.Test.YtknndmhkfonfmaaGreatDoorM2
import Derived.Test.YtknndmhkfonfmaaGreatDoorRows
import Derived.Test.YtknndmhkfonfmaaGreatDoorCards
import Derived.Test.YtknndmhkfonfmaaGreatDoorTie
import Derived.Test.YtknndmhkfonfmaaGreatDoorM3
import Derived.Deep.DeepHandedRow
import Derived.Lib.LaidTab
namespace Go.Proofs.YtknndmhkfonfmaaGreatDoor
open Go.RowKit
/-- a spot -/
structure SC where
  n : Int
  b : dk.Blk
  is : Bool
  num : Nat
  h : hd.H
instance : Inhabited SC := ⟨⟨0, [], false, 0, hd.zero⟩⟩
def SC.cells (y : SC) : List Value := .int .i64 y.n :: (dk.cells y.b ++ [.bool y.is, .int .u64 y.num, bv y.h.bank, .int .u32 y.h.blocks, .int .u32 y.h.batches])
def SC.blk (y : SC) : dk.Blk := if y.is then (hd.put y.num y.h).1 else y.b
structure SC.Ok (y : SC) : Prop where
  b : y.b.length = 128
  n : -9223372036854775808 ≤ y.n ∧ y.n ≤ 9223372036854775807
  num : y.num < 18446744073709551616
  h : y.h.Ok
theorem SC.blk_len {y : SC} (h : y.Ok) : y.blk.length = 128 := by
  unfold SC.blk
  split
  · exact hd.put_len _ _
  · exact h.b
theorem SC.length {y : SC} (h : y.Ok) : y.cells.length = 134 := by simp [SC.cells, dk.cells, h.b]
theorem SC.get (y : SC) (h : y.Ok) (j : Nat) (v : Value) (hj : [Value.bool y.is, .int .u64 y.num, bv y.h.bank, .int .u32 y.h.blocks, .int .u32 y.h.batches][j]? = some v) : y.cells[129 + j]? = some v := by
  have hl : (dk.cells y.b).length = 128 := by rw [List.length_map]; exact h.b
  rw [show 129 + j = (128 + j) + 1 from by omega]
  simp only [SC.cells, List.getElem?_cons_succ]
  rw [List.getElem?_append_right (by omega), hl, show 128 + j - 128 = j from by omega]
  exact hj
theorem SC.row1 {y : SC} {w : World} {g : Nat} {t : TypeId} {fr : Nat × Nat} (h : w.heap[g]? = some (.cells y.cells.toArray t fr)) : w.rangeAt g 1 (dk.cells y.b) := by
  refine range_of h 1 _ fun j v hj => ?_
  have hjl : j < (dk.cells y.b).length := (List.getElem?_eq_some_iff.1 hj).1
  rw [show 1 + j = j + 1 from by omega]
  simp only [SC.cells, List.getElem?_cons_succ]
  rw [List.getElem?_append_left hjl]
  exact hj
namespace jn
theorem write_S (s : St) (n : Int) (b : Blk) : (dk.write s n b).2.S = s.S := by
  unfold dk.write
  split
  · split
    · exact dk.step_S s
    · exact dk.step_S s
  · rfl
/-- a disk to which spots are written -/
structure SI (m i : Nat) (s : St) : Prop where
  ok : s.Ok
  len : s.S.length = m
  many : s.many ≤ i
  loose : s.L.length ≤ i
  calm : Calm s
theorem SI.start {m : Nat} (h : 64 ≤ m) (h2 : m ≤ 4096) : SI m 0 (fresh m) := ⟨fresh_ok h h2, by simp [fresh], by simp [fresh], by simp [fresh], rfl, rfl⟩
theorem SI.write {m i : Nat} {s : St} (h : SI m i s) (n : Int) {b : Blk} (hb : b.length = 128) : SI m (i + 1) (dk.write s n b).2 := by
  have hf := write_few s n b
  have h1 := h.many
  have h2 := h.loose
  exact ⟨dk.Ok.write h.ok hb, by rw [write_S]; exact h.len, by omega, by omega, (write_calm h.calm n b).2⟩
end jn
theorem _root_.Go.RowKit.Below.trans_b {w0 w w' : World} (h : Below w0.heap.size w0 w) (b : Below w.heap.size w w') : Below w0.heap.size w0 w' := h.trans (b.mono h.size)
theorem _root_.Go.RowKit.Below.trans_f {w0 w w' : World} {F : List Nat} (h : Below w0.heap.size w0 w) (hc : Chg w w' F) (hF : ∀ k ∈ F, w0.heap.size ≤ k) : Below w0.heap.size w0 w' := ((Chg.of_below h F).trans hc (Sub.refl _ _)).below (Nat.le_refl _) hF
theorem df_write {w0 w : World} {F : List Nat} {d : Value} {s : dk.St} (n : Int) (b : dk.Blk) (hb : b.length = 128) (h : DF w0 w F d s) (hf : s.Few) : Calls Tryz.prog 19 #[d, .int .i64 n, dk.val b] w fun e w' =>
    ∃ F', e = .returned (.int .i64 (dk.write s n b).1) ∧ DF w0 w' F' d (dk.write s n b).2 ∧ Chg w w' F ∧ Sub w F' F := by
  refine (cd_write n b hb h.cd hf).mono fun e w' h' => ?_
  obtain ⟨F', e1, e2, e3, e4⟩ := h'
  exact ⟨F', e1, dw_step h e2 e3 e4, e3, e4⟩
/-- THE SLICE OF SPOTS '.slice A n c' READS AS l IN w. -/
structure SS (w : World) (A : Option Addr) (n c : Nat) (l : List SC) : Prop where
  len : l.length = n
  cap : n ≤ c
  max : c ≤ 9223372036854775807
  ok : ∀ x ∈ l, x.Ok
  has : 0 < n → ∃ b o, A = some ⟨b, o, none⟩ ∧ b < w.heap.size ∧ ∀ i (h : i < l.length), w.rangeAt b (o + i * 134) l[i].cells
theorem size_spot : (Tryz.prog.info? 55).map (·.size) = some 134 := by kernel_rfl
theorem size_spot' {y : SC} (h : y.Ok) : (Tryz.prog.info? 55).map (·.size) = some y.cells.length := by rw [SC.length h]; exact size_spot
set_option maxHeartbeats 2000000 in
set_option maxRecDepth 100000 in
theorem spot_block (y : SC) (hy : y.Ok) (w : World) : Calls Tryz.prog 20 #[.agg y.cells.toArray] w fun e w' => e = .returned (dk.val y.blk) ∧ Below w.heap.size w w' := by
  obtain ⟨hz, -⟩ := zero_of_info zero_blk
  have r1 := heap_alloc_new w (.cells y.cells.toArray 55)
  have b1 : Below w.heap.size w (w.alloc (.cells y.cells.toArray 55)) := (Below.refl _ _).alloc (Nat.le_refl _) _
  have hl1 : w.heap.size < (w.alloc (.cells y.cells.toArray 55)).heap.size := (Array.getElem?_eq_some_iff.1 r1).1
  have r2 := (Below.heap_alloc (w.alloc (.cells y.cells.toArray 55)) (.cells (dk.cells dk.zero).toArray 43) w.heap.size hl1).trans r1
  have s2 := heap_alloc_new (w.alloc (.cells y.cells.toArray 55)) (.cells (dk.cells dk.zero).toArray 43)
  rw [show (w.alloc (.cells y.cells.toArray 55)).heap.size = w.heap.size + 1 from by simp] at s2
  have b2 := b1.alloc b1.size (.cells (dk.cells dk.zero).toArray 43)
  have cx : ∀ (j : Nat) (v : Value), [Value.bool y.is, .int .u64 y.num, bv y.h.bank, .int .u32 y.h.blocks, .int .u32 y.h.batches][j]? = some v → ((w.alloc (.cells y.cells.toArray 55)).alloc (.cells (dk.cells dk.zero).toArray 43)).cell? ⟨w.heap.size, 129 + j, none⟩ = some v := fun j v hj => by
    rw [cell_of_row _ _ (129 + j) _ _ _ r2]
    simpa using SC.get y hy j v hj
  have c0 := cx 0 _ rfl
  have c1 := cx 1 _ rfl
  have hrh : ((w.alloc (.cells y.cells.toArray 55)).alloc (.cells (dk.cells dk.zero).toArray 43)).rangeAt w.heap.size 131 (hd.cells y.h) := fun j v hj => by
    have hj3 : j < 3 := (List.getElem?_eq_some_iff.1 hj).1
    have := cx (2 + j) v (by rw [← hj]; match j, hj3 with | 0, _ => rfl | 1, _ => rfl | 2, _ => rfl)
    rw [show 131 + j = 129 + (2 + j) from by omega]
    exact this
  have hrb := SC.row1 r2
  have hyb := hy.b
  have HC := Lib.hid cx
  clear cx r2 hl1 r1 b1
  cases his : y.is with
  | false =>
    have hblk : y.blk = y.b := by unfold SC.blk; rw [his]; rfl
    have HB := Lib.hid hblk
    rw [his] at c0
    clear hblk his
    go_enter Tryz.func20, Tryz.ntmps20
    go_wp2_with (first
      | refine wp_ld (.tmp 8) y.b hrb hyb rfl rfl rfl ?_
      | (refine wp_st0 (.tmp 2) (.tmp 9) y.b s2 zero_len hyb rfl rfl rfl rfl ?_; intro w3 W3 hc3))
    refine bodyPost_ret (results_cell rfl rfl (blk_load (blk_range W3) hyb)) rfl ⟨by rw [HB.out], (Chg.of_below b2 [w.heap.size + 1]).trans hc3 (Sub.refl _ _) |>.below (Nat.le_refl _) (fun k hk => by simp at hk; omega)⟩
  | true =>
    have hblk : y.blk = (hd.put y.num y.h).1 := by unfold SC.blk; rw [his]; rfl
    have hput := fun W => rput6_any y.num hy.num y.h hy.h W
    have hYl := hd.put_len y.num y.h
    obtain ⟨Y, hY⟩ : ∃ e, (hd.put y.num y.h).1 = e := ⟨_, rfl⟩
    obtain ⟨ye, hye⟩ : ∃ e, (hd.put y.num y.h).2 = e := ⟨_, rfl⟩
    simp only [hY, hye] at hput
    rw [hY] at hYl hblk
    have HB := Lib.hid hblk
    have HPUT := Lib.hid hput
    rw [his] at c0
    clear hblk his hput hY hye
    go_enter Tryz.func20, Tryz.ntmps20
    go_wp2_with (refine wpList_load_mid rfl _ (.tmp 13) rfl w.heap.size 131 rfl (hd.cells y.h) _ hrh Tryz.underlying53 rfl head_size ?_)
    refine (HPUT.out _).mono ?_
    rintro e w3 ⟨rfl, b3⟩
    have b23 := b2.trans (b3.mono b2.size)
    have s3 := (b3.block _ (Array.getElem?_eq_some_iff.1 s2).1).trans s2
    have n3 := heap_alloc_new w3 (.cells (dk.cells dk.zero).toArray 43)
    obtain ⟨X3, hX3⟩ : ∃ X, w3.heap.size = X := ⟨_, rfl⟩
    rw [hX3] at n3
    have hs3 := (Array.getElem?_eq_some_iff.1 s3).1
    clear s2 b2 HPUT c0 c1 hrb hrh
    go_wp2_with (first
      | (refine wp_st0 (.tmp 3) (.tmp 16) Y n3 zero_len hYl rfl rfl rfl rfl ?_; intro w4 W4 hc4; rw [← hX3] at hc4; have b4 := new_chg hc4; have g4 := blk_range W4; have s4 := (b4.block (w.heap.size + 1) hs3).trans s3; have b24 := b23.trans (b4.mono b23.size))
      | refine wp_ld (.tmp 3) Y g4 hYl rfl rfl rfl ?_
      | (refine wp_st0 (.tmp 2) (.tmp 18) Y s4 zero_len hYl rfl rfl rfl rfl ?_; intro w5 W5 hc5))
    refine bodyPost_ret (results_cell rfl rfl (blk_load (blk_range W5) hYl)) rfl ⟨by rw [HB.out], (Chg.of_below b24 [w.heap.size + 1]).trans hc5 (Sub.refl _ _) |>.below (Nat.le_refl _) (fun k hk => by simp at hk; omega)⟩
set_option maxHeartbeats 8000000 in
set_option maxRecDepth 100000 in
theorem walk_JournalOpens (x : UInt8) (A : Option Addr) (n c : Nat) (l : List SC) (w : World) (hA : SS w A n c l) (ht : Tabs w) :
    Calls Tryz.prog 4 #[bv x, .slice A n c] w fun e w' => e = .returned (.bool true) ∧ Below w.heap.size w w' := by
  have hx := x.toNat_lt
  have hl := hA.len
  have hcap := hA.cap
  have hmax := hA.max
  obtain ⟨m, hm⟩ : ∃ m, m = 64 + x.toNat := ⟨_, rfl⟩
  have hm1 : 64 ≤ m := by omega
  have hm2 : m ≤ 4096 := by omega
  have hww : IntKind.i64.wrap (x.toNat : Int) = (x.toNat : Int) := IntWalk.i64_in _ ⟨by omega, by omega⟩
  have hadd : (64 : Int) + (x.toNat : Int) = (m : Int) := by omega
  have HN := Lib.hid (df_new m hm1 hm2 w (Below.refl w.heap.size w))
  have HR := Lib.hid (fun W => rd_new (w := W) m hm1 hm2)
  have hlives := fun W hT => lives07_any W hT
  have HLV := Lib.hid hlives
  have uS := Tryz.underlying55
  clear hm hlives
  go_enter Tryz.func4, Tryz.ntmps4
  go_wp2_with fail
  refine HN.out.mono ?_
  rintro e w1 ⟨d, F0, rfl, hdf⟩
  obtain ⟨p, rfl⟩ := hdf.cd.form
  go_wp2_with fail
  refine (HR.out w1).mono ?_
  rintro e w2 ⟨G0, d2, rfl, hrd, b2, hG0⟩
  obtain ⟨q, rfl⟩ := hrd.form
  have hu := hdf.under.size
  have hF0 := hdf.cd.there
  have hdf2 := hdf.below b2
  have hapt0 : Apt F0 G0 := fun k hk hg => by have := hF0 k hk; have := hG0 k hg; omega
  have hown0 : ∀ k ∈ G0, w.heap.size ≤ k := fun k hk => by have := hG0 k hk; omega
  have hS0 := jn.SI.start hm1 hm2
  clear hu hF0 hG0 hdf HN HR b2 hww hadd
  go_wp2_with fail
  go_loopw [10] (fun t wr => ∃ (i : Nat) (s : dk.St) (F G : List Nat), t = .int .i64 i ∧ i ≤ n ∧ i ≤ 60 ∧ DF w wr F (.pointer (some ⟨p, 0, none⟩)) s ∧ RD wr G (.pointer (some ⟨q, 0, none⟩)) s ∧ Apt F G ∧ (∀ k ∈ G, w.heap.size ≤ k) ∧ Hid (jn.SI m i s)) (fun t _ => 60 - (intOf t).toNat)
  case atStart => exact ⟨0, fresh m, F0, G0, rfl, by omega, by omega, hdf2, hrd, hapt0, hown0, hS0⟩
  case round =>
    clear hdf2 hrd hapt0 hown0 hS0
    obtain ⟨i, s, F, G, rfl, hin, hi60, hD, hR, hapt, hGo, HS⟩ := hrel
    by_cases hlt : i < n ∧ i < 60
    · obtain ⟨hq1, hq2⟩ := hlt
      obtain ⟨ab, ao, rfl, habl, hrow⟩ := hA.has (by omega)
      have hrg := hrow i (by omega)
      have hyok := hA.ok _ (List.getElem_mem (by omega : i < l.length))
      generalize l[i]'(by omega) = y at *
      have hyb := SC.blk_len hyok
      have iS := size_spot' hyok
      have hKEEP : ∀ W, Below w.heap.size w W → W.rangeAt ab (ao + i * 134) y.cells := fun W hW => dk.range_below hrg hW
      have HKEEP := Lib.hid hKEEP
      have hfew : s.Few := by have h1 := HS.out.many; have h2 := HS.out.loose; exact ⟨by omega, by omega⟩
      have HSB := Lib.hid (fun W => spot_block y hyok W)
      have HPW := Lib.hid (fun W (hW : DF w W F (.pointer (some ⟨p, 0, none⟩)) s) => df_write y.n y.blk hyb hW hfew)
      have HNX := Lib.hid (HS.out.write y.n hyb)
      clear hrow hKEEP
      go_wp2_with fail
      have hKEEP := HKEEP.out
      have hD1 : DF w wr.drew F (.pointer (some ⟨p, 0, none⟩)) s := hD.below (Below.refl _ _).drew
      have hR1 : RD wr.drew G (.pointer (some ⟨q, 0, none⟩)) s := hR.below (Below.refl _ _).drew
      have hB1 := hD1.under
      have hGt := hR1.there
      have hrd := hKEEP _ hB1
      have hsF : ∀ k ∈ F, k < wr.drew.heap.size := hD1.cd.there
      refine wp_region_held_drew (S := fun W => W.rangeAt ab (ao + i * 134) y.cells) (by kernel_rfl) hrd (fun hHeld => ?_)
      refine wpAnyH_take (i := 0) (v := ?_) rfl (by kernel_rfl) (by kernel_rfl) (by kernel_rfl) (fun _ _ _ h => h) (Or.inl ⟨by rfl, ?_⟩) hHeld ?_
      rotate_left
      · intro w hSw; have c0 : w.cell? ⟨ab, ao + i * 134, none⟩ = some (.int .i64 y.n) := (by have := hSw 0 _ rfl; rwa [Nat.add_zero] at this); clear hSw; go_simp; try rfl
      simp only [List.getElem_toArray, List.getElem_cons_zero, Act.put, List.setIfInBounds_toArray, List.set_cons_zero, List.set_cons_succ]
      refine wpAnyH_take (i := 1) (v := ?_) rfl (by kernel_rfl) (by kernel_rfl) (by kernel_rfl) (fun _ _ _ h => h) (Or.inl ⟨by rfl, ?_⟩) hHeld ?_
      rotate_left
      · intro w hSw; have c0 : w.cell? ⟨ab, ao + i * 134, none⟩ = some (.int .i64 y.n) := (by have := hSw 0 _ rfl; rwa [Nat.add_zero] at this); clear hSw; go_simp; try rfl
      simp only [List.getElem_toArray, List.getElem_cons_zero, List.getElem_cons_succ, Act.put, List.setIfInBounds_toArray, List.set_cons_zero, List.set_cons_succ]
      refine wpAnyH_take (i := 2) (v := ?_) rfl (by kernel_rfl) (by kernel_rfl) (by kernel_rfl) (fun _ _ _ h => h) (Or.inl ⟨by rfl, ?_⟩) hHeld ?_
      rotate_left
      · intro w hSw; have c0 : w.cell? ⟨ab, ao + i * 134, none⟩ = some (.int .i64 y.n) := (by have := hSw 0 _ rfl; rwa [Nat.add_zero] at this); clear hSw; go_simp; try rfl
      simp only [List.getElem_toArray, List.getElem_cons_zero, List.getElem_cons_succ, Act.put, List.setIfInBounds_toArray, List.set_cons_zero, List.set_cons_succ]
      refine wpAnyH_take (i := 3) (v := ?_) rfl (by kernel_rfl) (by kernel_rfl) (by kernel_rfl) (fun _ _ _ h => h) (Or.inl ⟨by rfl, ?_⟩) hHeld ?_
      rotate_left
      · intro w hSw; have c0 : w.cell? ⟨ab, ao + i * 134, none⟩ = some (.int .i64 y.n) := (by have := hSw 0 _ rfl; rwa [Nat.add_zero] at this); clear hSw; go_simp; try rfl
      simp only [List.getElem_toArray, List.getElem_cons_zero, List.getElem_cons_succ, Act.put, List.setIfInBounds_toArray, List.set_cons_zero, List.set_cons_succ]
      refine wpAnyH_take (i := 4) (v := ?_) rfl (by kernel_rfl) (by kernel_rfl) (by kernel_rfl) (fun _ _ _ h => h) (Or.inl ⟨by rfl, ?_⟩) hHeld ?_
      rotate_left
      · intro w hSw; have c0 : w.cell? ⟨ab, ao + i * 134, none⟩ = some (.int .i64 y.n) := (by have := hSw 0 _ rfl; rwa [Nat.add_zero] at this); clear hSw; go_simp; try rfl
      simp only [List.getElem_toArray, List.getElem_cons_zero, List.getElem_cons_succ, Act.put, List.setIfInBounds_toArray, List.set_cons_zero, List.set_cons_succ]
      refine wpAnyH_take (i := 5) (v := ?_) rfl (by kernel_rfl) (by kernel_rfl) (by kernel_rfl) (fun _ _ _ h => h) (Or.inl ⟨by rfl, ?_⟩) hHeld ?_
      rotate_left
      · intro w hSw; have c0 : w.cell? ⟨ab, ao + i * 134, none⟩ = some (.int .i64 y.n) := (by have := hSw 0 _ rfl; rwa [Nat.add_zero] at this); clear hSw; go_simp; try rfl
      simp only [List.getElem_toArray, List.getElem_cons_zero, List.getElem_cons_succ, Act.put, List.setIfInBounds_toArray, List.set_cons_zero, List.set_cons_succ]
      refine wpAnyH_take (i := 6) (v := ?_) rfl (by kernel_rfl) (by kernel_rfl) (by kernel_rfl) (fun _ _ _ h => h) (Or.inl ⟨by rfl, ?_⟩) hHeld ?_
      rotate_left
      · intro w hSw; have c0 : w.cell? ⟨ab, ao + i * 134, none⟩ = some (.int .i64 y.n) := (by have := hSw 0 _ rfl; rwa [Nat.add_zero] at this); clear hSw; go_simp; try rfl
      simp only [List.getElem_toArray, List.getElem_cons_zero, List.getElem_cons_succ, Act.put, List.setIfInBounds_toArray, List.set_cons_zero, List.set_cons_succ]
      refine wpAnyH_take (i := 7) (v := ?_) rfl (by kernel_rfl) (by kernel_rfl) (by kernel_rfl) (fun _ _ _ h => h) (Or.inl ⟨by rfl, ?_⟩) hHeld ?_
      rotate_left
      · intro w hSw; have c0 : w.cell? ⟨ab, ao + i * 134, none⟩ = some (.int .i64 y.n) := (by have := hSw 0 _ rfl; rwa [Nat.add_zero] at this); clear hSw; go_simp; try rfl
      simp only [List.getElem_toArray, List.getElem_cons_zero, List.getElem_cons_succ, Act.put, List.setIfInBounds_toArray, List.set_cons_zero, List.set_cons_succ]
      refine wpAnyH_take (i := 8) (v := ?_) rfl (by kernel_rfl) (by kernel_rfl) (by kernel_rfl) (fun _ _ _ h => h) (Or.inl ⟨by rfl, ?_⟩) hHeld ?_
      rotate_left
      · intro w hSw; have c0 : w.cell? ⟨ab, ao + i * 134, none⟩ = some (.int .i64 y.n) := (by have := hSw 0 _ rfl; rwa [Nat.add_zero] at this); clear hSw; go_simp; try rfl
      simp only [List.getElem_toArray, List.getElem_cons_zero, List.getElem_cons_succ, Act.put, List.setIfInBounds_toArray, List.set_cons_zero, List.set_cons_succ]
      refine wpAnyH_take (i := 9) (v := .agg y.cells.toArray) rfl (by kernel_rfl) (by kernel_rfl) (by kernel_rfl) (fun _ _ _ h => h) (yieldsIf_load_mid (by rfl) 55 (.tmp 49) rfl ab (ao + i * 134) rfl y.cells _ (fun w h => h) uS rfl iS) hHeld ?_
      simp only [List.getElem_toArray, List.getElem_cons_zero, List.getElem_cons_succ, Act.put, List.setIfInBounds_toArray, List.set_cons_zero, List.set_cons_succ]
      refine wpAnyH_take (i := 12) (v := ?_) rfl (by kernel_rfl) (by kernel_rfl) (by kernel_rfl) (fun _ _ _ h => h) (Or.inl ⟨by rfl, ?_⟩) hHeld ?_
      rotate_left
      · intro w hSw; have c0 : w.cell? ⟨ab, ao + i * 134, none⟩ = some (.int .i64 y.n) := (by have := hSw 0 _ rfl; rwa [Nat.add_zero] at this); clear hSw; go_simp; try rfl
      simp only [List.getElem_toArray, List.getElem_cons_zero, List.getElem_cons_succ, Act.put, List.setIfInBounds_toArray, List.set_cons_zero, List.set_cons_succ]
      refine wpAnyH_take (i := 13) (v := ?_) rfl (by kernel_rfl) (by kernel_rfl) (by kernel_rfl) (fun _ _ _ h => h) (Or.inl ⟨by rfl, ?_⟩) hHeld ?_
      rotate_left
      · intro w hSw; have c0 : w.cell? ⟨ab, ao + i * 134, none⟩ = some (.int .i64 y.n) := (by have := hSw 0 _ rfl; rwa [Nat.add_zero] at this); clear hSw; go_simp; try rfl
      simp only [List.getElem_toArray, List.getElem_cons_zero, List.getElem_cons_succ, Act.put, List.setIfInBounds_toArray, List.set_cons_zero, List.set_cons_succ]
      refine wpAnyH_take (i := 14) (v := ?_) rfl (by kernel_rfl) (by kernel_rfl) (by kernel_rfl) (fun _ _ _ h => h) (Or.inl ⟨by rfl, ?_⟩) hHeld ?_
      rotate_left
      · intro w hSw; have c0 : w.cell? ⟨ab, ao + i * 134, none⟩ = some (.int .i64 y.n) := (by have := hSw 0 _ rfl; rwa [Nat.add_zero] at this); clear hSw; go_simp; try rfl
      simp only [List.getElem_toArray, List.getElem_cons_zero, List.getElem_cons_succ, Act.put, List.setIfInBounds_toArray, List.set_cons_zero, List.set_cons_succ]
      refine wpAnyH_take (i := 15) (v := ?_) rfl (by kernel_rfl) (by kernel_rfl) (by kernel_rfl) (fun _ _ _ h => h) (Or.inl ⟨by rfl, ?_⟩) hHeld ?_
      rotate_left
      · intro w hSw; have c0 : w.cell? ⟨ab, ao + i * 134, none⟩ = some (.int .i64 y.n) := (by have := hSw 0 _ rfl; rwa [Nat.add_zero] at this); clear hSw; go_simp; try rfl
      simp only [List.getElem_toArray, List.getElem_cons_zero, List.getElem_cons_succ, Act.put, List.setIfInBounds_toArray, List.set_cons_zero, List.set_cons_succ]
      refine wpAnyH_take (i := 16) (v := ?_) rfl (by kernel_rfl) (by kernel_rfl) (by kernel_rfl) (fun _ _ _ h => h) (Or.inl ⟨by rfl, ?_⟩) hHeld ?_
      rotate_left
      · intro w hSw; have c0 : w.cell? ⟨ab, ao + i * 134, none⟩ = some (.int .i64 y.n) := (by have := hSw 0 _ rfl; rwa [Nat.add_zero] at this); clear hSw; go_simp; try rfl
      simp only [List.getElem_toArray, List.getElem_cons_zero, List.getElem_cons_succ, Act.put, List.setIfInBounds_toArray, List.set_cons_zero, List.set_cons_succ]
      refine wpAnyH_take (i := 17) (v := ?_) rfl (by kernel_rfl) (by kernel_rfl) (by kernel_rfl) (fun _ _ _ h => h) (Or.inl ⟨by rfl, ?_⟩) hHeld ?_
      rotate_left
      · intro w hSw; have c0 : w.cell? ⟨ab, ao + i * 134, none⟩ = some (.int .i64 y.n) := (by have := hSw 0 _ rfl; rwa [Nat.add_zero] at this); clear hSw; go_simp; try rfl
      simp only [List.getElem_toArray, List.getElem_cons_zero, List.getElem_cons_succ, Act.put, List.setIfInBounds_toArray, List.set_cons_zero, List.set_cons_succ]
      refine wpAnyH_take (i := 18) (v := ?_) rfl (by kernel_rfl) (by kernel_rfl) (by kernel_rfl) (fun _ _ _ h => h) (Or.inl ⟨by rfl, ?_⟩) hHeld ?_
      rotate_left
      · intro w hSw; have c0 : w.cell? ⟨ab, ao + i * 134, none⟩ = some (.int .i64 y.n) := (by have := hSw 0 _ rfl; rwa [Nat.add_zero] at this); clear hSw; go_simp; try rfl
      simp only [List.getElem_toArray, List.getElem_cons_zero, List.getElem_cons_succ, Act.put, List.setIfInBounds_toArray, List.set_cons_zero, List.set_cons_succ]
      refine wpAnyH_take (i := 19) (v := ?_) rfl (by kernel_rfl) (by kernel_rfl) (by kernel_rfl) (fun _ _ _ h => h) (Or.inl ⟨by rfl, ?_⟩) hHeld ?_
      rotate_left
      · intro w hSw; have c0 : w.cell? ⟨ab, ao + i * 134, none⟩ = some (.int .i64 y.n) := (by have := hSw 0 _ rfl; rwa [Nat.add_zero] at this); clear hSw; go_simp; try rfl
      simp only [List.getElem_toArray, List.getElem_cons_zero, List.getElem_cons_succ, Act.put, List.setIfInBounds_toArray, List.set_cons_zero, List.set_cons_succ]
      refine wpAnyH_take (i := 20) (v := ?_) rfl (by kernel_rfl) (by kernel_rfl) (by kernel_rfl) (fun _ _ _ h => h) (Or.inl ⟨by rfl, ?_⟩) hHeld ?_
      rotate_left
      · intro w hSw; have c0 : w.cell? ⟨ab, ao + i * 134, none⟩ = some (.int .i64 y.n) := (by have := hSw 0 _ rfl; rwa [Nat.add_zero] at this); clear hSw; go_simp; try rfl
      simp only [List.getElem_toArray, List.getElem_cons_zero, List.getElem_cons_succ, Act.put, List.setIfInBounds_toArray, List.set_cons_zero, List.set_cons_succ]
      refine wpAnyH_take (i := 21) (v := .agg y.cells.toArray) rfl (by kernel_rfl) (by kernel_rfl) (by kernel_rfl) (fun _ _ _ h => h) (yieldsIf_load_mid (by rfl) 55 (.tmp 61) rfl ab (ao + i * 134) rfl y.cells _ (fun w h => h) uS rfl iS) hHeld ?_
      simp only [List.getElem_toArray, List.getElem_cons_zero, List.getElem_cons_succ, Act.put, List.setIfInBounds_toArray, List.set_cons_zero, List.set_cons_succ]
      refine wpAnyH_ready (rs := [10]) (by kernel_rfl) (by simp) ?_
      refine AllReadyH.cons rfl (fun K hK => ?_) AllReadyH.nil
      rw [if_pos (by rfl)]
      go_simp
      refine (HSB.out _).mono ?_
      rintro e w2 ⟨rfl, b2⟩
      refine hK.out _ _ (hKEEP _ (hB1.trans_b b2)) (fun hHeld => ?_)
      clear hK K
      refine wpAnyH_ready (rs := [11]) (by kernel_rfl) (by simp) ?_
      refine AllReadyH.cons rfl (fun K hK => ?_) AllReadyH.nil
      rw [if_pos (by rfl)]
      go_simp
      refine (HPW.out _ (hD1.below b2)).mono ?_
      rintro e w3 ⟨F3, rfl, hd3, hc3, hs3⟩
      have hu3 := hd3.under
      refine hK.out _ _ (hKEEP _ hu3) (fun hHeld => ?_)
      clear hK K
      refine wpAnyH_ready (rs := [22]) (by kernel_rfl) (by simp) ?_
      refine AllReadyH.cons rfl (fun K hK => ?_) AllReadyH.nil
      rw [if_pos (by rfl)]
      go_simp
      refine (HSB.out _).mono ?_
      rintro e w4 ⟨rfl, b4⟩
      have hu4 := hu3.trans_b b4
      refine hK.out _ _ (hKEEP _ hu4) (fun hHeld => ?_)
      clear hK K
      have hr4 := ((hR1.below b2).keep (hc3.same hapt (hGt.mono b2.size))).below b4
      refine wpAnyH_ready (rs := [23]) (by kernel_rfl) (by simp) ?_
      refine AllReadyH.cons rfl (fun K hK => ?_) AllReadyH.nil
      rw [if_pos (by rfl)]
      go_simp
      refine (rd_write y.n y.blk hyb hr4 hfew).mono ?_
      rintro e w5 ⟨G5, rfl, hr5, hc5, hs5⟩
      have hu5 : Below w.heap.size w w5 := hu4.trans_f hc5 hGo
      refine hK.out _ _ (hKEEP _ hu5) (fun hHeld => ?_)
      clear hK K
      refine wpAnyH_take (i := 24) (v := ?_) rfl (by kernel_rfl) (by kernel_rfl) (by kernel_rfl) (fun _ _ _ h => h) (Or.inl ⟨by rfl, ?_⟩) hHeld ?_
      rotate_left
      · intro w hSw; have c0 : w.cell? ⟨ab, ao + i * 134, none⟩ = some (.int .i64 y.n) := (by have := hSw 0 _ rfl; rwa [Nat.add_zero] at this); clear hSw; go_simp; try rfl
      simp only [List.getElem_toArray, List.getElem_cons_zero, List.getElem_cons_succ, Act.put, List.setIfInBounds_toArray, List.set_cons_zero, List.set_cons_succ]
      refine wpAnyH_done (by kernel_rfl) ?_ _
      have a3 : Apt F3 G := hapt.step hs3 (hGt.mono b2.size)
      have hd5 : DF w w5 F3 (.pointer (some ⟨p, 0, none⟩)) (dk.write s y.n y.blk).2 := ⟨(hd3.below b4).cd.keep (hc5.same a3.symm ((hd3.below b4).cd.there)), hu5, hd3.own⟩
      have a5 : Apt F3 G5 := (a3.symm.step hs5 ((hd3.below b4).cd.there)).symm
      have hG5 : ∀ k ∈ G5, w.heap.size ≤ k := fun k hk => (hs5 k hk).elim (hGo k) (fun e => Nat.le_trans hu4.size e)
      clear hHeld hu3 hu4 hu5 hr4 hc3 hs3 hc5 hs5 b2 b4 hd3 hD hR hD1 hR1 hGt hsF hapt a3 hrd HSB HPW hKEEP hfew iS hB1 hGo
      go_wp2_with fail
      go_roundw
      case rel => exact ⟨i + 1, _, F3, G5, by go_num, by omega, by omega, hd5, hr5, a5, hG5, HNX.out⟩
      case measure => simp [intOf]; omega
    · have hsm := HS.out.many
      have hlit := HS.out.calm.light
      have hcs : (i < n ∧ ¬ i < 60) ∨ ¬ i < n := by omega
      have b3 : Below wr.heap.size wr (wr.alloc (.cells #[.pointer (some ⟨p, 0, none⟩), .pointer (some ⟨q, 0, none⟩), .pointer none, .pointer none] 34)) := (Below.refl _ _).alloc (Nat.le_refl _) _
      have r3 := heap_alloc_new wr (.cells #[.pointer (some ⟨p, 0, none⟩), .pointer (some ⟨q, 0, none⟩), .pointer none, .pointer none] 34)
      have hFt := hD.cd.there
      have hGt := hR.there
      have hu := hD.under.size
      have hstart : DK w (wr.alloc (.cells #[.pointer (some ⟨p, 0, none⟩), .pointer (some ⟨q, 0, none⟩), .pointer none, .pointer none] 34)) wr.heap.size p q F G (.pointer none) (.pointer none) s (some false) :=
        ⟨r3, fun hm => Nat.lt_irrefl _ (hFt _ hm), fun hm => Nat.lt_irrefl _ (hGt _ hm), by omega, hD.own, hGo, hapt,
          fun k hk => by have := hFt k hk; have := b3.size; omega, hR.below b3, ⟨F, hD.below b3, fun _ h => h⟩, (fun e => by cases e), (fun e => by cases e), fun _ => ⟨rfl, rfl⟩⟩
      have HO := Lib.hid (desk_open hstart ht)
      have HAL := Lib.hid (fun W (D : Nat) F' G' jv kv bb (hW : DK w W D p q F' G' jv kv s (some bb)) => desk_alike hW hlit)
      have HSC := Lib.hid (fun W (D : Nat) F' G' jv kv bb (hW : DK w W D p q F' G' jv kv s bb) => hW.df.elim fun Fd hd => cd_steps hd.1.cd)
      have HSR := Lib.hid (fun W (D : Nat) F' G' jv kv bb (hW : DK w W D p q F' G' jv kv s bb) => rd_steps hW.rd)
      clear hlt hsm hlit b3 r3 hFt hGt hu hstart hD hR hapt hGo HS hA hl hcap hmax
      rcases hcs with ⟨hc1, hc2⟩ | hc1
      all_goals
        go_wp2_with fail
        refine HO.out.mono ?_
        rintro e w4 ⟨F4, jv4, kv4, rfl, h4, -⟩
        clear HO
        go_wp2_with fail
        refine (HAL.out _ _ _ _ _ _ _ h4).mono ?_
        rintro e w5 ⟨rfl, b5⟩
        have h5 := h4.below b5
        clear h4 b5 HAL
        go_wp2_with fail
        refine (HSC.out _ _ _ _ _ _ _ h5).mono ?_
        rintro e w6 ⟨rfl, rfl⟩
        go_wp2_with fail
        refine (HSR.out _ _ _ _ _ _ _ h5).mono ?_
        rintro e w6 ⟨rfl, rfl⟩
        go_wp2_with fail
        refine (HLV.out _ (ht.below h5.under)).mono ?_
        rintro e w6 ⟨rfl, b6⟩
        have hb := h5.under.trans (b6.mono h5.under.size)
        clear h5 b6
        go_wp2_with fail
        go_ret
        exact ⟨rfl, hb⟩
end Go.Proofs.YtknndmhkfonfmaaGreatDoor

/-
  what JournalOpens is given: spots.
-/
namespace Go.Proofs.YtknndmhkfonfmaaGreatDoor
open Go.ChangeShapes Go.WideShapes Go.ChangeAt Go.RowKit
theorem cells_spotT : Tryz.prog.cellsOf 55 = 134 := by kernel_rfl
theorem cells_boolT : Tryz.prog.cellsOf 4 = 1 := by kernel_rfl
theorem cells_u64T : Tryz.prog.cellsOf 50 = 1 := by kernel_rfl
theorem cells_headT : Tryz.prog.cellsOf 53 = 3 := by kernel_rfl
theorem cells_intT : Tryz.prog.cellsOf 3 = 1 := by kernel_rfl
set_option maxRecDepth 100000 in
theorem i64_rangeS {a : Int} (w : (Lit.int .i64 a).wf = true) : -9223372036854775808 ≤ a ∧ a ≤ 9223372036854775807 := by
  simpa [Lit.wf, IntKind.min, IntKind.max, IntKind.signed, IntKind.bits] using w
set_option maxRecDepth 100000 in
theorem open_headC {H : Type} {enc : TypeId × Value → H} {W : World} {fuel : Nat} {cs : List Value} {x : DataW H × List MemPlace} (h : DataW.trod enc Tryz.prog W 0 (fun _ => true) true fuel 53 cs = some x) :
    ∃ k : hd.H, cs = hd.cells k ∧ k.Ok := by
  obtain ⟨xs, n', _, _, hcl, hxl, hfx⟩ := DataW.trod_struct Tryz.underlying53 h
  rw [cells_headT] at hcl
  have hx2 : xs.length = 3 := hxl
  match xs, hx2, cs, hcl with
  | [x0, x1, x2], _, [c0, c1, c2], _ =>
    have f0 : DataW.trod enc Tryz.prog W 0 (fun _ => true) true n' 5 [c0] = some x0 := hfx 0 _ rfl
    have f1 : DataW.trod enc Tryz.prog W 0 (fun _ => true) true n' 51 [c1] = some x1 := hfx 1 _ rfl
    have f2 : DataW.trod enc Tryz.prog W 0 (fun _ => true) true n' 51 [c2] = some x2 := hfx 2 _ rfl
    obtain ⟨z0, h0, _, w0⟩ := DataW.trod_int Tryz.underlying5 f0
    obtain ⟨z1, h1, _, w1⟩ := DataW.trod_int Tryz.underlying51 f1
    obtain ⟨z2, h2, _, w2⟩ := DataW.trod_int Tryz.underlying51 f2
    obtain ⟨y, hy⟩ := byte_of_wf' w0
    obtain ⟨m1, rfl, n1⟩ := u32_nat w1
    obtain ⟨m2, rfl, n2⟩ := u32_nat w2
    simp only [List.cons.injEq, and_true] at h0 h1 h2
    refine ⟨⟨y, m1, m2⟩, ?_, n1, n2⟩
    rw [h0, h1, h2, hy]
set_option maxRecDepth 100000 in
theorem open_spot {H : Type} {enc : TypeId × Value → H} {W : World} {fuel : Nat} {cs : List Value} {x : DataW H × List MemPlace} (h : DataW.trod enc Tryz.prog W 0 (fun _ => true) true fuel 55 cs = some x) :
    ∃ y : SC, cs = y.cells ∧ y.Ok := by
  obtain ⟨xs, n', _, _, hcl, hxl, hfx⟩ := DataW.trod_struct Tryz.underlying55 h
  rw [cells_spotT] at hcl
  have f0 : DataW.trod enc Tryz.prog W 0 (fun _ => true) true n' 3 ((cs.drop 0).take (Tryz.prog.cellsOf 3)) = xs[0]? := hfx 0 _ rfl
  have f1 : DataW.trod enc Tryz.prog W 0 (fun _ => true) true n' 43 ((cs.drop 1).take (Tryz.prog.cellsOf 43)) = xs[1]? := hfx 1 _ rfl
  have f2 : DataW.trod enc Tryz.prog W 0 (fun _ => true) true n' 4 ((cs.drop 129).take (Tryz.prog.cellsOf 4)) = xs[2]? := hfx 2 _ rfl
  have f3 : DataW.trod enc Tryz.prog W 0 (fun _ => true) true n' 50 ((cs.drop 130).take (Tryz.prog.cellsOf 50)) = xs[3]? := hfx 3 _ rfl
  have f4 : DataW.trod enc Tryz.prog W 0 (fun _ => true) true n' 53 ((cs.drop 131).take (Tryz.prog.cellsOf 53)) = xs[4]? := hfx 4 _ rfl
  have hx2 : xs.length = 5 := hxl
  rw [cells_intT, List.getElem?_eq_getElem (by omega)] at f0
  rw [cells_blk, List.getElem?_eq_getElem (by omega)] at f1
  rw [cells_boolT, List.getElem?_eq_getElem (by omega)] at f2
  rw [cells_u64T, List.getElem?_eq_getElem (by omega)] at f3
  rw [cells_headT, List.getElem?_eq_getElem (by omega)] at f4
  obtain ⟨z0, h0, _, w0⟩ := DataW.trod_int Tryz.underlying3 f0
  obtain ⟨b, hb, hcb⟩ := open_blk f1
  obtain ⟨q2, h2, _⟩ := DataW.trod_bool (P := Tryz.prog) (by kernel_rfl) f2
  obtain ⟨z3, h3, _, w3⟩ := DataW.trod_int Tryz.underlying50 f3
  obtain ⟨k, hk, hok⟩ := open_headC f4
  obtain ⟨m3, rfl, n3⟩ := u64_nat' w3
  refine ⟨⟨z0, b, q2, m3, k⟩, ?_, hb, i64_rangeS w0, n3, hok⟩
  have e : cs = (cs.drop 0).take 1 ++ ((cs.drop 1).take 128 ++ ((cs.drop 129).take 1 ++ ((cs.drop 130).take 1 ++ (cs.drop 131).take 3))) := by
    have e4 : (cs.drop 131).take 3 = cs.drop 131 := List.take_of_length_le (by rw [List.length_drop]; omega)
    have g : ∀ a k : Nat, (cs.drop a).take k ++ cs.drop (a + k) = cs.drop a := fun a k => by rw [← List.drop_drop, List.take_append_drop]
    rw [e4, g 130 1, g 129 1, g 1 128, g 0 1, List.drop_zero]
  rw [e, h0, hcb, h2, h3, hk]
  simp [SC.cells]
set_option maxRecDepth 100000 in
theorem open_spots {H : Type} {enc : TypeId × Value → H} {W : World} {base : Nat} {v : Value} {d : DataW H} {ps : List MemPlace}
    (hval : Value.okWide Tryz.prog W .any base 48 v) (h : DataW.Trod enc Tryz.prog W 0 (fun _ => true) true 48 v d ps) :
    ∃ A n c l, v = .slice A n c ∧ SS W A n c l := by
  obtain ⟨a0, len, cap, rfl⟩ := okWide_slice Tryz.underlying48 hval
  obtain ⟨fuel, hf⟩ := h
  rcases Deep.open_slice Tryz.underlying48 hf with ⟨hcs, hx⟩ | ⟨a, len', cap', m, n, D, Pl, hcs, _, hl, hm, hmm, hx, hr⟩
  · simp [Value.cells] at hcs
    obtain ⟨rfl, rfl, rfl⟩ := hcs
    exact ⟨none, 0, 0, [], rfl, rfl, Nat.le_refl _, by omega, by simp, fun h => absurd h (by omega)⟩
  · simp [Value.cells] at hcs
    obtain ⟨rfl, rfl, rfl⟩ := hcs
    simp only [if_true] at hmm
    have hmm' := hmm.symm
    subst hmm'
    rw [maxLen_eq] at hm
    have each : ∀ i, i < len → ∃ y : SC, y.Ok ∧ W.cells? 0 (a.add (i * 134)) 134 = some y.cells := fun i hi => by
      obtain ⟨cs', h1, h2⟩ := hr i (by omega)
      rw [cells_spotT] at h1
      obtain ⟨y, rfl, hy⟩ := open_spot h2
      exact ⟨y, hy, h1⟩
    obtain ⟨Y, hY⟩ := Deep.choose_lt each
    refine ⟨some a, len, cap, (List.range len).map Y, rfl, by simp, hl, hm, fun x hx => ?_, fun h0 => ?_⟩
    · obtain ⟨i, hi, rfl⟩ := List.mem_map.1 hx
      exact (hY i (List.mem_range.1 hi)).1
    · obtain ⟨b, o, ha, hbl, _, _⟩ := cells_spot (by omega) (hY 0 h0).2
      rw [Nat.zero_mul] at ha
      have ha0 : a = ⟨b, o, none⟩ := by
        have : a.add 0 = a := by simp [Addr.add]
        rw [← this]; exact ha
      subst ha0
      refine ⟨b, o, rfl, hbl, fun i hi => ?_⟩
      have hi' : i < len := by simpa using hi
      obtain ⟨b2, o2, ha2, _, hlen2, hc2⟩ := cells_spot (by omega) (hY i hi').2
      rw [Addr.add_lit] at ha2
      injection ha2 with e1 e2
      subst e1 e2
      simp only [List.getElem_map, List.getElem_range]
      intro j u hj
      have hj' : j < 134 := by
        have := (List.getElem?_eq_some_iff.1 hj).1
        rwa [SC.length (hY i hi').1] at this
      rw [hc2 j hj']
      exact hj
end Go.Proofs.YtknndmhkfonfmaaGreatDoor

/-
  cardexlaw07: what acts make of a disk and of whether there is a journal on it, pure; desk.act, whatever the act is.
-/
namespace Go.Proofs.YtknndmhkfonfmaaGreatDoor
open Go.RowKit
namespace jn
theorem newest_of {s s' : St} (hS : s'.S = s.S) (hL : s'.L = s.L) (hb : s'.black = s.black) : newest s' = newest s := by
  have hr : ∀ n, rd s' n = rd s n := fun n => by unfold rd dk.read dk.asks; rw [hS, hL, hb]
  unfold jn.newest
  rw [hr, hr]
theorem arm_same (s : St) (n : Int) : (dk.arm s n).2.S = s.S ∧ (dk.arm s n).2.L = s.L ∧ (dk.arm s n).2.black = s.black ∧ (dk.arm s n).2.many = s.many := by
  unfold dk.arm
  split
  · exact ⟨rfl, rfl, rfl, rfl⟩
  · split <;> exact ⟨rfl, rfl, rfl, rfl⟩
theorem rot_same (s : St) (n at_ : Int) (x : UInt8) : (dk.rot s n at_ x).2.S.length = s.S.length ∧ (dk.rot s n at_ x).2.L = s.L ∧ (dk.rot s n at_ x).2.black = s.black ∧ (dk.rot s n at_ x).2.many = s.many := by
  unfold dk.rot
  split
  · exact ⟨rfl, rfl, rfl, rfl⟩
  · exact ⟨List.length_set, rfl, rfl, rfl⟩
theorem Fit.of {s s' : St} {N : Nat} {h : hd.H} (f : Fit s N h) (ok : s'.Ok) (hS : s'.S = s.S) (hL : s'.L = s.L) (hb : s'.black = s.black) : Fit s' N h :=
  ⟨ok, hb.trans f.light, hL.trans f.sure, (newest_of hS hL hb).trans f.new, by unfold half; rw [hS]; exact f.fits⟩
/-- behind i acts: in the light, all of it sure -/
structure PI (m i : Nat) (s : St) (b : Bool) : Prop where
  ok : s.Ok
  light : s.black = false
  sure : s.L = []
  len : s.S.length = m
  many : s.many ≤ 4300 * (i : Int)
  fit : b = true → ∃ N k, Fit s N k ∧ N ≤ 2305843009213693952 + i
theorem PI.start {m : Nat} (h : 64 ≤ m) (h2 : m ≤ 4096) : PI m 0 (fresh m) false := ⟨fresh_ok h h2, rfl, rfl, by simp [fresh], by simp [fresh], fun h => by cases h⟩
/-- the power comes back, and it is opened anew -/
theorem PI.back {m i : Nat} {s1 : St} (ok : s1.Ok) (len : s1.S.length = m) (many : s1.many ≤ 4300 * ((i + 1 : Nat) : Int)) (p : List Int) : PI m (i + 1) (dk.crash s1 p) (decide (opens (dk.crash s1 p) = 0)) := by
  have hok := dk.Ok.crash ok p
  refine ⟨hok, rfl, rfl, by simp only [dk.crash]; rw [dk.tear_length]; exact len, many, fun h => ?_⟩
  obtain ⟨N, k, f, hN⟩ := opens_fit hok rfl (of_decide_eq_true h)
  exact ⟨N, k, f, by omega⟩
theorem PI.does {m i : Nat} {s : St} {b : Bool} (P : PI m i s b) (hi : i ≤ 40) (a : JA) :
    (a.does s b).1.Ok ∧ (a.does s b).1.S.length = m ∧ (a.does s b).1.many ≤ 4300 * ((i + 1 : Nat) : Int) ∧ ((a.does s b).1.black = false → PI m (i + 1) (a.does s b).1 (a.does s b).2) := by
  have hm := P.many
  have same : s.Ok ∧ s.S.length = m ∧ s.many ≤ 4300 * ((i + 1 : Nat) : Int) ∧ (s.black = false → PI m (i + 1) s b) := ⟨P.ok, P.len, by omega, fun _ => ⟨P.ok, P.light, P.sure, P.len, by omega, fun h => by
    obtain ⟨N, k, f, hN⟩ := P.fit h
    exact ⟨N, k, f, by omega⟩⟩⟩
  have hlaid : ∀ (r : Int × St) (N : Nat) (k k' : hd.H), b = true → N ≤ 2305843009213693952 + i → Fit s N k → Near s r.2 → ((r.2 = s ∧ (r.1 = 3 ∨ r.1 = 10)) ∨ (r.1 = 0 ∧ Fit r.2 (N + 1) k') ∨ (r.1 = 9 ∧ r.2.black = true)) →
      r.2.Ok ∧ r.2.S.length = m ∧ r.2.many ≤ 4300 * ((i + 1 : Nat) : Int) ∧ (r.2.black = false → PI m (i + 1) r.2 b) := fun r N k k' hb hN f hnear hc => by
    have h1 := hnear.many
    refine ⟨hnear.ok, hnear.len.trans P.len, by omega, fun hl => ?_⟩
    rcases hc with ⟨e, _⟩ | ⟨_, f'⟩ | ⟨_, hd⟩
    · rw [e]; exact (same.2.2.2) P.light
    · exact ⟨f'.ok, f'.light, f'.sure, hnear.len.trans P.len, by omega, fun _ => ⟨N + 1, k', f', by omega⟩⟩
    · rw [hd] at hl; cases hl
  unfold JA.does
  split
  · exact same
  · split
    · split
      · rename_i hb
        obtain ⟨N, k, f, hN⟩ := P.fit hb
        have ha := append_fit f (by unfold hd.num; rw [decide_eq_true (by omega), decide_eq_true (by omega)]; rfl) a.bl
        rw [show (newest s).2.1 = k from by rw [f.new]]
        exact hlaid _ N k _ hb hN f ha.1 ha.2
      · exact same
    · split
      · split
        · rename_i hb
          obtain ⟨N, k, f, hN⟩ := P.fit hb
          have ha := replace_fit f (by unfold hd.num; rw [decide_eq_true (by omega), decide_eq_true (by omega)]; rfl) a.bl
          rw [show (newest s).2.1 = k from by rw [f.new]]
          exact hlaid _ N k _ hb hN f ha.1 ha.2
        · exact same
      · split
        · refine ⟨P.ok, P.len, by show s.many ≤ _; omega, fun _ => ⟨P.ok, P.light, P.sure, P.len, by show s.many ≤ _; omega, fun h => ?_⟩⟩
          obtain ⟨N, k, f, hN⟩ := opens_fit P.ok P.sure (of_decide_eq_true h)
          exact ⟨N, k, f, by omega⟩
        · split
          · obtain ⟨hnear, hc⟩ := make_fit P.ok P.sure P.light
            have h1 := hnear.many
            refine ⟨hnear.ok, hnear.len.trans P.len, by show (make s).2.many ≤ _; omega, fun hl => ?_⟩
            have hl : (make s).2.black = false := hl
            rcases hc with ⟨e, f⟩ | ⟨_, hd⟩
            · exact ⟨f.ok, f.light, f.sure, hnear.len.trans P.len, by show (make s).2.many ≤ _; omega, fun _ => ⟨1, hd.zero, f, by omega⟩⟩
            · rw [hd] at hl; cases hl
          · split
            · obtain ⟨e1, e2, e3, e4⟩ := arm_same s a.n
              have hok := dk.Ok.arm P.ok a.n
              refine ⟨hok, by rw [e1]; exact P.len, by show (dk.arm s a.n).2.many ≤ _; rw [e4]; omega, fun _ => ⟨hok, e3.trans P.light, e2.trans P.sure, by rw [e1]; exact P.len, by show (dk.arm s a.n).2.many ≤ _; rw [e4]; omega, fun h => ?_⟩⟩
              obtain ⟨N, k, f, hN⟩ := P.fit h
              exact ⟨N, k, f.of hok e1 e2 e3, by omega⟩
            · obtain ⟨e1, e2, e3, e4⟩ := rot_same s a.n a.at_ a.x
              have hok := dk.Ok.rot P.ok a.n a.at_ a.x
              refine ⟨hok, by rw [e1]; exact P.len, by show (dk.rot s a.n a.at_ a.x).2.many ≤ _; rw [e4]; omega, fun _ => ⟨hok, e3.trans P.light, e2.trans P.sure, by rw [e1]; exact P.len, by show (dk.rot s a.n a.at_ a.x).2.many ≤ _; rw [e4]; omega, fun h => ?_⟩⟩
              obtain ⟨N, k, f, hN⟩ := opens_fit hok (e2.trans P.sure) (of_decide_eq_true h)
              exact ⟨N, k, f, by omega⟩
end jn
variable {w0 w w' : World} {D p q : Nat} {F G : List Nat} {jv kv : Value} {s : dk.St} {b : Bool}
/-- WHATEVER IS DONE TO BOTH -/
theorem desk_act {m i : Nat} (a : JA) (ha : a.Ok w0) (P : jn.PI m i s b) (hi : i ≤ 40) (h : DK w0 w D p q F G jv kv s (some b)) (ht : Tabs w0) :
    Calls Tryz.prog 7 #[.pointer (some ⟨D, 0, none⟩), .agg a.cells.toArray] w fun e w' => ∃ F' G' jv' kv', e = .returned (.bool true) ∧ DK w0 w' D p q F' G' jv' kv' (a.does s b).1 (some (a.does s b).2) := by
  have hm := P.many
  by_cases h0 : 20000 < a.bn
  · have hdo : a.does s b = (s, b) := by unfold JA.does; rw [if_pos h0]
    rw [hdo]
    exact (desk_actL a h0 h).mono fun e w' h' => ⟨F, G, jv, kv, h'.1, h'.2⟩
  · by_cases k0 : a.kind = 0
    · cases b with
      | true =>
        obtain ⟨N, k, f, hN⟩ := P.fit rfl
        have hdo : a.does s true = ((jn.append s k a.bl).2, true) := by unfold JA.does; rw [if_neg h0, if_pos k0, if_pos rfl, show (jn.newest s).2.1 = k from by rw [f.new]]
        rw [hdo]
        refine (desk_act0 a ha k0 h0 f (by unfold hd.num; rw [decide_eq_true (by omega), decide_eq_true (by omega)]; rfl) (by omega) h ht).mono fun e w' h' => ?_
        obtain ⟨F', G', e1, e2⟩ := h'
        exact ⟨F', G', jv, kv, e1, e2⟩
      | false =>
        have hdo : a.does s false = (s, false) := by unfold JA.does; rw [if_neg h0, if_pos k0, if_neg (by simp)]
        rw [hdo]
        exact (desk_no0 a k0 h0 h).mono fun e w' h' => ⟨F, G, jv, kv, h'.1, h'.2⟩
    · by_cases k1 : a.kind = 1
      · cases b with
        | true =>
          obtain ⟨N, k, f, hN⟩ := P.fit rfl
          have hdo : a.does s true = ((jn.replace s k a.bl).2, true) := by unfold JA.does; rw [if_neg h0, if_neg k0, if_pos k1, if_pos rfl, show (jn.newest s).2.1 = k from by rw [f.new]]
          rw [hdo]
          refine (desk_act1 a ha k1 h0 f (by unfold hd.num; rw [decide_eq_true (by omega), decide_eq_true (by omega)]; rfl) (by omega) h ht).mono fun e w' h' => ?_
          obtain ⟨F', G', e1, e2⟩ := h'
          exact ⟨F', G', jv, kv, e1, e2⟩
        | false =>
          have hdo : a.does s false = (s, false) := by unfold JA.does; rw [if_neg h0, if_neg k0, if_pos k1, if_neg (by simp)]
          rw [hdo]
          exact (desk_no1 a k1 h0 h).mono fun e w' h' => ⟨F, G, jv, kv, h'.1, h'.2⟩
      · by_cases k2 : a.kind = 2
        · have hdo : a.does s b = (s, decide (jn.opens s = 0)) := by unfold JA.does; rw [if_neg h0, if_neg k0, if_neg k1, if_pos k2]
          rw [hdo]
          refine (desk_act2 a k2 h0 h ht).mono fun e w' h' => ?_
          obtain ⟨F', jv', kv', e1, e2⟩ := h'
          exact ⟨F', G, jv', kv', e1, e2⟩
        · by_cases k3 : a.kind = 3
          · have hdo : a.does s b = ((jn.make s).2, decide ((jn.make s).1 = 0)) := by unfold JA.does; rw [if_neg h0, if_neg k0, if_neg k1, if_neg k2, if_pos k3]
            rw [hdo]
            exact desk_act3 a k3 h0 ⟨by omega, by rw [P.sure]; simp⟩ h ht
          · by_cases k4 : a.kind = 4
            · have hdo : a.does s b = ((dk.arm s a.n).2, b) := by unfold JA.does; rw [if_neg h0, if_neg k0, if_neg k1, if_neg k2, if_neg k3, if_pos k4]
              rw [hdo]
              refine (desk_act4 a ha k4 h0 h).mono fun e w' h' => ?_
              obtain ⟨F', G', e1, e2⟩ := h'
              exact ⟨F', G', jv, kv, e1, e2⟩
            · have hdo : a.does s b = ((dk.rot s a.n a.at_ a.x).2, decide (jn.opens (dk.rot s a.n a.at_ a.x).2 = 0)) := by unfold JA.does; rw [if_neg h0, if_neg k0, if_neg k1, if_neg k2, if_neg k3, if_neg k4]
              rw [hdo]
              exact desk_act5 a ⟨k0, k1, k2, k3, k4⟩ h0 h ht
end Go.Proofs.YtknndmhkfonfmaaGreatDoor

/-
  cardexlaw07's walk: JournalPlays.
-/
namespace Go.Proofs.YtknndmhkfonfmaaGreatDoor
open Go.RowKit
theorem DK.drew' {w0 w : World} {D p q : Nat} {F G : List Nat} {jv kv : Value} {s : dk.St} {b : Option Bool} (h : DK w0 w D p q F G jv kv s b) : DK w0 w.drew D p q F G jv kv s b := h.below (Below.refl _ _).drew
theorem _root_.Go.RowKit.Below.trans_chg {w0 w w' : World} {F : List Nat} (h : Below w0.heap.size w0 w) (hc : Chg w w' F) (hF : ∀ k ∈ F, w0.heap.size ≤ k) : Below w0.heap.size w0 w' := ((Chg.of_below h F).trans hc (Sub.refl _ _)).below (Nat.le_refl _) hF
set_option maxHeartbeats 8000000 in
set_option maxRecDepth 100000 in
theorem walk_JournalPlays (x : UInt8) (A : Option Addr) (n c : Nat) (l : List JA) (w : World) (hA : JS w A n c l) (ht : Tabs w) :
    Calls Tryz.prog 3 #[bv x, .slice A n c] w fun e w' => e = .returned (.bool true) ∧ Below w.heap.size w w' := by
  have hx := x.toNat_lt
  have hl := hA.len
  have hcap := hA.cap
  have hmax := hA.max
  obtain ⟨m, hm⟩ : ∃ m, m = 64 + x.toNat := ⟨_, rfl⟩
  have hm1 : 64 ≤ m := by omega
  have hm2 : m ≤ 4096 := by omega
  have hww : IntKind.i64.wrap (x.toNat : Int) = (x.toNat : Int) := IntWalk.i64_in _ ⟨by omega, by omega⟩
  have hadd : (64 : Int) + (x.toNat : Int) = (m : Int) := by omega
  have HN := Lib.hid (df_new m hm1 hm2 w (Below.refl w.heap.size w))
  have HR := Lib.hid (fun W => rd_new (w := W) m hm1 hm2)
  have hlives := fun W hT => lives07_any W hT
  have HLV := Lib.hid hlives
  clear hm hlives
  go_enter Tryz.func3, Tryz.ntmps3
  go_wp2_with fail
  refine HN.out.mono ?_
  rintro e w1 ⟨d, F0, rfl, hdf⟩
  obtain ⟨p, rfl⟩ := hdf.cd.form
  go_wp2_with fail
  refine (HR.out w1).mono ?_
  rintro e w2 ⟨G0, d2, rfl, hrd, b2, hG0⟩
  obtain ⟨q, rfl⟩ := hrd.form
  have r3 := heap_alloc_new w2 (.cells #[.pointer (some ⟨p, 0, none⟩), .pointer (some ⟨q, 0, none⟩), .pointer none, .pointer none] 34)
  have b3 : Below w2.heap.size w2 (w2.alloc (.cells #[.pointer (some ⟨p, 0, none⟩), .pointer (some ⟨q, 0, none⟩), .pointer none, .pointer none] 34)) := (Below.refl _ _).alloc (Nat.le_refl _) _
  have hu := hdf.under.size
  have hb2 := b2.size
  have hF0 := hdf.cd.there
  have hG0t := hrd.there
  have hstart : DK w (w2.alloc (.cells #[.pointer (some ⟨p, 0, none⟩), .pointer (some ⟨q, 0, none⟩), .pointer none, .pointer none] 34)) w2.heap.size p q F0 G0 (.pointer none) (.pointer none) (fresh m) (some false) :=
    ⟨r3, fun hm => by have := hF0 _ hm; omega, fun hm => Nat.lt_irrefl _ (hG0t _ hm), by omega, hdf.own, fun k hk => by have := hG0 k hk; omega, fun k hk hg => by have := hF0 k hk; have := hG0 k hg; omega,
      fun k hk => by have := hF0 k hk; have := b3.size; omega, hrd.below b3, ⟨F0, (hdf.below b2).below b3, fun _ h => h⟩, (fun e => by cases e), (fun e => by cases e), fun _ => ⟨rfl, rfl⟩⟩
  obtain ⟨D, hD⟩ : ∃ D, w2.heap.size = D := ⟨_, rfl⟩
  rw [hD] at hstart
  have hP0 := jn.PI.start hm1 hm2
  clear r3 b3 hu hb2 hF0 hG0t hG0 hrd hdf HN HR b2
  go_wp2_with fail
  generalize w2.alloc (.cells #[.pointer (some ⟨p, 0, none⟩), .pointer (some ⟨q, 0, none⟩), .pointer none, .pointer none] 34) = w3 at *
  clear hD hww hadd
  go_loopw [11] (fun t wr => ∃ (i : Nat) (s : dk.St) (b : Bool) (jv kv : Value) (F G : List Nat), t = .int .i64 i ∧ i ≤ n ∧ i ≤ 30 ∧ DK w wr D p q F G jv kv s (some b) ∧ Hid (jn.PI m i s b)) (fun t _ => 30 - (intOf t).toNat)
  case atStart => exact ⟨0, fresh m, false, _, _, F0, G0, rfl, by omega, by omega, hstart, hP0⟩
  case round =>
    clear hstart hP0
    obtain ⟨i, s, b, jv, kv, F, G, rfl, hin, hi30, h, HP⟩ := hrel
    by_cases hlt : i < n ∧ i < 30
    · obtain ⟨hq1, hq2⟩ := hlt
      obtain ⟨ab, ao, rfl, habl, hrow⟩ := hA.has (by omega)
      have hrg := hrow i (by omega)
      have hyok := hA.ok _ (List.getElem_mem (by omega : i < l.length))
      generalize l[i]'(by omega) = y at *
      have hrg2 : wr.rangeAt ab (ao + i * 6) y.cells := dk.range_below hrg h.under
      have HACT := Lib.hid (desk_act y hyok HP.out (by omega) h ht)
      go_wp2_with (refine wp_lda (.tmp 53) y hrg2 rfl rfl rfl ?_)
      refine HACT.out.mono ?_
      rintro e w4 ⟨F4, G4, jv4, kv4, rfl, h4⟩
      have HDF := Lib.hid (fun W (hW : DK w W D p q F4 G4 jv4 kv4 (y.does s b).1 (some (y.does s b).2)) => hW.df.elim fun Fd hd => df_dark hd.1)
      have HDR := Lib.hid (fun W (hW : DK w W D p q F4 G4 jv4 kv4 (y.does s b).1 (some (y.does s b).2)) => rd_dark hW.rd)
      have hdoes := HP.out.does (by omega) y
      obtain ⟨s1, hs1⟩ : ∃ s1, (y.does s b).1 = s1 := ⟨_, rfl⟩
      obtain ⟨b1, hb1⟩ : ∃ b1, (y.does s b).2 = b1 := ⟨_, rfl⟩
      rw [hs1, hb1] at HDF HDR hdoes h4
      have HDO := Lib.hid hdoes
      have cP : w.cell? ⟨ab, ao + i * 6 + 5, none⟩ = some (.slice y.pA y.pn y.pc) := hrg 5 _ (by rfl)
      have hyp : 0 < y.pn → ∀ x o, y.pA = some ⟨x, o, none⟩ → x < w.heap.size := fun h0 x o e => by
        obtain ⟨b', o', e', hb', _⟩ := hyok.p.has h0
        rw [e] at e'
        injection e' with e'
        injection e' with e' _ _
        omega
      clear hdoes hs1 hb1 HACT hrg2 h HP hrow
      have h3 := h4
      go_wp2_with fail
      refine (HDF.out w4 h4).mono ?_
      rintro e w5 ⟨rfl, rfl⟩
      go_wp2_with fail
      refine (HDR.out w4 h4).mono ?_
      rintro e w5 ⟨rfl, rfl⟩
      generalize w4 = w3 at *
      have cP3 : w3.drew.cell? ⟨ab, ao + i * 6 + 5, none⟩ = some (.slice y.pA y.pn y.pc) := (h3.drew'.under.cell (p := ⟨ab, ao + i * 6 + 5, none⟩) habl).trans cP
      have HDK := HDF
      cases hbk : s1.black with
      | false =>
        rw [hbk] at HDK HDR
        have HAL := Lib.hid (fun W (hW : DK w W D p q F4 G4 jv4 kv4 s1 (some b1)) => desk_alike hW hbk)
        have HP1 := Lib.hid (HDO.out.2.2.2 hbk)
        clear hbk HDF HDO
        go_wp2_with fail
        refine wp_region_held_drew (S := fun W => W.cell? ⟨ab, ao + i * 6 + 5, none⟩ = some (.slice y.pA y.pn y.pc)) (by kernel_rfl) cP3 (fun hHeld => ?_)
        refine wpAnyH_take (i := 0) (v := ?_) rfl (by kernel_rfl) (by kernel_rfl) (by kernel_rfl) (fun _ _ _ h => h) (Or.inl ⟨by rfl, ?_⟩) hHeld ?_
        rotate_left
        · intro w hSw; have c5 := hSw; clear hSw; go_simp; try rfl
        simp only [List.getElem_toArray, List.getElem_cons_zero, Act.put, List.setIfInBounds_toArray, List.set_cons_zero, List.set_cons_succ]
        refine wpAnyH_ready (rs := [1]) (by kernel_rfl) (by simp) ?_
        refine AllReadyH.cons rfl (fun K hK => ?_) AllReadyH.nil
        rw [if_pos (by rfl)]
        go_simp
        refine (HDK.out w3.drew h3.drew').mono ?_
        rintro e w4 ⟨rfl, rfl⟩
        refine hK.out _ _ hHeld (fun hHeld => ?_)
        clear hK K
        refine wpAnyH_take (i := 2) (v := ?_) rfl (by kernel_rfl) (by kernel_rfl) (by kernel_rfl) (fun _ _ _ h => h) (Or.inl ⟨by rfl, ?_⟩) hHeld ?_
        rotate_left
        · intro w hSw; have c5 := hSw; clear hSw; go_simp; try rfl
        simp only [List.getElem_toArray, List.getElem_cons_zero, List.getElem_cons_succ, Act.put, List.setIfInBounds_toArray, List.set_cons_zero, List.set_cons_succ]
        refine wpAnyH_take (i := 3) (v := undef) rfl (by kernel_rfl) (by kernel_rfl) (by kernel_rfl) (fun _ _ _ h => h) (Or.inr ⟨by rfl, rfl⟩) hHeld ?_
        simp only [List.getElem_toArray, List.getElem_cons_zero, List.getElem_cons_succ, Act.put, List.setIfInBounds_toArray, List.set_cons_zero, List.set_cons_succ]
        refine wpAnyH_take (i := 4) (v := undef) rfl (by kernel_rfl) (by kernel_rfl) (by kernel_rfl) (fun _ _ _ h => h) (Or.inr ⟨by rfl, rfl⟩) hHeld ?_
        simp only [List.getElem_toArray, List.getElem_cons_zero, List.getElem_cons_succ, Act.put, List.setIfInBounds_toArray, List.set_cons_zero, List.set_cons_succ]
        refine wpAnyH_take (i := 5) (v := undef) rfl (by kernel_rfl) (by kernel_rfl) (by kernel_rfl) (fun _ _ _ h => h) (Or.inr ⟨by rfl, rfl⟩) hHeld ?_
        simp only [List.getElem_toArray, List.getElem_cons_zero, List.getElem_cons_succ, Act.put, List.setIfInBounds_toArray, List.set_cons_zero, List.set_cons_succ]
        refine wpAnyH_take (i := 6) (v := undef) rfl (by kernel_rfl) (by kernel_rfl) (by kernel_rfl) (fun _ _ _ h => h) (Or.inr ⟨by rfl, rfl⟩) hHeld ?_
        simp only [List.getElem_toArray, List.getElem_cons_zero, List.getElem_cons_succ, Act.put, List.setIfInBounds_toArray, List.set_cons_zero, List.set_cons_succ]
        refine wpAnyH_take (i := 7) (v := undef) rfl (by kernel_rfl) (by kernel_rfl) (by kernel_rfl) (fun _ _ _ h => h) (Or.inr ⟨by rfl, rfl⟩) hHeld ?_
        simp only [List.getElem_toArray, List.getElem_cons_zero, List.getElem_cons_succ, Act.put, List.setIfInBounds_toArray, List.set_cons_zero, List.set_cons_succ]
        refine wpAnyH_take (i := 8) (v := undef) rfl (by kernel_rfl) (by kernel_rfl) (by kernel_rfl) (fun _ _ _ h => h) (Or.inr ⟨by rfl, rfl⟩) hHeld ?_
        simp only [List.getElem_toArray, List.getElem_cons_zero, List.getElem_cons_succ, Act.put, List.setIfInBounds_toArray, List.set_cons_zero, List.set_cons_succ]
        refine wpAnyH_take (i := 9) (v := undef) rfl (by kernel_rfl) (by kernel_rfl) (by kernel_rfl) (fun _ _ _ h => h) (Or.inr ⟨by rfl, rfl⟩) hHeld ?_
        simp only [List.getElem_toArray, List.getElem_cons_zero, List.getElem_cons_succ, Act.put, List.setIfInBounds_toArray, List.set_cons_zero, List.set_cons_succ]
        refine wpAnyH_take (i := 10) (v := undef) rfl (by kernel_rfl) (by kernel_rfl) (by kernel_rfl) (fun _ _ _ h => h) (Or.inr ⟨by rfl, rfl⟩) hHeld ?_
        simp only [List.getElem_toArray, List.getElem_cons_zero, List.getElem_cons_succ, Act.put, List.setIfInBounds_toArray, List.set_cons_zero, List.set_cons_succ]
        refine wpAnyH_take (i := 11) (v := undef) rfl (by kernel_rfl) (by kernel_rfl) (by kernel_rfl) (fun _ _ _ h => h) (Or.inr ⟨by rfl, rfl⟩) hHeld ?_
        simp only [List.getElem_toArray, List.getElem_cons_zero, List.getElem_cons_succ, Act.put, List.setIfInBounds_toArray, List.set_cons_zero, List.set_cons_succ]
        refine wpAnyH_take (i := 12) (v := undef) rfl (by kernel_rfl) (by kernel_rfl) (by kernel_rfl) (fun _ _ _ h => h) (Or.inr ⟨by rfl, rfl⟩) hHeld ?_
        simp only [List.getElem_toArray, List.getElem_cons_zero, List.getElem_cons_succ, Act.put, List.setIfInBounds_toArray, List.set_cons_zero, List.set_cons_succ]
        refine wpAnyH_take (i := 13) (v := undef) rfl (by kernel_rfl) (by kernel_rfl) (by kernel_rfl) (fun _ _ _ h => h) (Or.inr ⟨by rfl, rfl⟩) hHeld ?_
        simp only [List.getElem_toArray, List.getElem_cons_zero, List.getElem_cons_succ, Act.put, List.setIfInBounds_toArray, List.set_cons_zero, List.set_cons_succ]
        refine wpAnyH_take (i := 14) (v := undef) rfl (by kernel_rfl) (by kernel_rfl) (by kernel_rfl) (fun _ _ _ h => h) (Or.inr ⟨by rfl, rfl⟩) hHeld ?_
        simp only [List.getElem_toArray, List.getElem_cons_zero, List.getElem_cons_succ, Act.put, List.setIfInBounds_toArray, List.set_cons_zero, List.set_cons_succ]
        refine wpAnyH_take (i := 15) (v := undef) rfl (by kernel_rfl) (by kernel_rfl) (by kernel_rfl) (fun _ _ _ h => h) (Or.inr ⟨by rfl, rfl⟩) hHeld ?_
        simp only [List.getElem_toArray, List.getElem_cons_zero, List.getElem_cons_succ, Act.put, List.setIfInBounds_toArray, List.set_cons_zero, List.set_cons_succ]
        refine wpAnyH_take (i := 16) (v := undef) rfl (by kernel_rfl) (by kernel_rfl) (by kernel_rfl) (fun _ _ _ h => h) (Or.inr ⟨by rfl, rfl⟩) hHeld ?_
        simp only [List.getElem_toArray, List.getElem_cons_zero, List.getElem_cons_succ, Act.put, List.setIfInBounds_toArray, List.set_cons_zero, List.set_cons_succ]
        refine wpAnyH_take (i := 17) (v := undef) rfl (by kernel_rfl) (by kernel_rfl) (by kernel_rfl) (fun _ _ _ h => h) (Or.inr ⟨by rfl, rfl⟩) hHeld ?_
        simp only [List.getElem_toArray, List.getElem_cons_zero, List.getElem_cons_succ, Act.put, List.setIfInBounds_toArray, List.set_cons_zero, List.set_cons_succ]
        refine wpAnyH_take (i := 18) (v := undef) rfl (by kernel_rfl) (by kernel_rfl) (by kernel_rfl) (fun _ _ _ h => h) (Or.inr ⟨by rfl, rfl⟩) hHeld ?_
        simp only [List.getElem_toArray, List.getElem_cons_zero, List.getElem_cons_succ, Act.put, List.setIfInBounds_toArray, List.set_cons_zero, List.set_cons_succ]
        refine wpAnyH_take (i := 19) (v := undef) rfl (by kernel_rfl) (by kernel_rfl) (by kernel_rfl) (fun _ _ _ h => h) (Or.inr ⟨by rfl, rfl⟩) hHeld ?_
        simp only [List.getElem_toArray, List.getElem_cons_zero, List.getElem_cons_succ, Act.put, List.setIfInBounds_toArray, List.set_cons_zero, List.set_cons_succ]
        refine wpAnyH_take (i := 20) (v := undef) rfl (by kernel_rfl) (by kernel_rfl) (by kernel_rfl) (fun _ _ _ h => h) (Or.inr ⟨by rfl, rfl⟩) hHeld ?_
        simp only [List.getElem_toArray, List.getElem_cons_zero, List.getElem_cons_succ, Act.put, List.setIfInBounds_toArray, List.set_cons_zero, List.set_cons_succ]
        refine wpAnyH_take (i := 21) (v := undef) rfl (by kernel_rfl) (by kernel_rfl) (by kernel_rfl) (fun _ _ _ h => h) (Or.inr ⟨by rfl, rfl⟩) hHeld ?_
        simp only [List.getElem_toArray, List.getElem_cons_zero, List.getElem_cons_succ, Act.put, List.setIfInBounds_toArray, List.set_cons_zero, List.set_cons_succ]
        refine wpAnyH_take (i := 22) (v := undef) rfl (by kernel_rfl) (by kernel_rfl) (by kernel_rfl) (fun _ _ _ h => h) (Or.inr ⟨by rfl, rfl⟩) hHeld ?_
        simp only [List.getElem_toArray, List.getElem_cons_zero, List.getElem_cons_succ, Act.put, List.setIfInBounds_toArray, List.set_cons_zero, List.set_cons_succ]
        refine wpAnyH_take (i := 23) (v := ?_) rfl (by kernel_rfl) (by kernel_rfl) (by kernel_rfl) (fun _ _ _ h => h) (Or.inl ⟨by rfl, ?_⟩) hHeld ?_
        rotate_left
        · intro w hSw; have c5 := hSw; clear hSw; go_simp; try rfl
        simp only [List.getElem_toArray, List.getElem_cons_zero, List.getElem_cons_succ, Act.put, List.setIfInBounds_toArray, List.set_cons_zero, List.set_cons_succ]
        refine wpAnyH_done (by kernel_rfl) ?_ _
        clear hHeld HDK HDR cP3
        go_wp2_with fail
        refine (HAL.out _ h3.drew').mono ?_
        rintro e w6 ⟨rfl, b6⟩
        have h6 := h3.drew'.below b6
        clear h3 h4 HAL b6
        go_wp2_with fail
        go_roundw
        case rel => exact ⟨i + 1, s1, b1, jv4, kv4, F4, G4, by go_num, by omega, by omega, h6, HP1.out⟩
        case measure => simp [intOf]; omega
      | true =>
        rw [hbk] at HDK HDR
        have HBK := Lib.hid hbk
        clear hbk HDF
        go_wp2_with fail
        refine wp_region_held_drew (S := fun W => W.cell? ⟨ab, ao + i * 6 + 5, none⟩ = some (.slice y.pA y.pn y.pc)) (by kernel_rfl) cP3 (fun hHeld => ?_)
        refine wpAnyH_take (i := 0) (v := ?_) rfl (by kernel_rfl) (by kernel_rfl) (by kernel_rfl) (fun _ _ _ h => h) (Or.inl ⟨by rfl, ?_⟩) hHeld ?_
        rotate_left
        · intro w hSw; have c5 := hSw; clear hSw; go_simp; try rfl
        simp only [List.getElem_toArray, List.getElem_cons_zero, Act.put, List.setIfInBounds_toArray, List.set_cons_zero, List.set_cons_succ]
        refine wpAnyH_ready (rs := [1]) (by kernel_rfl) (by simp) ?_
        refine AllReadyH.cons rfl (fun K hK => ?_) AllReadyH.nil
        rw [if_pos (by rfl)]
        go_simp
        refine (HDK.out w3.drew h3.drew').mono ?_
        rintro e w4 ⟨rfl, rfl⟩
        refine hK.out _ _ hHeld (fun hHeld => ?_)
        clear hK K
        refine wpAnyH_take (i := 2) (v := ?_) rfl (by kernel_rfl) (by kernel_rfl) (by kernel_rfl) (fun _ _ _ h => h) (Or.inl ⟨by rfl, ?_⟩) hHeld ?_
        rotate_left
        · intro w hSw; have c5 := hSw; clear hSw; go_simp; try rfl
        simp only [List.getElem_toArray, List.getElem_cons_zero, List.getElem_cons_succ, Act.put, List.setIfInBounds_toArray, List.set_cons_zero, List.set_cons_succ]
        refine wpAnyH_take (i := 3) (v := ?_) rfl (by kernel_rfl) (by kernel_rfl) (by kernel_rfl) (fun _ _ _ h => h) (Or.inl ⟨by rfl, ?_⟩) hHeld ?_
        rotate_left
        · intro w hSw; have c5 := hSw; clear hSw; go_simp; try rfl
        simp only [List.getElem_toArray, List.getElem_cons_zero, List.getElem_cons_succ, Act.put, List.setIfInBounds_toArray, List.set_cons_zero, List.set_cons_succ]
        refine wpAnyH_take (i := 4) (v := ?_) rfl (by kernel_rfl) (by kernel_rfl) (by kernel_rfl) (fun _ _ _ h => h) (Or.inl ⟨by rfl, ?_⟩) hHeld ?_
        rotate_left
        · intro w hSw; have c5 := hSw; clear hSw; go_simp; try rfl
        simp only [List.getElem_toArray, List.getElem_cons_zero, List.getElem_cons_succ, Act.put, List.setIfInBounds_toArray, List.set_cons_zero, List.set_cons_succ]
        refine wpAnyH_take (i := 5) (v := ?_) rfl (by kernel_rfl) (by kernel_rfl) (by kernel_rfl) (fun _ _ _ h => h) (Or.inl ⟨by rfl, ?_⟩) hHeld ?_
        rotate_left
        · intro w hSw; have c5 := hSw; clear hSw; go_simp; try rfl
        simp only [List.getElem_toArray, List.getElem_cons_zero, List.getElem_cons_succ, Act.put, List.setIfInBounds_toArray, List.set_cons_zero, List.set_cons_succ]
        refine wpAnyH_take (i := 6) (v := ?_) rfl (by kernel_rfl) (by kernel_rfl) (by kernel_rfl) (fun _ _ _ h => h) (Or.inl ⟨by rfl, ?_⟩) hHeld ?_
        rotate_left
        · intro w hSw; have c5 := hSw; clear hSw; go_simp; try rfl
        simp only [List.getElem_toArray, List.getElem_cons_zero, List.getElem_cons_succ, Act.put, List.setIfInBounds_toArray, List.set_cons_zero, List.set_cons_succ]
        refine wpAnyH_take (i := 7) (v := ?_) rfl (by kernel_rfl) (by kernel_rfl) (by kernel_rfl) (fun _ _ _ h => h) (Or.inl ⟨by rfl, ?_⟩) hHeld ?_
        rotate_left
        · intro w hSw; have c5 := hSw; clear hSw; go_simp; try rfl
        simp only [List.getElem_toArray, List.getElem_cons_zero, List.getElem_cons_succ, Act.put, List.setIfInBounds_toArray, List.set_cons_zero, List.set_cons_succ]
        refine wpAnyH_take (i := 8) (v := ?_) rfl (by kernel_rfl) (by kernel_rfl) (by kernel_rfl) (fun _ _ _ h => h) (Or.inl ⟨by rfl, ?_⟩) hHeld ?_
        rotate_left
        · intro w hSw; have c5 := hSw; clear hSw; go_simp; try rfl
        simp only [List.getElem_toArray, List.getElem_cons_zero, List.getElem_cons_succ, Act.put, List.setIfInBounds_toArray, List.set_cons_zero, List.set_cons_succ]
        refine wpAnyH_take (i := 10) (v := ?_) rfl (by kernel_rfl) (by kernel_rfl) (by kernel_rfl) (fun _ _ _ h => h) (Or.inl ⟨by rfl, ?_⟩) hHeld ?_
        rotate_left
        · intro w hSw; have c5 := hSw; clear hSw; go_simp; try rfl
        simp only [List.getElem_toArray, List.getElem_cons_zero, List.getElem_cons_succ, Act.put, List.setIfInBounds_toArray, List.set_cons_zero, List.set_cons_succ]
        refine wpAnyH_take (i := 11) (v := ?_) rfl (by kernel_rfl) (by kernel_rfl) (by kernel_rfl) (fun _ _ _ h => h) (Or.inl ⟨by rfl, ?_⟩) hHeld ?_
        rotate_left
        · intro w hSw; have c5 := hSw; clear hSw; go_simp; try rfl
        simp only [List.getElem_toArray, List.getElem_cons_zero, List.getElem_cons_succ, Act.put, List.setIfInBounds_toArray, List.set_cons_zero, List.set_cons_succ]
        refine wpAnyH_take (i := 12) (v := ?_) rfl (by kernel_rfl) (by kernel_rfl) (by kernel_rfl) (fun _ _ _ h => h) (Or.inl ⟨by rfl, ?_⟩) hHeld ?_
        rotate_left
        · intro w hSw; have c5 := hSw; clear hSw; go_simp; try rfl
        simp only [List.getElem_toArray, List.getElem_cons_zero, List.getElem_cons_succ, Act.put, List.setIfInBounds_toArray, List.set_cons_zero, List.set_cons_succ]
        refine wpAnyH_take (i := 13) (v := ?_) rfl (by kernel_rfl) (by kernel_rfl) (by kernel_rfl) (fun _ _ _ h => h) (Or.inl ⟨by rfl, ?_⟩) hHeld ?_
        rotate_left
        · intro w hSw; have c5 := hSw; clear hSw; go_simp; try rfl
        simp only [List.getElem_toArray, List.getElem_cons_zero, List.getElem_cons_succ, Act.put, List.setIfInBounds_toArray, List.set_cons_zero, List.set_cons_succ]
        refine wpAnyH_take (i := 14) (v := ?_) rfl (by kernel_rfl) (by kernel_rfl) (by kernel_rfl) (fun _ _ _ h => h) (Or.inl ⟨by rfl, ?_⟩) hHeld ?_
        rotate_left
        · intro w hSw; have c5 := hSw; clear hSw; go_simp; try rfl
        simp only [List.getElem_toArray, List.getElem_cons_zero, List.getElem_cons_succ, Act.put, List.setIfInBounds_toArray, List.set_cons_zero, List.set_cons_succ]
        refine wpAnyH_take (i := 15) (v := ?_) rfl (by kernel_rfl) (by kernel_rfl) (by kernel_rfl) (fun _ _ _ h => h) (Or.inl ⟨by rfl, ?_⟩) hHeld ?_
        rotate_left
        · intro w hSw; have c5 := hSw; clear hSw; go_simp; try rfl
        simp only [List.getElem_toArray, List.getElem_cons_zero, List.getElem_cons_succ, Act.put, List.setIfInBounds_toArray, List.set_cons_zero, List.set_cons_succ]
        refine wpAnyH_ready (rs := [9]) (by kernel_rfl) (by simp) ?_
        refine AllReadyH.cons rfl (fun K hK => ?_) AllReadyH.nil
        rw [if_pos (by rfl)]
        go_simp
        refine (prog_crash h3.drew' y.pA y.pn y.pc y.pl (hyok.p.chg (Chg.of_below h3.drew'.under []) (by simp)) hyp).mono ?_
        rintro e w5 ⟨F5, rfl, hc5, hs5, ht5, hdf5⟩
        have q5 := (h3.drew'.under.trans_chg hc5 h3.ownF)
        have cP5 := (q5.cell (p := ⟨ab, ao + i * 6 + 5, none⟩) habl).trans cP
        refine hK.out _ _ cP5 (fun hHeld => ?_)
        clear hK K
        have hr5 := desk_mid h3.drew' hc5
        refine wpAnyH_ready (rs := [16]) (by kernel_rfl) (by simp) ?_
        refine AllReadyH.cons rfl (fun K hK => ?_) AllReadyH.nil
        rw [if_pos (by rfl)]
        go_simp
        refine (rd_crash y.pA y.pn y.pc y.pl (hyok.p.chg (Chg.of_below q5 []) (by simp)) (fun h0 x o e hm => by have := hyp h0 x o e; have := h3.ownG x hm; omega) hr5).mono ?_
        rintro e w6 ⟨G6, rfl, hr6, hc6, hs6⟩
        have h6 := desk_step (b' := none) h3.drew' hc5 hs5 ht5 hdf5 (fun e => by cases e) (.inr rfl) hc6 hs6 hr6
        have cP6 := (h6.under.cell (p := ⟨ab, ao + i * 6 + 5, none⟩) habl).trans cP
        refine hK.out _ _ cP6 (fun hHeld => ?_)
        clear hK K
        refine wpAnyH_take (i := 17) (v := ?_) rfl (by kernel_rfl) (by kernel_rfl) (by kernel_rfl) (fun _ _ _ h => h) (Or.inl ⟨by rfl, ?_⟩) hHeld ?_
        rotate_left
        · intro w hSw; have c5 := hSw; clear hSw; go_simp; try rfl
        simp only [List.getElem_toArray, List.getElem_cons_zero, List.getElem_cons_succ, Act.put, List.setIfInBounds_toArray, List.set_cons_zero, List.set_cons_succ]
        refine wpAnyH_take (i := 18) (v := ?_) rfl (by kernel_rfl) (by kernel_rfl) (by kernel_rfl) (fun _ _ _ h => h) (Or.inl ⟨by rfl, ?_⟩) hHeld ?_
        rotate_left
        · intro w hSw; have c5 := hSw; clear hSw; go_simp; try rfl
        simp only [List.getElem_toArray, List.getElem_cons_zero, List.getElem_cons_succ, Act.put, List.setIfInBounds_toArray, List.set_cons_zero, List.set_cons_succ]
        refine wpAnyH_take (i := 19) (v := ?_) rfl (by kernel_rfl) (by kernel_rfl) (by kernel_rfl) (fun _ _ _ h => h) (Or.inl ⟨by rfl, ?_⟩) hHeld ?_
        rotate_left
        · intro w hSw; have c5 := hSw; clear hSw; go_simp; try rfl
        simp only [List.getElem_toArray, List.getElem_cons_zero, List.getElem_cons_succ, Act.put, List.setIfInBounds_toArray, List.set_cons_zero, List.set_cons_succ]
        refine wpAnyH_ready (rs := [20]) (by kernel_rfl) (by simp) ?_
        refine AllReadyH.cons rfl (fun K hK => ?_) AllReadyH.nil
        rw [if_pos (by rfl)]
        go_simp
        refine (desk_open h6 ht).mono ?_
        rintro e w7 ⟨F7, jv7, kv7, rfl, h7, -⟩
        have cP7 := (h7.under.cell (p := ⟨ab, ao + i * 6 + 5, none⟩) habl).trans cP
        refine hK.out _ _ cP7 (fun hHeld => ?_)
        clear hK K
        refine wpAnyH_take (i := 21) (v := ?_) rfl (by kernel_rfl) (by kernel_rfl) (by kernel_rfl) (fun _ _ _ h => h) (Or.inl ⟨by rfl, ?_⟩) hHeld ?_
        rotate_left
        · intro w hSw; have c5 := hSw; clear hSw; go_simp; try rfl
        simp only [List.getElem_toArray, List.getElem_cons_zero, List.getElem_cons_succ, Act.put, List.setIfInBounds_toArray, List.set_cons_zero, List.set_cons_succ]
        refine wpAnyH_take (i := 22) (v := ?_) rfl (by kernel_rfl) (by kernel_rfl) (by kernel_rfl) (fun _ _ _ h => h) (Or.inl ⟨by rfl, ?_⟩) hHeld ?_
        rotate_left
        · intro w hSw; have c5 := hSw; clear hSw; go_simp; try rfl
        simp only [List.getElem_toArray, List.getElem_cons_zero, List.getElem_cons_succ, Act.put, List.setIfInBounds_toArray, List.set_cons_zero, List.set_cons_succ]
        refine wpAnyH_take (i := 23) (v := ?_) rfl (by kernel_rfl) (by kernel_rfl) (by kernel_rfl) (fun _ _ _ h => h) (Or.inl ⟨by rfl, ?_⟩) hHeld ?_
        rotate_left
        · intro w hSw; have c5 := hSw; clear hSw; go_simp; try rfl
        simp only [List.getElem_toArray, List.getElem_cons_zero, List.getElem_cons_succ, Act.put, List.setIfInBounds_toArray, List.set_cons_zero, List.set_cons_succ]
        refine wpAnyH_done (by kernel_rfl) ?_ _
        have hpi := jn.PI.back HDO.out.1 HDO.out.2.1 HDO.out.2.2.1 y.pl
        have HPI := Lib.hid hpi
        have HAL := Lib.hid (desk_alike h7 hpi.light)
        clear hpi hHeld HDK HDR cP3 HDO hc5 hs5 ht5 hdf5 q5 cP5 hr5 hr6 hc6 hs6 h6 cP6 cP7 h3 h4 HBK
        go_wp2_with fail
        refine HAL.out.mono ?_
        rintro e w8 ⟨rfl, b8⟩
        have h8 := h7.below b8
        clear h7 HAL b8
        go_wp2_with fail
        go_roundw
        case rel => exact ⟨i + 1, _, _, jv7, kv7, F7, G6, by go_num, by omega, by omega, h8, HPI.out⟩
        case measure => simp [intOf]; omega
    · have hPi := HP.out
      have hlen := hPi.len
      have hmany := hPi.many
      have hcs : (i < n ∧ ¬ i < 30) ∨ ¬ i < n := by omega
      clear hlt hPi
      have hS128 : ∀ j : Nat, (dk.sure s (j : Int)).1.length = 128 := fun j => by
        unfold dk.sure
        split
        · exact zero_len
        · exact dk.getD_len h.ok.lenS _
      rcases hcs with ⟨hc1, hc2⟩ | hc1
      all_goals
        go_wp2_with fail
        have HH := Lib.hid h
        have HW := Lib.hid (fun W (hW : DK w W D p q F G jv kv s (some b)) (j : Nat) => hW.df.elim fun Fd hd => cd_sure (j : Int) hd.1.cd)
        have HR := Lib.hid (fun W (hW : DK w W D p q F G jv kv s (some b)) (j : Nat) => rd_sure (j : Int) hW.rd)
        have HSC := Lib.hid (fun W (hW : DK w W D p q F G jv kv s (some b)) => hW.df.elim fun Fd hd => cd_steps hd.1.cd)
        have HSR := Lib.hid (fun W (hW : DK w W D p q F G jv kv s (some b)) => rd_steps hW.rd)
        clear h HP hA hl hcap hmax hlen hmany hin hi30 hc1
        try clear hc2
        go_loopw [12] (fun t wx => ∃ j : Nat, t = .int .i64 j ∧ j ≤ m ∧ DK w wx D p q F G jv kv s (some b)) (fun t _ => m - (intOf t).toNat)
        case' atStart => exact ⟨0, rfl, by omega, HH.out⟩
        case' round =>
          obtain ⟨j, rfl, hjm, hx⟩ := hrel
          by_cases hj : j < m
          · have hB := hS128 j
            have H1 := Lib.hid (HW.out wr hx j)
            have H2 := Lib.hid (fun W hW => HR.out W hW j)
            obtain ⟨B, hBe⟩ : ∃ B, (dk.sure s (j : Int)).1 = B := ⟨_, rfl⟩
            obtain ⟨f, hfe⟩ : ∃ f, (dk.sure s (j : Int)).2 = f := ⟨_, rfl⟩
            rw [hBe] at hB H1 H2
            rw [hfe] at H1 H2
            have hE := eq_blk B B hB hB
            rw [decide_eq_true rfl] at hE
            clear hBe hfe
            go_wp2_with fail
            refine H1.out.mono ?_
            rintro e w6 ⟨rfl, b6⟩
            have h6 := hx.below b6
            have n6 := heap_alloc_new w6 (.cells (dk.cells dk.zero).toArray 43)
            obtain ⟨X1, hX1⟩ : ∃ X, w6.heap.size = X := ⟨_, rfl⟩
            rw [hX1] at n6
            obtain ⟨hzb, -⟩ := zero_of_info zero_blk
            clear hx H1 b6
            go_wp2_with (refine wp_st0 (.tmp 13) (.tmp 100) B n6 zero_len hB rfl rfl rfl rfl ?_; intro w7 W7 hc7; rw [← hX1] at hc7; have b7 := new_chg hc7; have h7 := h6.below b7)
            refine (H2.out w7 h7).mono ?_
            rintro e w8 ⟨rfl, b8⟩
            have h8 := h7.below b8
            have W8 := (b8.block X1 (Array.getElem?_eq_some_iff.1 W7).1).trans W7
            have n8 := heap_alloc_new w8 (.cells (dk.cells dk.zero).toArray 43)
            obtain ⟨X2, hX2⟩ : ∃ X, w8.heap.size = X := ⟨_, rfl⟩
            rw [hX2] at n8
            clear h6 n6 W7 hc7 b7 h7 b8 H2 hX1
            go_wp2_with (first
              | (refine wp_st0 (.tmp 15) (.tmp 106) B n8 zero_len hB rfl rfl rfl rfl ?_; intro w9 W9 hc9; rw [← hX2] at hc9; have b9 := new_chg hc9; have h9 := h8.below b9; have g9 := blk_range W9; have g8 := blk_range ((b9.block X1 (Array.getElem?_eq_some_iff.1 W8).1).trans W8))
              | refine wp_ld (.tmp 13) B g8 hB rfl rfl rfl ?_
              | refine wp_ld (.tmp 15) B g9 hB rfl rfl rfl ?_)
            clear n8 W8 hc9 b9 h8 W9 g8 g9 hE hX2
            go_roundw
            case rel => exact ⟨j + 1, by go_num, by omega, h9⟩
            case measure => simp [intOf]; omega
          · go_wp2_with fail
            refine (HSC.out wr hx).mono ?_
            rintro e w6 ⟨rfl, rfl⟩
            go_wp2_with fail
            refine (HSR.out wr hx).mono ?_
            rintro e w6 ⟨rfl, rfl⟩
            go_wp2_with fail
            refine (HLV.out _ (ht.below hx.under)).mono ?_
            rintro e w6 ⟨rfl, b6⟩
            have hb := hx.under.trans (b6.mono hx.under.size)
            clear hx b6
            go_wp2_with fail
            go_ret
            exact ⟨rfl, hb⟩
end Go.Proofs.YtknndmhkfonfmaaGreatDoor

/-
  the tables that a row lists (crc's of four bits; head's of sizes, where there is one): what the row's list gives, and a world for the witness.
-/
namespace Go.Proofs.YtknndmhkfonfmaaGreatDoor.laid
open Go.ChangeShapes Go.WideShapes Go.ChangeAt Go.RowKit

theorem four : Tryz.prog.globalNamed "cardex/crc.fourOn" = some 1 := by kernel_rfl
theorem fourType : (Tryz.prog.globals[1]?).map (·.type) = some 155 := by kernel_rfl
theorem fourCells : Tryz.prog.cellsOf 155 = 16 := by kernel_rfl
theorem wordCells : Tryz.prog.cellsOf 51 = 1 := by kernel_rfl
def words : List Int := [0, 274646895, 549293790, 820201905, 1098587580, 1361435347, 1640403810, 1905808397, 2197175160, 2460548119, 2722870694, 2987750089, 3280807620, 3553878443, 3811616794, 4084100981]
theorem words_on : ∀ i : Fin 16, words.getD i.val 0 = ((crc.on 4 (BitVec.ofNat 32 i.val)).toNat : Int) := by decide +kernel
/-- a variable that is listed, wherever it stands on the list, reads as its datum -/
theorem reads_of {P : Program} {w : World} : ∀ {l : List (String × DataW Unit)} {ps : List MemPlace}, DataW.LaidVars P w l ps → ∀ n d, (n, d) ∈ l →
    ∃ g t cs fuel p, P.globalNamed n = some g ∧ (P.globals[g]?).map (·.type) = some t ∧ w.var? P n = some cs ∧ DataW.trod (fun _ => ()) P w 0 (fun _ => true) false fuel t cs.toList = some (d, p)
  | [], _, _, _, _, hm => by cases hm
  | (n', d') :: r, ps, h, n, d, hm => by
    obtain ⟨g, t, cs, fuel, p, q, h1, h2, h3, h4, h5, _⟩ := h
    rcases List.mem_cons.1 hm with e | e
    · cases e
      exact ⟨g, t, cs, fuel, p, h1, h2, h3, h4⟩
    · exact reads_of h5 n d e
theorem tab_of {P : Program} {W : World} {l : List (String × DataW Unit)} {name : String} {k : IntKind} {zs : List Int} {g : Nat} {t e : TypeId} {n : Nat}
    (hg : P.globalNamed name = some g) (hty : (P.globals[g]?).map (·.type) = some t) (ht : P.underlying t = some (.array n e)) (he : P.underlying e = some (.int k)) (hce : P.cellsOf e = 1) (hct : P.cellsOf t = n)
    (h : laidMet P l W) (hm : (name, Lib.tabData k zs) ∈ l) : Lib.TabIs P W name k zs := by
  obtain ⟨ps, hv, _⟩ := h
  obtain ⟨g', t', cs, fuel, p, hg', ht', hvar, hd⟩ := reads_of hv _ _ hm
  obtain rfl := Option.some.inj (hg.symm.trans hg')
  obtain rfl := Option.some.inj (hty.symm.trans ht')
  unfold Lib.TabIs
  rw [hvar, ← Lib.cells_of_tab ht he hce hct hd]
theorem tab1 {W : World} {l : List (String × DataW Unit)} (h : laidMet Tryz.prog l W) (hm : ("cardex/crc.fourOn", Lib.tabData .u32 words) ∈ l) : Tab W := by
  have ht : Lib.TabIs Tryz.prog W "cardex/crc.fourOn" .u32 words :=
    tab_of four fourType Tryz.underlying155 Tryz.underlying51 wordCells fourCells h hm
  have hc : ∀ i, i < 16 → W.cell? ⟨1, i, none⟩ = some (wv (crc.on 4 (BitVec.ofNat 32 i))) := fun i hi => by
    rw [ht.cell four i (by simpa [words] using hi)]
    have := words_on ⟨i, hi⟩
    simp only at this
    rw [this]
  exact ⟨World.block_lt_of_cell? _ _ (hc 0 (by omega)), hc⟩
theorem siz : Tryz.prog.globalNamed "cardex/head.sizes" = some 0 := by kernel_rfl
theorem sizType : (Tryz.prog.globals[0]?).map (·.type) = some 148 := by kernel_rfl
theorem sizCells : Tryz.prog.cellsOf 148 = 3 := by kernel_rfl
theorem intCells : Tryz.prog.cellsOf 3 = 1 := by kernel_rfl
def sizes : List Int := [1, 4, 4]
theorem tab2 {W : World} {l : List (String × DataW Unit)} (h : laidMet Tryz.prog l W) (hm : ("cardex/head.sizes", Lib.tabData .i64 sizes) ∈ l) : Siz W := by
  have ht : Lib.TabIs Tryz.prog W "cardex/head.sizes" .i64 sizes :=
    tab_of siz sizType Tryz.underlying148 Tryz.underlying3 intCells sizCells h hm
  have h0 := ht.cell siz 0 (by simp [sizes])
  exact ⟨World.block_lt_of_cell? _ _ h0, h0, ht.cell siz 1 (by simp [sizes]), ht.cell siz 2 (by simp [sizes])⟩
def listed : List (String × DataW Unit) := [("cardex/crc.fourOn", Rows.laid_cardex_crc_fourOn), ("cardex/head.sizes", Rows.laid_cardex_head_sizes)]
theorem tab {W : World} (h : laidMetH Tryz.prog listed W) : Tabs W := ⟨tab1 (l := listed) h (.head _), tab2 (l := listed) h (.tail _ (.head _))⟩
/-- a world for the witness: the settled one, with the tables as their initialisers lay them -/
def lay (vs : List Value) : Obj → Obj
  | .cells _ t frozen => .cells vs.toArray t frozen
  | o => o
noncomputable def world (os : Os) : World :=
  { World.holding Tryz.prog os ⟨#[], #[], []⟩ with heap := ((World.holding Tryz.prog os ⟨#[], #[], []⟩).heap.modify 1 (lay (words.map fun z => Value.int .u32 z))).modify 0 (lay (sizes.map fun z => Value.int .i64 z)) }
end Go.Proofs.YtknndmhkfonfmaaGreatDoor.laid
