/-
  cardexlaw03's walk: CrcSide.
-/
import Derived.Test.YtjlkhemdahahpaaDoorLaw03
import Derived.StillTailTactics
import Derived.DeepKeys
namespace Go.Proofs.YtjlkhemdahahpaaDoor
open Go.RowKit

theorem cells_u8 : Tryd.prog.cellsOf 5 = 1 := by kernel_rfl
theorem cells_4 : Tryd.prog.cellsOf 36 = 4 := by kernel_rfl
theorem wf_u8 (x : UInt8) : (Lit.int .u8 (x.toNat : Int)).wf = true := by
  have := x.toNat_lt
  simp [Lit.wf, IntKind.min, IntKind.max, IntKind.signed, IntKind.bits]
  omega
theorem lits4 (a b c d : UInt8) : Tryd.prog.keyLits 2 36 (Value.agg #[bv a, bv b, bv c, bv d]).cells.toList = some [.int .u8 a.toNat, .int .u8 b.toNat, .int .u8 c.toNat, .int .u8 d.toNat] := by
  have r4 : List.range 4 = [0, 1, 2, 3] := rfl
  unfold Program.keyLits
  rw [Tryd.underlying36]
  simp [cells_4, cells_u8, r4, Value.cells, Program.keyLits, Tryd.underlying5, wf_u8]
theorem eq4 (p0 p1 p2 p3 q0 q1 q2 q3 : UInt8) (W : World) : (Op.equalIn 10000 36 (.agg #[bv p0, bv p1, bv p2, bv p3]) (.agg #[bv q0, bv q1, bv q2, bv q3])).run Tryd.prog W = .ok (decide ([p0, p1, p2, p3] = [q0, q1, q2, q3])) W := by
  obtain ⟨r, hr, hiff⟩ := run_equalIn_deep (P := Tryd.prog) 9998 2 36 (by kernel_rfl) W 2 2 _ _ _ _ (by rfl) (by rfl) (lits4 p0 p1 p2 p3) (lits4 q0 q1 q2 q3)
  refine hr.trans ?_
  congr 1
  rw [Bool.eq_iff_iff, hiff, decide_eq_true_iff]
  simp only [List.cons.injEq, Lit.int.injEq, true_and, and_true, Int.natCast_inj, UInt8.toNat_inj]

/-- what stands in two blocks that the call has laid first: four bytes each -/
structure Side (w W : World) (p q : List UInt8) : Prop where
  b : Below w.heap.size w W
  size : w.heap.size + 2 ≤ W.heap.size
  hP : W.heap[w.heap.size]? = some (.cells ((p.map bv).toArray) 36 (0, 0))
  hQ : W.heap[w.heap.size + 1]? = some (.cells ((q.map bv).toArray) 36 (0, 0))
theorem bs_of_block {W : World} {g : Nat} {e : TypeId} {p : List UInt8} {fr : Nat × Nat} (h : W.heap[g]? = some (.cells ((p.map bv).toArray) e fr)) (n : Nat) (hn : n = p.length) (hs : n ≤ 281474976710656) : BS W (some ⟨g, 0, none⟩) n n p := by
  subst hn
  refine ⟨rfl, Nat.le_refl _, by omega, hs, fun _ => ⟨_, _, rfl, (Array.getElem?_eq_some_iff.1 h).1, fun i hi => ?_⟩⟩
  rw [Nat.zero_add, cell_of_row _ _ i _ e fr h]
  simp [hi]
theorem Side.grow {w W W' : World} {p q : List UInt8} {row : Option Nat} (h : Side w W p q) (hg : W.grownBy W' row) (hr : ∀ k, row = some k → w.heap.size + 2 ≤ k) : Side w W' p q :=
  ⟨⟨hg.os.trans h.b.os, hg.tape.trans h.b.tape, hg.output.trans h.b.output, Nat.le_trans h.b.size hg.size, fun k hk => by
      rw [hg.block k (by have := h.size; omega) (fun e => by have := hr k e.symm; omega)]
      exact h.b.block k hk⟩,
    Nat.le_trans h.size hg.size,
    by rw [hg.block _ (by have := h.size; omega) (fun e => by have := hr _ e.symm; omega)]; exact h.hP,
    by rw [hg.block _ (by have := h.size; omega) (fun e => by have := hr _ e.symm; omega)]; exact h.hQ⟩
theorem Side.start (w : World) (p q : List UInt8) : Side w ((w.alloc (.cells ((p.map bv).toArray) 36)).alloc (.cells ((q.map bv).toArray) 36)) p q :=
  ⟨((Below.refl _ _).alloc (Nat.le_refl _) _).alloc (by simp) _, by simp,
    by
      rw [Below.heap_alloc _ _ _ (by simp)]
      exact heap_alloc_new w _,
    by
      have := heap_alloc_new (w.alloc (.cells ((p.map bv).toArray) 36)) (.cells ((q.map bv).toArray) 36)
      simpa using this⟩

/-- the one's row is none, or another one than the other's -/
def Apart (a b : Value) : Prop := a.ownBlock = none ∨ a.ownBlock ≠ b.ownBlock
theorem apart_step {e : TypeId} {W : World} {base : Nat} {a b b' : Value} {l : List UInt8} (ho : OwnB e W base a l) (h : Apart a b) (hb : b'.ownBlock = b.ownBlock ∨ b'.ownBlock = some W.heap.size) : Apart a b' := by
  rcases h with h | h
  · exact .inl h
  · rcases hb with hb | hb
    · exact .inr (by rw [hb]; exact h)
    · cases hk : a.ownBlock with
      | none => exact .inl hk
      | some k =>
        have := (ho.lt k hk).2
        refine .inr ?_
        rw [hk, hb]
        intro e2
        injection e2 with e2
        omega

theorem keep_apart {e : TypeId} {W W' : World} {base : Nat} {a b b' : Value} {l : List UInt8} (ho : OwnB e W base a l) (h : Apart a b) (hg : W.grownBy W' b.ownBlock) (hb : b'.ownBlock = b.ownBlock ∨ b'.ownBlock = some W.heap.size) : OwnB e W' base a l ∧ Apart a b' :=
  ⟨ho.kept hg h, apart_step ho h hb⟩
theorem apart_nil (a : Value) : Apart a (.slice none 0 0) := by
  unfold Apart
  cases a.ownBlock with
  | none => exact .inl rfl
  | some k => exact .inr (fun e => by cases e)
theorem OwnB.row_ {e : TypeId} {w : World} {base : Nat} {v : Value} {l : List UInt8} (h : OwnB e w base v l) : ∀ k, v.ownBlock = some k → base ≤ k := fun k hk => (h.lt k hk).1

set_option maxHeartbeats 4000000 in
set_option maxRecDepth 100000 in
theorem walk_CrcSide (A1 : Option Addr) (n1 c1 : Nat) (l1 : List UInt8) (A2 : Option Addr) (n2 c2 : Nat) (l2 : List UInt8) (p0 p1 p2 p3 q0 q1 q2 q3 : UInt8) (w : World) (h1 : BS w A1 n1 c1 l1) (hn1 : n1 ≤ 1048576) (h2 : BS w A2 n2 c2 l2) (hn2 : n2 ≤ 1048576) (ht : Tab w) :
    Calls Tryd.prog 6 #[.slice A1 n1 c1, .slice A2 n2 c2, .agg #[bv p0, bv p1, bv p2, bv p3], .agg #[bv q0, bv q1, bv q2, bv q3]] w fun e w' => e = .returned (.bool true) ∧ Below w.heap.size w w' := by
  obtain ⟨i0, hi, hz0, hz1, hz2⟩ := info_parts info_u8
  have hl1 := h1.len
  have hl2 := h2.len
  have L1 := Lib.hid hl1
  have L2 := Lib.hid hl2
  clear hl1 hl2
  have S0 := Side.start w [p0, p1, p2, p3] [q0, q1, q2, q3]
  go_enter Tryd.func6, Tryd.ntmps6
  go_wp2_with (at_builtin; first
    | (refine wpList_append_bytes _ rfl (.tmp 11) (.tmp 12) 23 rfl 5 i0 Tryd.underlying23 hi hz0 hz1 hz2 (w.heap.size + 2) (.slice none 0 0) ([]) rfl (OwnB.nil_ _ _ _) A1 n1 c1 l1 rfl (h1.below S0.b) (by have := L1.out; have := L2.out; simp; omega) S0.size ?_; intro v1 w1 ho1 hg1 hr1 hq1; have S1 := S0.grow hg1 (fun k hk => by cases hk); clear hg1 hr1 hq1 S0)
    | (refine wpList_append_bytes _ rfl (.tmp 14) (.tmp 15) 23 rfl 5 i0 Tryd.underlying23 hi hz0 hz1 hz2 (w.heap.size + 2) v1 ([] ++ l1) rfl ho1 _ _ _ _ rfl (bs_of_block S1.hP 4 rfl (by omega)) (by have := L1.out; have := L2.out; simp; omega) S1.size ?_; intro v2 w2 ho2 hg2 hr2 hq2; have S2 := S1.grow hg2 ho1.row_; clear hg2 hr2 hq2 S1 ho1)
    | (refine wpList_append_bytes _ rfl (.tmp 17) (.tmp 18) 23 rfl 5 i0 Tryd.underlying23 hi hz0 hz1 hz2 (w.heap.size + 2) v2 ([] ++ l1 ++ [p0, p1, p2, p3]) rfl ho2 A2 n2 c2 l2 rfl (h2.below S2.b) (by have := L1.out; have := L2.out; simp; omega) S2.size ?_; intro v3 w3 ho3 hg3 hr3 hq3; have S3 := S2.grow hg3 ho2.row_; clear hg3 hr3 hq3 S2 ho2)
    | (refine wpList_append_bytes _ rfl (.tmp 20) (.tmp 21) 23 rfl 5 i0 Tryd.underlying23 hi hz0 hz1 hz2 (w.heap.size + 2) (.slice none 0 0) ([]) rfl (OwnB.nil_ _ _ _) A1 n1 c1 l1 rfl (h1.below S3.b) (by have := L1.out; have := L2.out; simp; omega) S3.size ?_; intro v4 w4 ho4 hg4 hr4 hq4; have S4 := S3.grow hg4 (fun k hk => by cases hk); obtain ⟨hO4, P4⟩ := keep_apart ho3 (apart_nil v3) hg4 hr4; clear ho3; clear hg4 hr4 hq4 S3)
    | (refine wpList_append_bytes _ rfl (.tmp 23) (.tmp 24) 23 rfl 5 i0 Tryd.underlying23 hi hz0 hz1 hz2 (w.heap.size + 2) v4 ([] ++ l1) rfl ho4 _ _ _ _ rfl (bs_of_block S4.hQ 4 rfl (by omega)) (by have := L1.out; have := L2.out; simp; omega) S4.size ?_; intro v5 w5 ho5 hg5 hr5 hq5; have S5 := S4.grow hg5 ho4.row_; obtain ⟨hO5, P5⟩ := keep_apart hO4 P4 hg5 hr5; clear hO4 P4; clear hg5 hr5 hq5 S4 ho4)
    | (refine wpList_append_bytes _ rfl (.tmp 26) (.tmp 27) 23 rfl 5 i0 Tryd.underlying23 hi hz0 hz1 hz2 (w.heap.size + 2) v5 ([] ++ l1 ++ [q0, q1, q2, q3]) rfl ho5 A2 n2 c2 l2 rfl (h2.below S5.b) (by have := L1.out; have := L2.out; simp; omega) S5.size ?_; intro v6 w6 ho6 hg6 hr6 hq6; have S6 := S5.grow hg6 ho5.row_; have hO6 := (keep_apart hO5 P5 hg6 hr6).1; clear hO5 P5; clear hg6 hr6 hq6 S5 ho5))
  obtain ⟨A3, c3, rfl, hB3⟩ := hO6.form
  obtain ⟨A6, c6, rfl, hB6⟩ := ho6.form
  clear hO6 ho6
  generalize ([] ++ l1 ++ [p0, p1, p2, p3] ++ l2).length = m3 at *
  generalize ([] ++ l1 ++ [q0, q1, q2, q3] ++ l2).length = m6 at *
  rw [List.nil_append] at hB3 hB6
  obtain ⟨s1, hs1⟩ : ∃ s, crc.of (l1 ++ [p0, p1, p2, p3] ++ l2) = s := ⟨_, rfl⟩
  obtain ⟨s2, hs2⟩ : ∃ s, crc.of (l1 ++ [q0, q1, q2, q3] ++ l2) = s := ⟨_, rfl⟩
  have ht6 := ht.below S6.b
  have C1 : ∀ W, W = w6.drew → Calls Tryd.prog 16 #[.slice A3 m3 c3] W fun e w'' => e = .returned (wv s1) ∧ w'' = W := by
    rintro W rfl
    exact (of_any _ _ _ _ _ hB3.drew ht6.drew).mono fun e w' h => ⟨by rw [← hs1]; exact h.1, h.2.symm⟩
  have C2 : ∀ W, W = w6.drew → Calls Tryd.prog 16 #[.slice A6 m6 c6] W fun e w'' => e = .returned (wv s2) ∧ w'' = W := by
    rintro W rfl
    exact (of_any _ _ _ _ _ hB6.drew ht6.drew).mono fun e w' h => ⟨by rw [← hs2]; exact h.1, h.2.symm⟩
  have H1 := Lib.hid C1
  have H2 := Lib.hid C2
  have HS1 := Lib.hid hs1
  have HS2 := Lib.hid hs2
  clear C1 C2 hs1 hs2 hB3 hB6
  have k0 : w6.cell? ⟨w.heap.size, 0, none⟩ = some (bv p0) := by rw [cell_of_row _ _ 0 _ _ _ S6.hP]; rfl
  have k1 : w6.cell? ⟨w.heap.size, 1, none⟩ = some (bv p1) := by rw [cell_of_row _ _ 1 _ _ _ S6.hP]; rfl
  have k2 : w6.cell? ⟨w.heap.size, 2, none⟩ = some (bv p2) := by rw [cell_of_row _ _ 2 _ _ _ S6.hP]; rfl
  have k3 : w6.cell? ⟨w.heap.size, 3, none⟩ = some (bv p3) := by rw [cell_of_row _ _ 3 _ _ _ S6.hP]; rfl
  have j0 : w6.cell? ⟨w.heap.size + 1, 0, none⟩ = some (bv q0) := by rw [cell_of_row _ _ 0 _ _ _ S6.hQ]; rfl
  have j1 : w6.cell? ⟨w.heap.size + 1, 1, none⟩ = some (bv q1) := by rw [cell_of_row _ _ 1 _ _ _ S6.hQ]; rfl
  have j2 : w6.cell? ⟨w.heap.size + 1, 2, none⟩ = some (bv q2) := by rw [cell_of_row _ _ 2 _ _ _ S6.hQ]; rfl
  have j3 : w6.cell? ⟨w.heap.size + 1, 3, none⟩ = some (bv q3) := by rw [cell_of_row _ _ 3 _ _ _ S6.hQ]; rfl
  go_still_tail 10, (by kernel_rfl)
  still_call (H1.out _ rfl)
  repeat still_step
  still_call (H2.out _ rfl)
  repeat still_step
  by_cases hpq : [p0, p1, p2, p3] = [q0, q1, q2, q3]
  · have hE := fun W => eq4 p0 p1 p2 p3 q0 q1 q2 q3 W
    rw [decide_eq_true hpq] at hE
    have hss : s1 = s2 := by rw [← HS1.out, ← HS2.out, hpq]
    subst hss
    clear hpq
    repeat still_step
    refine wpStill_nil ?_
    change wpList _ _ _ _ _ w6.drew
    clear hE k0 k1 k2 k3 j0 j1 j2 j3
    go_wp2_with fail
    refine (lives_any _ ht6.drew).mono ?_
    rintro e w7 ⟨rfl, hb7⟩
    go_wp2_with fail
    go_ret
    exact ⟨rfl, S6.b.drew.trans (hb7.mono S6.b.size)⟩
  · have hE := fun W => eq4 p0 p1 p2 p3 q0 q1 q2 q3 W
    rw [decide_eq_false hpq] at hE
    have hss : s1 ≠ s2 := fun e => hpq (by
      rw [← HS1.out, ← HS2.out] at e
      obtain ⟨rfl, rfl, rfl, rfl⟩ := crc.side _ _ _ _ _ _ _ _ _ _ e
      rfl)
    have hb : ((s1.toNat : Int) == (s2.toNat : Int)) = false := by
      rw [beq_eq_false_iff_ne]
      exact fun e => hss (BitVec.eq_of_toNat_eq (by omega))
    clear hpq hss
    repeat still_step
    refine wpStill_nil ?_
    change wpList _ _ _ _ _ w6.drew
    clear hE k0 k1 k2 k3 j0 j1 j2 j3
    go_wp2_with fail
    refine (lives_any _ ht6.drew).mono ?_
    rintro e w7 ⟨rfl, hb7⟩
    go_wp2_with fail
    go_ret
    exact ⟨rfl, S6.b.drew.trans (hb7.mono S6.b.size)⟩
end Go.Proofs.YtjlkhemdahahpaaDoor
