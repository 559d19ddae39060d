/-
  WALKING OVER BLOCKS: a block is loaded and stored as one value; its cells are never written out.
-/
import Derived.Test.YtiiigbhkbpdciaaDoorCore
import Derived.Test.YtiiigbhkbpdciaaDoorDiskM
import Derived.Deep.WholeRow
import Derived.StillTailTactics
namespace Go.Proofs.YtiiigbhkbpdciaaDoor
open Go.RowKit

theorem info_blk : (Tryd.prog.info? 27).map (·.size) = some 128 := by kernel_rfl
theorem info_blk' {b : dk.Blk} (hb : b.length = 128) : (Tryd.prog.info? 27).map (·.size) = some (dk.cells b).length := by rw [List.length_map, hb]; exact info_blk
theorem zero_blk : (Tryd.prog.info? 27).map (fun i => (i.zero, i.size)) = some (some (dk.val dk.zero), 128) := by kernel_rfl
theorem zero_len : dk.zero.length = 128 := List.length_replicate
theorem cells_one (b : dk.Blk) : (dk.cells b).toArray.all (·.oneCell') = true := all_oneCell_toArray (bvs_one b)
theorem new_range (w : World) (e : TypeId) (b : dk.Blk) : (w.alloc (.cells (dk.cells b).toArray e)).rangeAt w.heap.size 0 (dk.cells b) := fun j u hj => by
  rw [Nat.zero_add, cell_of_row _ _ j _ e (0, 0) (heap_alloc_new w _)]
  simpa using hj
theorem blk_range {w : World} {g : Nat} {b : dk.Blk} {e : TypeId} {fr : Nat × Nat} (h : w.heap[g]? = some (.cells (dk.cells b).toArray e fr)) : w.rangeAt g 0 (dk.cells b) :=
  range_of h 0 _ fun j v hj => by rw [Nat.zero_add]; exact hj
theorem blk_load {w : World} {g o : Nat} {b : dk.Blk} (h : w.rangeAt g o (dk.cells b)) (hb : b.length = 128) : (loadVar 27 ⟨g, o, none⟩).run Tryd.prog w = .ok (dk.val b) w :=
  run_loadVar_mid w g o _ _ _ h Tryd.underlying27 rfl (info_blk' hb)
theorem ret_tup {a b : Value} {x y : Value} (h : a = x) (h2 : b = y) : Ending.returned (.tuple #[a, b]) = .returned (.tuple #[x, y]) := by rw [h, h2]
theorem results_cell_tmp {fn : Func} {t u : Tmp} {T : TypeId} (h : fn.results = #[.cell t T, .tmp u]) {tmps : Array Value} {P : Program} {w : World} {a : Addr} {x : Value} (ht : tmps.getD t undef = .pointer (some a)) (hl : (loadVar T a).run P w = .ok x w) :
    (results fn tmps).run P w = .ok (.tuple #[x, tmps.getD u undef]) w := by
  have ht' : tmps[t]?.getD undef = .pointer (some a) := by simpa using ht
  simp [results, h, ht', asAddr, hl]
theorem results_cell {fn : Func} {t : Tmp} {T : TypeId} (h : fn.results = #[.cell t T]) {tmps : Array Value} {P : Program} {w : World} {a : Addr} {x : Value} (ht : tmps.getD t undef = .pointer (some a)) (hl : (loadVar T a).run P w = .ok x w) :
    (results fn tmps).run P w = .ok x w := by
  have ht' : tmps[t]?.getD undef = .pointer (some a) := by simpa using ht
  simp [results, h, ht', asAddr, hl]

/-- a new block, and a store into it -/
theorem new_chg {w W : World} {o : Obj} (h : Chg (w.alloc o) W [w.heap.size]) : Below w.heap.size w W :=
  ((Chg.alloc w o []).trans h (fun k hk => .inr (by simp at hk; omega))).below (Nat.le_refl _) (fun k hk => by simp at hk)

section
variable {ops : Array Oper} {rest : List Oper} {o : Oper} {a : Act} {w : World} {Q : Exit → Act → World → Prop}
/-- a block is loaded -/
theorem wp_ld (x : Operand) (b : dk.Blk) {g off : Nat} (hr : w.rangeAt g off (dk.cells b)) (hb : b.length = 128) (hgd : o.guard = none) (ho : o.op = .load 27 x) (hx : a.eval x = .pointer (some ⟨g, off, none⟩))
    (h : wpList Tryd.prog ops Q rest (a.put o.dst (dk.val b)) w) : wpList Tryd.prog ops Q (o :: rest) a w :=
  wpList_load_mid hgd _ x ho g off hx _ _ hr Tryd.underlying27 rfl (info_blk' hb) h
/-- a block is loaded, behind a guard -/
theorem wp_ldg {K : Act → World → Prop} (x : Operand) (b : dk.Blk) {g off : Nat} (hr : w.rangeAt g off (dk.cells b)) (hb : b.length = 128) (ho : o.op = .load 27 x) (hx : a.eval x = .pointer (some ⟨g, off, none⟩))
    (h : K (a.put o.dst (dk.val b)) w) : o.wp Tryd.prog a w K Q :=
  wp_load_mid _ x ho g off hx _ _ hr Tryd.underlying27 rfl (info_blk' hb) h
/-- a block is stored -/
theorem wp_st (x y : Operand) (b : dk.Blk) {g off : Nat} {cs : List Value} {E : TypeId} (hrow : w.heap[g]? = some (.cells cs.toArray E (0, 0))) (hlen : off + 128 ≤ cs.length) (hb : b.length = 128) (hgd : o.guard = none)
    (ho : o.op = .store 27 x y) (hx : a.eval x = .pointer (some ⟨g, off, none⟩)) (hy : a.eval y = dk.val b)
    (h : ∀ W, W.heap[g]? = some (.cells (cs.take off ++ dk.cells b ++ cs.drop (off + 128)).toArray E (0, 0)) → Chg w W [g] → wpList Tryd.prog ops Q rest (a.put o.dst undef) W) : wpList Tryd.prog ops Q (o :: rest) a w := by
  have hl : (dk.cells b).length = 128 := by rw [List.length_map, hb]
  have h2 := block_sets (dk.cells b) off cs w hrow (by rw [hl]; exact hlen)
  rw [hl] at h2
  refine wpList_store_mid hgd _ x y ho g off (dk.cells b).toArray hx hy ?_ (by simpa [hb] using info_blk) (cells_one b) ?_
  · have := there_of hrow off 128 hlen
    simpa [hb] using this
  · exact h _ h2 (Chg.setCells g _ _ _)
/-- a block is stored into a block of memory of its own -/
theorem wp_st0 (x y : Operand) (b : dk.Blk) {g : Nat} {old : dk.Blk} {E : TypeId} (hrow : w.heap[g]? = some (.cells (dk.cells old).toArray E (0, 0))) (hold : old.length = 128) (hb : b.length = 128) (hgd : o.guard = none)
    (ho : o.op = .store 27 x y) (hx : a.eval x = .pointer (some ⟨g, 0, none⟩)) (hy : a.eval y = dk.val b)
    (h : ∀ W, W.heap[g]? = some (.cells (dk.cells b).toArray E (0, 0)) → Chg w W [g] → wpList Tryd.prog ops Q rest (a.put o.dst undef) W) : wpList Tryd.prog ops Q (o :: rest) a w :=
  wp_st x y b hrow (by rw [List.length_map, hold]; omega) hb hgd ho hx hy fun W h1 h2 => h W (by
    rw [h1, List.take_zero, List.nil_append, List.drop_of_length_le (by rw [List.length_map, hold]; omega), List.append_nil]) h2
end

/-- in a region that draws: a block is loaded -/
theorem still_ld {ops : Array Oper} {rest : List Oper} {o : Oper} {a : Act} {w : World} {Q : Act → Prop} (x : Operand) (b : dk.Blk) {g off : Nat} (hr : w.rangeAt g off (dk.cells b)) (hb : b.length = 128) (ho : o.op = .load 27 x) (hx : a.eval x = .pointer (some ⟨g, off, none⟩))
    (hw : Region.wanted o (yielded ops a.tmps) = true) (h : wpStill Tryd.prog ops w Q rest (a.put o.dst (dk.val b))) : wpStill Tryd.prog ops w Q (o :: rest) a := by
  refine wpStill_step fun K hK => ?_
  rw [if_pos hw]
  unfold Oper.still execOp
  have hl := run_loadAt_mid (P := Tryd.prog) w g off 27 _ _ hr Tryd.underlying27 rfl (info_blk' hb)
  simp only [ho, hx, Sem.run_bind, hl, Sem.run_pure, Result.andThen_ok]
  rw [Oper.stillUpon_value]
  exact hK _ h
end Go.Proofs.YtiiigbhkbpdciaaDoor
