/-
  blocks compared.
-/
import Derived.Test.YtiiigbhkbpdciaaDoorDiskW
import Derived.DeepKeys
namespace Go.Proofs.YtiiigbhkbpdciaaDoor
open Go.RowKit

set_option maxRecDepth 100000 in
theorem mapM_some {α β : Type} (f : α → Option β) (g : α → β) : ∀ l : List α, (∀ a ∈ l, f a = some (g a)) → l.mapM f = some (l.map g)
  | [], _ => rfl
  | a :: l, h => by
    rw [List.mapM_cons, h a (List.mem_cons_self ..), mapM_some f g l (fun x hx => h x (List.mem_cons_of_mem _ hx))]
    rfl
set_option maxRecDepth 100000 in
theorem wf_u8' (x : UInt8) : (Lit.int .u8 (x.toNat : Int)).wf = true := by
  have := x.toNat_lt
  simp [Lit.wf, IntKind.min, IntKind.max, IntKind.signed, IntKind.bits]
  omega
theorem cells_u8' : Tryd.prog.cellsOf 5 = 1 := by kernel_rfl
theorem cells_blk : Tryd.prog.cellsOf 27 = 128 := by kernel_rfl
set_option maxRecDepth 100000 in
theorem lits_blk (b : dk.Blk) (hb : b.length = 128) : Tryd.prog.keyLits 2 27 (dk.val b).cells.toList = some (b.map fun x => Lit.int .u8 (x.toNat : Int)) := by
  unfold Program.keyLits
  rw [Tryd.underlying27]
  have hc : (dk.val b).cells.toList = dk.cells b := by simp [Value.cells]
  rw [hc]
  simp only [cells_blk, cells_u8']
  rw [if_pos (by rw [List.length_map, hb])]
  rw [mapM_some _ (fun i => [Lit.int .u8 ((b.getD i 0).toNat : Int)]) _ (fun i hi => by
    have hi' : i < b.length := by rw [hb]; exact List.mem_range.1 hi
    have e : ((dk.cells b).drop (i * 1)).take 1 = [bv (b.getD i 0)] := by
      rw [Nat.mul_one, List.getD_eq_getElem?_getD, List.getElem?_eq_getElem hi', List.drop_eq_getElem_cons (by rw [List.length_map]; exact hi')]
      simp
    rw [e]
    unfold Program.keyLits
    rw [Tryd.underlying5]
    simp [wf_u8'])]
  rw [Option.map_some]
  congr 1
  rw [← List.flatMap_def]
  apply List.ext_getElem?
  intro i
  have e2 : ((List.range 128).flatMap fun i => [Lit.int .u8 ((b.getD i 0).toNat : Int)]) = (List.range 128).map fun i => Lit.int .u8 ((b.getD i 0).toNat : Int) := by
    rw [List.map_eq_flatMap]
  rw [e2, List.getElem?_map, List.getElem?_map]
  by_cases hi : i < 128
  · rw [List.getElem?_range hi, List.getElem?_eq_getElem (by omega)]
    simp [List.getD, hb, hi]
  · rw [List.getElem?_eq_none (by simp; omega), List.getElem?_eq_none (by omega)]
    rfl
set_option maxRecDepth 100000 in
theorem eq_blk (a b : dk.Blk) (ha : a.length = 128) (hb : b.length = 128) (W : World) : (Op.equalIn 10000 27 (dk.val a) (dk.val b)).run Tryd.prog W = .ok (decide (a = b)) W := by
  obtain ⟨r, hr, hiff⟩ := run_equalIn_deep (P := Tryd.prog) 9998 2 27 (by kernel_rfl) W 2 2 _ _ _ _ (by simp [Value.formed, Tryd.underlying27, cells_blk, ha]) (by simp [Value.formed, Tryd.underlying27, cells_blk, hb]) (lits_blk a ha) (lits_blk b hb)
  refine hr.trans ?_
  congr 1
  rw [Bool.eq_iff_iff, hiff, decide_eq_true_iff]
  constructor
  · intro h
    have hinj : ∀ x y : UInt8, Lit.int .u8 (x.toNat : Int) = Lit.int .u8 (y.toNat : Int) → x = y := fun x y e => by
      injection e with _ e
      exact UInt8.toNat_inj.1 (by omega)
    exact List.map_inj_right hinj |>.1 h
  · intro h; rw [h]
set_option maxRecDepth 100000 in
/-- a block is loaded, behind a guard that holds -/
theorem wp_ldw {ops : Array Oper} {rest : List Oper} {o : Oper} {a : Act} {w : World} {Q : Exit → Act → World → Prop} (x : Operand) (b : dk.Blk) {g off : Nat} (hr : w.rangeAt g off (dk.cells b)) (hb : b.length = 128) (ho : o.op = .load 27 x) (hx : a.eval x = .pointer (some ⟨g, off, none⟩))
    (hw : Region.wanted o (yielded ops a.tmps) = true) (h : wpList Tryd.prog ops Q rest (a.put o.dst (dk.val b)) w) : wpList Tryd.prog ops Q (o :: rest) a w :=
  wpList_step fun K hK => by
    rw [if_pos hw]
    exact wp_ldg x b hr hb ho hx (hK _ _ h)
end Go.Proofs.YtiiigbhkbpdciaaDoor
