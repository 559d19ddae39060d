/-
  ARGUMENTS OPENED: a head by value.
-/
import Derived.Test.YtiiigbhkbpdciaaDoorDiskO
import Derived.Test.YtiiigbhkbpdciaaDoorHeadR2
namespace Go.Proofs.YtiiigbhkbpdciaaDoor
open Go.ChangeShapes Go.WideShapes Go.ChangeAt Go.RowKit

set_option maxRecDepth 100000 in
theorem open_head {H : Type} {enc : TypeId × Value → H} {W : World} {sp : Nat → Bool} {held : Bool} {fuel : Nat} {cs : List Value} {x : DataW H × List MemPlace} (h : DataW.trod enc Tryd.prog W 0 sp held fuel 25 cs = some x) : ∃ a : hd.H, cs = hd.cells a ∧ a.Ok := by
  obtain ⟨xs, n', _, _, hcl, hxl, hfx⟩ := DataW.trod_struct Tryd.underlying25 h
  rw [cells_head] at hcl
  have f0 : DataW.trod enc Tryd.prog W 0 sp held n' 5 ((cs.drop 0).take (Tryd.prog.cellsOf 5)) = xs[0]? := hfx 0 _ rfl
  have f1 : DataW.trod enc Tryd.prog W 0 sp held n' 23 ((cs.drop 1).take (Tryd.prog.cellsOf 23)) = xs[1]? := hfx 1 _ rfl
  have f2 : DataW.trod enc Tryd.prog W 0 sp held n' 23 ((cs.drop 2).take (Tryd.prog.cellsOf 23)) = xs[2]? := hfx 2 _ rfl
  have hx2 : xs.length = 3 := hxl
  rw [cells_u8', List.getElem?_eq_getElem (by omega)] at f0
  rw [cells_u32', List.getElem?_eq_getElem (by omega)] at f1 f2
  obtain ⟨z0, h0, _, w0⟩ := DataW.trod_int Tryd.underlying5 f0
  obtain ⟨z1, h1, _, w1⟩ := DataW.trod_int Tryd.underlying23 f1
  obtain ⟨z2, h2, _, w2⟩ := DataW.trod_int Tryd.underlying23 f2
  obtain ⟨y, hy⟩ := byte_of_wf' w0
  obtain ⟨n1, rfl, k1⟩ := u32_nat w1
  obtain ⟨n2, rfl, k2⟩ := u32_nat w2
  refine ⟨⟨y, n1, n2⟩, ?_, k1, k2⟩
  match cs, hcl with
  | [c0, c1, c2], _ =>
    simp only [List.drop_zero, List.take_succ_cons, List.take_zero, List.cons.injEq, and_true] at h0
    simp only [List.drop_succ_cons, List.drop_zero, List.take_succ_cons, List.take_zero, List.cons.injEq, and_true] at h1 h2
    rw [h0, h1, h2, hy]
set_option maxRecDepth 100000 in
theorem open_head_val {H : Type} {enc : TypeId × Value → H} {W : World} {base : Nat} {v : Value} {d : DataW H} {ps : List MemPlace}
    (hval : Value.okWide Tryd.prog W .any base 25 v) (h : DataW.Trod enc Tryd.prog W 0 (fun _ => true) true 25 v d ps) : ∃ a : hd.H, v = hd.val a ∧ a.Ok := by
  obtain ⟨cs, rfl, hsz, _⟩ : ∃ cs, v = .agg cs ∧ cs.size = Tryd.prog.cellsOf 25 ∧ Row.okWide Tryd.prog W .any base 25 cs := by
    simpa [Value.okWide, Tryd.underlying25] using hval
  obtain ⟨fuel, hf⟩ := h
  obtain ⟨a, ha, hok⟩ := open_head hf
  refine ⟨a, ?_, hok⟩
  obtain ⟨l⟩ := cs
  simp only [Value.cells] at ha
  rw [show l = hd.cells a from ha]
end Go.Proofs.YtiiigbhkbpdciaaDoor
