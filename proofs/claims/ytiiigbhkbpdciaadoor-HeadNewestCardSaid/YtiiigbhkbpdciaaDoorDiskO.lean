/-
  ARGUMENTS OPENED: a block by value, a slice of integers, a slice of structs with a block.
-/
import Derived.Test.YtiiigbhkbpdciaaDoorLaw
import Derived.Test.YtiiigbhkbpdciaaDoorDiskM
import Derived.Test.YtiiigbhkbpdciaaDoorDiskE
import Derived.Deep.Slices
namespace Go.Proofs.YtiiigbhkbpdciaaDoor
open Go.ChangeShapes Go.WideShapes Go.ChangeAt Go.RowKit

section
variable {H : Type} {enc : TypeId × Value → H} {W : World}

set_option maxRecDepth 100000 in
theorem byte_of_wf' {n : Int} (hw : (Lit.int .u8 n).wf = true) : ∃ x : UInt8, Value.int .u8 n = bv x := by
  have hx : 0 ≤ n ∧ n ≤ 255 := by simpa [Lit.wf, IntKind.min, IntKind.max, IntKind.signed, IntKind.bits] using hw
  refine ⟨UInt8.ofNat n.toNat, ?_⟩
  simp
  omega
set_option maxRecDepth 100000 in
/-- a block, by its cells -/
theorem open_blk {sp : Nat → Bool} {held : Bool} {fuel : Nat} {cs : List Value} {x : DataW H × List MemPlace} (h : DataW.trod enc Tryd.prog W 0 sp held fuel 27 cs = some x) : ∃ b : dk.Blk, b.length = 128 ∧ cs = dk.cells b := by
  obtain ⟨xs, m, rfl, rfl, hl, hxl, hx⟩ := DataW.trod_array Tryd.underlying27 h
  rw [cells_blk] at hl
  have each : ∀ i, i < 128 → ∃ y : UInt8, cs[i]? = some (bv y) := fun i hi => by
    have h1 := hx i hi
    rw [cells_u8', Nat.mul_one, List.getElem?_eq_getElem (by omega)] at h1
    obtain ⟨n, hn, _, hw⟩ := DataW.trod_int Tryd.underlying5 h1
    rw [List.drop_eq_getElem_cons (by omega)] at hn
    simp only [List.take_succ_cons, List.take_zero, List.cons.injEq, and_true] at hn
    obtain ⟨y, hy⟩ := byte_of_wf' hw
    exact ⟨y, by rw [List.getElem?_eq_getElem (by omega), hn, hy]⟩
  obtain ⟨Y, hY⟩ := Deep.choose_lt each
  refine ⟨(List.range 128).map Y, by simp, ?_⟩
  apply List.ext_getElem?
  intro i
  by_cases hi : i < 128
  · rw [hY i hi, List.getElem?_map, List.getElem?_map, List.getElem?_range hi]
    rfl
  · rw [List.getElem?_eq_none (by omega), List.getElem?_eq_none (by simp; omega)]

set_option maxRecDepth 100000 in
/-- a block, by value -/
theorem open_blk_val {base : Nat} {v : Value} {d : DataW H} {ps : List MemPlace}
    (hval : Value.okWide Tryd.prog W .any base 27 v) (h : DataW.Trod enc Tryd.prog W 0 (fun _ => true) true 27 v d ps) : ∃ b : dk.Blk, v = dk.val b ∧ b.length = 128 := by
  obtain ⟨cs, rfl, hsz, _⟩ : ∃ cs, v = .agg cs ∧ cs.size = Tryd.prog.cellsOf 27 ∧ Row.okWide Tryd.prog W .any base 27 cs := by
    simpa [Value.okWide, Tryd.underlying27] using hval
  obtain ⟨fuel, hf⟩ := h
  obtain ⟨b, hb, hcs⟩ := open_blk hf
  refine ⟨b, ?_, hb⟩
  simp only [Value.cells] at hcs
  rw [dk.val, ← hcs]

set_option maxRecDepth 100000 in
theorem cells_spot {n : Nat} {a : Addr} {cs : List Value} (hn : 0 < n) (h : W.cells? 0 a n = some cs) : ∃ b o, a = ⟨b, o, none⟩ ∧ b < W.heap.size ∧ cs.length = n ∧ ∀ i, i < n → W.cell? ⟨b, o + i, none⟩ = cs[i]? := by
  unfold World.cells? at h
  rw [if_pos (Nat.zero_le _)] at h
  have hlen : cs.length = n := by simpa using mapM_some_length h
  have hget : ∀ i, i < n → W.cell? (a.add i) = cs[i]? := fun i hi => by
    have := mapM_some_get h i i (by simp [hi])
    exact this
  have h0 := hget 0 hn
  rw [List.getElem?_eq_getElem (by omega)] at h0
  have hsp : a.spot = none := by
    have : a.add 0 = a := by simp [Addr.add]
    rw [this] at h0
    unfold World.cell? at h0
    split at h0
    · cases hsp : a.spot with
      | none => rfl
      | some x => simp [hsp] at h0
    · cases h0
  obtain ⟨b, o, sp⟩ := a
  simp only at hsp
  subst hsp
  refine ⟨b, o, rfl, World.block_lt_of_cell? _ _ h0, hlen, fun i hi => ?_⟩
  rw [← hget i hi, Addr.add_lit]
end




end Go.Proofs.YtiiigbhkbpdciaaDoor
