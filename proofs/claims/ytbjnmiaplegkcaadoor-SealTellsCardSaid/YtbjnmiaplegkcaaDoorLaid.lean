/-
  crc's table of four bits: what the row's list gives, and a world for the witness.
-/
import Derived.Test.YtbjnmiaplegkcaaDoorRows
import Derived.Test.YtbjnmiaplegkcaaDoorCards
import Derived.Test.YtbjnmiaplegkcaaDoorTie
import Derived.Test.YtbjnmiaplegkcaaDoorLaw
import Derived.Test.YtbjnmiaplegkcaaDoorCrc
import Derived.Deep.DeepHandedRow
import Derived.Lib.LaidTab
namespace Go.Proofs.YtbjnmiaplegkcaaDoor.laid
open Go.ChangeShapes Go.WideShapes Go.ChangeAt Go.RowKit

theorem four : Tryd.prog.globalNamed "cardex/crc.fourOn" = some 0 := by kernel_rfl
theorem fourType : (Tryd.prog.globals[0]?).map (·.type) = some 71 := by kernel_rfl
theorem fourCells : Tryd.prog.cellsOf 71 = 16 := by kernel_rfl
theorem wordCells : Tryd.prog.cellsOf 50 = 1 := by kernel_rfl
def words : List Int := [0, 274646895, 549293790, 820201905, 1098587580, 1361435347, 1640403810, 1905808397, 2197175160, 2460548119, 2722870694, 2987750089, 3280807620, 3553878443, 3811616794, 4084100981]
def listed : List (String × DataW Unit) := [("cardex/crc.fourOn", Rows.laid_cardex_crc_fourOn)]
theorem words_on : ∀ i : Fin 16, words.getD i.val 0 = ((crc.on 4 (BitVec.ofNat 32 i.val)).toNat : Int) := by decide +kernel
theorem tab {W : World} (h : laidMetH Tryd.prog listed W) : Tab W := by
  have ht : Lib.TabIs Tryd.prog W "cardex/crc.fourOn" .u32 words :=
    Lib.tabIs_of_head (rest := []) four fourType Tryd.underlying71 Tryd.underlying50 wordCells fourCells h
  have hc : ∀ i, i < 16 → W.cell? ⟨0, i, none⟩ = some (wv (crc.on 4 (BitVec.ofNat 32 i))) := fun i hi => by
    rw [ht.cell four i (by simpa [words] using hi)]
    have := words_on ⟨i, hi⟩
    simp only at this
    rw [this]
  exact ⟨World.block_lt_of_cell? _ _ (hc 0 (by omega)), hc⟩
/-- a world for the witness: the settled one, with the table as its initialiser lays it -/
noncomputable def world (os : Os) : World :=
  { World.holding Tryd.prog os ⟨#[], #[], []⟩ with heap := (World.holding Tryd.prog os ⟨#[], #[], []⟩).heap.modify 0 fun
      | .cells _ t frozen => .cells (words.map fun z => Value.int .u32 z).toArray t frozen
      | o => o }
end Go.Proofs.YtbjnmiaplegkcaaDoor.laid
