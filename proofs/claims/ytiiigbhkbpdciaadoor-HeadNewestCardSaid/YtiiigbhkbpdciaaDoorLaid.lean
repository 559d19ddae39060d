/-
  the tables that a row lists (crc's of four bits; head's of sizes, where there is one): what the row's list gives, and a world for the witness.
-/
import Derived.Test.YtiiigbhkbpdciaaDoorRows
import Derived.Test.YtiiigbhkbpdciaaDoorCards
import Derived.Test.YtiiigbhkbpdciaaDoorTie
import Derived.Test.YtiiigbhkbpdciaaDoorLaw
import Derived.Test.YtiiigbhkbpdciaaDoorCrc
import Derived.Test.YtiiigbhkbpdciaaDoorHeadP
import Derived.Deep.DeepHandedRow
import Derived.Lib.LaidTab
namespace Go.Proofs.YtiiigbhkbpdciaaDoor.laid
open Go.ChangeShapes Go.WideShapes Go.ChangeAt Go.RowKit

theorem four : Tryd.prog.globalNamed "cardex/crc.fourOn" = some 1 := by kernel_rfl
theorem fourType : (Tryd.prog.globals[1]?).map (·.type) = some 72 := by kernel_rfl
theorem fourCells : Tryd.prog.cellsOf 72 = 16 := by kernel_rfl
theorem wordCells : Tryd.prog.cellsOf 23 = 1 := by kernel_rfl
def words : List Int := [0, 274646895, 549293790, 820201905, 1098587580, 1361435347, 1640403810, 1905808397, 2197175160, 2460548119, 2722870694, 2987750089, 3280807620, 3553878443, 3811616794, 4084100981]
theorem words_on : ∀ i : Fin 16, words.getD i.val 0 = ((crc.on 4 (BitVec.ofNat 32 i.val)).toNat : Int) := by decide +kernel
/-- a variable that is listed, wherever it stands on the list, reads as its datum -/
theorem reads_of {P : Program} {w : World} : ∀ {l : List (String × DataW Unit)} {ps : List MemPlace}, DataW.LaidVars P w l ps → ∀ n d, (n, d) ∈ l →
    ∃ g t cs fuel p, P.globalNamed n = some g ∧ (P.globals[g]?).map (·.type) = some t ∧ w.var? P n = some cs ∧ DataW.trod (fun _ => ()) P w 0 (fun _ => true) false fuel t cs.toList = some (d, p)
  | [], _, _, _, _, hm => by cases hm
  | (n', d') :: r, ps, h, n, d, hm => by
    obtain ⟨g, t, cs, fuel, p, q, h1, h2, h3, h4, h5, _⟩ := h
    rcases List.mem_cons.1 hm with e | e
    · cases e
      exact ⟨g, t, cs, fuel, p, h1, h2, h3, h4⟩
    · exact reads_of h5 n d e
theorem tab_of {P : Program} {W : World} {l : List (String × DataW Unit)} {name : String} {k : IntKind} {zs : List Int} {g : Nat} {t e : TypeId} {n : Nat}
    (hg : P.globalNamed name = some g) (hty : (P.globals[g]?).map (·.type) = some t) (ht : P.underlying t = some (.array n e)) (he : P.underlying e = some (.int k)) (hce : P.cellsOf e = 1) (hct : P.cellsOf t = n)
    (h : laidMet P l W) (hm : (name, Lib.tabData k zs) ∈ l) : Lib.TabIs P W name k zs := by
  obtain ⟨ps, hv, _⟩ := h
  obtain ⟨g', t', cs, fuel, p, hg', ht', hvar, hd⟩ := reads_of hv _ _ hm
  obtain rfl := Option.some.inj (hg.symm.trans hg')
  obtain rfl := Option.some.inj (hty.symm.trans ht')
  unfold Lib.TabIs
  rw [hvar, ← Lib.cells_of_tab ht he hce hct hd]
theorem tab1 {W : World} {l : List (String × DataW Unit)} (h : laidMet Tryd.prog l W) (hm : ("cardex/crc.fourOn", Lib.tabData .u32 words) ∈ l) : Tab W := by
  have ht : Lib.TabIs Tryd.prog W "cardex/crc.fourOn" .u32 words :=
    tab_of four fourType Tryd.underlying72 Tryd.underlying23 wordCells fourCells h hm
  have hc : ∀ i, i < 16 → W.cell? ⟨1, i, none⟩ = some (wv (crc.on 4 (BitVec.ofNat 32 i))) := fun i hi => by
    rw [ht.cell four i (by simpa [words] using hi)]
    have := words_on ⟨i, hi⟩
    simp only at this
    rw [this]
  exact ⟨World.block_lt_of_cell? _ _ (hc 0 (by omega)), hc⟩
theorem siz : Tryd.prog.globalNamed "cardex/head.sizes" = some 0 := by kernel_rfl
theorem sizType : (Tryd.prog.globals[0]?).map (·.type) = some 59 := by kernel_rfl
theorem sizCells : Tryd.prog.cellsOf 59 = 3 := by kernel_rfl
theorem intCells : Tryd.prog.cellsOf 3 = 1 := by kernel_rfl
def sizes : List Int := [1, 4, 4]
theorem tab2 {W : World} {l : List (String × DataW Unit)} (h : laidMet Tryd.prog l W) (hm : ("cardex/head.sizes", Lib.tabData .i64 sizes) ∈ l) : Siz W := by
  have ht : Lib.TabIs Tryd.prog W "cardex/head.sizes" .i64 sizes :=
    tab_of siz sizType Tryd.underlying59 Tryd.underlying3 intCells sizCells h hm
  have h0 := ht.cell siz 0 (by simp [sizes])
  exact ⟨World.block_lt_of_cell? _ _ h0, h0, ht.cell siz 1 (by simp [sizes]), ht.cell siz 2 (by simp [sizes])⟩
def listed : List (String × DataW Unit) := [("cardex/crc.fourOn", Rows.laid_cardex_crc_fourOn), ("cardex/head.sizes", Rows.laid_cardex_head_sizes)]
theorem tab {W : World} (h : laidMetH Tryd.prog listed W) : Tabs W := ⟨tab1 (l := listed) h (.head _), tab2 (l := listed) h (.tail _ (.head _))⟩
/-- a world for the witness: the settled one, with the tables as their initialisers lay them -/
def lay (vs : List Value) : Obj → Obj
  | .cells _ t frozen => .cells vs.toArray t frozen
  | o => o
noncomputable def world (os : Os) : World :=
  { World.holding Tryd.prog os ⟨#[], #[], []⟩ with heap := ((World.holding Tryd.prog os ⟨#[], #[], []⟩).heap.modify 1 (lay (words.map fun z => Value.int .u32 z))).modify 0 (lay (sizes.map fun z => Value.int .i64 z)) }
end Go.Proofs.YtiiigbhkbpdciaaDoor.laid
