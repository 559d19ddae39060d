/-
  NARROWER THAN 'FOR EVERY INPUT', by the rows' own cells (each row's printed sentence says how): HeadPuts: laid · HeadGets: laid · HeadBack: laid · HeadNewest: laid.
  DERIVED. THE GIVEN ROWS OF THIS SEAT. 4 by the template 'for every input the law returns true; each argument reads behind the call as it read before'; 0 by the template 'total and deterministic' (their statements: YtiiigbhkbpdciaaDoorTotals.lean).
  GIVEN WITH THE SEED: the statements are not yours to turn. If you find one false, say at which input.
  Laid BY PROGRAM, IN A SANDBOX (cutbox-rows.mjs): the forced cells as the released guide's own fill.sh prints them over the translation 9cbbc46c6416d9b6… (all of the seat's roots in one cut). By AI agents, Wed Nov 11 2026. No macro, syntax, notation, axiom, sorry.
-/
import Derived.Test.YtiiigbhkbpdciaaDoorChecked
import GoSem.Claim
import GoSem.ClaimJoined
import GoSem.ClaimMapViews
import Derived.JoinedTies
import Derived.KernelRfl
namespace Go.Proofs.YtiiigbhkbpdciaaDoor
/- THE CELL 'sum', in the pinned program and in every row, IS THE sha256 OF THE DUMP (.gsa) THAT YtiiigbhkbpdciaaDoorProg.lean LOADS. Nothing in Lean hashes anything: it is a label: what it is worth is what the hold of that sum in a sandbox is worth. -/
noncomputable def Tryd.pinned : Pinned := { name := "ytiiigbhkbpdciaadoor", sum := "9cbbc46c6416d9b6debe74a86db69641cc6d4ff1669281383e8e3e6782b6c1aa", checked := Tryd.checked }
namespace Rows
def none {H : Type} : Left H := { results := [], args := [] }

/- WHAT THE LISTED PACKAGE-LEVEL VARIABLES READ AS WHEN THE CALL BEGINS. Each datum BY PROGRAM (the guide's laid-datum.mjs) off the statement by which the dump's own 'gosem.cut.vars' lays the variable. In a bare row this is a premise. The card (YtiiigbhkbpdciaaDoorCards.lean) ties it to the program's text. -/
def laid_cardex_crc_fourOn {H : Type} : DataW H := .agg [.lit (.int .u32 0), .lit (.int .u32 274646895), .lit (.int .u32 549293790), .lit (.int .u32 820201905), .lit (.int .u32 1098587580), .lit (.int .u32 1361435347), .lit (.int .u32 1640403810), .lit (.int .u32 1905808397), .lit (.int .u32 2197175160), .lit (.int .u32 2460548119), .lit (.int .u32 2722870694), .lit (.int .u32 2987750089), .lit (.int .u32 3280807620), .lit (.int .u32 3553878443), .lit (.int .u32 3811616794), .lit (.int .u32 4084100981)]
def laid_cardex_head_sizes {H : Type} : DataW H := .agg [.lit (.int .i64 1), .lit (.int .i64 4), .lit (.int .i64 4)]

/-- 'cardexlaw06.HeadPuts': WHATEVER THE INPUT: true; the input reads as it did. -/
def headPutsSpec : ChangeSpec := { name := "headPuts", fn := fun _ => fun
  | [d1, d2] => { results := [.lit (.bool true)], args := [d1, d2] }
  | _ => none }
def headPutsRow : OpenClaim := { program := "ytiiigbhkbpdciaadoor", sum := "9cbbc46c6416d9b6debe74a86db69641cc6d4ff1669281383e8e3e6782b6c1aa", func := "cardex/cardexlaw06.HeadPuts", spec := "headPuts", named := ["cardex/head.sizes", "cardex/crc.fourOn"], apart := false, laid := [("cardex/crc.fourOn", laid_cardex_crc_fourOn), ("cardex/head.sizes", laid_cardex_head_sizes)] }
def HeadPutsSaid : Prop := headPutsRow.holds Tryd.pinned (OpenSpec.ofChange headPutsSpec)

/-- ITS FALSE NEIGHBOUR: 'it returns false'. Refute it at one input. -/
def headPutsWrong : ChangeSpec := { name := "headPuts", fn := fun _ => fun
  | [d1, d2] => { results := [.lit (.bool false)], args := [d1, d2] }
  | _ => none }
def HeadPutsWrongFalsely : Prop := headPutsRow.holds Tryd.pinned (OpenSpec.ofChange headPutsWrong)

/-- 'cardexlaw06.HeadGets': WHATEVER THE INPUT: true; the input reads as it did. -/
def headGetsSpec : ChangeSpec := { name := "headGets", fn := fun _ => fun
  | [d1, d2, d3, d4] => { results := [.lit (.bool true)], args := [d1, d2, d3, d4] }
  | _ => none }
def headGetsRow : OpenClaim := { program := "ytiiigbhkbpdciaadoor", sum := "9cbbc46c6416d9b6debe74a86db69641cc6d4ff1669281383e8e3e6782b6c1aa", func := "cardex/cardexlaw06.HeadGets", spec := "headGets", named := ["cardex/crc.fourOn", "cardex/head.sizes"], apart := false, laid := [("cardex/crc.fourOn", laid_cardex_crc_fourOn), ("cardex/head.sizes", laid_cardex_head_sizes)] }
def HeadGetsSaid : Prop := headGetsRow.holds Tryd.pinned (OpenSpec.ofChange headGetsSpec)

/-- ITS FALSE NEIGHBOUR: 'it returns false'. Refute it at one input. -/
def headGetsWrong : ChangeSpec := { name := "headGets", fn := fun _ => fun
  | [d1, d2, d3, d4] => { results := [.lit (.bool false)], args := [d1, d2, d3, d4] }
  | _ => none }
def HeadGetsWrongFalsely : Prop := headGetsRow.holds Tryd.pinned (OpenSpec.ofChange headGetsWrong)

/-- 'cardexlaw06.HeadBack': WHATEVER THE INPUT: true; the input reads as it did. -/
def headBackSpec : ChangeSpec := { name := "headBack", fn := fun _ => fun
  | [d1, d2, d3] => { results := [.lit (.bool true)], args := [d1, d2, d3] }
  | _ => none }
def headBackRow : OpenClaim := { program := "ytiiigbhkbpdciaadoor", sum := "9cbbc46c6416d9b6debe74a86db69641cc6d4ff1669281383e8e3e6782b6c1aa", func := "cardex/cardexlaw06.HeadBack", spec := "headBack", named := ["cardex/head.sizes", "cardex/crc.fourOn"], apart := false, laid := [("cardex/crc.fourOn", laid_cardex_crc_fourOn), ("cardex/head.sizes", laid_cardex_head_sizes)] }
def HeadBackSaid : Prop := headBackRow.holds Tryd.pinned (OpenSpec.ofChange headBackSpec)

/-- ITS FALSE NEIGHBOUR: 'it returns false'. Refute it at one input. -/
def headBackWrong : ChangeSpec := { name := "headBack", fn := fun _ => fun
  | [d1, d2, d3] => { results := [.lit (.bool false)], args := [d1, d2, d3] }
  | _ => none }
def HeadBackWrongFalsely : Prop := headBackRow.holds Tryd.pinned (OpenSpec.ofChange headBackWrong)

/-- 'cardexlaw06.HeadNewest': WHATEVER THE INPUT: true; the input reads as it did. -/
def headNewestSpec : ChangeSpec := { name := "headNewest", fn := fun _ => fun
  | [d1, d2, d3, d4, d5] => { results := [.lit (.bool true)], args := [d1, d2, d3, d4, d5] }
  | _ => none }
def headNewestRow : OpenClaim := { program := "ytiiigbhkbpdciaadoor", sum := "9cbbc46c6416d9b6debe74a86db69641cc6d4ff1669281383e8e3e6782b6c1aa", func := "cardex/cardexlaw06.HeadNewest", spec := "headNewest", named := ["cardex/head.sizes", "cardex/crc.fourOn"], apart := false, laid := [("cardex/crc.fourOn", laid_cardex_crc_fourOn), ("cardex/head.sizes", laid_cardex_head_sizes)] }
def HeadNewestSaid : Prop := headNewestRow.holds Tryd.pinned (OpenSpec.ofChange headNewestSpec)

/-- ITS FALSE NEIGHBOUR: 'it returns false'. Refute it at one input. -/
def headNewestWrong : ChangeSpec := { name := "headNewest", fn := fun _ => fun
  | [d1, d2, d3, d4, d5] => { results := [.lit (.bool false)], args := [d1, d2, d3, d4, d5] }
  | _ => none }
def HeadNewestWrongFalsely : Prop := headNewestRow.holds Tryd.pinned (OpenSpec.ofChange headNewestWrong)

/- THE SECOND FORM. 'bulk': how many values and letters a reading holds, each counted each time it is reached (what is shared counts as often as it is met; a slice's spare places count too). A statement '..UptoSaid' is the law's where the arguments, and the package variables that the reading takes, are together of bulk at most 1048576: NARROWER than '..Said'. Prove '..Said' where nothing that the law and all that it calls make is longer than what came in: it says more and counts as full. Else prove '..UptoSaid'. A law counts once. -/
mutual
def uptoBulk {H : Type} : DataW H → Nat
  | .lit (.string bytes) => bytes.length + 1
  | .lit _ => 1
  | .nil => 1
  | .ptr d => uptoBulk d + 1
  | .slice elems spare => uptoBulkAll elems + uptoBulkAll spare + 1
  | .agg parts => uptoBulkAll parts + 1
  | .iface _ d => uptoBulk d + 1
  | .map entries => uptoBulkEntries entries + 1
  | .held _ => 1
def uptoBulkAll {H : Type} : List (DataW H) → Nat
  | [] => 0
  | d :: r => uptoBulk d + uptoBulkAll r
def uptoBulkEntries {H : Type} : List (Lit × DataW H) → Nat
  | [] => 0
  | x :: r => uptoBulkEntry x + uptoBulkEntries r
def uptoBulkEntry {H : Type} : Lit × DataW H → Nat
  | (.string bytes, d) => bytes.length + uptoBulk d + 1
  | (_, d) => uptoBulk d + 1
 end
def uptoSmall : (H : Type) → List (DataW H) → Bool := fun _ ds => decide (uptoBulkAll ds ≤ 1048576)
def OpenSpec.upto (s : _root_.Go.ChangeSpec) : _root_.Go.OpenSpec := { _root_.Go.OpenSpec.ofChange s with cond := some uptoSmall }

/-- 'cardexlaw06.HeadPuts', WHERE WHAT IT READS IS OF BULK AT MOST 1048576: true; the input reads as it did. -/
def headPutsUptoRow : OpenClaim := { program := "ytiiigbhkbpdciaadoor", sum := "9cbbc46c6416d9b6debe74a86db69641cc6d4ff1669281383e8e3e6782b6c1aa", func := "cardex/cardexlaw06.HeadPuts", spec := "headPuts", named := ["cardex/head.sizes", "cardex/crc.fourOn"], apart := false, laid := [("cardex/crc.fourOn", laid_cardex_crc_fourOn), ("cardex/head.sizes", laid_cardex_head_sizes)], narrowed := true }
def HeadPutsUptoSaid : Prop := headPutsUptoRow.holds Tryd.pinned (OpenSpec.upto headPutsSpec)

/-- 'cardexlaw06.HeadGets', WHERE WHAT IT READS IS OF BULK AT MOST 1048576: true; the input reads as it did. -/
def headGetsUptoRow : OpenClaim := { program := "ytiiigbhkbpdciaadoor", sum := "9cbbc46c6416d9b6debe74a86db69641cc6d4ff1669281383e8e3e6782b6c1aa", func := "cardex/cardexlaw06.HeadGets", spec := "headGets", named := ["cardex/crc.fourOn", "cardex/head.sizes"], apart := false, laid := [("cardex/crc.fourOn", laid_cardex_crc_fourOn), ("cardex/head.sizes", laid_cardex_head_sizes)], narrowed := true }
def HeadGetsUptoSaid : Prop := headGetsUptoRow.holds Tryd.pinned (OpenSpec.upto headGetsSpec)

/-- 'cardexlaw06.HeadBack', WHERE WHAT IT READS IS OF BULK AT MOST 1048576: true; the input reads as it did. -/
def headBackUptoRow : OpenClaim := { program := "ytiiigbhkbpdciaadoor", sum := "9cbbc46c6416d9b6debe74a86db69641cc6d4ff1669281383e8e3e6782b6c1aa", func := "cardex/cardexlaw06.HeadBack", spec := "headBack", named := ["cardex/head.sizes", "cardex/crc.fourOn"], apart := false, laid := [("cardex/crc.fourOn", laid_cardex_crc_fourOn), ("cardex/head.sizes", laid_cardex_head_sizes)], narrowed := true }
def HeadBackUptoSaid : Prop := headBackUptoRow.holds Tryd.pinned (OpenSpec.upto headBackSpec)

/-- 'cardexlaw06.HeadNewest', WHERE WHAT IT READS IS OF BULK AT MOST 1048576: true; the input reads as it did. -/
def headNewestUptoRow : OpenClaim := { program := "ytiiigbhkbpdciaadoor", sum := "9cbbc46c6416d9b6debe74a86db69641cc6d4ff1669281383e8e3e6782b6c1aa", func := "cardex/cardexlaw06.HeadNewest", spec := "headNewest", named := ["cardex/head.sizes", "cardex/crc.fourOn"], apart := false, laid := [("cardex/crc.fourOn", laid_cardex_crc_fourOn), ("cardex/head.sizes", laid_cardex_head_sizes)], narrowed := true }
def HeadNewestUptoSaid : Prop := headNewestUptoRow.holds Tryd.pinned (OpenSpec.upto headNewestSpec)

end Rows
end Go.Proofs.YtiiigbhkbpdciaaDoor
