/-
  NARROWER THAN 'FOR EVERY INPUT', by the rows' own cells (each row's printed sentence says how): SealTells: laid · SealKeeps: laid · SealBegins: laid · SealCounts: laid.
  DERIVED. THE GIVEN ROWS OF THIS SEAT. 4 by the template 'for every input the law returns true; each argument reads behind the call as it read before'; 0 by the template 'total and deterministic' (their statements: YtbjnmiaplegkcaaDoorTotals.lean).
  GIVEN WITH THE SEED: the statements are not yours to turn. If you find one false, say at which input.
  Laid BY PROGRAM, IN A SANDBOX (cutbox-rows.mjs): the forced cells as the released guide's own fill.sh prints them over the translation 0961e2c0d488a468… (all of the seat's roots in one cut). By AI agents, Wed Nov 11 2026. No macro, syntax, notation, axiom, sorry.
-/
import Derived.Test.YtbjnmiaplegkcaaDoorChecked
import GoSem.Claim
import GoSem.ClaimJoined
import GoSem.ClaimMapViews
import Derived.JoinedTies
import Derived.KernelRfl
namespace Go.Proofs.YtbjnmiaplegkcaaDoor
/- THE CELL 'sum', in the pinned program and in every row, IS THE sha256 OF THE DUMP (.gsa) THAT YtbjnmiaplegkcaaDoorProg.lean LOADS. Nothing in Lean hashes anything: it is a label: what it is worth is what the hold of that sum in a sandbox is worth. -/
noncomputable def Tryd.pinned : Pinned := { name := "ytbjnmiaplegkcaadoor", sum := "0961e2c0d488a4683b1e4acbdace6dfe3e9205aaf4d365ef9c2dfc1aae61f255", checked := Tryd.checked }
namespace Rows
def none {H : Type} : Left H := { results := [], args := [] }

/- WHAT THE LISTED PACKAGE-LEVEL VARIABLES READ AS WHEN THE CALL BEGINS. Each datum BY PROGRAM (the guide's laid-datum.mjs) off the statement by which the dump's own 'gosem.cut.vars' lays the variable. In a bare row this is a premise. The card (YtbjnmiaplegkcaaDoorCards.lean) ties it to the program's text. -/
def laid_cardex_crc_fourOn {H : Type} : DataW H := .agg [.lit (.int .u32 0), .lit (.int .u32 274646895), .lit (.int .u32 549293790), .lit (.int .u32 820201905), .lit (.int .u32 1098587580), .lit (.int .u32 1361435347), .lit (.int .u32 1640403810), .lit (.int .u32 1905808397), .lit (.int .u32 2197175160), .lit (.int .u32 2460548119), .lit (.int .u32 2722870694), .lit (.int .u32 2987750089), .lit (.int .u32 3280807620), .lit (.int .u32 3553878443), .lit (.int .u32 3811616794), .lit (.int .u32 4084100981)]

/-- 'cardexlaw05.SealTells': WHATEVER THE INPUT: true; the input reads as it did. -/
def sealTellsSpec : ChangeSpec := { name := "sealTells", fn := fun _ => fun
  | [d1, d2, d3, d4] => { results := [.lit (.bool true)], args := [d1, d2, d3, d4] }
  | _ => none }
def sealTellsRow : OpenClaim := { program := "ytbjnmiaplegkcaadoor", sum := "0961e2c0d488a4683b1e4acbdace6dfe3e9205aaf4d365ef9c2dfc1aae61f255", func := "cardex/cardexlaw05.SealTells", spec := "sealTells", named := ["cardex/crc.fourOn"], apart := false, laid := [("cardex/crc.fourOn", laid_cardex_crc_fourOn)] }
def SealTellsSaid : Prop := sealTellsRow.holds Tryd.pinned (OpenSpec.ofChange sealTellsSpec)

/-- ITS FALSE NEIGHBOUR: 'it returns false'. Refute it at one input. -/
def sealTellsWrong : ChangeSpec := { name := "sealTells", fn := fun _ => fun
  | [d1, d2, d3, d4] => { results := [.lit (.bool false)], args := [d1, d2, d3, d4] }
  | _ => none }
def SealTellsWrongFalsely : Prop := sealTellsRow.holds Tryd.pinned (OpenSpec.ofChange sealTellsWrong)

/-- 'cardexlaw05.SealKeeps': WHATEVER THE INPUT: true; the input reads as it did. -/
def sealKeepsSpec : ChangeSpec := { name := "sealKeeps", fn := fun _ => fun
  | [d1, d2, d3, d4] => { results := [.lit (.bool true)], args := [d1, d2, d3, d4] }
  | _ => none }
def sealKeepsRow : OpenClaim := { program := "ytbjnmiaplegkcaadoor", sum := "0961e2c0d488a4683b1e4acbdace6dfe3e9205aaf4d365ef9c2dfc1aae61f255", func := "cardex/cardexlaw05.SealKeeps", spec := "sealKeeps", named := ["cardex/crc.fourOn"], apart := false, laid := [("cardex/crc.fourOn", laid_cardex_crc_fourOn)] }
def SealKeepsSaid : Prop := sealKeepsRow.holds Tryd.pinned (OpenSpec.ofChange sealKeepsSpec)

/-- ITS FALSE NEIGHBOUR: 'it returns false'. Refute it at one input. -/
def sealKeepsWrong : ChangeSpec := { name := "sealKeeps", fn := fun _ => fun
  | [d1, d2, d3, d4] => { results := [.lit (.bool false)], args := [d1, d2, d3, d4] }
  | _ => none }
def SealKeepsWrongFalsely : Prop := sealKeepsRow.holds Tryd.pinned (OpenSpec.ofChange sealKeepsWrong)

/-- 'cardexlaw05.SealBegins': WHATEVER THE INPUT: true; the input reads as it did. -/
def sealBeginsSpec : ChangeSpec := { name := "sealBegins", fn := fun _ => fun
  | [d1, d2, d3] => { results := [.lit (.bool true)], args := [d1, d2, d3] }
  | _ => none }
def sealBeginsRow : OpenClaim := { program := "ytbjnmiaplegkcaadoor", sum := "0961e2c0d488a4683b1e4acbdace6dfe3e9205aaf4d365ef9c2dfc1aae61f255", func := "cardex/cardexlaw05.SealBegins", spec := "sealBegins", named := ["cardex/crc.fourOn"], apart := false, laid := [("cardex/crc.fourOn", laid_cardex_crc_fourOn)] }
def SealBeginsSaid : Prop := sealBeginsRow.holds Tryd.pinned (OpenSpec.ofChange sealBeginsSpec)

/-- ITS FALSE NEIGHBOUR: 'it returns false'. Refute it at one input. -/
def sealBeginsWrong : ChangeSpec := { name := "sealBegins", fn := fun _ => fun
  | [d1, d2, d3] => { results := [.lit (.bool false)], args := [d1, d2, d3] }
  | _ => none }
def SealBeginsWrongFalsely : Prop := sealBeginsRow.holds Tryd.pinned (OpenSpec.ofChange sealBeginsWrong)

/-- 'cardexlaw05.SealCounts': WHATEVER THE INPUT: true; the input reads as it did. -/
def sealCountsSpec : ChangeSpec := { name := "sealCounts", fn := fun _ => fun
  | [d1, d2, d3, d4, d5, d6] => { results := [.lit (.bool true)], args := [d1, d2, d3, d4, d5, d6] }
  | _ => none }
def sealCountsRow : OpenClaim := { program := "ytbjnmiaplegkcaadoor", sum := "0961e2c0d488a4683b1e4acbdace6dfe3e9205aaf4d365ef9c2dfc1aae61f255", func := "cardex/cardexlaw05.SealCounts", spec := "sealCounts", named := ["cardex/crc.fourOn"], apart := false, laid := [("cardex/crc.fourOn", laid_cardex_crc_fourOn)] }
def SealCountsSaid : Prop := sealCountsRow.holds Tryd.pinned (OpenSpec.ofChange sealCountsSpec)

/-- ITS FALSE NEIGHBOUR: 'it returns false'. Refute it at one input. -/
def sealCountsWrong : ChangeSpec := { name := "sealCounts", fn := fun _ => fun
  | [d1, d2, d3, d4, d5, d6] => { results := [.lit (.bool false)], args := [d1, d2, d3, d4, d5, d6] }
  | _ => none }
def SealCountsWrongFalsely : Prop := sealCountsRow.holds Tryd.pinned (OpenSpec.ofChange sealCountsWrong)

/- THE SECOND FORM. 'bulk': how many values and letters a reading holds, each counted each time it is reached (what is shared counts as often as it is met; a slice's spare places count too). A statement '..UptoSaid' is the law's where the arguments, and the package variables that the reading takes, are together of bulk at most 1048576: NARROWER than '..Said'. Prove '..Said' where nothing that the law and all that it calls make is longer than what came in: it says more and counts as full. Else prove '..UptoSaid'. A law counts once. -/
mutual
def uptoBulk {H : Type} : DataW H → Nat
  | .lit (.string bytes) => bytes.length + 1
  | .lit _ => 1
  | .nil => 1
  | .ptr d => uptoBulk d + 1
  | .slice elems spare => uptoBulkAll elems + uptoBulkAll spare + 1
  | .agg parts => uptoBulkAll parts + 1
  | .iface _ d => uptoBulk d + 1
  | .map entries => uptoBulkEntries entries + 1
  | .held _ => 1
def uptoBulkAll {H : Type} : List (DataW H) → Nat
  | [] => 0
  | d :: r => uptoBulk d + uptoBulkAll r
def uptoBulkEntries {H : Type} : List (Lit × DataW H) → Nat
  | [] => 0
  | x :: r => uptoBulkEntry x + uptoBulkEntries r
def uptoBulkEntry {H : Type} : Lit × DataW H → Nat
  | (.string bytes, d) => bytes.length + uptoBulk d + 1
  | (_, d) => uptoBulk d + 1
 end
def uptoSmall : (H : Type) → List (DataW H) → Bool := fun _ ds => decide (uptoBulkAll ds ≤ 1048576)
def OpenSpec.upto (s : _root_.Go.ChangeSpec) : _root_.Go.OpenSpec := { _root_.Go.OpenSpec.ofChange s with cond := some uptoSmall }

/-- 'cardexlaw05.SealTells', WHERE WHAT IT READS IS OF BULK AT MOST 1048576: true; the input reads as it did. -/
def sealTellsUptoRow : OpenClaim := { program := "ytbjnmiaplegkcaadoor", sum := "0961e2c0d488a4683b1e4acbdace6dfe3e9205aaf4d365ef9c2dfc1aae61f255", func := "cardex/cardexlaw05.SealTells", spec := "sealTells", named := ["cardex/crc.fourOn"], apart := false, laid := [("cardex/crc.fourOn", laid_cardex_crc_fourOn)], narrowed := true }
def SealTellsUptoSaid : Prop := sealTellsUptoRow.holds Tryd.pinned (OpenSpec.upto sealTellsSpec)

/-- 'cardexlaw05.SealKeeps', WHERE WHAT IT READS IS OF BULK AT MOST 1048576: true; the input reads as it did. -/
def sealKeepsUptoRow : OpenClaim := { program := "ytbjnmiaplegkcaadoor", sum := "0961e2c0d488a4683b1e4acbdace6dfe3e9205aaf4d365ef9c2dfc1aae61f255", func := "cardex/cardexlaw05.SealKeeps", spec := "sealKeeps", named := ["cardex/crc.fourOn"], apart := false, laid := [("cardex/crc.fourOn", laid_cardex_crc_fourOn)], narrowed := true }
def SealKeepsUptoSaid : Prop := sealKeepsUptoRow.holds Tryd.pinned (OpenSpec.upto sealKeepsSpec)

/-- 'cardexlaw05.SealBegins', WHERE WHAT IT READS IS OF BULK AT MOST 1048576: true; the input reads as it did. -/
def sealBeginsUptoRow : OpenClaim := { program := "ytbjnmiaplegkcaadoor", sum := "0961e2c0d488a4683b1e4acbdace6dfe3e9205aaf4d365ef9c2dfc1aae61f255", func := "cardex/cardexlaw05.SealBegins", spec := "sealBegins", named := ["cardex/crc.fourOn"], apart := false, laid := [("cardex/crc.fourOn", laid_cardex_crc_fourOn)], narrowed := true }
def SealBeginsUptoSaid : Prop := sealBeginsUptoRow.holds Tryd.pinned (OpenSpec.upto sealBeginsSpec)

/-- 'cardexlaw05.SealCounts', WHERE WHAT IT READS IS OF BULK AT MOST 1048576: true; the input reads as it did. -/
def sealCountsUptoRow : OpenClaim := { program := "ytbjnmiaplegkcaadoor", sum := "0961e2c0d488a4683b1e4acbdace6dfe3e9205aaf4d365ef9c2dfc1aae61f255", func := "cardex/cardexlaw05.SealCounts", spec := "sealCounts", named := ["cardex/crc.fourOn"], apart := false, laid := [("cardex/crc.fourOn", laid_cardex_crc_fourOn)], narrowed := true }
def SealCountsUptoSaid : Prop := sealCountsUptoRow.holds Tryd.pinned (OpenSpec.upto sealCountsSpec)

end Rows
end Go.Proofs.YtbjnmiaplegkcaaDoor
