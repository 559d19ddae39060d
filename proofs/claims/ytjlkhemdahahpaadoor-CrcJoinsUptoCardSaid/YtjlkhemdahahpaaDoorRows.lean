/-
  NARROWER THAN 'FOR EVERY INPUT', by the rows' own cells (each row's printed sentence says how): CrcTells: laid · CrcJoins: laid · CrcOn: laid · CrcSide: laid.
  DERIVED. THE GIVEN ROWS OF THIS SEAT. 4 by the template 'for every input the law returns true; each argument reads behind the call as it read before'; 0 by the template 'total and deterministic' (their statements: YtjlkhemdahahpaaDoorTotals.lean).
  GIVEN WITH THE SEED: the statements are not yours to turn. If you find one false, say at which input.
  Laid BY PROGRAM, IN A SANDBOX (cutbox-rows.mjs): the forced cells as the released guide's own fill.sh prints them over the translation 7dfd7dd957f9e93a… (all of the seat's roots in one cut). By AI agents, Wed Nov 11 2026. No macro, syntax, notation, axiom, sorry.
-/
import Derived.Test.YtjlkhemdahahpaaDoorChecked
import GoSem.Claim
import GoSem.ClaimJoined
import GoSem.ClaimMapViews
import Derived.JoinedTies
import Derived.KernelRfl
namespace Go.Proofs.YtjlkhemdahahpaaDoor
/- THE CELL 'sum', in the pinned program and in every row, IS THE sha256 OF THE DUMP (.gsa) THAT YtjlkhemdahahpaaDoorProg.lean LOADS. Nothing in Lean hashes anything: it is a label: what it is worth is what the hold of that sum in a sandbox is worth. -/
noncomputable def Tryd.pinned : Pinned := { name := "ytjlkhemdahahpaadoor", sum := "7dfd7dd957f9e93a47cbc78f2a03a0caf8fe03d07696268c9b5ffa48aa3a5a05", checked := Tryd.checked }
namespace Rows
def none {H : Type} : Left H := { results := [], args := [] }

/- WHAT THE LISTED PACKAGE-LEVEL VARIABLES READ AS WHEN THE CALL BEGINS. Each datum BY PROGRAM (the guide's laid-datum.mjs) off the statement by which the dump's own 'gosem.cut.vars' lays the variable. In a bare row this is a premise. The card (YtjlkhemdahahpaaDoorCards.lean) ties it to the program's text. -/
def laid_cardex_crc_fourOn {H : Type} : DataW H := .agg [.lit (.int .u32 0), .lit (.int .u32 274646895), .lit (.int .u32 549293790), .lit (.int .u32 820201905), .lit (.int .u32 1098587580), .lit (.int .u32 1361435347), .lit (.int .u32 1640403810), .lit (.int .u32 1905808397), .lit (.int .u32 2197175160), .lit (.int .u32 2460548119), .lit (.int .u32 2722870694), .lit (.int .u32 2987750089), .lit (.int .u32 3280807620), .lit (.int .u32 3553878443), .lit (.int .u32 3811616794), .lit (.int .u32 4084100981)]

/-- 'cardexlaw03.CrcTells': WHATEVER THE INPUT: true; the input reads as it did. -/
def crcTellsSpec : ChangeSpec := { name := "crcTells", fn := fun _ => fun
  | [d1, d2, d3, d4] => { results := [.lit (.bool true)], args := [d1, d2, d3, d4] }
  | _ => none }
def crcTellsRow : OpenClaim := { program := "ytjlkhemdahahpaadoor", sum := "7dfd7dd957f9e93a47cbc78f2a03a0caf8fe03d07696268c9b5ffa48aa3a5a05", func := "cardex/cardexlaw03.CrcTells", spec := "crcTells", named := ["cardex/crc.fourOn"], apart := false, laid := [("cardex/crc.fourOn", laid_cardex_crc_fourOn)] }
def CrcTellsSaid : Prop := crcTellsRow.holds Tryd.pinned (OpenSpec.ofChange crcTellsSpec)

/-- ITS FALSE NEIGHBOUR: 'it returns false'. Refute it at one input. -/
def crcTellsWrong : ChangeSpec := { name := "crcTells", fn := fun _ => fun
  | [d1, d2, d3, d4] => { results := [.lit (.bool false)], args := [d1, d2, d3, d4] }
  | _ => none }
def CrcTellsWrongFalsely : Prop := crcTellsRow.holds Tryd.pinned (OpenSpec.ofChange crcTellsWrong)

/-- 'cardexlaw03.CrcJoins': WHATEVER THE INPUT: true; the input reads as it did. -/
def crcJoinsSpec : ChangeSpec := { name := "crcJoins", fn := fun _ => fun
  | [d] => { results := [.lit (.bool true)], args := [d] }
  | _ => none }
def crcJoinsRow : OpenClaim := { program := "ytjlkhemdahahpaadoor", sum := "7dfd7dd957f9e93a47cbc78f2a03a0caf8fe03d07696268c9b5ffa48aa3a5a05", func := "cardex/cardexlaw03.CrcJoins", spec := "crcJoins", named := ["cardex/crc.fourOn"], apart := false, laid := [("cardex/crc.fourOn", laid_cardex_crc_fourOn)] }
def CrcJoinsSaid : Prop := crcJoinsRow.holds Tryd.pinned (OpenSpec.ofChange crcJoinsSpec)

/-- ITS FALSE NEIGHBOUR: 'it returns false'. Refute it at one input. -/
def crcJoinsWrong : ChangeSpec := { name := "crcJoins", fn := fun _ => fun
  | [d] => { results := [.lit (.bool false)], args := [d] }
  | _ => none }
def CrcJoinsWrongFalsely : Prop := crcJoinsRow.holds Tryd.pinned (OpenSpec.ofChange crcJoinsWrong)

/-- 'cardexlaw03.CrcOn': WHATEVER THE INPUT: true; the input reads as it did. -/
def crcOnSpec : ChangeSpec := { name := "crcOn", fn := fun _ => fun
  | [d1, d2, d3, d4] => { results := [.lit (.bool true)], args := [d1, d2, d3, d4] }
  | _ => none }
def crcOnRow : OpenClaim := { program := "ytjlkhemdahahpaadoor", sum := "7dfd7dd957f9e93a47cbc78f2a03a0caf8fe03d07696268c9b5ffa48aa3a5a05", func := "cardex/cardexlaw03.CrcOn", spec := "crcOn", named := ["cardex/crc.fourOn"], apart := false, laid := [("cardex/crc.fourOn", laid_cardex_crc_fourOn)] }
def CrcOnSaid : Prop := crcOnRow.holds Tryd.pinned (OpenSpec.ofChange crcOnSpec)

/-- ITS FALSE NEIGHBOUR: 'it returns false'. Refute it at one input. -/
def crcOnWrong : ChangeSpec := { name := "crcOn", fn := fun _ => fun
  | [d1, d2, d3, d4] => { results := [.lit (.bool false)], args := [d1, d2, d3, d4] }
  | _ => none }
def CrcOnWrongFalsely : Prop := crcOnRow.holds Tryd.pinned (OpenSpec.ofChange crcOnWrong)

/-- 'cardexlaw03.CrcSide': WHATEVER THE INPUT: true; the input reads as it did. -/
def crcSideSpec : ChangeSpec := { name := "crcSide", fn := fun _ => fun
  | [d1, d2, d3, d4] => { results := [.lit (.bool true)], args := [d1, d2, d3, d4] }
  | _ => none }
def crcSideRow : OpenClaim := { program := "ytjlkhemdahahpaadoor", sum := "7dfd7dd957f9e93a47cbc78f2a03a0caf8fe03d07696268c9b5ffa48aa3a5a05", func := "cardex/cardexlaw03.CrcSide", spec := "crcSide", named := ["cardex/crc.fourOn"], apart := false, laid := [("cardex/crc.fourOn", laid_cardex_crc_fourOn)] }
def CrcSideSaid : Prop := crcSideRow.holds Tryd.pinned (OpenSpec.ofChange crcSideSpec)

/-- ITS FALSE NEIGHBOUR: 'it returns false'. Refute it at one input. -/
def crcSideWrong : ChangeSpec := { name := "crcSide", fn := fun _ => fun
  | [d1, d2, d3, d4] => { results := [.lit (.bool false)], args := [d1, d2, d3, d4] }
  | _ => none }
def CrcSideWrongFalsely : Prop := crcSideRow.holds Tryd.pinned (OpenSpec.ofChange crcSideWrong)

/- THE SECOND FORM. 'bulk': how many values and letters a reading holds, each counted each time it is reached (what is shared counts as often as it is met; a slice's spare places count too). A statement '..UptoSaid' is the law's where the arguments, and the package variables that the reading takes, are together of bulk at most 1048576: NARROWER than '..Said'. Prove '..Said' where nothing that the law and all that it calls make is longer than what came in: it says more and counts as full. Else prove '..UptoSaid'. A law counts once. -/
mutual
def uptoBulk {H : Type} : DataW H → Nat
  | .lit (.string bytes) => bytes.length + 1
  | .lit _ => 1
  | .nil => 1
  | .ptr d => uptoBulk d + 1
  | .slice elems spare => uptoBulkAll elems + uptoBulkAll spare + 1
  | .agg parts => uptoBulkAll parts + 1
  | .iface _ d => uptoBulk d + 1
  | .map entries => uptoBulkEntries entries + 1
  | .held _ => 1
def uptoBulkAll {H : Type} : List (DataW H) → Nat
  | [] => 0
  | d :: r => uptoBulk d + uptoBulkAll r
def uptoBulkEntries {H : Type} : List (Lit × DataW H) → Nat
  | [] => 0
  | x :: r => uptoBulkEntry x + uptoBulkEntries r
def uptoBulkEntry {H : Type} : Lit × DataW H → Nat
  | (.string bytes, d) => bytes.length + uptoBulk d + 1
  | (_, d) => uptoBulk d + 1
 end
def uptoSmall : (H : Type) → List (DataW H) → Bool := fun _ ds => decide (uptoBulkAll ds ≤ 1048576)
def OpenSpec.upto (s : _root_.Go.ChangeSpec) : _root_.Go.OpenSpec := { _root_.Go.OpenSpec.ofChange s with cond := some uptoSmall }

/-- 'cardexlaw03.CrcTells', WHERE WHAT IT READS IS OF BULK AT MOST 1048576: true; the input reads as it did. -/
def crcTellsUptoRow : OpenClaim := { program := "ytjlkhemdahahpaadoor", sum := "7dfd7dd957f9e93a47cbc78f2a03a0caf8fe03d07696268c9b5ffa48aa3a5a05", func := "cardex/cardexlaw03.CrcTells", spec := "crcTells", named := ["cardex/crc.fourOn"], apart := false, laid := [("cardex/crc.fourOn", laid_cardex_crc_fourOn)], narrowed := true }
def CrcTellsUptoSaid : Prop := crcTellsUptoRow.holds Tryd.pinned (OpenSpec.upto crcTellsSpec)

/-- 'cardexlaw03.CrcJoins', WHERE WHAT IT READS IS OF BULK AT MOST 1048576: true; the input reads as it did. -/
def crcJoinsUptoRow : OpenClaim := { program := "ytjlkhemdahahpaadoor", sum := "7dfd7dd957f9e93a47cbc78f2a03a0caf8fe03d07696268c9b5ffa48aa3a5a05", func := "cardex/cardexlaw03.CrcJoins", spec := "crcJoins", named := ["cardex/crc.fourOn"], apart := false, laid := [("cardex/crc.fourOn", laid_cardex_crc_fourOn)], narrowed := true }
def CrcJoinsUptoSaid : Prop := crcJoinsUptoRow.holds Tryd.pinned (OpenSpec.upto crcJoinsSpec)

/-- 'cardexlaw03.CrcOn', WHERE WHAT IT READS IS OF BULK AT MOST 1048576: true; the input reads as it did. -/
def crcOnUptoRow : OpenClaim := { program := "ytjlkhemdahahpaadoor", sum := "7dfd7dd957f9e93a47cbc78f2a03a0caf8fe03d07696268c9b5ffa48aa3a5a05", func := "cardex/cardexlaw03.CrcOn", spec := "crcOn", named := ["cardex/crc.fourOn"], apart := false, laid := [("cardex/crc.fourOn", laid_cardex_crc_fourOn)], narrowed := true }
def CrcOnUptoSaid : Prop := crcOnUptoRow.holds Tryd.pinned (OpenSpec.upto crcOnSpec)

/-- 'cardexlaw03.CrcSide', WHERE WHAT IT READS IS OF BULK AT MOST 1048576: true; the input reads as it did. -/
def crcSideUptoRow : OpenClaim := { program := "ytjlkhemdahahpaadoor", sum := "7dfd7dd957f9e93a47cbc78f2a03a0caf8fe03d07696268c9b5ffa48aa3a5a05", func := "cardex/cardexlaw03.CrcSide", spec := "crcSide", named := ["cardex/crc.fourOn"], apart := false, laid := [("cardex/crc.fourOn", laid_cardex_crc_fourOn)], narrowed := true }
def CrcSideUptoSaid : Prop := crcSideUptoRow.holds Tryd.pinned (OpenSpec.upto crcSideSpec)

end Rows
end Go.Proofs.YtjlkhemdahahpaaDoor
