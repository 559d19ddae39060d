/-
  DERIVED. GIVEN WITH THE SEED: THE CARDS: each row of YtjlkhemdahahpaaDoorRows.lean that lists a variable, with what it lists TIED to the program's text (the seventh form; the later family's looks); each row that meets fmt, with fmt's text TOLD by the authors' own Lean function (tested against real Go, not proved from fmt's source: count such statements apart). THE CARD IS WHAT COUNTS. Prove the row's statement (the work); the ties are given (YtjlkhemdahahpaaDoorTie.lean); close each card by the builder's one call (the guide's Derived/Test/ToyasCard.lean, 'card_holds'). Laid BY PROGRAM, IN A SANDBOX (cutbox-door.mjs). By AI agents, Wed Nov 11 2026. No macro, syntax, notation, axiom, sorry.
-/
import Derived.Test.YtjlkhemdahahpaaDoorRows
import GoSem.ClaimSeven
namespace Go.Proofs.YtjlkhemdahahpaaDoor
namespace Rows

/-- THE TIED CARD OF 'cardexlaw03.CrcTells'. -/
def crcTellsCard : Claim7 := { stood := { row := crcTellsRow, standIns := [], harness := (true, "47db70ad55824daf57003aa891c971ffec63e11ff9d6c9b4b553ae72103b0dbc"), looks := false }, kinds := [], alts := [], laidByText := true, laidKinds := [.data], laidTests := true, laidLooks := .later }
def CrcTellsCardSaid : Prop := Claim7.holds Tryd.pinned (.plain (OpenSpec.ofChange crcTellsSpec)) crcTellsCard

/-- THE TIED CARD OF 'cardexlaw03.CrcJoins'. -/
def crcJoinsCard : Claim7 := { stood := { row := crcJoinsRow, standIns := [], harness := (true, "47db70ad55824daf57003aa891c971ffec63e11ff9d6c9b4b553ae72103b0dbc"), looks := false }, kinds := [], alts := [], laidByText := true, laidKinds := [.data], laidTests := true, laidLooks := .later }
def CrcJoinsCardSaid : Prop := Claim7.holds Tryd.pinned (.plain (OpenSpec.ofChange crcJoinsSpec)) crcJoinsCard

/-- THE TIED CARD OF 'cardexlaw03.CrcOn'. -/
def crcOnCard : Claim7 := { stood := { row := crcOnRow, standIns := [], harness := (true, "47db70ad55824daf57003aa891c971ffec63e11ff9d6c9b4b553ae72103b0dbc"), looks := false }, kinds := [], alts := [], laidByText := true, laidKinds := [.data], laidTests := true, laidLooks := .later }
def CrcOnCardSaid : Prop := Claim7.holds Tryd.pinned (.plain (OpenSpec.ofChange crcOnSpec)) crcOnCard

/-- THE TIED CARD OF 'cardexlaw03.CrcSide'. -/
def crcSideCard : Claim7 := { stood := { row := crcSideRow, standIns := [], harness := (true, "47db70ad55824daf57003aa891c971ffec63e11ff9d6c9b4b553ae72103b0dbc"), looks := false }, kinds := [], alts := [], laidByText := true, laidKinds := [.data], laidTests := true, laidLooks := .later }
def CrcSideCardSaid : Prop := Claim7.holds Tryd.pinned (.plain (OpenSpec.ofChange crcSideSpec)) crcSideCard

/-- THE SECOND FORM's CARD OF 'cardexlaw03.CrcTells'. -/
def crcTellsUptoCard : Claim7 := { stood := { row := crcTellsUptoRow, standIns := [], harness := (true, "47db70ad55824daf57003aa891c971ffec63e11ff9d6c9b4b553ae72103b0dbc"), looks := false }, kinds := [], alts := [], laidByText := true, laidKinds := [.data], laidTests := true, laidLooks := .later }
def CrcTellsUptoCardSaid : Prop := Claim7.holds Tryd.pinned (.plain (OpenSpec.upto crcTellsSpec)) crcTellsUptoCard

/-- THE SECOND FORM's CARD OF 'cardexlaw03.CrcJoins'. -/
def crcJoinsUptoCard : Claim7 := { stood := { row := crcJoinsUptoRow, standIns := [], harness := (true, "47db70ad55824daf57003aa891c971ffec63e11ff9d6c9b4b553ae72103b0dbc"), looks := false }, kinds := [], alts := [], laidByText := true, laidKinds := [.data], laidTests := true, laidLooks := .later }
def CrcJoinsUptoCardSaid : Prop := Claim7.holds Tryd.pinned (.plain (OpenSpec.upto crcJoinsSpec)) crcJoinsUptoCard

/-- THE SECOND FORM's CARD OF 'cardexlaw03.CrcOn'. -/
def crcOnUptoCard : Claim7 := { stood := { row := crcOnUptoRow, standIns := [], harness := (true, "47db70ad55824daf57003aa891c971ffec63e11ff9d6c9b4b553ae72103b0dbc"), looks := false }, kinds := [], alts := [], laidByText := true, laidKinds := [.data], laidTests := true, laidLooks := .later }
def CrcOnUptoCardSaid : Prop := Claim7.holds Tryd.pinned (.plain (OpenSpec.upto crcOnSpec)) crcOnUptoCard

/-- THE SECOND FORM's CARD OF 'cardexlaw03.CrcSide'. -/
def crcSideUptoCard : Claim7 := { stood := { row := crcSideUptoRow, standIns := [], harness := (true, "47db70ad55824daf57003aa891c971ffec63e11ff9d6c9b4b553ae72103b0dbc"), looks := false }, kinds := [], alts := [], laidByText := true, laidKinds := [.data], laidTests := true, laidLooks := .later }
def CrcSideUptoCardSaid : Prop := Claim7.holds Tryd.pinned (.plain (OpenSpec.upto crcSideSpec)) crcSideUptoCard
end Rows
end Go.Proofs.YtjlkhemdahahpaaDoor
