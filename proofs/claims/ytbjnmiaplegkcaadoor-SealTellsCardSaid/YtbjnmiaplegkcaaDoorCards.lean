/-
  DERIVED. GIVEN WITH THE SEED: THE CARDS: each row of YtbjnmiaplegkcaaDoorRows.lean that lists a variable, with what it lists TIED to the program's text (the seventh form; the later family's looks); each row that meets fmt, with fmt's text TOLD by the authors' own Lean function (tested against real Go, not proved from fmt's source: count such statements apart). THE CARD IS WHAT COUNTS. Prove the row's statement (the work); the ties are given (YtbjnmiaplegkcaaDoorTie.lean); close each card by the builder's one call (the guide's Derived/Test/ToyasCard.lean, 'card_holds'). Laid BY PROGRAM, IN A SANDBOX (cutbox-door.mjs). By AI agents, Wed Nov 11 2026. No macro, syntax, notation, axiom, sorry.
-/
import Derived.Test.YtbjnmiaplegkcaaDoorRows
import GoSem.ClaimSeven
namespace Go.Proofs.YtbjnmiaplegkcaaDoor
namespace Rows

/-- THE TIED CARD OF 'cardexlaw05.SealTells'. -/
def sealTellsCard : Claim7 := { stood := { row := sealTellsRow, standIns := [], harness := (true, "aa3097b4098dccab51c06342d76a6331c36b49cb82018bb1ce605ac936c46791"), looks := false }, kinds := [], alts := [], laidByText := true, laidKinds := [.data], laidTests := true, laidLooks := .later }
def SealTellsCardSaid : Prop := Claim7.holds Tryd.pinned (.plain (OpenSpec.ofChange sealTellsSpec)) sealTellsCard

/-- THE TIED CARD OF 'cardexlaw05.SealKeeps'. -/
def sealKeepsCard : Claim7 := { stood := { row := sealKeepsRow, standIns := [], harness := (true, "aa3097b4098dccab51c06342d76a6331c36b49cb82018bb1ce605ac936c46791"), looks := false }, kinds := [], alts := [], laidByText := true, laidKinds := [.data], laidTests := true, laidLooks := .later }
def SealKeepsCardSaid : Prop := Claim7.holds Tryd.pinned (.plain (OpenSpec.ofChange sealKeepsSpec)) sealKeepsCard

/-- THE TIED CARD OF 'cardexlaw05.SealBegins'. -/
def sealBeginsCard : Claim7 := { stood := { row := sealBeginsRow, standIns := [], harness := (true, "aa3097b4098dccab51c06342d76a6331c36b49cb82018bb1ce605ac936c46791"), looks := false }, kinds := [], alts := [], laidByText := true, laidKinds := [.data], laidTests := true, laidLooks := .later }
def SealBeginsCardSaid : Prop := Claim7.holds Tryd.pinned (.plain (OpenSpec.ofChange sealBeginsSpec)) sealBeginsCard

/-- THE TIED CARD OF 'cardexlaw05.SealCounts'. -/
def sealCountsCard : Claim7 := { stood := { row := sealCountsRow, standIns := [], harness := (true, "aa3097b4098dccab51c06342d76a6331c36b49cb82018bb1ce605ac936c46791"), looks := false }, kinds := [], alts := [], laidByText := true, laidKinds := [.data], laidTests := true, laidLooks := .later }
def SealCountsCardSaid : Prop := Claim7.holds Tryd.pinned (.plain (OpenSpec.ofChange sealCountsSpec)) sealCountsCard

/-- THE SECOND FORM's CARD OF 'cardexlaw05.SealTells'. -/
def sealTellsUptoCard : Claim7 := { stood := { row := sealTellsUptoRow, standIns := [], harness := (true, "aa3097b4098dccab51c06342d76a6331c36b49cb82018bb1ce605ac936c46791"), looks := false }, kinds := [], alts := [], laidByText := true, laidKinds := [.data], laidTests := true, laidLooks := .later }
def SealTellsUptoCardSaid : Prop := Claim7.holds Tryd.pinned (.plain (OpenSpec.upto sealTellsSpec)) sealTellsUptoCard

/-- THE SECOND FORM's CARD OF 'cardexlaw05.SealKeeps'. -/
def sealKeepsUptoCard : Claim7 := { stood := { row := sealKeepsUptoRow, standIns := [], harness := (true, "aa3097b4098dccab51c06342d76a6331c36b49cb82018bb1ce605ac936c46791"), looks := false }, kinds := [], alts := [], laidByText := true, laidKinds := [.data], laidTests := true, laidLooks := .later }
def SealKeepsUptoCardSaid : Prop := Claim7.holds Tryd.pinned (.plain (OpenSpec.upto sealKeepsSpec)) sealKeepsUptoCard

/-- THE SECOND FORM's CARD OF 'cardexlaw05.SealBegins'. -/
def sealBeginsUptoCard : Claim7 := { stood := { row := sealBeginsUptoRow, standIns := [], harness := (true, "aa3097b4098dccab51c06342d76a6331c36b49cb82018bb1ce605ac936c46791"), looks := false }, kinds := [], alts := [], laidByText := true, laidKinds := [.data], laidTests := true, laidLooks := .later }
def SealBeginsUptoCardSaid : Prop := Claim7.holds Tryd.pinned (.plain (OpenSpec.upto sealBeginsSpec)) sealBeginsUptoCard

/-- THE SECOND FORM's CARD OF 'cardexlaw05.SealCounts'. -/
def sealCountsUptoCard : Claim7 := { stood := { row := sealCountsUptoRow, standIns := [], harness := (true, "aa3097b4098dccab51c06342d76a6331c36b49cb82018bb1ce605ac936c46791"), looks := false }, kinds := [], alts := [], laidByText := true, laidKinds := [.data], laidTests := true, laidLooks := .later }
def SealCountsUptoCardSaid : Prop := Claim7.holds Tryd.pinned (.plain (OpenSpec.upto sealCountsSpec)) sealCountsUptoCard
end Rows
end Go.Proofs.YtbjnmiaplegkcaaDoor
