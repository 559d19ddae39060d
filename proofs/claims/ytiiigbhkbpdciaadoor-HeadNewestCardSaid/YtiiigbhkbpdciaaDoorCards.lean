/-
  DERIVED. GIVEN WITH THE SEED: THE CARDS: each row of YtiiigbhkbpdciaaDoorRows.lean that lists a variable, with what it lists TIED to the program's text (the seventh form; the later family's looks); each row that meets fmt, with fmt's text TOLD by the authors' own Lean function (tested against real Go, not proved from fmt's source: count such statements apart). THE CARD IS WHAT COUNTS. Prove the row's statement (the work); the ties are given (YtiiigbhkbpdciaaDoorTie.lean); close each card by the builder's one call (the guide's Derived/Test/ToyasCard.lean, 'card_holds'). Laid BY PROGRAM, IN A SANDBOX (cutbox-door.mjs). By AI agents, Wed Nov 11 2026. No macro, syntax, notation, axiom, sorry.
-/
import Derived.Test.YtiiigbhkbpdciaaDoorRows
import GoSem.ClaimSeven
namespace Go.Proofs.YtiiigbhkbpdciaaDoor
namespace Rows

/-- THE TIED CARD OF 'cardexlaw06.HeadPuts'. -/
def headPutsCard : Claim7 := { stood := { row := headPutsRow, standIns := [], harness := (true, "7572c5aac0cfa8260d8c09843c1ac65cdbd09b6d5279b0e341116780f8ecd840"), looks := false }, kinds := [], alts := [], laidByText := true, laidKinds := [.data, .data], laidTests := true, laidLooks := .later }
def HeadPutsCardSaid : Prop := Claim7.holds Tryd.pinned (.plain (OpenSpec.ofChange headPutsSpec)) headPutsCard

/-- THE TIED CARD OF 'cardexlaw06.HeadGets'. -/
def headGetsCard : Claim7 := { stood := { row := headGetsRow, standIns := [], harness := (true, "7572c5aac0cfa8260d8c09843c1ac65cdbd09b6d5279b0e341116780f8ecd840"), looks := false }, kinds := [], alts := [], laidByText := true, laidKinds := [.data, .data], laidTests := true, laidLooks := .later }
def HeadGetsCardSaid : Prop := Claim7.holds Tryd.pinned (.plain (OpenSpec.ofChange headGetsSpec)) headGetsCard

/-- THE TIED CARD OF 'cardexlaw06.HeadBack'. -/
def headBackCard : Claim7 := { stood := { row := headBackRow, standIns := [], harness := (true, "7572c5aac0cfa8260d8c09843c1ac65cdbd09b6d5279b0e341116780f8ecd840"), looks := false }, kinds := [], alts := [], laidByText := true, laidKinds := [.data, .data], laidTests := true, laidLooks := .later }
def HeadBackCardSaid : Prop := Claim7.holds Tryd.pinned (.plain (OpenSpec.ofChange headBackSpec)) headBackCard

/-- THE TIED CARD OF 'cardexlaw06.HeadNewest'. -/
def headNewestCard : Claim7 := { stood := { row := headNewestRow, standIns := [], harness := (true, "7572c5aac0cfa8260d8c09843c1ac65cdbd09b6d5279b0e341116780f8ecd840"), looks := false }, kinds := [], alts := [], laidByText := true, laidKinds := [.data, .data], laidTests := true, laidLooks := .later }
def HeadNewestCardSaid : Prop := Claim7.holds Tryd.pinned (.plain (OpenSpec.ofChange headNewestSpec)) headNewestCard

/-- THE SECOND FORM's CARD OF 'cardexlaw06.HeadPuts'. -/
def headPutsUptoCard : Claim7 := { stood := { row := headPutsUptoRow, standIns := [], harness := (true, "7572c5aac0cfa8260d8c09843c1ac65cdbd09b6d5279b0e341116780f8ecd840"), looks := false }, kinds := [], alts := [], laidByText := true, laidKinds := [.data, .data], laidTests := true, laidLooks := .later }
def HeadPutsUptoCardSaid : Prop := Claim7.holds Tryd.pinned (.plain (OpenSpec.upto headPutsSpec)) headPutsUptoCard

/-- THE SECOND FORM's CARD OF 'cardexlaw06.HeadGets'. -/
def headGetsUptoCard : Claim7 := { stood := { row := headGetsUptoRow, standIns := [], harness := (true, "7572c5aac0cfa8260d8c09843c1ac65cdbd09b6d5279b0e341116780f8ecd840"), looks := false }, kinds := [], alts := [], laidByText := true, laidKinds := [.data, .data], laidTests := true, laidLooks := .later }
def HeadGetsUptoCardSaid : Prop := Claim7.holds Tryd.pinned (.plain (OpenSpec.upto headGetsSpec)) headGetsUptoCard

/-- THE SECOND FORM's CARD OF 'cardexlaw06.HeadBack'. -/
def headBackUptoCard : Claim7 := { stood := { row := headBackUptoRow, standIns := [], harness := (true, "7572c5aac0cfa8260d8c09843c1ac65cdbd09b6d5279b0e341116780f8ecd840"), looks := false }, kinds := [], alts := [], laidByText := true, laidKinds := [.data, .data], laidTests := true, laidLooks := .later }
def HeadBackUptoCardSaid : Prop := Claim7.holds Tryd.pinned (.plain (OpenSpec.upto headBackSpec)) headBackUptoCard

/-- THE SECOND FORM's CARD OF 'cardexlaw06.HeadNewest'. -/
def headNewestUptoCard : Claim7 := { stood := { row := headNewestUptoRow, standIns := [], harness := (true, "7572c5aac0cfa8260d8c09843c1ac65cdbd09b6d5279b0e341116780f8ecd840"), looks := false }, kinds := [], alts := [], laidByText := true, laidKinds := [.data, .data], laidTests := true, laidLooks := .later }
def HeadNewestUptoCardSaid : Prop := Claim7.holds Tryd.pinned (.plain (OpenSpec.upto headNewestSpec)) headNewestUptoCard
end Rows
end Go.Proofs.YtiiigbhkbpdciaaDoor
