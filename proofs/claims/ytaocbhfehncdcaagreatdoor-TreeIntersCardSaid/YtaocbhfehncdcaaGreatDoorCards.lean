/-
  DERIVED. GIVEN WITH THE SEED: THE CARDS: each row of YtaocbhfehncdcaaGreatDoorRows.lean that lists a variable, with what it lists TIED to the program's text (the seventh form; the later family's looks); each row that meets fmt, with fmt's text TOLD by the authors' own Lean function (tested against real Go, not proved from fmt's source: count such statements apart). THE CARD IS WHAT COUNTS. Prove the row's statement (the work); the ties are given (YtaocbhfehncdcaaGreatDoorTie.lean); close each card by the builder's one call (the guide's Derived/Test/ToyasCard.lean, 'card_holds'). Laid BY PROGRAM, IN A SANDBOX (cutbox-door.mjs). By AI agents, Wed Nov 11 2026. No macro, syntax, notation, axiom, sorry.
-/
import Derived.Test.YtaocbhfehncdcaaGreatDoorRows
import GoSem.ClaimSeven
namespace Go.Proofs.YtaocbhfehncdcaaGreatDoor
namespace Rows

/-- THE TIED CARD OF 'motleylaw04.TreeWords'. -/
def treeWordsCard : Claim7 := { stood := { row := treeWordsRow, standIns := [], harness := (true, "a97e2e7733c6d13417ec87d09f01017f794c2309e9ae21e606a11cae3c71cdec"), looks := true }, kinds := [], alts := [], laidByText := true, laidKinds := [.data, .data, .data, .data, .sentinel, .sentinel, .listed, .data, .data, .pinned], laidTests := true, laidLooks := .later }
def TreeWordsCardSaid : Prop := Claim7.holds Tryz.pinned (.plain (OpenSpec.ofChange treeWordsSpec)) treeWordsCard

/-- THE TIED CARD OF 'motleylaw04.TreeInters'. -/
def treeIntersCard : Claim7 := { stood := { row := treeIntersRow, standIns := [], harness := (true, "a97e2e7733c6d13417ec87d09f01017f794c2309e9ae21e606a11cae3c71cdec"), looks := true }, kinds := [], alts := [], laidByText := true, laidKinds := [.data, .data, .data, .data, .sentinel, .sentinel, .listed, .data, .data, .pinned], laidTests := true, laidLooks := .later }
def TreeIntersCardSaid : Prop := Claim7.holds Tryz.pinned (.plain (OpenSpec.ofChange treeIntersSpec)) treeIntersCard

/-- THE TIED CARD OF 'motleylaw04.TreeSames'. -/
def treeSamesCard : Claim7 := { stood := { row := treeSamesRow, standIns := [], harness := (true, "a97e2e7733c6d13417ec87d09f01017f794c2309e9ae21e606a11cae3c71cdec"), looks := true }, kinds := [], alts := [], laidByText := true, laidKinds := [.data, .data, .data, .data, .sentinel, .sentinel, .listed, .data, .data, .pinned], laidTests := true, laidLooks := .later }
def TreeSamesCardSaid : Prop := Claim7.holds Tryz.pinned (.plain (OpenSpec.ofChange treeSamesSpec)) treeSamesCard

/-- THE SECOND FORM's CARD OF 'motleylaw04.TreeWords'. -/
def treeWordsUptoCard : Claim7 := { stood := { row := treeWordsUptoRow, standIns := [], harness := (true, "a97e2e7733c6d13417ec87d09f01017f794c2309e9ae21e606a11cae3c71cdec"), looks := true }, kinds := [], alts := [], laidByText := true, laidKinds := [.data, .data, .data, .data, .sentinel, .sentinel, .listed, .data, .data, .pinned], laidTests := true, laidLooks := .later }
def TreeWordsUptoCardSaid : Prop := Claim7.holds Tryz.pinned (.plain (OpenSpec.upto treeWordsSpec)) treeWordsUptoCard

/-- THE SECOND FORM's CARD OF 'motleylaw04.TreeInters'. -/
def treeIntersUptoCard : Claim7 := { stood := { row := treeIntersUptoRow, standIns := [], harness := (true, "a97e2e7733c6d13417ec87d09f01017f794c2309e9ae21e606a11cae3c71cdec"), looks := true }, kinds := [], alts := [], laidByText := true, laidKinds := [.data, .data, .data, .data, .sentinel, .sentinel, .listed, .data, .data, .pinned], laidTests := true, laidLooks := .later }
def TreeIntersUptoCardSaid : Prop := Claim7.holds Tryz.pinned (.plain (OpenSpec.upto treeIntersSpec)) treeIntersUptoCard

/-- THE SECOND FORM's CARD OF 'motleylaw04.TreeSames'. -/
def treeSamesUptoCard : Claim7 := { stood := { row := treeSamesUptoRow, standIns := [], harness := (true, "a97e2e7733c6d13417ec87d09f01017f794c2309e9ae21e606a11cae3c71cdec"), looks := true }, kinds := [], alts := [], laidByText := true, laidKinds := [.data, .data, .data, .data, .sentinel, .sentinel, .listed, .data, .data, .pinned], laidTests := true, laidLooks := .later }
def TreeSamesUptoCardSaid : Prop := Claim7.holds Tryz.pinned (.plain (OpenSpec.upto treeSamesSpec)) treeSamesUptoCard
end Rows
end Go.Proofs.YtaocbhfehncdcaaGreatDoor
