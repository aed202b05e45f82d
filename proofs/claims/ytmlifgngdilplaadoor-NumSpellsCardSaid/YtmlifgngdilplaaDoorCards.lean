/-
  DERIVED. GIVEN WITH THE SEED: THE CARDS: each row of YtmlifgngdilplaaDoorRows.lean that lists a variable, with what it lists TIED to the program's text (the seventh form; the later family's looks); each row that meets fmt, with fmt's text TOLD by the authors' own Lean function (tested against real Go, not proved from fmt's source: count such statements apart). THE CARD IS WHAT COUNTS. Prove the row's statement (the work); the ties are given (YtmlifgngdilplaaDoorTie.lean); close each card by the builder's one call (the guide's Derived/Test/ToyasCard.lean, 'card_holds'). Laid BY PROGRAM, IN A SANDBOX (cutbox-door.mjs). By AI agents, Wed Nov 11 2026. No macro, syntax, notation, axiom, sorry.
-/
import Derived.Test.YtmlifgngdilplaaDoorRows
import GoSem.ClaimSeven
namespace Go.Proofs.YtmlifgngdilplaaDoor
namespace Rows

/-- THE TIED CARD OF 'motleylaw01.NumScalars'. -/
def numScalarsCard : Claim7 := { stood := { row := numScalarsRow, standIns := [], harness := (true, "11a58eb180db5cc4fd03153a30426c4ab607ec18443d6629d2b9afabe290e70d"), looks := false }, kinds := [], alts := [], laidByText := true, laidKinds := [.data, .data, .data, .data, .pinned], laidTests := true, laidLooks := .later }
def NumScalarsCardSaid : Prop := Claim7.holds Tryd.pinned (.plain (OpenSpec.ofChange numScalarsSpec)) numScalarsCard

/-- THE TIED CARD OF 'motleylaw01.NumLooks'. -/
def numLooksCard : Claim7 := { stood := { row := numLooksRow, standIns := [], harness := (true, "11a58eb180db5cc4fd03153a30426c4ab607ec18443d6629d2b9afabe290e70d"), looks := false }, kinds := [], alts := [], laidByText := true, laidKinds := [.data, .pinned], laidTests := true, laidLooks := .later }
def NumLooksCardSaid : Prop := Claim7.holds Tryd.pinned (.plain (OpenSpec.ofChange numLooksSpec)) numLooksCard

/-- THE TIED CARD OF 'motleylaw01.NumDoes'. -/
def numDoesCard : Claim7 := { stood := { row := numDoesRow, standIns := [], harness := (true, "11a58eb180db5cc4fd03153a30426c4ab607ec18443d6629d2b9afabe290e70d"), looks := false }, kinds := [], alts := [], laidByText := true, laidKinds := [.data, .pinned], laidTests := true, laidLooks := .later }
def NumDoesCardSaid : Prop := Claim7.holds Tryd.pinned (.plain (OpenSpec.ofChange numDoesSpec)) numDoesCard

/-- THE TIED CARD OF 'motleylaw01.NumDivides'. -/
def numDividesCard : Claim7 := { stood := { row := numDividesRow, standIns := [], harness := (true, "11a58eb180db5cc4fd03153a30426c4ab607ec18443d6629d2b9afabe290e70d"), looks := false }, kinds := [], alts := [], laidByText := true, laidKinds := [.data, .pinned], laidTests := true, laidLooks := .later }
def NumDividesCardSaid : Prop := Claim7.holds Tryd.pinned (.plain (OpenSpec.ofChange numDividesSpec)) numDividesCard

/-- THE TIED CARD OF 'motleylaw01.NumCompares'. -/
def numComparesCard : Claim7 := { stood := { row := numComparesRow, standIns := [], harness := (true, "11a58eb180db5cc4fd03153a30426c4ab607ec18443d6629d2b9afabe290e70d"), looks := false }, kinds := [], alts := [], laidByText := true, laidKinds := [.data, .pinned], laidTests := true, laidLooks := .later }
def NumComparesCardSaid : Prop := Claim7.holds Tryd.pinned (.plain (OpenSpec.ofChange numComparesSpec)) numComparesCard

/-- THE TIED CARD OF 'motleylaw01.NumOrders'. -/
def numOrdersCard : Claim7 := { stood := { row := numOrdersRow, standIns := [], harness := (true, "11a58eb180db5cc4fd03153a30426c4ab607ec18443d6629d2b9afabe290e70d"), looks := false }, kinds := [], alts := [], laidByText := true, laidKinds := [.data, .pinned], laidTests := true, laidLooks := .later }
def NumOrdersCardSaid : Prop := Claim7.holds Tryd.pinned (.plain (OpenSpec.ofChange numOrdersSpec)) numOrdersCard

/-- THE TIED CARD OF 'motleylaw01.NumNexts'. -/
def numNextsCard : Claim7 := { stood := { row := numNextsRow, standIns := [], harness := (true, "11a58eb180db5cc4fd03153a30426c4ab607ec18443d6629d2b9afabe290e70d"), looks := false }, kinds := [], alts := [], laidByText := true, laidKinds := [.data, .data, .data, .data, .pinned], laidTests := true, laidLooks := .later }
def NumNextsCardSaid : Prop := Claim7.holds Tryd.pinned (.plain (OpenSpec.ofChange numNextsSpec)) numNextsCard

/-- THE TIED CARD OF 'motleylaw01.NumRanges'. -/
def numRangesCard : Claim7 := { stood := { row := numRangesRow, standIns := [], harness := (true, "11a58eb180db5cc4fd03153a30426c4ab607ec18443d6629d2b9afabe290e70d"), looks := false }, kinds := [], alts := [], laidByText := true, laidKinds := [.data, .data, .data, .data, .pinned], laidTests := true, laidLooks := .later }
def NumRangesCardSaid : Prop := Claim7.holds Tryd.pinned (.plain (OpenSpec.ofChange numRangesSpec)) numRangesCard

/-- THE TIED CARD OF 'motleylaw01.NumRepeats'. -/
def numRepeatsCard : Claim7 := { stood := { row := numRepeatsRow, standIns := [], harness := (true, "11a58eb180db5cc4fd03153a30426c4ab607ec18443d6629d2b9afabe290e70d"), looks := false }, kinds := [], alts := [], laidByText := true, laidKinds := [.data, .pinned], laidTests := true, laidLooks := .later }
def NumRepeatsCardSaid : Prop := Claim7.holds Tryd.pinned (.plain (OpenSpec.ofChange numRepeatsSpec)) numRepeatsCard

/-- THE TIED CARD OF 'motleylaw01.NumRadix'. -/
def numRadixCard : Claim7 := { stood := { row := numRadixRow, standIns := [], harness := (true, "11a58eb180db5cc4fd03153a30426c4ab607ec18443d6629d2b9afabe290e70d"), looks := false }, kinds := [], alts := [], laidByText := true, laidKinds := [.data, .pinned], laidTests := true, laidLooks := .later }
def NumRadixCardSaid : Prop := Claim7.holds Tryd.pinned (.plain (OpenSpec.ofChange numRadixSpec)) numRadixCard

/-- THE TIED CARD OF 'motleylaw01.NumSpells'. -/
def numSpellsCard : Claim7 := { stood := { row := numSpellsRow, standIns := [], harness := (true, "11a58eb180db5cc4fd03153a30426c4ab607ec18443d6629d2b9afabe290e70d"), looks := false }, kinds := [], alts := [], laidByText := true, laidKinds := [.data, .data, .data, .data, .pinned], laidTests := true, laidLooks := .later }
def NumSpellsCardSaid : Prop := Claim7.holds Tryd.pinned (.plain (OpenSpec.ofChange numSpellsSpec)) numSpellsCard

/-- THE TIED CARD OF 'motleylaw01.NumRounds'. -/
def numRoundsCard : Claim7 := { stood := { row := numRoundsRow, standIns := [], harness := (true, "11a58eb180db5cc4fd03153a30426c4ab607ec18443d6629d2b9afabe290e70d"), looks := false }, kinds := [], alts := [], laidByText := true, laidKinds := [.data, .pinned], laidTests := true, laidLooks := .later }
def NumRoundsCardSaid : Prop := Claim7.holds Tryd.pinned (.plain (OpenSpec.ofChange numRoundsSpec)) numRoundsCard

/-- THE SECOND FORM's CARD OF 'motleylaw01.NumScalars'. -/
def numScalarsUptoCard : Claim7 := { stood := { row := numScalarsUptoRow, standIns := [], harness := (true, "11a58eb180db5cc4fd03153a30426c4ab607ec18443d6629d2b9afabe290e70d"), looks := false }, kinds := [], alts := [], laidByText := true, laidKinds := [.data, .data, .data, .data, .pinned], laidTests := true, laidLooks := .later }
def NumScalarsUptoCardSaid : Prop := Claim7.holds Tryd.pinned (.plain (OpenSpec.upto numScalarsSpec)) numScalarsUptoCard

/-- THE SECOND FORM's CARD OF 'motleylaw01.NumLooks'. -/
def numLooksUptoCard : Claim7 := { stood := { row := numLooksUptoRow, standIns := [], harness := (true, "11a58eb180db5cc4fd03153a30426c4ab607ec18443d6629d2b9afabe290e70d"), looks := false }, kinds := [], alts := [], laidByText := true, laidKinds := [.data, .pinned], laidTests := true, laidLooks := .later }
def NumLooksUptoCardSaid : Prop := Claim7.holds Tryd.pinned (.plain (OpenSpec.upto numLooksSpec)) numLooksUptoCard

/-- THE SECOND FORM's CARD OF 'motleylaw01.NumDoes'. -/
def numDoesUptoCard : Claim7 := { stood := { row := numDoesUptoRow, standIns := [], harness := (true, "11a58eb180db5cc4fd03153a30426c4ab607ec18443d6629d2b9afabe290e70d"), looks := false }, kinds := [], alts := [], laidByText := true, laidKinds := [.data, .pinned], laidTests := true, laidLooks := .later }
def NumDoesUptoCardSaid : Prop := Claim7.holds Tryd.pinned (.plain (OpenSpec.upto numDoesSpec)) numDoesUptoCard

/-- THE SECOND FORM's CARD OF 'motleylaw01.NumDivides'. -/
def numDividesUptoCard : Claim7 := { stood := { row := numDividesUptoRow, standIns := [], harness := (true, "11a58eb180db5cc4fd03153a30426c4ab607ec18443d6629d2b9afabe290e70d"), looks := false }, kinds := [], alts := [], laidByText := true, laidKinds := [.data, .pinned], laidTests := true, laidLooks := .later }
def NumDividesUptoCardSaid : Prop := Claim7.holds Tryd.pinned (.plain (OpenSpec.upto numDividesSpec)) numDividesUptoCard

/-- THE SECOND FORM's CARD OF 'motleylaw01.NumCompares'. -/
def numComparesUptoCard : Claim7 := { stood := { row := numComparesUptoRow, standIns := [], harness := (true, "11a58eb180db5cc4fd03153a30426c4ab607ec18443d6629d2b9afabe290e70d"), looks := false }, kinds := [], alts := [], laidByText := true, laidKinds := [.data, .pinned], laidTests := true, laidLooks := .later }
def NumComparesUptoCardSaid : Prop := Claim7.holds Tryd.pinned (.plain (OpenSpec.upto numComparesSpec)) numComparesUptoCard

/-- THE SECOND FORM's CARD OF 'motleylaw01.NumOrders'. -/
def numOrdersUptoCard : Claim7 := { stood := { row := numOrdersUptoRow, standIns := [], harness := (true, "11a58eb180db5cc4fd03153a30426c4ab607ec18443d6629d2b9afabe290e70d"), looks := false }, kinds := [], alts := [], laidByText := true, laidKinds := [.data, .pinned], laidTests := true, laidLooks := .later }
def NumOrdersUptoCardSaid : Prop := Claim7.holds Tryd.pinned (.plain (OpenSpec.upto numOrdersSpec)) numOrdersUptoCard

/-- THE SECOND FORM's CARD OF 'motleylaw01.NumNexts'. -/
def numNextsUptoCard : Claim7 := { stood := { row := numNextsUptoRow, standIns := [], harness := (true, "11a58eb180db5cc4fd03153a30426c4ab607ec18443d6629d2b9afabe290e70d"), looks := false }, kinds := [], alts := [], laidByText := true, laidKinds := [.data, .data, .data, .data, .pinned], laidTests := true, laidLooks := .later }
def NumNextsUptoCardSaid : Prop := Claim7.holds Tryd.pinned (.plain (OpenSpec.upto numNextsSpec)) numNextsUptoCard

/-- THE SECOND FORM's CARD OF 'motleylaw01.NumRanges'. -/
def numRangesUptoCard : Claim7 := { stood := { row := numRangesUptoRow, standIns := [], harness := (true, "11a58eb180db5cc4fd03153a30426c4ab607ec18443d6629d2b9afabe290e70d"), looks := false }, kinds := [], alts := [], laidByText := true, laidKinds := [.data, .data, .data, .data, .pinned], laidTests := true, laidLooks := .later }
def NumRangesUptoCardSaid : Prop := Claim7.holds Tryd.pinned (.plain (OpenSpec.upto numRangesSpec)) numRangesUptoCard

/-- THE SECOND FORM's CARD OF 'motleylaw01.NumRepeats'. -/
def numRepeatsUptoCard : Claim7 := { stood := { row := numRepeatsUptoRow, standIns := [], harness := (true, "11a58eb180db5cc4fd03153a30426c4ab607ec18443d6629d2b9afabe290e70d"), looks := false }, kinds := [], alts := [], laidByText := true, laidKinds := [.data, .pinned], laidTests := true, laidLooks := .later }
def NumRepeatsUptoCardSaid : Prop := Claim7.holds Tryd.pinned (.plain (OpenSpec.upto numRepeatsSpec)) numRepeatsUptoCard

/-- THE SECOND FORM's CARD OF 'motleylaw01.NumRadix'. -/
def numRadixUptoCard : Claim7 := { stood := { row := numRadixUptoRow, standIns := [], harness := (true, "11a58eb180db5cc4fd03153a30426c4ab607ec18443d6629d2b9afabe290e70d"), looks := false }, kinds := [], alts := [], laidByText := true, laidKinds := [.data, .pinned], laidTests := true, laidLooks := .later }
def NumRadixUptoCardSaid : Prop := Claim7.holds Tryd.pinned (.plain (OpenSpec.upto numRadixSpec)) numRadixUptoCard

/-- THE SECOND FORM's CARD OF 'motleylaw01.NumSpells'. -/
def numSpellsUptoCard : Claim7 := { stood := { row := numSpellsUptoRow, standIns := [], harness := (true, "11a58eb180db5cc4fd03153a30426c4ab607ec18443d6629d2b9afabe290e70d"), looks := false }, kinds := [], alts := [], laidByText := true, laidKinds := [.data, .data, .data, .data, .pinned], laidTests := true, laidLooks := .later }
def NumSpellsUptoCardSaid : Prop := Claim7.holds Tryd.pinned (.plain (OpenSpec.upto numSpellsSpec)) numSpellsUptoCard

/-- THE SECOND FORM's CARD OF 'motleylaw01.NumRounds'. -/
def numRoundsUptoCard : Claim7 := { stood := { row := numRoundsUptoRow, standIns := [], harness := (true, "11a58eb180db5cc4fd03153a30426c4ab607ec18443d6629d2b9afabe290e70d"), looks := false }, kinds := [], alts := [], laidByText := true, laidKinds := [.data, .pinned], laidTests := true, laidLooks := .later }
def NumRoundsUptoCardSaid : Prop := Claim7.holds Tryd.pinned (.plain (OpenSpec.upto numRoundsSpec)) numRoundsUptoCard
end Rows
end Go.Proofs.YtmlifgngdilplaaDoor
