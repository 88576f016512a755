/-
  DERIVED. GIVEN WITH THE SEED: THE CARDS: each row of YtdpafemcpbhlfaaDoorRows.lean that lists a variable, with what it lists TIED to the program's text (the seventh form; the later family's looks); each row that meets fmt, with fmt's text TOLD by the authors' own Lean function (tested against real Go, not proved from fmt's source: count such statements apart). THE CARD IS WHAT COUNTS. Prove the row's statement (the work); the ties are given (YtdpafemcpbhlfaaDoorTie.lean); close each card by the builder's one call (the guide's Derived/Test/ToyasCard.lean, 'card_holds'). Laid BY PROGRAM, IN A SANDBOX (cutbox-door.mjs). By AI agents, Wed Nov 11 2026. No macro, syntax, notation, axiom, sorry.
-/
import Derived.Test.YtdpafemcpbhlfaaDoorRows
import GoSem.ClaimSeven
namespace Go.Proofs.YtdpafemcpbhlfaaDoor
namespace Rows

/-- THE TIED CARD OF 'intagliolaw05.LadderClimbs'. -/
def ladderClimbsCard : Claim7 := { stood := { row := ladderClimbsRow, standIns := [], harness := (true, "8df5aa74297dcce27c562e7059b1fcf84a9ea8e53fc95c352cc6d8b7ab880a7f"), looks := false }, kinds := [], alts := [], laidByText := true, laidKinds := [.data], laidTests := true, laidLooks := .later }
def LadderClimbsCardSaid : Prop := Claim7.holds Tryd.pinned (.plain (OpenSpec.ofChange ladderClimbsSpec)) ladderClimbsCard

/-- THE TIED CARD OF 'intagliolaw05.LadderAgrees'. -/
def ladderAgreesCard : Claim7 := { stood := { row := ladderAgreesRow, standIns := [], harness := (true, "8df5aa74297dcce27c562e7059b1fcf84a9ea8e53fc95c352cc6d8b7ab880a7f"), looks := false }, kinds := [], alts := [], laidByText := true, laidKinds := [.data], laidTests := true, laidLooks := .later }
def LadderAgreesCardSaid : Prop := Claim7.holds Tryd.pinned (.plain (OpenSpec.ofChange ladderAgreesSpec)) ladderAgreesCard

/-- THE TIED CARD OF 'intagliolaw05.LadderMeets'. -/
def ladderMeetsCard : Claim7 := { stood := { row := ladderMeetsRow, standIns := [], harness := (true, "8df5aa74297dcce27c562e7059b1fcf84a9ea8e53fc95c352cc6d8b7ab880a7f"), looks := false }, kinds := [], alts := [], laidByText := true, laidKinds := [.data], laidTests := true, laidLooks := .later }
def LadderMeetsCardSaid : Prop := Claim7.holds Tryd.pinned (.plain (OpenSpec.ofChange ladderMeetsSpec)) ladderMeetsCard

/-- THE TIED CARD OF 'intagliolaw05.LadderThree'. -/
def ladderThreeCard : Claim7 := { stood := { row := ladderThreeRow, standIns := [], harness := (true, "8df5aa74297dcce27c562e7059b1fcf84a9ea8e53fc95c352cc6d8b7ab880a7f"), looks := false }, kinds := [], alts := [], laidByText := true, laidKinds := [.data], laidTests := true, laidLooks := .later }
def LadderThreeCardSaid : Prop := Claim7.holds Tryd.pinned (.plain (OpenSpec.ofChange ladderThreeSpec)) ladderThreeCard

/-- THE TIED CARD OF 'intagliolaw05.LadderLow'. -/
def ladderLowCard : Claim7 := { stood := { row := ladderLowRow, standIns := [], harness := (true, "8df5aa74297dcce27c562e7059b1fcf84a9ea8e53fc95c352cc6d8b7ab880a7f"), looks := false }, kinds := [], alts := [], laidByText := true, laidKinds := [.data], laidTests := true, laidLooks := .later }
def LadderLowCardSaid : Prop := Claim7.holds Tryd.pinned (.plain (OpenSpec.ofChange ladderLowSpec)) ladderLowCard

/-- THE TIED CARD OF 'intagliolaw06.PointReads'. -/
def pointReadsCard : Claim7 := { stood := { row := pointReadsRow, standIns := [], harness := (true, "8df5aa74297dcce27c562e7059b1fcf84a9ea8e53fc95c352cc6d8b7ab880a7f"), looks := false }, kinds := [], alts := [], laidByText := true, laidKinds := [.data], laidTests := true, laidLooks := .later }
def PointReadsCardSaid : Prop := Claim7.holds Tryd.pinned (.plain (OpenSpec.ofChange pointReadsSpec)) pointReadsCard

/-- THE TIED CARD OF 'intagliolaw06.PointAdds'. -/
def pointAddsCard : Claim7 := { stood := { row := pointAddsRow, standIns := [], harness := (true, "8df5aa74297dcce27c562e7059b1fcf84a9ea8e53fc95c352cc6d8b7ab880a7f"), looks := false }, kinds := [], alts := [], laidByText := true, laidKinds := [.data], laidTests := true, laidLooks := .later }
def PointAddsCardSaid : Prop := Claim7.holds Tryd.pinned (.plain (OpenSpec.ofChange pointAddsSpec)) pointAddsCard

/-- THE TIED CARD OF 'intagliolaw06.PointTimes'. -/
def pointTimesCard : Claim7 := { stood := { row := pointTimesRow, standIns := [], harness := (true, "8df5aa74297dcce27c562e7059b1fcf84a9ea8e53fc95c352cc6d8b7ab880a7f"), looks := false }, kinds := [], alts := [], laidByText := true, laidKinds := [.data], laidTests := true, laidLooks := .later }
def PointTimesCardSaid : Prop := Claim7.holds Tryd.pinned (.plain (OpenSpec.ofChange pointTimesSpec)) pointTimesCard

/-- THE TIED CARD OF 'intagliolaw06.PointRules'. -/
def pointRulesCard : Claim7 := { stood := { row := pointRulesRow, standIns := [], harness := (true, "8df5aa74297dcce27c562e7059b1fcf84a9ea8e53fc95c352cc6d8b7ab880a7f"), looks := false }, kinds := [], alts := [], laidByText := true, laidKinds := [.data], laidTests := true, laidLooks := .later }
def PointRulesCardSaid : Prop := Claim7.holds Tryd.pinned (.plain (OpenSpec.ofChange pointRulesSpec)) pointRulesCard

/-- THE TIED CARD OF 'intagliolaw06.PointTiny'. -/
def pointTinyCard : Claim7 := { stood := { row := pointTinyRow, standIns := [], harness := (true, "8df5aa74297dcce27c562e7059b1fcf84a9ea8e53fc95c352cc6d8b7ab880a7f"), looks := false }, kinds := [], alts := [], laidByText := true, laidKinds := [.data], laidTests := true, laidLooks := .later }
def PointTinyCardSaid : Prop := Claim7.holds Tryd.pinned (.plain (OpenSpec.ofChange pointTinySpec)) pointTinyCard

/-- THE TIED CARD OF 'intagliolaw06.PointOrder'. -/
def pointOrderCard : Claim7 := { stood := { row := pointOrderRow, standIns := [], harness := (true, "8df5aa74297dcce27c562e7059b1fcf84a9ea8e53fc95c352cc6d8b7ab880a7f"), looks := false }, kinds := [], alts := [], laidByText := true, laidKinds := [.data, .data], laidTests := true, laidLooks := .later }
def PointOrderCardSaid : Prop := Claim7.holds Tryd.pinned (.plain (OpenSpec.ofChange pointOrderSpec)) pointOrderCard

/-- THE TIED CARD OF 'intagliolaw06.PointSigns'. -/
def pointSignsCard : Claim7 := { stood := { row := pointSignsRow, standIns := [], harness := (true, "8df5aa74297dcce27c562e7059b1fcf84a9ea8e53fc95c352cc6d8b7ab880a7f"), looks := false }, kinds := [], alts := [], laidByText := true, laidKinds := [.data], laidTests := true, laidLooks := .later }
def PointSignsCardSaid : Prop := Claim7.holds Tryd.pinned (.plain (OpenSpec.ofChange pointSignsSpec)) pointSignsCard

/-- THE TIED CARD OF 'intagliotop.WholeCurves'. -/
def wholeCurvesCard : Claim7 := { stood := { row := wholeCurvesRow, standIns := [], harness := (true, "8df5aa74297dcce27c562e7059b1fcf84a9ea8e53fc95c352cc6d8b7ab880a7f"), looks := false }, kinds := [], alts := [], laidByText := true, laidKinds := [.data], laidTests := true, laidLooks := .later }
def WholeCurvesCardSaid : Prop := Claim7.holds Tryd.pinned (.plain (OpenSpec.ofChange wholeCurvesSpec)) wholeCurvesCard

/-- THE SECOND FORM's CARD OF 'intagliolaw05.LadderClimbs'. -/
def ladderClimbsUptoCard : Claim7 := { stood := { row := ladderClimbsUptoRow, standIns := [], harness := (true, "8df5aa74297dcce27c562e7059b1fcf84a9ea8e53fc95c352cc6d8b7ab880a7f"), looks := false }, kinds := [], alts := [], laidByText := true, laidKinds := [.data], laidTests := true, laidLooks := .later }
def LadderClimbsUptoCardSaid : Prop := Claim7.holds Tryd.pinned (.plain (OpenSpec.upto ladderClimbsSpec)) ladderClimbsUptoCard

/-- THE SECOND FORM's CARD OF 'intagliolaw05.LadderAgrees'. -/
def ladderAgreesUptoCard : Claim7 := { stood := { row := ladderAgreesUptoRow, standIns := [], harness := (true, "8df5aa74297dcce27c562e7059b1fcf84a9ea8e53fc95c352cc6d8b7ab880a7f"), looks := false }, kinds := [], alts := [], laidByText := true, laidKinds := [.data], laidTests := true, laidLooks := .later }
def LadderAgreesUptoCardSaid : Prop := Claim7.holds Tryd.pinned (.plain (OpenSpec.upto ladderAgreesSpec)) ladderAgreesUptoCard

/-- THE SECOND FORM's CARD OF 'intagliolaw05.LadderMeets'. -/
def ladderMeetsUptoCard : Claim7 := { stood := { row := ladderMeetsUptoRow, standIns := [], harness := (true, "8df5aa74297dcce27c562e7059b1fcf84a9ea8e53fc95c352cc6d8b7ab880a7f"), looks := false }, kinds := [], alts := [], laidByText := true, laidKinds := [.data], laidTests := true, laidLooks := .later }
def LadderMeetsUptoCardSaid : Prop := Claim7.holds Tryd.pinned (.plain (OpenSpec.upto ladderMeetsSpec)) ladderMeetsUptoCard

/-- THE SECOND FORM's CARD OF 'intagliolaw05.LadderThree'. -/
def ladderThreeUptoCard : Claim7 := { stood := { row := ladderThreeUptoRow, standIns := [], harness := (true, "8df5aa74297dcce27c562e7059b1fcf84a9ea8e53fc95c352cc6d8b7ab880a7f"), looks := false }, kinds := [], alts := [], laidByText := true, laidKinds := [.data], laidTests := true, laidLooks := .later }
def LadderThreeUptoCardSaid : Prop := Claim7.holds Tryd.pinned (.plain (OpenSpec.upto ladderThreeSpec)) ladderThreeUptoCard

/-- THE SECOND FORM's CARD OF 'intagliolaw05.LadderLow'. -/
def ladderLowUptoCard : Claim7 := { stood := { row := ladderLowUptoRow, standIns := [], harness := (true, "8df5aa74297dcce27c562e7059b1fcf84a9ea8e53fc95c352cc6d8b7ab880a7f"), looks := false }, kinds := [], alts := [], laidByText := true, laidKinds := [.data], laidTests := true, laidLooks := .later }
def LadderLowUptoCardSaid : Prop := Claim7.holds Tryd.pinned (.plain (OpenSpec.upto ladderLowSpec)) ladderLowUptoCard

/-- THE SECOND FORM's CARD OF 'intagliolaw06.PointReads'. -/
def pointReadsUptoCard : Claim7 := { stood := { row := pointReadsUptoRow, standIns := [], harness := (true, "8df5aa74297dcce27c562e7059b1fcf84a9ea8e53fc95c352cc6d8b7ab880a7f"), looks := false }, kinds := [], alts := [], laidByText := true, laidKinds := [.data], laidTests := true, laidLooks := .later }
def PointReadsUptoCardSaid : Prop := Claim7.holds Tryd.pinned (.plain (OpenSpec.upto pointReadsSpec)) pointReadsUptoCard

/-- THE SECOND FORM's CARD OF 'intagliolaw06.PointAdds'. -/
def pointAddsUptoCard : Claim7 := { stood := { row := pointAddsUptoRow, standIns := [], harness := (true, "8df5aa74297dcce27c562e7059b1fcf84a9ea8e53fc95c352cc6d8b7ab880a7f"), looks := false }, kinds := [], alts := [], laidByText := true, laidKinds := [.data], laidTests := true, laidLooks := .later }
def PointAddsUptoCardSaid : Prop := Claim7.holds Tryd.pinned (.plain (OpenSpec.upto pointAddsSpec)) pointAddsUptoCard

/-- THE SECOND FORM's CARD OF 'intagliolaw06.PointTimes'. -/
def pointTimesUptoCard : Claim7 := { stood := { row := pointTimesUptoRow, standIns := [], harness := (true, "8df5aa74297dcce27c562e7059b1fcf84a9ea8e53fc95c352cc6d8b7ab880a7f"), looks := false }, kinds := [], alts := [], laidByText := true, laidKinds := [.data], laidTests := true, laidLooks := .later }
def PointTimesUptoCardSaid : Prop := Claim7.holds Tryd.pinned (.plain (OpenSpec.upto pointTimesSpec)) pointTimesUptoCard

/-- THE SECOND FORM's CARD OF 'intagliolaw06.PointRules'. -/
def pointRulesUptoCard : Claim7 := { stood := { row := pointRulesUptoRow, standIns := [], harness := (true, "8df5aa74297dcce27c562e7059b1fcf84a9ea8e53fc95c352cc6d8b7ab880a7f"), looks := false }, kinds := [], alts := [], laidByText := true, laidKinds := [.data], laidTests := true, laidLooks := .later }
def PointRulesUptoCardSaid : Prop := Claim7.holds Tryd.pinned (.plain (OpenSpec.upto pointRulesSpec)) pointRulesUptoCard

/-- THE SECOND FORM's CARD OF 'intagliolaw06.PointTiny'. -/
def pointTinyUptoCard : Claim7 := { stood := { row := pointTinyUptoRow, standIns := [], harness := (true, "8df5aa74297dcce27c562e7059b1fcf84a9ea8e53fc95c352cc6d8b7ab880a7f"), looks := false }, kinds := [], alts := [], laidByText := true, laidKinds := [.data], laidTests := true, laidLooks := .later }
def PointTinyUptoCardSaid : Prop := Claim7.holds Tryd.pinned (.plain (OpenSpec.upto pointTinySpec)) pointTinyUptoCard

/-- THE SECOND FORM's CARD OF 'intagliolaw06.PointOrder'. -/
def pointOrderUptoCard : Claim7 := { stood := { row := pointOrderUptoRow, standIns := [], harness := (true, "8df5aa74297dcce27c562e7059b1fcf84a9ea8e53fc95c352cc6d8b7ab880a7f"), looks := false }, kinds := [], alts := [], laidByText := true, laidKinds := [.data, .data], laidTests := true, laidLooks := .later }
def PointOrderUptoCardSaid : Prop := Claim7.holds Tryd.pinned (.plain (OpenSpec.upto pointOrderSpec)) pointOrderUptoCard

/-- THE SECOND FORM's CARD OF 'intagliolaw06.PointSigns'. -/
def pointSignsUptoCard : Claim7 := { stood := { row := pointSignsUptoRow, standIns := [], harness := (true, "8df5aa74297dcce27c562e7059b1fcf84a9ea8e53fc95c352cc6d8b7ab880a7f"), looks := false }, kinds := [], alts := [], laidByText := true, laidKinds := [.data], laidTests := true, laidLooks := .later }
def PointSignsUptoCardSaid : Prop := Claim7.holds Tryd.pinned (.plain (OpenSpec.upto pointSignsSpec)) pointSignsUptoCard

/-- THE SECOND FORM's CARD OF 'intagliotop.WholeCurves'. -/
def wholeCurvesUptoCard : Claim7 := { stood := { row := wholeCurvesUptoRow, standIns := [], harness := (true, "8df5aa74297dcce27c562e7059b1fcf84a9ea8e53fc95c352cc6d8b7ab880a7f"), looks := false }, kinds := [], alts := [], laidByText := true, laidKinds := [.data], laidTests := true, laidLooks := .later }
def WholeCurvesUptoCardSaid : Prop := Claim7.holds Tryd.pinned (.plain (OpenSpec.upto wholeCurvesSpec)) wholeCurvesUptoCard
end Rows
end Go.Proofs.YtdpafemcpbhlfaaDoor
