/-
  DERIVED. GIVEN WITH THE SEED: THE CARDS: each row of YtcbnbhadanldpabDoorRows.lean that lists a variable, with what it lists TIED to the program's text (the seventh form; the later family's looks); each row that meets fmt, with fmt's text TOLD by the authors' own Lean function (tested against real Go, not proved from fmt's source: count such statements apart). THE CARD IS WHAT COUNTS. Prove the row's statement (the work); the ties are given (YtcbnbhadanldpabDoorTie.lean); close each card by the builder's one call (the guide's Derived/Test/ToyasCard.lean, 'card_holds'). Laid BY PROGRAM, IN A SANDBOX (cutbox-door.mjs). By AI agents, Wed Nov 11 2026. No macro, syntax, notation, axiom, sorry.
-/
import Derived.Test.YtcbnbhadanldpabDoorRows
import GoSem.ClaimSeven
namespace Go.Proofs.YtcbnbhadanldpabDoor
namespace Rows

/-- THE TIED CARD OF 'intagliolaw11.FrameWrites'. -/
def frameWritesCard : Claim7 := { stood := { row := frameWritesRow, standIns := [], harness := (true, "924bd12f73e382928d09d49ae155ea0dbe5f59e7afe94f76320514b90be12aba"), looks := false }, kinds := [], alts := [], laidByText := true, laidKinds := [.data], laidTests := true, laidLooks := .later }
def FrameWritesCardSaid : Prop := Claim7.holds Tryd.pinned (.plain (OpenSpec.ofChange frameWritesSpec)) frameWritesCard

/-- THE TIED CARD OF 'intagliolaw11.FrameReads'. -/
def frameReadsCard : Claim7 := { stood := { row := frameReadsRow, standIns := [], harness := (true, "924bd12f73e382928d09d49ae155ea0dbe5f59e7afe94f76320514b90be12aba"), looks := false }, kinds := [], alts := [], laidByText := true, laidKinds := [.data], laidTests := true, laidLooks := .later }
def FrameReadsCardSaid : Prop := Claim7.holds Tryd.pinned (.plain (OpenSpec.ofChange frameReadsSpec)) frameReadsCard

/-- THE TIED CARD OF 'intagliolaw11.FrameShapes'. -/
def frameShapesCard : Claim7 := { stood := { row := frameShapesRow, standIns := [], harness := (true, "924bd12f73e382928d09d49ae155ea0dbe5f59e7afe94f76320514b90be12aba"), looks := false }, kinds := [], alts := [], laidByText := true, laidKinds := [.data], laidTests := true, laidLooks := .later }
def FrameShapesCardSaid : Prop := Claim7.holds Tryd.pinned (.plain (OpenSpec.ofChange frameShapesSpec)) frameShapesCard

/-- THE TIED CARD OF 'intagliolaw11.FrameTwoWays'. -/
def frameTwoWaysCard : Claim7 := { stood := { row := frameTwoWaysRow, standIns := [], harness := (true, "924bd12f73e382928d09d49ae155ea0dbe5f59e7afe94f76320514b90be12aba"), looks := false }, kinds := [], alts := [], laidByText := true, laidKinds := [.data], laidTests := true, laidLooks := .later }
def FrameTwoWaysCardSaid : Prop := Claim7.holds Tryd.pinned (.plain (OpenSpec.ofChange frameTwoWaysSpec)) frameTwoWaysCard

/-- THE TIED CARD OF 'intagliolaw11.FrameOwn'. -/
def frameOwnCard : Claim7 := { stood := { row := frameOwnRow, standIns := [], harness := (true, "924bd12f73e382928d09d49ae155ea0dbe5f59e7afe94f76320514b90be12aba"), looks := false }, kinds := [], alts := [], laidByText := true, laidKinds := [.data], laidTests := true, laidLooks := .later }
def FrameOwnCardSaid : Prop := Claim7.holds Tryd.pinned (.plain (OpenSpec.ofChange frameOwnSpec)) frameOwnCard

/-- THE TIED CARD OF 'intagliolaw11.FrameCut'. -/
def frameCutCard : Claim7 := { stood := { row := frameCutRow, standIns := [], harness := (true, "924bd12f73e382928d09d49ae155ea0dbe5f59e7afe94f76320514b90be12aba"), looks := false }, kinds := [], alts := [], laidByText := true, laidKinds := [.data], laidTests := true, laidLooks := .later }
def FrameCutCardSaid : Prop := Claim7.holds Tryd.pinned (.plain (OpenSpec.ofChange frameCutSpec)) frameCutCard

/-- THE TIED CARD OF 'intagliolaw12.SafetyGroups'. -/
def safetyGroupsCard : Claim7 := { stood := { row := safetyGroupsRow, standIns := [], harness := (true, "924bd12f73e382928d09d49ae155ea0dbe5f59e7afe94f76320514b90be12aba"), looks := false }, kinds := [], alts := [], laidByText := true, laidKinds := [.data, .data, .data, .data, .data], laidTests := true, laidLooks := .later }
def SafetyGroupsCardSaid : Prop := Claim7.holds Tryd.pinned (.plain (OpenSpec.ofChange safetyGroupsSpec)) safetyGroupsCard

/-- THE TIED CARD OF 'intagliolaw12.SafetyTexts'. -/
def safetyTextsCard : Claim7 := { stood := { row := safetyTextsRow, standIns := [], harness := (true, "924bd12f73e382928d09d49ae155ea0dbe5f59e7afe94f76320514b90be12aba"), looks := false }, kinds := [], alts := [], laidByText := true, laidKinds := [.data, .data, .data], laidTests := true, laidLooks := .later }
def SafetyTextsCardSaid : Prop := Claim7.holds Tryd.pinned (.plain (OpenSpec.ofChange safetyTextsSpec)) safetyTextsCard

/-- THE SECOND FORM's CARD OF 'intagliolaw11.FrameWrites'. -/
def frameWritesUptoCard : Claim7 := { stood := { row := frameWritesUptoRow, standIns := [], harness := (true, "924bd12f73e382928d09d49ae155ea0dbe5f59e7afe94f76320514b90be12aba"), looks := false }, kinds := [], alts := [], laidByText := true, laidKinds := [.data], laidTests := true, laidLooks := .later }
def FrameWritesUptoCardSaid : Prop := Claim7.holds Tryd.pinned (.plain (OpenSpec.upto frameWritesSpec)) frameWritesUptoCard

/-- THE SECOND FORM's CARD OF 'intagliolaw11.FrameReads'. -/
def frameReadsUptoCard : Claim7 := { stood := { row := frameReadsUptoRow, standIns := [], harness := (true, "924bd12f73e382928d09d49ae155ea0dbe5f59e7afe94f76320514b90be12aba"), looks := false }, kinds := [], alts := [], laidByText := true, laidKinds := [.data], laidTests := true, laidLooks := .later }
def FrameReadsUptoCardSaid : Prop := Claim7.holds Tryd.pinned (.plain (OpenSpec.upto frameReadsSpec)) frameReadsUptoCard

/-- THE SECOND FORM's CARD OF 'intagliolaw11.FrameShapes'. -/
def frameShapesUptoCard : Claim7 := { stood := { row := frameShapesUptoRow, standIns := [], harness := (true, "924bd12f73e382928d09d49ae155ea0dbe5f59e7afe94f76320514b90be12aba"), looks := false }, kinds := [], alts := [], laidByText := true, laidKinds := [.data], laidTests := true, laidLooks := .later }
def FrameShapesUptoCardSaid : Prop := Claim7.holds Tryd.pinned (.plain (OpenSpec.upto frameShapesSpec)) frameShapesUptoCard

/-- THE SECOND FORM's CARD OF 'intagliolaw11.FrameTwoWays'. -/
def frameTwoWaysUptoCard : Claim7 := { stood := { row := frameTwoWaysUptoRow, standIns := [], harness := (true, "924bd12f73e382928d09d49ae155ea0dbe5f59e7afe94f76320514b90be12aba"), looks := false }, kinds := [], alts := [], laidByText := true, laidKinds := [.data], laidTests := true, laidLooks := .later }
def FrameTwoWaysUptoCardSaid : Prop := Claim7.holds Tryd.pinned (.plain (OpenSpec.upto frameTwoWaysSpec)) frameTwoWaysUptoCard

/-- THE SECOND FORM's CARD OF 'intagliolaw11.FrameOwn'. -/
def frameOwnUptoCard : Claim7 := { stood := { row := frameOwnUptoRow, standIns := [], harness := (true, "924bd12f73e382928d09d49ae155ea0dbe5f59e7afe94f76320514b90be12aba"), looks := false }, kinds := [], alts := [], laidByText := true, laidKinds := [.data], laidTests := true, laidLooks := .later }
def FrameOwnUptoCardSaid : Prop := Claim7.holds Tryd.pinned (.plain (OpenSpec.upto frameOwnSpec)) frameOwnUptoCard

/-- THE SECOND FORM's CARD OF 'intagliolaw11.FrameCut'. -/
def frameCutUptoCard : Claim7 := { stood := { row := frameCutUptoRow, standIns := [], harness := (true, "924bd12f73e382928d09d49ae155ea0dbe5f59e7afe94f76320514b90be12aba"), looks := false }, kinds := [], alts := [], laidByText := true, laidKinds := [.data], laidTests := true, laidLooks := .later }
def FrameCutUptoCardSaid : Prop := Claim7.holds Tryd.pinned (.plain (OpenSpec.upto frameCutSpec)) frameCutUptoCard

/-- THE SECOND FORM's CARD OF 'intagliolaw12.SafetyGroups'. -/
def safetyGroupsUptoCard : Claim7 := { stood := { row := safetyGroupsUptoRow, standIns := [], harness := (true, "924bd12f73e382928d09d49ae155ea0dbe5f59e7afe94f76320514b90be12aba"), looks := false }, kinds := [], alts := [], laidByText := true, laidKinds := [.data, .data, .data, .data, .data], laidTests := true, laidLooks := .later }
def SafetyGroupsUptoCardSaid : Prop := Claim7.holds Tryd.pinned (.plain (OpenSpec.upto safetyGroupsSpec)) safetyGroupsUptoCard

/-- THE SECOND FORM's CARD OF 'intagliolaw12.SafetyTexts'. -/
def safetyTextsUptoCard : Claim7 := { stood := { row := safetyTextsUptoRow, standIns := [], harness := (true, "924bd12f73e382928d09d49ae155ea0dbe5f59e7afe94f76320514b90be12aba"), looks := false }, kinds := [], alts := [], laidByText := true, laidKinds := [.data, .data, .data], laidTests := true, laidLooks := .later }
def SafetyTextsUptoCardSaid : Prop := Claim7.holds Tryd.pinned (.plain (OpenSpec.upto safetyTextsSpec)) safetyTextsUptoCard
end Rows
end Go.Proofs.YtcbnbhadanldpabDoor
