/-
  DERIVED. GIVEN WITH THE SEED: THE CARDS: each row of YtcdcoennnmbbdaaDoorRows.lean that lists a variable, with what it lists TIED to the program's text (the seventh form; the later family's looks); each row that meets fmt, with fmt's text TOLD by the authors' own Lean function (tested against real Go, not proved from fmt's source: count such statements apart). THE CARD IS WHAT COUNTS. Prove the row's statement (the work); the ties are given (YtcdcoennnmbbdaaDoorTie.lean); close each card by the builder's one call (the guide's Derived/Test/ToyasCard.lean, 'card_holds'). Laid BY PROGRAM, IN A SANDBOX (cutbox-door.mjs). By AI agents, Wed Nov 11 2026. No macro, syntax, notation, axiom, sorry.
-/
import Derived.Test.YtcdcoennnmbbdaaDoorRows
import GoSem.ClaimSeven
namespace Go.Proofs.YtcdcoennnmbbdaaDoor
namespace Rows

/-- THE TIED CARD OF 'intagliolaw02.MacSums'. -/
def macSumsCard : Claim7 := { stood := { row := macSumsRow, standIns := [], harness := (true, "6acb78e01e3b4bf6bdcadc457287a168bfed48c8976b2f0a24f7f348110d5cef"), looks := false }, kinds := [], alts := [], laidByText := true, laidKinds := [.data, .data], laidTests := true, laidLooks := .later }
def MacSumsCardSaid : Prop := Claim7.holds Tryd.pinned (.plain (OpenSpec.ofChange macSumsSpec)) macSumsCard

/-- THE TIED CARD OF 'intagliolaw02.MacExpands'. -/
def macExpandsCard : Claim7 := { stood := { row := macExpandsRow, standIns := [], harness := (true, "6acb78e01e3b4bf6bdcadc457287a168bfed48c8976b2f0a24f7f348110d5cef"), looks := false }, kinds := [], alts := [], laidByText := true, laidKinds := [.data, .data], laidTests := true, laidLooks := .later }
def MacExpandsCardSaid : Prop := Claim7.holds Tryd.pinned (.plain (OpenSpec.ofChange macExpandsSpec)) macExpandsCard

/-- THE TIED CARD OF 'intagliolaw02.MacKeys'. -/
def macKeysCard : Claim7 := { stood := { row := macKeysRow, standIns := [], harness := (true, "6acb78e01e3b4bf6bdcadc457287a168bfed48c8976b2f0a24f7f348110d5cef"), looks := false }, kinds := [], alts := [], laidByText := true, laidKinds := [.data, .data], laidTests := true, laidLooks := .later }
def MacKeysCardSaid : Prop := Claim7.holds Tryd.pinned (.plain (OpenSpec.ofChange macKeysSpec)) macKeysCard

/-- THE TIED CARD OF 'intagliolaw02.MacMore'. -/
def macMoreCard : Claim7 := { stood := { row := macMoreRow, standIns := [], harness := (true, "6acb78e01e3b4bf6bdcadc457287a168bfed48c8976b2f0a24f7f348110d5cef"), looks := false }, kinds := [], alts := [], laidByText := true, laidKinds := [.data, .data], laidTests := true, laidLooks := .later }
def MacMoreCardSaid : Prop := Claim7.holds Tryd.pinned (.plain (OpenSpec.ofChange macMoreSpec)) macMoreCard

/-- THE TIED CARD OF 'intagliolaw02.MacEqual'. -/
def macEqualCard : Claim7 := { stood := { row := macEqualRow, standIns := [], harness := (true, "6acb78e01e3b4bf6bdcadc457287a168bfed48c8976b2f0a24f7f348110d5cef"), looks := false }, kinds := [], alts := [], laidByText := true, laidKinds := [.data, .data], laidTests := true, laidLooks := .later }
def MacEqualCardSaid : Prop := Claim7.holds Tryd.pinned (.plain (OpenSpec.ofChange macEqualSpec)) macEqualCard

/-- THE TIED CARD OF 'intagliolaw02.MacLong'. -/
def macLongCard : Claim7 := { stood := { row := macLongRow, standIns := [], harness := (true, "6acb78e01e3b4bf6bdcadc457287a168bfed48c8976b2f0a24f7f348110d5cef"), looks := false }, kinds := [], alts := [], laidByText := true, laidKinds := [.data, .data], laidTests := true, laidLooks := .later }
def MacLongCardSaid : Prop := Claim7.holds Tryd.pinned (.plain (OpenSpec.ofChange macLongSpec)) macLongCard

/-- THE TIED CARD OF 'intagliolaw02.MacCounts'. -/
def macCountsCard : Claim7 := { stood := { row := macCountsRow, standIns := [], harness := (true, "6acb78e01e3b4bf6bdcadc457287a168bfed48c8976b2f0a24f7f348110d5cef"), looks := false }, kinds := [], alts := [], laidByText := true, laidKinds := [.data, .data], laidTests := true, laidLooks := .later }
def MacCountsCardSaid : Prop := Claim7.holds Tryd.pinned (.plain (OpenSpec.ofChange macCountsSpec)) macCountsCard

/-- THE SECOND FORM's CARD OF 'intagliolaw02.MacSums'. -/
def macSumsUptoCard : Claim7 := { stood := { row := macSumsUptoRow, standIns := [], harness := (true, "6acb78e01e3b4bf6bdcadc457287a168bfed48c8976b2f0a24f7f348110d5cef"), looks := false }, kinds := [], alts := [], laidByText := true, laidKinds := [.data, .data], laidTests := true, laidLooks := .later }
def MacSumsUptoCardSaid : Prop := Claim7.holds Tryd.pinned (.plain (OpenSpec.upto macSumsSpec)) macSumsUptoCard

/-- THE SECOND FORM's CARD OF 'intagliolaw02.MacExpands'. -/
def macExpandsUptoCard : Claim7 := { stood := { row := macExpandsUptoRow, standIns := [], harness := (true, "6acb78e01e3b4bf6bdcadc457287a168bfed48c8976b2f0a24f7f348110d5cef"), looks := false }, kinds := [], alts := [], laidByText := true, laidKinds := [.data, .data], laidTests := true, laidLooks := .later }
def MacExpandsUptoCardSaid : Prop := Claim7.holds Tryd.pinned (.plain (OpenSpec.upto macExpandsSpec)) macExpandsUptoCard

/-- THE SECOND FORM's CARD OF 'intagliolaw02.MacKeys'. -/
def macKeysUptoCard : Claim7 := { stood := { row := macKeysUptoRow, standIns := [], harness := (true, "6acb78e01e3b4bf6bdcadc457287a168bfed48c8976b2f0a24f7f348110d5cef"), looks := false }, kinds := [], alts := [], laidByText := true, laidKinds := [.data, .data], laidTests := true, laidLooks := .later }
def MacKeysUptoCardSaid : Prop := Claim7.holds Tryd.pinned (.plain (OpenSpec.upto macKeysSpec)) macKeysUptoCard

/-- THE SECOND FORM's CARD OF 'intagliolaw02.MacMore'. -/
def macMoreUptoCard : Claim7 := { stood := { row := macMoreUptoRow, standIns := [], harness := (true, "6acb78e01e3b4bf6bdcadc457287a168bfed48c8976b2f0a24f7f348110d5cef"), looks := false }, kinds := [], alts := [], laidByText := true, laidKinds := [.data, .data], laidTests := true, laidLooks := .later }
def MacMoreUptoCardSaid : Prop := Claim7.holds Tryd.pinned (.plain (OpenSpec.upto macMoreSpec)) macMoreUptoCard

/-- THE SECOND FORM's CARD OF 'intagliolaw02.MacEqual'. -/
def macEqualUptoCard : Claim7 := { stood := { row := macEqualUptoRow, standIns := [], harness := (true, "6acb78e01e3b4bf6bdcadc457287a168bfed48c8976b2f0a24f7f348110d5cef"), looks := false }, kinds := [], alts := [], laidByText := true, laidKinds := [.data, .data], laidTests := true, laidLooks := .later }
def MacEqualUptoCardSaid : Prop := Claim7.holds Tryd.pinned (.plain (OpenSpec.upto macEqualSpec)) macEqualUptoCard

/-- THE SECOND FORM's CARD OF 'intagliolaw02.MacLong'. -/
def macLongUptoCard : Claim7 := { stood := { row := macLongUptoRow, standIns := [], harness := (true, "6acb78e01e3b4bf6bdcadc457287a168bfed48c8976b2f0a24f7f348110d5cef"), looks := false }, kinds := [], alts := [], laidByText := true, laidKinds := [.data, .data], laidTests := true, laidLooks := .later }
def MacLongUptoCardSaid : Prop := Claim7.holds Tryd.pinned (.plain (OpenSpec.upto macLongSpec)) macLongUptoCard

/-- THE SECOND FORM's CARD OF 'intagliolaw02.MacCounts'. -/
def macCountsUptoCard : Claim7 := { stood := { row := macCountsUptoRow, standIns := [], harness := (true, "6acb78e01e3b4bf6bdcadc457287a168bfed48c8976b2f0a24f7f348110d5cef"), looks := false }, kinds := [], alts := [], laidByText := true, laidKinds := [.data, .data], laidTests := true, laidLooks := .later }
def MacCountsUptoCardSaid : Prop := Claim7.holds Tryd.pinned (.plain (OpenSpec.upto macCountsSpec)) macCountsUptoCard
end Rows
end Go.Proofs.YtcdcoennnmbbdaaDoor
