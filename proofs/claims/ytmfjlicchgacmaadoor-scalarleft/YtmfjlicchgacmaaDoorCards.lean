/-
  DERIVED. GIVEN WITH THE SEED: THE CARDS: each row of YtmfjlicchgacmaaDoorRows.lean that lists a variable, with what it lists TIED to the program's text (the seventh form; the later family's looks); each row that meets fmt, with fmt's text TOLD by the authors' own Lean function (tested against real Go, not proved from fmt's source: count such statements apart). THE CARD IS WHAT COUNTS. Prove the row's statement (the work); the ties are given (YtmfjlicchgacmaaDoorTie.lean); close each card by the builder's one call (the guide's Derived/Test/ToyasCard.lean, 'card_holds'). Laid BY PROGRAM, IN A SANDBOX (cutbox-door.mjs). By AI agents, Wed Nov 11 2026. No macro, syntax, notation, axiom, sorry.
-/
import Derived.Test.YtmfjlicchgacmaaDoorRows
import GoSem.ClaimSeven
namespace Go.Proofs.YtmfjlicchgacmaaDoor
namespace Rows

/-- THE TIED CARD OF 'intagliolaw04.ScalarLeft'. -/
def scalarLeftCard : Claim7 := { stood := { row := scalarLeftRow, standIns := [], harness := (true, "2f66fd394d5f0bb518d411d419093f5a41a74fcce9b4fcce5b0923f71f6e91b4"), looks := false }, kinds := [], alts := [], laidByText := true, laidKinds := [.data], laidTests := true, laidLooks := .later }
def ScalarLeftCardSaid : Prop := Claim7.holds Tryd.pinned (.plain (OpenSpec.ofChange scalarLeftSpec)) scalarLeftCard

/-- THE TIED CARD OF 'intagliolaw04.ScalarSums'. -/
def scalarSumsCard : Claim7 := { stood := { row := scalarSumsRow, standIns := [], harness := (true, "2f66fd394d5f0bb518d411d419093f5a41a74fcce9b4fcce5b0923f71f6e91b4"), looks := false }, kinds := [], alts := [], laidByText := true, laidKinds := [.data], laidTests := true, laidLooks := .later }
def ScalarSumsCardSaid : Prop := Claim7.holds Tryd.pinned (.plain (OpenSpec.ofChange scalarSumsSpec)) scalarSumsCard

/-- THE TIED CARD OF 'intagliolaw04.ScalarRules'. -/
def scalarRulesCard : Claim7 := { stood := { row := scalarRulesRow, standIns := [], harness := (true, "2f66fd394d5f0bb518d411d419093f5a41a74fcce9b4fcce5b0923f71f6e91b4"), looks := false }, kinds := [], alts := [], laidByText := true, laidKinds := [.data], laidTests := true, laidLooks := .later }
def ScalarRulesCardSaid : Prop := Claim7.holds Tryd.pinned (.plain (OpenSpec.ofChange scalarRulesSpec)) scalarRulesCard

/-- THE TIED CARD OF 'intagliolaw04.ScalarClamps'. -/
def scalarClampsCard : Claim7 := { stood := { row := scalarClampsRow, standIns := [], harness := (true, "2f66fd394d5f0bb518d411d419093f5a41a74fcce9b4fcce5b0923f71f6e91b4"), looks := false }, kinds := [], alts := [], laidByText := true, laidKinds := [.data], laidTests := true, laidLooks := .later }
def ScalarClampsCardSaid : Prop := Claim7.holds Tryd.pinned (.plain (OpenSpec.ofChange scalarClampsSpec)) scalarClampsCard

/-- THE TIED CARD OF 'intagliolaw04.ScalarRound'. -/
def scalarRoundCard : Claim7 := { stood := { row := scalarRoundRow, standIns := [], harness := (true, "2f66fd394d5f0bb518d411d419093f5a41a74fcce9b4fcce5b0923f71f6e91b4"), looks := false }, kinds := [], alts := [], laidByText := true, laidKinds := [.data], laidTests := true, laidLooks := .later }
def ScalarRoundCardSaid : Prop := Claim7.holds Tryd.pinned (.plain (OpenSpec.ofChange scalarRoundSpec)) scalarRoundCard

/-- THE SECOND FORM's CARD OF 'intagliolaw04.ScalarLeft'. -/
def scalarLeftUptoCard : Claim7 := { stood := { row := scalarLeftUptoRow, standIns := [], harness := (true, "2f66fd394d5f0bb518d411d419093f5a41a74fcce9b4fcce5b0923f71f6e91b4"), looks := false }, kinds := [], alts := [], laidByText := true, laidKinds := [.data], laidTests := true, laidLooks := .later }
def ScalarLeftUptoCardSaid : Prop := Claim7.holds Tryd.pinned (.plain (OpenSpec.upto scalarLeftSpec)) scalarLeftUptoCard

/-- THE SECOND FORM's CARD OF 'intagliolaw04.ScalarSums'. -/
def scalarSumsUptoCard : Claim7 := { stood := { row := scalarSumsUptoRow, standIns := [], harness := (true, "2f66fd394d5f0bb518d411d419093f5a41a74fcce9b4fcce5b0923f71f6e91b4"), looks := false }, kinds := [], alts := [], laidByText := true, laidKinds := [.data], laidTests := true, laidLooks := .later }
def ScalarSumsUptoCardSaid : Prop := Claim7.holds Tryd.pinned (.plain (OpenSpec.upto scalarSumsSpec)) scalarSumsUptoCard

/-- THE SECOND FORM's CARD OF 'intagliolaw04.ScalarRules'. -/
def scalarRulesUptoCard : Claim7 := { stood := { row := scalarRulesUptoRow, standIns := [], harness := (true, "2f66fd394d5f0bb518d411d419093f5a41a74fcce9b4fcce5b0923f71f6e91b4"), looks := false }, kinds := [], alts := [], laidByText := true, laidKinds := [.data], laidTests := true, laidLooks := .later }
def ScalarRulesUptoCardSaid : Prop := Claim7.holds Tryd.pinned (.plain (OpenSpec.upto scalarRulesSpec)) scalarRulesUptoCard

/-- THE SECOND FORM's CARD OF 'intagliolaw04.ScalarClamps'. -/
def scalarClampsUptoCard : Claim7 := { stood := { row := scalarClampsUptoRow, standIns := [], harness := (true, "2f66fd394d5f0bb518d411d419093f5a41a74fcce9b4fcce5b0923f71f6e91b4"), looks := false }, kinds := [], alts := [], laidByText := true, laidKinds := [.data], laidTests := true, laidLooks := .later }
def ScalarClampsUptoCardSaid : Prop := Claim7.holds Tryd.pinned (.plain (OpenSpec.upto scalarClampsSpec)) scalarClampsUptoCard

/-- THE SECOND FORM's CARD OF 'intagliolaw04.ScalarRound'. -/
def scalarRoundUptoCard : Claim7 := { stood := { row := scalarRoundUptoRow, standIns := [], harness := (true, "2f66fd394d5f0bb518d411d419093f5a41a74fcce9b4fcce5b0923f71f6e91b4"), looks := false }, kinds := [], alts := [], laidByText := true, laidKinds := [.data], laidTests := true, laidLooks := .later }
def ScalarRoundUptoCardSaid : Prop := Claim7.holds Tryd.pinned (.plain (OpenSpec.upto scalarRoundSpec)) scalarRoundUptoCard
end Rows
end Go.Proofs.YtmfjlicchgacmaaDoor
