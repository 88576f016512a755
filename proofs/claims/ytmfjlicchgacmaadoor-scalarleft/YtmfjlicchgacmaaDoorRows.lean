/-
  NARROWER THAN 'FOR EVERY INPUT', by the rows' own cells (each row's printed sentence says how): ScalarLeft: laid · ScalarSums: laid · ScalarRules: laid · ScalarClamps: laid · ScalarRound: laid.
  DERIVED. THE GIVEN ROWS OF THIS SEAT. 5 by the template 'for every input the law returns true; each argument reads behind the call as it read before'; 0 by the template 'total and deterministic' (their statements: YtmfjlicchgacmaaDoorTotals.lean).
  GIVEN WITH THE SEED: the statements are not yours to turn. If you find one false, say at which input.
  Laid BY PROGRAM, IN A SANDBOX (cutbox-rows.mjs): the forced cells as the released guide's own fill.sh prints them over the translation 81e27697b509b86c… (all of the seat's roots in one cut). By AI agents, Wed Nov 11 2026. No macro, syntax, notation, axiom, sorry.
-/
import Derived.Test.YtmfjlicchgacmaaDoorChecked
import GoSem.Claim
import GoSem.ClaimJoined
import GoSem.ClaimMapViews
import Derived.JoinedTies
import Derived.KernelRfl
namespace Go.Proofs.YtmfjlicchgacmaaDoor
/- THE CELL 'sum', in the pinned program and in every row, IS THE sha256 OF THE DUMP (.gsa) THAT YtmfjlicchgacmaaDoorProg.lean LOADS. Nothing in Lean hashes anything: it is a label: what it is worth is what the hold of that sum in a sandbox is worth. -/
noncomputable def Tryd.pinned : Pinned := { name := "ytmfjlicchgacmaadoor", sum := "81e27697b509b86c407802a44a0f38c20b1836a65b704db36dacbae68f0a8e98", checked := Tryd.checked }
namespace Rows
def none {H : Type} : Left H := { results := [], args := [] }

/- WHAT THE LISTED PACKAGE-LEVEL VARIABLES READ AS WHEN THE CALL BEGINS. Each datum BY PROGRAM (the guide's laid-datum.mjs) off the statement by which the dump's own 'gosem.cut.vars' lays the variable. In a bare row this is a premise. The card (YtmfjlicchgacmaaDoorCards.lean) ties it to the program's text. -/
def laid_intaglio_scalar_order {H : Type} : DataW H := .agg [.lit (.int .u32 1559614445), .lit (.int .u32 1477600026), .lit (.int .u32 2734136534), .lit (.int .u32 350157278), .lit (.int .u32 0), .lit (.int .u32 0), .lit (.int .u32 0), .lit (.int .u32 268435456)]

/-- 'intagliolaw04.ScalarLeft': WHATEVER THE INPUT: true; the input reads as it did. -/
def scalarLeftSpec : ChangeSpec := { name := "scalarLeft", fn := fun _ => fun
  | [d1, d2] => { results := [.lit (.bool true)], args := [d1, d2] }
  | _ => none }
def scalarLeftRow : OpenClaim := { program := "ytmfjlicchgacmaadoor", sum := "81e27697b509b86c407802a44a0f38c20b1836a65b704db36dacbae68f0a8e98", func := "intaglio/intagliolaw04.ScalarLeft", spec := "scalarLeft", named := ["intaglio/scalar.order"], apart := false, laid := [("intaglio/scalar.order", laid_intaglio_scalar_order)] }
def ScalarLeftSaid : Prop := scalarLeftRow.holds Tryd.pinned (OpenSpec.ofChange scalarLeftSpec)

/-- ITS FALSE NEIGHBOUR: 'it returns false'. Refute it at one input. -/
def scalarLeftWrong : ChangeSpec := { name := "scalarLeft", fn := fun _ => fun
  | [d1, d2] => { results := [.lit (.bool false)], args := [d1, d2] }
  | _ => none }
def ScalarLeftWrongFalsely : Prop := scalarLeftRow.holds Tryd.pinned (OpenSpec.ofChange scalarLeftWrong)

/-- 'intagliolaw04.ScalarSums': WHATEVER THE INPUT: true; the input reads as it did. -/
def scalarSumsSpec : ChangeSpec := { name := "scalarSums", fn := fun _ => fun
  | [d1, d2, d3] => { results := [.lit (.bool true)], args := [d1, d2, d3] }
  | _ => none }
def scalarSumsRow : OpenClaim := { program := "ytmfjlicchgacmaadoor", sum := "81e27697b509b86c407802a44a0f38c20b1836a65b704db36dacbae68f0a8e98", func := "intaglio/intagliolaw04.ScalarSums", spec := "scalarSums", named := ["intaglio/scalar.order"], apart := false, laid := [("intaglio/scalar.order", laid_intaglio_scalar_order)] }
def ScalarSumsSaid : Prop := scalarSumsRow.holds Tryd.pinned (OpenSpec.ofChange scalarSumsSpec)

/-- ITS FALSE NEIGHBOUR: 'it returns false'. Refute it at one input. -/
def scalarSumsWrong : ChangeSpec := { name := "scalarSums", fn := fun _ => fun
  | [d1, d2, d3] => { results := [.lit (.bool false)], args := [d1, d2, d3] }
  | _ => none }
def ScalarSumsWrongFalsely : Prop := scalarSumsRow.holds Tryd.pinned (OpenSpec.ofChange scalarSumsWrong)

/-- 'intagliolaw04.ScalarRules': WHATEVER THE INPUT: true; the input reads as it did. -/
def scalarRulesSpec : ChangeSpec := { name := "scalarRules", fn := fun _ => fun
  | [d1, d2, d3] => { results := [.lit (.bool true)], args := [d1, d2, d3] }
  | _ => none }
def scalarRulesRow : OpenClaim := { program := "ytmfjlicchgacmaadoor", sum := "81e27697b509b86c407802a44a0f38c20b1836a65b704db36dacbae68f0a8e98", func := "intaglio/intagliolaw04.ScalarRules", spec := "scalarRules", named := ["intaglio/scalar.order"], apart := false, laid := [("intaglio/scalar.order", laid_intaglio_scalar_order)] }
def ScalarRulesSaid : Prop := scalarRulesRow.holds Tryd.pinned (OpenSpec.ofChange scalarRulesSpec)

/-- ITS FALSE NEIGHBOUR: 'it returns false'. Refute it at one input. -/
def scalarRulesWrong : ChangeSpec := { name := "scalarRules", fn := fun _ => fun
  | [d1, d2, d3] => { results := [.lit (.bool false)], args := [d1, d2, d3] }
  | _ => none }
def ScalarRulesWrongFalsely : Prop := scalarRulesRow.holds Tryd.pinned (OpenSpec.ofChange scalarRulesWrong)

/-- 'intagliolaw04.ScalarClamps': WHATEVER THE INPUT: true; the input reads as it did. -/
def scalarClampsSpec : ChangeSpec := { name := "scalarClamps", fn := fun _ => fun
  | [d] => { results := [.lit (.bool true)], args := [d] }
  | _ => none }
def scalarClampsRow : OpenClaim := { program := "ytmfjlicchgacmaadoor", sum := "81e27697b509b86c407802a44a0f38c20b1836a65b704db36dacbae68f0a8e98", func := "intaglio/intagliolaw04.ScalarClamps", spec := "scalarClamps", named := ["intaglio/scalar.order"], apart := false, laid := [("intaglio/scalar.order", laid_intaglio_scalar_order)] }
def ScalarClampsSaid : Prop := scalarClampsRow.holds Tryd.pinned (OpenSpec.ofChange scalarClampsSpec)

/-- ITS FALSE NEIGHBOUR: 'it returns false'. Refute it at one input. -/
def scalarClampsWrong : ChangeSpec := { name := "scalarClamps", fn := fun _ => fun
  | [d] => { results := [.lit (.bool false)], args := [d] }
  | _ => none }
def ScalarClampsWrongFalsely : Prop := scalarClampsRow.holds Tryd.pinned (OpenSpec.ofChange scalarClampsWrong)

/-- 'intagliolaw04.ScalarRound': WHATEVER THE INPUT: true; the input reads as it did. -/
def scalarRoundSpec : ChangeSpec := { name := "scalarRound", fn := fun _ => fun
  | [d1, d2] => { results := [.lit (.bool true)], args := [d1, d2] }
  | _ => none }
def scalarRoundRow : OpenClaim := { program := "ytmfjlicchgacmaadoor", sum := "81e27697b509b86c407802a44a0f38c20b1836a65b704db36dacbae68f0a8e98", func := "intaglio/intagliolaw04.ScalarRound", spec := "scalarRound", named := ["intaglio/scalar.order"], apart := false, laid := [("intaglio/scalar.order", laid_intaglio_scalar_order)] }
def ScalarRoundSaid : Prop := scalarRoundRow.holds Tryd.pinned (OpenSpec.ofChange scalarRoundSpec)

/-- ITS FALSE NEIGHBOUR: 'it returns false'. Refute it at one input. -/
def scalarRoundWrong : ChangeSpec := { name := "scalarRound", fn := fun _ => fun
  | [d1, d2] => { results := [.lit (.bool false)], args := [d1, d2] }
  | _ => none }
def ScalarRoundWrongFalsely : Prop := scalarRoundRow.holds Tryd.pinned (OpenSpec.ofChange scalarRoundWrong)

/- THE SECOND FORM. 'bulk': how many values and letters a reading holds, each counted each time it is reached (what is shared counts as often as it is met; a slice's spare places count too). A statement '..UptoSaid' is the law's where the arguments, and the package variables that the reading takes, are together of bulk at most 1048576: NARROWER than '..Said'. Prove '..Said' where nothing that the law and all that it calls make is longer than what came in: it says more and counts as full. Else prove '..UptoSaid'. A law counts once. -/
mutual
def uptoBulk {H : Type} : DataW H → Nat
  | .lit (.string bytes) => bytes.length + 1
  | .lit _ => 1
  | .nil => 1
  | .ptr d => uptoBulk d + 1
  | .slice elems spare => uptoBulkAll elems + uptoBulkAll spare + 1
  | .agg parts => uptoBulkAll parts + 1
  | .iface _ d => uptoBulk d + 1
  | .map entries => uptoBulkEntries entries + 1
  | .held _ => 1
def uptoBulkAll {H : Type} : List (DataW H) → Nat
  | [] => 0
  | d :: r => uptoBulk d + uptoBulkAll r
def uptoBulkEntries {H : Type} : List (Lit × DataW H) → Nat
  | [] => 0
  | x :: r => uptoBulkEntry x + uptoBulkEntries r
def uptoBulkEntry {H : Type} : Lit × DataW H → Nat
  | (.string bytes, d) => bytes.length + uptoBulk d + 1
  | (_, d) => uptoBulk d + 1
 end
def uptoSmall : (H : Type) → List (DataW H) → Bool := fun _ ds => decide (uptoBulkAll ds ≤ 1048576)
def OpenSpec.upto (s : _root_.Go.ChangeSpec) : _root_.Go.OpenSpec := { _root_.Go.OpenSpec.ofChange s with cond := some uptoSmall }

/-- 'intagliolaw04.ScalarLeft', WHERE WHAT IT READS IS OF BULK AT MOST 1048576: true; the input reads as it did. -/
def scalarLeftUptoRow : OpenClaim := { program := "ytmfjlicchgacmaadoor", sum := "81e27697b509b86c407802a44a0f38c20b1836a65b704db36dacbae68f0a8e98", func := "intaglio/intagliolaw04.ScalarLeft", spec := "scalarLeft", named := ["intaglio/scalar.order"], apart := false, laid := [("intaglio/scalar.order", laid_intaglio_scalar_order)], narrowed := true }
def ScalarLeftUptoSaid : Prop := scalarLeftUptoRow.holds Tryd.pinned (OpenSpec.upto scalarLeftSpec)

/-- 'intagliolaw04.ScalarSums', WHERE WHAT IT READS IS OF BULK AT MOST 1048576: true; the input reads as it did. -/
def scalarSumsUptoRow : OpenClaim := { program := "ytmfjlicchgacmaadoor", sum := "81e27697b509b86c407802a44a0f38c20b1836a65b704db36dacbae68f0a8e98", func := "intaglio/intagliolaw04.ScalarSums", spec := "scalarSums", named := ["intaglio/scalar.order"], apart := false, laid := [("intaglio/scalar.order", laid_intaglio_scalar_order)], narrowed := true }
def ScalarSumsUptoSaid : Prop := scalarSumsUptoRow.holds Tryd.pinned (OpenSpec.upto scalarSumsSpec)

/-- 'intagliolaw04.ScalarRules', WHERE WHAT IT READS IS OF BULK AT MOST 1048576: true; the input reads as it did. -/
def scalarRulesUptoRow : OpenClaim := { program := "ytmfjlicchgacmaadoor", sum := "81e27697b509b86c407802a44a0f38c20b1836a65b704db36dacbae68f0a8e98", func := "intaglio/intagliolaw04.ScalarRules", spec := "scalarRules", named := ["intaglio/scalar.order"], apart := false, laid := [("intaglio/scalar.order", laid_intaglio_scalar_order)], narrowed := true }
def ScalarRulesUptoSaid : Prop := scalarRulesUptoRow.holds Tryd.pinned (OpenSpec.upto scalarRulesSpec)

/-- 'intagliolaw04.ScalarClamps', WHERE WHAT IT READS IS OF BULK AT MOST 1048576: true; the input reads as it did. -/
def scalarClampsUptoRow : OpenClaim := { program := "ytmfjlicchgacmaadoor", sum := "81e27697b509b86c407802a44a0f38c20b1836a65b704db36dacbae68f0a8e98", func := "intaglio/intagliolaw04.ScalarClamps", spec := "scalarClamps", named := ["intaglio/scalar.order"], apart := false, laid := [("intaglio/scalar.order", laid_intaglio_scalar_order)], narrowed := true }
def ScalarClampsUptoSaid : Prop := scalarClampsUptoRow.holds Tryd.pinned (OpenSpec.upto scalarClampsSpec)

/-- 'intagliolaw04.ScalarRound', WHERE WHAT IT READS IS OF BULK AT MOST 1048576: true; the input reads as it did. -/
def scalarRoundUptoRow : OpenClaim := { program := "ytmfjlicchgacmaadoor", sum := "81e27697b509b86c407802a44a0f38c20b1836a65b704db36dacbae68f0a8e98", func := "intaglio/intagliolaw04.ScalarRound", spec := "scalarRound", named := ["intaglio/scalar.order"], apart := false, laid := [("intaglio/scalar.order", laid_intaglio_scalar_order)], narrowed := true }
def ScalarRoundUptoSaid : Prop := scalarRoundUptoRow.holds Tryd.pinned (OpenSpec.upto scalarRoundSpec)

end Rows
end Go.Proofs.YtmfjlicchgacmaaDoor
