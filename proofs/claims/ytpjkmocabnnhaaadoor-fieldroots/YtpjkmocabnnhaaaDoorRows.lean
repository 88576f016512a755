/-
  NARROWER THAN 'FOR EVERY INPUT', by the rows' own cells (each row's printed sentence says how): FieldAdds: laid · FieldRoots: laid · FieldRules: laid · FieldOdd: laid.
  DERIVED. THE GIVEN ROWS OF THIS SEAT. 4 by the template 'for every input the law returns true; each argument reads behind the call as it read before'; 0 by the template 'total and deterministic' (their statements: YtpjkmocabnnhaaaDoorTotals.lean).
  GIVEN WITH THE SEED: the statements are not yours to turn. If you find one false, say at which input.
  Laid BY PROGRAM, IN A SANDBOX (cutbox-rows.mjs): the forced cells as the released guide's own fill.sh prints them over the translation d3188ce0889ac6fd… (all of the seat's roots in one cut). By AI agents, Wed Nov 11 2026. No macro, syntax, notation, axiom, sorry.
-/
import Derived.Test.YtpjkmocabnnhaaaDoorChecked
import GoSem.Claim
import GoSem.ClaimJoined
import GoSem.ClaimMapViews
import Derived.JoinedTies
import Derived.KernelRfl
namespace Go.Proofs.YtpjkmocabnnhaaaDoor
/- THE CELL 'sum', in the pinned program and in every row, IS THE sha256 OF THE DUMP (.gsa) THAT YtpjkmocabnnhaaaDoorProg.lean LOADS. Nothing in Lean hashes anything: it is a label: what it is worth is what the hold of that sum in a sandbox is worth. -/
noncomputable def Tryd.pinned : Pinned := { name := "ytpjkmocabnnhaaadoor", sum := "d3188ce0889ac6fdde5077e15661c77cec6babb76d56594fce432a9a38fc1f81", checked := Tryd.checked }
namespace Rows
def none {H : Type} : Left H := { results := [], args := [] }

/- WHAT THE LISTED PACKAGE-LEVEL VARIABLES READ AS WHEN THE CALL BEGINS. Each datum BY PROGRAM (the guide's laid-datum.mjs) off the statement by which the dump's own 'gosem.cut.vars' lays the variable. In a bare row this is a premise. The card (YtpjkmocabnnhaaaDoorCards.lean) ties it to the program's text. -/
def laid_intaglio_field_twice {H : Type} : DataW H := .agg [.lit (.int .u64 4503599627370458), .lit (.int .u64 4503599627370494), .lit (.int .u64 4503599627370494), .lit (.int .u64 4503599627370494), .lit (.int .u64 4503599627370494)]

/-- 'intagliolaw03.FieldAdds': WHATEVER THE INPUT: true; the input reads as it did. -/
def fieldAddsSpec : ChangeSpec := { name := "fieldAdds", fn := fun _ => fun
  | [d1, d2, d3] => { results := [.lit (.bool true)], args := [d1, d2, d3] }
  | _ => none }
def fieldAddsRow : OpenClaim := { program := "ytpjkmocabnnhaaadoor", sum := "d3188ce0889ac6fdde5077e15661c77cec6babb76d56594fce432a9a38fc1f81", func := "intaglio/intagliolaw03.FieldAdds", spec := "fieldAdds", inPlace := ["math/bits.Add64"], named := ["intaglio/field.twice"], apart := false, laid := [("intaglio/field.twice", laid_intaglio_field_twice)] }
def FieldAddsSaid : Prop := fieldAddsRow.holds Tryd.pinned (OpenSpec.ofChange fieldAddsSpec)

/-- ITS FALSE NEIGHBOUR: 'it returns false'. Refute it at one input. -/
def fieldAddsWrong : ChangeSpec := { name := "fieldAdds", fn := fun _ => fun
  | [d1, d2, d3] => { results := [.lit (.bool false)], args := [d1, d2, d3] }
  | _ => none }
def FieldAddsWrongFalsely : Prop := fieldAddsRow.holds Tryd.pinned (OpenSpec.ofChange fieldAddsWrong)

/-- 'intagliolaw03.FieldRoots': WHATEVER THE INPUT: true; the input reads as it did. -/
def fieldRootsSpec : ChangeSpec := { name := "fieldRoots", fn := fun _ => fun
  | [d1, d2] => { results := [.lit (.bool true)], args := [d1, d2] }
  | _ => none }
def fieldRootsRow : OpenClaim := { program := "ytpjkmocabnnhaaadoor", sum := "d3188ce0889ac6fdde5077e15661c77cec6babb76d56594fce432a9a38fc1f81", func := "intaglio/intagliolaw03.FieldRoots", spec := "fieldRoots", inPlace := ["math/bits.Add64"], named := ["intaglio/field.twice"], apart := false, laid := [("intaglio/field.twice", laid_intaglio_field_twice)] }
def FieldRootsSaid : Prop := fieldRootsRow.holds Tryd.pinned (OpenSpec.ofChange fieldRootsSpec)

/-- ITS FALSE NEIGHBOUR: 'it returns false'. Refute it at one input. -/
def fieldRootsWrong : ChangeSpec := { name := "fieldRoots", fn := fun _ => fun
  | [d1, d2] => { results := [.lit (.bool false)], args := [d1, d2] }
  | _ => none }
def FieldRootsWrongFalsely : Prop := fieldRootsRow.holds Tryd.pinned (OpenSpec.ofChange fieldRootsWrong)

/-- 'intagliolaw03.FieldRules': WHATEVER THE INPUT: true; the input reads as it did. -/
def fieldRulesSpec : ChangeSpec := { name := "fieldRules", fn := fun _ => fun
  | [d1, d2, d3] => { results := [.lit (.bool true)], args := [d1, d2, d3] }
  | _ => none }
def fieldRulesRow : OpenClaim := { program := "ytpjkmocabnnhaaadoor", sum := "d3188ce0889ac6fdde5077e15661c77cec6babb76d56594fce432a9a38fc1f81", func := "intaglio/intagliolaw03.FieldRules", spec := "fieldRules", inPlace := ["math/bits.Add64"], named := ["intaglio/field.twice"], apart := false, laid := [("intaglio/field.twice", laid_intaglio_field_twice)] }
def FieldRulesSaid : Prop := fieldRulesRow.holds Tryd.pinned (OpenSpec.ofChange fieldRulesSpec)

/-- ITS FALSE NEIGHBOUR: 'it returns false'. Refute it at one input. -/
def fieldRulesWrong : ChangeSpec := { name := "fieldRules", fn := fun _ => fun
  | [d1, d2, d3] => { results := [.lit (.bool false)], args := [d1, d2, d3] }
  | _ => none }
def FieldRulesWrongFalsely : Prop := fieldRulesRow.holds Tryd.pinned (OpenSpec.ofChange fieldRulesWrong)

/-- 'intagliolaw03.FieldOdd': WHATEVER THE INPUT: true; the input reads as it did. -/
def fieldOddSpec : ChangeSpec := { name := "fieldOdd", fn := fun _ => fun
  | [d1, d2, d3] => { results := [.lit (.bool true)], args := [d1, d2, d3] }
  | _ => none }
def fieldOddRow : OpenClaim := { program := "ytpjkmocabnnhaaadoor", sum := "d3188ce0889ac6fdde5077e15661c77cec6babb76d56594fce432a9a38fc1f81", func := "intaglio/intagliolaw03.FieldOdd", spec := "fieldOdd", inPlace := ["math/bits.Add64"], named := ["intaglio/field.twice"], apart := false, laid := [("intaglio/field.twice", laid_intaglio_field_twice)] }
def FieldOddSaid : Prop := fieldOddRow.holds Tryd.pinned (OpenSpec.ofChange fieldOddSpec)

/-- ITS FALSE NEIGHBOUR: 'it returns false'. Refute it at one input. -/
def fieldOddWrong : ChangeSpec := { name := "fieldOdd", fn := fun _ => fun
  | [d1, d2, d3] => { results := [.lit (.bool false)], args := [d1, d2, d3] }
  | _ => none }
def FieldOddWrongFalsely : Prop := fieldOddRow.holds Tryd.pinned (OpenSpec.ofChange fieldOddWrong)

/- THE SECOND FORM. 'bulk': how many values and letters a reading holds, each counted each time it is reached (what is shared counts as often as it is met; a slice's spare places count too). A statement '..UptoSaid' is the law's where the arguments, and the package variables that the reading takes, are together of bulk at most 1048576: NARROWER than '..Said'. Prove '..Said' where nothing that the law and all that it calls make is longer than what came in: it says more and counts as full. Else prove '..UptoSaid'. A law counts once. -/
mutual
def uptoBulk {H : Type} : DataW H → Nat
  | .lit (.string bytes) => bytes.length + 1
  | .lit _ => 1
  | .nil => 1
  | .ptr d => uptoBulk d + 1
  | .slice elems spare => uptoBulkAll elems + uptoBulkAll spare + 1
  | .agg parts => uptoBulkAll parts + 1
  | .iface _ d => uptoBulk d + 1
  | .map entries => uptoBulkEntries entries + 1
  | .held _ => 1
def uptoBulkAll {H : Type} : List (DataW H) → Nat
  | [] => 0
  | d :: r => uptoBulk d + uptoBulkAll r
def uptoBulkEntries {H : Type} : List (Lit × DataW H) → Nat
  | [] => 0
  | x :: r => uptoBulkEntry x + uptoBulkEntries r
def uptoBulkEntry {H : Type} : Lit × DataW H → Nat
  | (.string bytes, d) => bytes.length + uptoBulk d + 1
  | (_, d) => uptoBulk d + 1
 end
def uptoSmall : (H : Type) → List (DataW H) → Bool := fun _ ds => decide (uptoBulkAll ds ≤ 1048576)
def OpenSpec.upto (s : _root_.Go.ChangeSpec) : _root_.Go.OpenSpec := { _root_.Go.OpenSpec.ofChange s with cond := some uptoSmall }

/-- 'intagliolaw03.FieldAdds', WHERE WHAT IT READS IS OF BULK AT MOST 1048576: true; the input reads as it did. -/
def fieldAddsUptoRow : OpenClaim := { program := "ytpjkmocabnnhaaadoor", sum := "d3188ce0889ac6fdde5077e15661c77cec6babb76d56594fce432a9a38fc1f81", func := "intaglio/intagliolaw03.FieldAdds", spec := "fieldAdds", inPlace := ["math/bits.Add64"], named := ["intaglio/field.twice"], apart := false, laid := [("intaglio/field.twice", laid_intaglio_field_twice)], narrowed := true }
def FieldAddsUptoSaid : Prop := fieldAddsUptoRow.holds Tryd.pinned (OpenSpec.upto fieldAddsSpec)

/-- 'intagliolaw03.FieldRoots', WHERE WHAT IT READS IS OF BULK AT MOST 1048576: true; the input reads as it did. -/
def fieldRootsUptoRow : OpenClaim := { program := "ytpjkmocabnnhaaadoor", sum := "d3188ce0889ac6fdde5077e15661c77cec6babb76d56594fce432a9a38fc1f81", func := "intaglio/intagliolaw03.FieldRoots", spec := "fieldRoots", inPlace := ["math/bits.Add64"], named := ["intaglio/field.twice"], apart := false, laid := [("intaglio/field.twice", laid_intaglio_field_twice)], narrowed := true }
def FieldRootsUptoSaid : Prop := fieldRootsUptoRow.holds Tryd.pinned (OpenSpec.upto fieldRootsSpec)

/-- 'intagliolaw03.FieldRules', WHERE WHAT IT READS IS OF BULK AT MOST 1048576: true; the input reads as it did. -/
def fieldRulesUptoRow : OpenClaim := { program := "ytpjkmocabnnhaaadoor", sum := "d3188ce0889ac6fdde5077e15661c77cec6babb76d56594fce432a9a38fc1f81", func := "intaglio/intagliolaw03.FieldRules", spec := "fieldRules", inPlace := ["math/bits.Add64"], named := ["intaglio/field.twice"], apart := false, laid := [("intaglio/field.twice", laid_intaglio_field_twice)], narrowed := true }
def FieldRulesUptoSaid : Prop := fieldRulesUptoRow.holds Tryd.pinned (OpenSpec.upto fieldRulesSpec)

/-- 'intagliolaw03.FieldOdd', WHERE WHAT IT READS IS OF BULK AT MOST 1048576: true; the input reads as it did. -/
def fieldOddUptoRow : OpenClaim := { program := "ytpjkmocabnnhaaadoor", sum := "d3188ce0889ac6fdde5077e15661c77cec6babb76d56594fce432a9a38fc1f81", func := "intaglio/intagliolaw03.FieldOdd", spec := "fieldOdd", inPlace := ["math/bits.Add64"], named := ["intaglio/field.twice"], apart := false, laid := [("intaglio/field.twice", laid_intaglio_field_twice)], narrowed := true }
def FieldOddUptoSaid : Prop := fieldOddUptoRow.holds Tryd.pinned (OpenSpec.upto fieldOddSpec)

end Rows
end Go.Proofs.YtpjkmocabnnhaaaDoor
