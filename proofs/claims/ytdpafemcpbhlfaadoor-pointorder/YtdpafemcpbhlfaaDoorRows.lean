/-
  NARROWER THAN 'FOR EVERY INPUT', by the rows' own cells (each row's printed sentence says how): LadderClimbs: laid · LadderAgrees: laid · LadderMeets: laid · LadderThree: laid · LadderLow: laid · PointReads: laid · PointAdds: laid · PointTimes: laid · PointRules: laid · PointTiny: laid · PointOrder: laid · PointSigns: laid · WholeCurves: laid.
  DERIVED. THE GIVEN ROWS OF THIS SEAT. 13 by the template 'for every input the law returns true; each argument reads behind the call as it read before'; 0 by the template 'total and deterministic' (their statements: YtdpafemcpbhlfaaDoorTotals.lean).
  GIVEN WITH THE SEED: the statements are not yours to turn. If you find one false, say at which input.
  Laid BY PROGRAM, IN A SANDBOX (cutbox-rows.mjs): the forced cells as the released guide's own fill.sh prints them over the translation 8728704fee89983e… (all of the seat's roots in one cut). By AI agents, Wed Nov 11 2026. No macro, syntax, notation, axiom, sorry.
-/
import Derived.Test.YtdpafemcpbhlfaaDoorChecked
import GoSem.Claim
import GoSem.ClaimJoined
import GoSem.ClaimMapViews
import Derived.JoinedTies
import Derived.KernelRfl
namespace Go.Proofs.YtdpafemcpbhlfaaDoor
/- THE CELL 'sum', in the pinned program and in every row, IS THE sha256 OF THE DUMP (.gsa) THAT YtdpafemcpbhlfaaDoorProg.lean LOADS. Nothing in Lean hashes anything: it is a label: what it is worth is what the hold of that sum in a sandbox is worth. -/
noncomputable def Tryd.pinned : Pinned := { name := "ytdpafemcpbhlfaadoor", sum := "8728704fee89983ef45f9f3f482ae1168fb2b2ab02b1948f89f8f76ecae1d019", checked := Tryd.checked }
namespace Rows
def none {H : Type} : Left H := { results := [], args := [] }

/- WHAT THE LISTED PACKAGE-LEVEL VARIABLES READ AS WHEN THE CALL BEGINS. Each datum BY PROGRAM (the guide's laid-datum.mjs) off the statement by which the dump's own 'gosem.cut.vars' lays the variable. In a bare row this is a premise. The card (YtdpafemcpbhlfaaDoorCards.lean) ties it to the program's text. -/
def laid_intaglio_field_twice {H : Type} : DataW H := .agg [.lit (.int .u64 4503599627370458), .lit (.int .u64 4503599627370494), .lit (.int .u64 4503599627370494), .lit (.int .u64 4503599627370494), .lit (.int .u64 4503599627370494)]
def laid_intaglio_scalar_order {H : Type} : DataW H := .agg [.lit (.int .u32 1559614445), .lit (.int .u32 1477600026), .lit (.int .u32 2734136534), .lit (.int .u32 350157278), .lit (.int .u32 0), .lit (.int .u32 0), .lit (.int .u32 0), .lit (.int .u32 268435456)]

/-- 'intagliolaw05.LadderClimbs': WHATEVER THE INPUT: true; the input reads as it did. -/
def ladderClimbsSpec : ChangeSpec := { name := "ladderClimbs", fn := fun _ => fun
  | [d1, d2] => { results := [.lit (.bool true)], args := [d1, d2] }
  | _ => none }
def ladderClimbsRow : OpenClaim := { program := "ytdpafemcpbhlfaadoor", sum := "8728704fee89983ef45f9f3f482ae1168fb2b2ab02b1948f89f8f76ecae1d019", func := "intaglio/intagliolaw05.LadderClimbs", spec := "ladderClimbs", inPlace := ["math/bits.Add64"], named := ["intaglio/field.twice"], apart := false, laid := [("intaglio/field.twice", laid_intaglio_field_twice)] }
def LadderClimbsSaid : Prop := ladderClimbsRow.holds Tryd.pinned (OpenSpec.ofChange ladderClimbsSpec)

/-- ITS FALSE NEIGHBOUR: 'it returns false'. Refute it at one input. -/
def ladderClimbsWrong : ChangeSpec := { name := "ladderClimbs", fn := fun _ => fun
  | [d1, d2] => { results := [.lit (.bool false)], args := [d1, d2] }
  | _ => none }
def LadderClimbsWrongFalsely : Prop := ladderClimbsRow.holds Tryd.pinned (OpenSpec.ofChange ladderClimbsWrong)

/-- 'intagliolaw05.LadderAgrees': WHATEVER THE INPUT: true; the input reads as it did. -/
def ladderAgreesSpec : ChangeSpec := { name := "ladderAgrees", fn := fun _ => fun
  | [d1, d2] => { results := [.lit (.bool true)], args := [d1, d2] }
  | _ => none }
def ladderAgreesRow : OpenClaim := { program := "ytdpafemcpbhlfaadoor", sum := "8728704fee89983ef45f9f3f482ae1168fb2b2ab02b1948f89f8f76ecae1d019", func := "intaglio/intagliolaw05.LadderAgrees", spec := "ladderAgrees", inPlace := ["math/bits.Add64"], named := ["intaglio/field.twice"], apart := false, laid := [("intaglio/field.twice", laid_intaglio_field_twice)] }
def LadderAgreesSaid : Prop := ladderAgreesRow.holds Tryd.pinned (OpenSpec.ofChange ladderAgreesSpec)

/-- ITS FALSE NEIGHBOUR: 'it returns false'. Refute it at one input. -/
def ladderAgreesWrong : ChangeSpec := { name := "ladderAgrees", fn := fun _ => fun
  | [d1, d2] => { results := [.lit (.bool false)], args := [d1, d2] }
  | _ => none }
def LadderAgreesWrongFalsely : Prop := ladderAgreesRow.holds Tryd.pinned (OpenSpec.ofChange ladderAgreesWrong)

/-- 'intagliolaw05.LadderMeets': WHATEVER THE INPUT: true; the input reads as it did. -/
def ladderMeetsSpec : ChangeSpec := { name := "ladderMeets", fn := fun _ => fun
  | [d1, d2] => { results := [.lit (.bool true)], args := [d1, d2] }
  | _ => none }
def ladderMeetsRow : OpenClaim := { program := "ytdpafemcpbhlfaadoor", sum := "8728704fee89983ef45f9f3f482ae1168fb2b2ab02b1948f89f8f76ecae1d019", func := "intaglio/intagliolaw05.LadderMeets", spec := "ladderMeets", inPlace := ["math/bits.Add64"], named := ["intaglio/field.twice"], apart := false, laid := [("intaglio/field.twice", laid_intaglio_field_twice)] }
def LadderMeetsSaid : Prop := ladderMeetsRow.holds Tryd.pinned (OpenSpec.ofChange ladderMeetsSpec)

/-- ITS FALSE NEIGHBOUR: 'it returns false'. Refute it at one input. -/
def ladderMeetsWrong : ChangeSpec := { name := "ladderMeets", fn := fun _ => fun
  | [d1, d2] => { results := [.lit (.bool false)], args := [d1, d2] }
  | _ => none }
def LadderMeetsWrongFalsely : Prop := ladderMeetsRow.holds Tryd.pinned (OpenSpec.ofChange ladderMeetsWrong)

/-- 'intagliolaw05.LadderThree': WHATEVER THE INPUT: true; the input reads as it did. -/
def ladderThreeSpec : ChangeSpec := { name := "ladderThree", fn := fun _ => fun
  | [d1, d2, d3] => { results := [.lit (.bool true)], args := [d1, d2, d3] }
  | _ => none }
def ladderThreeRow : OpenClaim := { program := "ytdpafemcpbhlfaadoor", sum := "8728704fee89983ef45f9f3f482ae1168fb2b2ab02b1948f89f8f76ecae1d019", func := "intaglio/intagliolaw05.LadderThree", spec := "ladderThree", inPlace := ["math/bits.Add64"], named := ["intaglio/field.twice"], apart := false, laid := [("intaglio/field.twice", laid_intaglio_field_twice)] }
def LadderThreeSaid : Prop := ladderThreeRow.holds Tryd.pinned (OpenSpec.ofChange ladderThreeSpec)

/-- ITS FALSE NEIGHBOUR: 'it returns false'. Refute it at one input. -/
def ladderThreeWrong : ChangeSpec := { name := "ladderThree", fn := fun _ => fun
  | [d1, d2, d3] => { results := [.lit (.bool false)], args := [d1, d2, d3] }
  | _ => none }
def LadderThreeWrongFalsely : Prop := ladderThreeRow.holds Tryd.pinned (OpenSpec.ofChange ladderThreeWrong)

/-- 'intagliolaw05.LadderLow': WHATEVER THE INPUT: true; the input reads as it did. -/
def ladderLowSpec : ChangeSpec := { name := "ladderLow", fn := fun _ => fun
  | [d1, d2, d3] => { results := [.lit (.bool true)], args := [d1, d2, d3] }
  | _ => none }
def ladderLowRow : OpenClaim := { program := "ytdpafemcpbhlfaadoor", sum := "8728704fee89983ef45f9f3f482ae1168fb2b2ab02b1948f89f8f76ecae1d019", func := "intaglio/intagliolaw05.LadderLow", spec := "ladderLow", inPlace := ["math/bits.Add64"], named := ["intaglio/field.twice"], apart := false, laid := [("intaglio/field.twice", laid_intaglio_field_twice)] }
def LadderLowSaid : Prop := ladderLowRow.holds Tryd.pinned (OpenSpec.ofChange ladderLowSpec)

/-- ITS FALSE NEIGHBOUR: 'it returns false'. Refute it at one input. -/
def ladderLowWrong : ChangeSpec := { name := "ladderLow", fn := fun _ => fun
  | [d1, d2, d3] => { results := [.lit (.bool false)], args := [d1, d2, d3] }
  | _ => none }
def LadderLowWrongFalsely : Prop := ladderLowRow.holds Tryd.pinned (OpenSpec.ofChange ladderLowWrong)

/-- 'intagliolaw06.PointReads': WHATEVER THE INPUT: true; the input reads as it did. -/
def pointReadsSpec : ChangeSpec := { name := "pointReads", fn := fun _ => fun
  | [d] => { results := [.lit (.bool true)], args := [d] }
  | _ => none }
def pointReadsRow : OpenClaim := { program := "ytdpafemcpbhlfaadoor", sum := "8728704fee89983ef45f9f3f482ae1168fb2b2ab02b1948f89f8f76ecae1d019", func := "intaglio/intagliolaw06.PointReads", spec := "pointReads", inPlace := ["math/bits.Add64"], named := ["intaglio/field.twice"], apart := false, laid := [("intaglio/field.twice", laid_intaglio_field_twice)] }
def PointReadsSaid : Prop := pointReadsRow.holds Tryd.pinned (OpenSpec.ofChange pointReadsSpec)

/-- ITS FALSE NEIGHBOUR: 'it returns false'. Refute it at one input. -/
def pointReadsWrong : ChangeSpec := { name := "pointReads", fn := fun _ => fun
  | [d] => { results := [.lit (.bool false)], args := [d] }
  | _ => none }
def PointReadsWrongFalsely : Prop := pointReadsRow.holds Tryd.pinned (OpenSpec.ofChange pointReadsWrong)

/-- 'intagliolaw06.PointAdds': WHATEVER THE INPUT: true; the input reads as it did. -/
def pointAddsSpec : ChangeSpec := { name := "pointAdds", fn := fun _ => fun
  | [d1, d2] => { results := [.lit (.bool true)], args := [d1, d2] }
  | _ => none }
def pointAddsRow : OpenClaim := { program := "ytdpafemcpbhlfaadoor", sum := "8728704fee89983ef45f9f3f482ae1168fb2b2ab02b1948f89f8f76ecae1d019", func := "intaglio/intagliolaw06.PointAdds", spec := "pointAdds", inPlace := ["math/bits.Add64"], named := ["intaglio/field.twice"], apart := false, laid := [("intaglio/field.twice", laid_intaglio_field_twice)] }
def PointAddsSaid : Prop := pointAddsRow.holds Tryd.pinned (OpenSpec.ofChange pointAddsSpec)

/-- ITS FALSE NEIGHBOUR: 'it returns false'. Refute it at one input. -/
def pointAddsWrong : ChangeSpec := { name := "pointAdds", fn := fun _ => fun
  | [d1, d2] => { results := [.lit (.bool false)], args := [d1, d2] }
  | _ => none }
def PointAddsWrongFalsely : Prop := pointAddsRow.holds Tryd.pinned (OpenSpec.ofChange pointAddsWrong)

/-- 'intagliolaw06.PointTimes': WHATEVER THE INPUT: true; the input reads as it did. -/
def pointTimesSpec : ChangeSpec := { name := "pointTimes", fn := fun _ => fun
  | [d1, d2] => { results := [.lit (.bool true)], args := [d1, d2] }
  | _ => none }
def pointTimesRow : OpenClaim := { program := "ytdpafemcpbhlfaadoor", sum := "8728704fee89983ef45f9f3f482ae1168fb2b2ab02b1948f89f8f76ecae1d019", func := "intaglio/intagliolaw06.PointTimes", spec := "pointTimes", inPlace := ["math/bits.Add64"], named := ["intaglio/field.twice"], apart := false, laid := [("intaglio/field.twice", laid_intaglio_field_twice)] }
def PointTimesSaid : Prop := pointTimesRow.holds Tryd.pinned (OpenSpec.ofChange pointTimesSpec)

/-- ITS FALSE NEIGHBOUR: 'it returns false'. Refute it at one input. -/
def pointTimesWrong : ChangeSpec := { name := "pointTimes", fn := fun _ => fun
  | [d1, d2] => { results := [.lit (.bool false)], args := [d1, d2] }
  | _ => none }
def PointTimesWrongFalsely : Prop := pointTimesRow.holds Tryd.pinned (OpenSpec.ofChange pointTimesWrong)

/-- 'intagliolaw06.PointRules': WHATEVER THE INPUT: true; the input reads as it did. -/
def pointRulesSpec : ChangeSpec := { name := "pointRules", fn := fun _ => fun
  | [d1, d2, d3] => { results := [.lit (.bool true)], args := [d1, d2, d3] }
  | _ => none }
def pointRulesRow : OpenClaim := { program := "ytdpafemcpbhlfaadoor", sum := "8728704fee89983ef45f9f3f482ae1168fb2b2ab02b1948f89f8f76ecae1d019", func := "intaglio/intagliolaw06.PointRules", spec := "pointRules", inPlace := ["math/bits.Add64"], named := ["intaglio/field.twice"], apart := false, laid := [("intaglio/field.twice", laid_intaglio_field_twice)] }
def PointRulesSaid : Prop := pointRulesRow.holds Tryd.pinned (OpenSpec.ofChange pointRulesSpec)

/-- ITS FALSE NEIGHBOUR: 'it returns false'. Refute it at one input. -/
def pointRulesWrong : ChangeSpec := { name := "pointRules", fn := fun _ => fun
  | [d1, d2, d3] => { results := [.lit (.bool false)], args := [d1, d2, d3] }
  | _ => none }
def PointRulesWrongFalsely : Prop := pointRulesRow.holds Tryd.pinned (OpenSpec.ofChange pointRulesWrong)

/-- 'intagliolaw06.PointTiny': WHATEVER THE INPUT: true; the input reads as it did. -/
def pointTinySpec : ChangeSpec := { name := "pointTiny", fn := fun _ => fun
  | [d1, d2] => { results := [.lit (.bool true)], args := [d1, d2] }
  | _ => none }
def pointTinyRow : OpenClaim := { program := "ytdpafemcpbhlfaadoor", sum := "8728704fee89983ef45f9f3f482ae1168fb2b2ab02b1948f89f8f76ecae1d019", func := "intaglio/intagliolaw06.PointTiny", spec := "pointTiny", inPlace := ["math/bits.Add64"], named := ["intaglio/field.twice"], apart := false, laid := [("intaglio/field.twice", laid_intaglio_field_twice)] }
def PointTinySaid : Prop := pointTinyRow.holds Tryd.pinned (OpenSpec.ofChange pointTinySpec)

/-- ITS FALSE NEIGHBOUR: 'it returns false'. Refute it at one input. -/
def pointTinyWrong : ChangeSpec := { name := "pointTiny", fn := fun _ => fun
  | [d1, d2] => { results := [.lit (.bool false)], args := [d1, d2] }
  | _ => none }
def PointTinyWrongFalsely : Prop := pointTinyRow.holds Tryd.pinned (OpenSpec.ofChange pointTinyWrong)

/-- 'intagliolaw06.PointOrder': WHATEVER THE INPUT: true; the input reads as it did. -/
def pointOrderSpec : ChangeSpec := { name := "pointOrder", fn := fun _ => fun
  | [d1, d2] => { results := [.lit (.bool true)], args := [d1, d2] }
  | _ => none }
def pointOrderRow : OpenClaim := { program := "ytdpafemcpbhlfaadoor", sum := "8728704fee89983ef45f9f3f482ae1168fb2b2ab02b1948f89f8f76ecae1d019", func := "intaglio/intagliolaw06.PointOrder", spec := "pointOrder", inPlace := ["math/bits.Add64"], named := ["intaglio/field.twice", "intaglio/scalar.order"], apart := false, laid := [("intaglio/field.twice", laid_intaglio_field_twice), ("intaglio/scalar.order", laid_intaglio_scalar_order)] }
def PointOrderSaid : Prop := pointOrderRow.holds Tryd.pinned (OpenSpec.ofChange pointOrderSpec)

/-- ITS FALSE NEIGHBOUR: 'it returns false'. Refute it at one input. -/
def pointOrderWrong : ChangeSpec := { name := "pointOrder", fn := fun _ => fun
  | [d1, d2] => { results := [.lit (.bool false)], args := [d1, d2] }
  | _ => none }
def PointOrderWrongFalsely : Prop := pointOrderRow.holds Tryd.pinned (OpenSpec.ofChange pointOrderWrong)

/-- 'intagliolaw06.PointSigns': WHATEVER THE INPUT: true; the input reads as it did. -/
def pointSignsSpec : ChangeSpec := { name := "pointSigns", fn := fun _ => fun
  | [d] => { results := [.lit (.bool true)], args := [d] }
  | _ => none }
def pointSignsRow : OpenClaim := { program := "ytdpafemcpbhlfaadoor", sum := "8728704fee89983ef45f9f3f482ae1168fb2b2ab02b1948f89f8f76ecae1d019", func := "intaglio/intagliolaw06.PointSigns", spec := "pointSigns", inPlace := ["math/bits.Add64"], named := ["intaglio/field.twice"], apart := false, laid := [("intaglio/field.twice", laid_intaglio_field_twice)] }
def PointSignsSaid : Prop := pointSignsRow.holds Tryd.pinned (OpenSpec.ofChange pointSignsSpec)

/-- ITS FALSE NEIGHBOUR: 'it returns false'. Refute it at one input. -/
def pointSignsWrong : ChangeSpec := { name := "pointSigns", fn := fun _ => fun
  | [d] => { results := [.lit (.bool false)], args := [d] }
  | _ => none }
def PointSignsWrongFalsely : Prop := pointSignsRow.holds Tryd.pinned (OpenSpec.ofChange pointSignsWrong)

/-- 'intagliotop.WholeCurves': WHATEVER THE INPUT: true; the input reads as it did. -/
def wholeCurvesSpec : ChangeSpec := { name := "wholeCurves", fn := fun _ => fun
  | [d] => { results := [.lit (.bool true)], args := [d] }
  | _ => none }
def wholeCurvesRow : OpenClaim := { program := "ytdpafemcpbhlfaadoor", sum := "8728704fee89983ef45f9f3f482ae1168fb2b2ab02b1948f89f8f76ecae1d019", func := "intaglio/intagliotop.WholeCurves", spec := "wholeCurves", inPlace := ["math/bits.Add64"], named := ["intaglio/field.twice"], apart := false, laid := [("intaglio/field.twice", laid_intaglio_field_twice)] }
def WholeCurvesSaid : Prop := wholeCurvesRow.holds Tryd.pinned (OpenSpec.ofChange wholeCurvesSpec)

/-- ITS FALSE NEIGHBOUR: 'it returns false'. Refute it at one input. -/
def wholeCurvesWrong : ChangeSpec := { name := "wholeCurves", fn := fun _ => fun
  | [d] => { results := [.lit (.bool false)], args := [d] }
  | _ => none }
def WholeCurvesWrongFalsely : Prop := wholeCurvesRow.holds Tryd.pinned (OpenSpec.ofChange wholeCurvesWrong)

/- THE SECOND FORM. 'bulk': how many values and letters a reading holds, each counted each time it is reached (what is shared counts as often as it is met; a slice's spare places count too). A statement '..UptoSaid' is the law's where the arguments, and the package variables that the reading takes, are together of bulk at most 1048576: NARROWER than '..Said'. Prove '..Said' where nothing that the law and all that it calls make is longer than what came in: it says more and counts as full. Else prove '..UptoSaid'. A law counts once. -/
mutual
def uptoBulk {H : Type} : DataW H → Nat
  | .lit (.string bytes) => bytes.length + 1
  | .lit _ => 1
  | .nil => 1
  | .ptr d => uptoBulk d + 1
  | .slice elems spare => uptoBulkAll elems + uptoBulkAll spare + 1
  | .agg parts => uptoBulkAll parts + 1
  | .iface _ d => uptoBulk d + 1
  | .map entries => uptoBulkEntries entries + 1
  | .held _ => 1
def uptoBulkAll {H : Type} : List (DataW H) → Nat
  | [] => 0
  | d :: r => uptoBulk d + uptoBulkAll r
def uptoBulkEntries {H : Type} : List (Lit × DataW H) → Nat
  | [] => 0
  | x :: r => uptoBulkEntry x + uptoBulkEntries r
def uptoBulkEntry {H : Type} : Lit × DataW H → Nat
  | (.string bytes, d) => bytes.length + uptoBulk d + 1
  | (_, d) => uptoBulk d + 1
 end
def uptoSmall : (H : Type) → List (DataW H) → Bool := fun _ ds => decide (uptoBulkAll ds ≤ 1048576)
def OpenSpec.upto (s : _root_.Go.ChangeSpec) : _root_.Go.OpenSpec := { _root_.Go.OpenSpec.ofChange s with cond := some uptoSmall }

/-- 'intagliolaw05.LadderClimbs', WHERE WHAT IT READS IS OF BULK AT MOST 1048576: true; the input reads as it did. -/
def ladderClimbsUptoRow : OpenClaim := { program := "ytdpafemcpbhlfaadoor", sum := "8728704fee89983ef45f9f3f482ae1168fb2b2ab02b1948f89f8f76ecae1d019", func := "intaglio/intagliolaw05.LadderClimbs", spec := "ladderClimbs", inPlace := ["math/bits.Add64"], named := ["intaglio/field.twice"], apart := false, laid := [("intaglio/field.twice", laid_intaglio_field_twice)], narrowed := true }
def LadderClimbsUptoSaid : Prop := ladderClimbsUptoRow.holds Tryd.pinned (OpenSpec.upto ladderClimbsSpec)

/-- 'intagliolaw05.LadderAgrees', WHERE WHAT IT READS IS OF BULK AT MOST 1048576: true; the input reads as it did. -/
def ladderAgreesUptoRow : OpenClaim := { program := "ytdpafemcpbhlfaadoor", sum := "8728704fee89983ef45f9f3f482ae1168fb2b2ab02b1948f89f8f76ecae1d019", func := "intaglio/intagliolaw05.LadderAgrees", spec := "ladderAgrees", inPlace := ["math/bits.Add64"], named := ["intaglio/field.twice"], apart := false, laid := [("intaglio/field.twice", laid_intaglio_field_twice)], narrowed := true }
def LadderAgreesUptoSaid : Prop := ladderAgreesUptoRow.holds Tryd.pinned (OpenSpec.upto ladderAgreesSpec)

/-- 'intagliolaw05.LadderMeets', WHERE WHAT IT READS IS OF BULK AT MOST 1048576: true; the input reads as it did. -/
def ladderMeetsUptoRow : OpenClaim := { program := "ytdpafemcpbhlfaadoor", sum := "8728704fee89983ef45f9f3f482ae1168fb2b2ab02b1948f89f8f76ecae1d019", func := "intaglio/intagliolaw05.LadderMeets", spec := "ladderMeets", inPlace := ["math/bits.Add64"], named := ["intaglio/field.twice"], apart := false, laid := [("intaglio/field.twice", laid_intaglio_field_twice)], narrowed := true }
def LadderMeetsUptoSaid : Prop := ladderMeetsUptoRow.holds Tryd.pinned (OpenSpec.upto ladderMeetsSpec)

/-- 'intagliolaw05.LadderThree', WHERE WHAT IT READS IS OF BULK AT MOST 1048576: true; the input reads as it did. -/
def ladderThreeUptoRow : OpenClaim := { program := "ytdpafemcpbhlfaadoor", sum := "8728704fee89983ef45f9f3f482ae1168fb2b2ab02b1948f89f8f76ecae1d019", func := "intaglio/intagliolaw05.LadderThree", spec := "ladderThree", inPlace := ["math/bits.Add64"], named := ["intaglio/field.twice"], apart := false, laid := [("intaglio/field.twice", laid_intaglio_field_twice)], narrowed := true }
def LadderThreeUptoSaid : Prop := ladderThreeUptoRow.holds Tryd.pinned (OpenSpec.upto ladderThreeSpec)

/-- 'intagliolaw05.LadderLow', WHERE WHAT IT READS IS OF BULK AT MOST 1048576: true; the input reads as it did. -/
def ladderLowUptoRow : OpenClaim := { program := "ytdpafemcpbhlfaadoor", sum := "8728704fee89983ef45f9f3f482ae1168fb2b2ab02b1948f89f8f76ecae1d019", func := "intaglio/intagliolaw05.LadderLow", spec := "ladderLow", inPlace := ["math/bits.Add64"], named := ["intaglio/field.twice"], apart := false, laid := [("intaglio/field.twice", laid_intaglio_field_twice)], narrowed := true }
def LadderLowUptoSaid : Prop := ladderLowUptoRow.holds Tryd.pinned (OpenSpec.upto ladderLowSpec)

/-- 'intagliolaw06.PointReads', WHERE WHAT IT READS IS OF BULK AT MOST 1048576: true; the input reads as it did. -/
def pointReadsUptoRow : OpenClaim := { program := "ytdpafemcpbhlfaadoor", sum := "8728704fee89983ef45f9f3f482ae1168fb2b2ab02b1948f89f8f76ecae1d019", func := "intaglio/intagliolaw06.PointReads", spec := "pointReads", inPlace := ["math/bits.Add64"], named := ["intaglio/field.twice"], apart := false, laid := [("intaglio/field.twice", laid_intaglio_field_twice)], narrowed := true }
def PointReadsUptoSaid : Prop := pointReadsUptoRow.holds Tryd.pinned (OpenSpec.upto pointReadsSpec)

/-- 'intagliolaw06.PointAdds', WHERE WHAT IT READS IS OF BULK AT MOST 1048576: true; the input reads as it did. -/
def pointAddsUptoRow : OpenClaim := { program := "ytdpafemcpbhlfaadoor", sum := "8728704fee89983ef45f9f3f482ae1168fb2b2ab02b1948f89f8f76ecae1d019", func := "intaglio/intagliolaw06.PointAdds", spec := "pointAdds", inPlace := ["math/bits.Add64"], named := ["intaglio/field.twice"], apart := false, laid := [("intaglio/field.twice", laid_intaglio_field_twice)], narrowed := true }
def PointAddsUptoSaid : Prop := pointAddsUptoRow.holds Tryd.pinned (OpenSpec.upto pointAddsSpec)

/-- 'intagliolaw06.PointTimes', WHERE WHAT IT READS IS OF BULK AT MOST 1048576: true; the input reads as it did. -/
def pointTimesUptoRow : OpenClaim := { program := "ytdpafemcpbhlfaadoor", sum := "8728704fee89983ef45f9f3f482ae1168fb2b2ab02b1948f89f8f76ecae1d019", func := "intaglio/intagliolaw06.PointTimes", spec := "pointTimes", inPlace := ["math/bits.Add64"], named := ["intaglio/field.twice"], apart := false, laid := [("intaglio/field.twice", laid_intaglio_field_twice)], narrowed := true }
def PointTimesUptoSaid : Prop := pointTimesUptoRow.holds Tryd.pinned (OpenSpec.upto pointTimesSpec)

/-- 'intagliolaw06.PointRules', WHERE WHAT IT READS IS OF BULK AT MOST 1048576: true; the input reads as it did. -/
def pointRulesUptoRow : OpenClaim := { program := "ytdpafemcpbhlfaadoor", sum := "8728704fee89983ef45f9f3f482ae1168fb2b2ab02b1948f89f8f76ecae1d019", func := "intaglio/intagliolaw06.PointRules", spec := "pointRules", inPlace := ["math/bits.Add64"], named := ["intaglio/field.twice"], apart := false, laid := [("intaglio/field.twice", laid_intaglio_field_twice)], narrowed := true }
def PointRulesUptoSaid : Prop := pointRulesUptoRow.holds Tryd.pinned (OpenSpec.upto pointRulesSpec)

/-- 'intagliolaw06.PointTiny', WHERE WHAT IT READS IS OF BULK AT MOST 1048576: true; the input reads as it did. -/
def pointTinyUptoRow : OpenClaim := { program := "ytdpafemcpbhlfaadoor", sum := "8728704fee89983ef45f9f3f482ae1168fb2b2ab02b1948f89f8f76ecae1d019", func := "intaglio/intagliolaw06.PointTiny", spec := "pointTiny", inPlace := ["math/bits.Add64"], named := ["intaglio/field.twice"], apart := false, laid := [("intaglio/field.twice", laid_intaglio_field_twice)], narrowed := true }
def PointTinyUptoSaid : Prop := pointTinyUptoRow.holds Tryd.pinned (OpenSpec.upto pointTinySpec)

/-- 'intagliolaw06.PointOrder', WHERE WHAT IT READS IS OF BULK AT MOST 1048576: true; the input reads as it did. -/
def pointOrderUptoRow : OpenClaim := { program := "ytdpafemcpbhlfaadoor", sum := "8728704fee89983ef45f9f3f482ae1168fb2b2ab02b1948f89f8f76ecae1d019", func := "intaglio/intagliolaw06.PointOrder", spec := "pointOrder", inPlace := ["math/bits.Add64"], named := ["intaglio/field.twice", "intaglio/scalar.order"], apart := false, laid := [("intaglio/field.twice", laid_intaglio_field_twice), ("intaglio/scalar.order", laid_intaglio_scalar_order)], narrowed := true }
def PointOrderUptoSaid : Prop := pointOrderUptoRow.holds Tryd.pinned (OpenSpec.upto pointOrderSpec)

/-- 'intagliolaw06.PointSigns', WHERE WHAT IT READS IS OF BULK AT MOST 1048576: true; the input reads as it did. -/
def pointSignsUptoRow : OpenClaim := { program := "ytdpafemcpbhlfaadoor", sum := "8728704fee89983ef45f9f3f482ae1168fb2b2ab02b1948f89f8f76ecae1d019", func := "intaglio/intagliolaw06.PointSigns", spec := "pointSigns", inPlace := ["math/bits.Add64"], named := ["intaglio/field.twice"], apart := false, laid := [("intaglio/field.twice", laid_intaglio_field_twice)], narrowed := true }
def PointSignsUptoSaid : Prop := pointSignsUptoRow.holds Tryd.pinned (OpenSpec.upto pointSignsSpec)

/-- 'intagliotop.WholeCurves', WHERE WHAT IT READS IS OF BULK AT MOST 1048576: true; the input reads as it did. -/
def wholeCurvesUptoRow : OpenClaim := { program := "ytdpafemcpbhlfaadoor", sum := "8728704fee89983ef45f9f3f482ae1168fb2b2ab02b1948f89f8f76ecae1d019", func := "intaglio/intagliotop.WholeCurves", spec := "wholeCurves", inPlace := ["math/bits.Add64"], named := ["intaglio/field.twice"], apart := false, laid := [("intaglio/field.twice", laid_intaglio_field_twice)], narrowed := true }
def WholeCurvesUptoSaid : Prop := wholeCurvesUptoRow.holds Tryd.pinned (OpenSpec.upto wholeCurvesSpec)

end Rows
end Go.Proofs.YtdpafemcpbhlfaaDoor
