/-
  frame: shapes.
-/
import Derived.Test.YtcbnbhadanldpabDoorSyk
import Derived.Test.YtcbnbhadanldpabDoorProg
namespace Go.Proofs.YtcbnbhadanldpabDoor
open Go.RowKit
set_option maxRecDepth 100000

theorem mixed : Tryd.prog.follows .mixedOrders = true := by kernel_rfl
def sh (k n s : Int) (d : Bool) : List Value := [.int .i64 k, .int .i64 n, .int .i64 s, .bool d]
/-- The table of shapes. -/
def tabS : L := .v (sh 0 0 0 false ++ sh 4 2 1 false ++ sh 3 2 0 true ++ sh 1 2 0 true ++ sh 3 2 0 false ++ sh 1 2 1 true ++ sh 3 3 1 true ++ sh 1 1 0 true)
def tabs : List (Nat × L) := [(0, tabS)]
/-- The shape of a kind. -/
def shp4 (kind : Int) : Int × Int × Int × Bool := match kind with
  | 1 => (4, 2, 1, false)
  | 2 => (3, 2, 0, true)
  | 3 => (1, 2, 0, true)
  | 4 => (3, 2, 0, false)
  | 5 => (1, 2, 1, true)
  | 6 => (3, 3, 1, true)
  | 7 => (1, 1, 0, true)
  | _ => (0, 0, 0, false)

def kShape1 : Unit → ClN := fun _ => ⟨[vv (.int .i64 1)], [], .t [.g [.many 4 (.v (sh 4 2 1 false))], .c (.v (.int .i64 0))], [], [], []⟩
noncomputable def FShape1 : FnE := ⟨mkEv Tryd.prog tabs [] 0, [0, 2, 3, 9], fun _ _ => .rounds 0⟩
def mShape1 : List AV → (Nat → Option MB) → Option (List Nat × Unit)
  | [.o (.c (.v (.int .i64 1)))], _ => some ([], ())
  | _, _ => none
noncomputable def cShape1 : Spec := callG 17 Tryd.f17.ntmps mShape1 kShape1 (tabs)
theorem vcShape1 (_ : Unit) : (wpE FShape1 (Tryd.f17.body.getD .skip) ⟨Tryd.f17.ntmps, slotsOf 0 (kShape1 ()).avs, (kShape1 ()).mem⟩ (finK Tryd.prog Tryd.f17.results.toList (postN (kShape1 ())))) = ((0 : Int) ≤ (1 : Int) ∧ (1 : Int) < (8 : Int) ∧ (8 : Nat) ≤ (32 : Nat) ∧ true = true ∧ true = true ∧ (14 : Nat) = (14 : Nat) ∧ (4 : Nat) = (4 : Nat) ∧ List.take (4 : Nat) (List.drop (4 : Nat) (sh (0 : Int) (0 : Int) (0 : Int) false ++ sh (4 : Int) (2 : Int) (1 : Int) false ++ sh (3 : Int) (2 : Int) (0 : Int) true ++ sh (1 : Int) (2 : Int) (0 : Int) true ++ sh (3 : Int) (2 : Int) (0 : Int) false ++ sh (1 : Int) (2 : Int) (1 : Int) true ++ sh (3 : Int) (3 : Int) (1 : Int) true ++ sh (1 : Int) (1 : Int) (0 : Int) true)) = sh (4 : Int) (2 : Int) (1 : Int) false ∧ Value.int IntKind.i64 (0 : Int) = Value.int IntKind.i64 (0 : Int)) := by kernel_rfl

set_option maxHeartbeats 8000000 in
theorem wpShape1  : wpE FShape1 (Tryd.f17.body.getD .skip) ⟨Tryd.f17.ntmps, slotsOf 0 (kShape1 ()).avs, (kShape1 ()).mem⟩ (finK Tryd.prog Tryd.f17.results.toList (postN (kShape1 ()))) := by
  with_reducible refine Eq.mpr (vcShape1 ()) ?_
  intros
  and_intros <;> first | omega | exact True.intro | kernel_rfl
set_option maxHeartbeats 8000000 in
theorem cShape1_ok : SpecOK Tryd.prog cShape1 := by
  refine callG_ok (c := Tryd.f17.body.getD .skip) mixed Tryd.func17 (by kernel_rfl) rfl (fun x hob => ?_)
  exact ⟨FShape1, rfl, evOKs trivial, rfl, rfl, by with_reducible exact wpShape1  ⟩

def kShape2 : Unit → ClN := fun _ => ⟨[vv (.int .i64 2)], [], .t [.g [.many 4 (.v (sh 3 2 0 true))], .c (.v (.int .i64 0))], [], [], []⟩
noncomputable def FShape2 : FnE := ⟨mkEv Tryd.prog tabs [] 0, [0, 2, 3, 9], fun _ _ => .rounds 0⟩
def mShape2 : List AV → (Nat → Option MB) → Option (List Nat × Unit)
  | [.o (.c (.v (.int .i64 2)))], _ => some ([], ())
  | _, _ => none
noncomputable def cShape2 : Spec := callG 17 Tryd.f17.ntmps mShape2 kShape2 (tabs)
theorem vcShape2 (_ : Unit) : (wpE FShape2 (Tryd.f17.body.getD .skip) ⟨Tryd.f17.ntmps, slotsOf 0 (kShape2 ()).avs, (kShape2 ()).mem⟩ (finK Tryd.prog Tryd.f17.results.toList (postN (kShape2 ())))) = ((0 : Int) ≤ (2 : Int) ∧ (2 : Int) < (8 : Int) ∧ (12 : Nat) ≤ (32 : Nat) ∧ true = true ∧ true = true ∧ (14 : Nat) = (14 : Nat) ∧ (4 : Nat) = (4 : Nat) ∧ List.take (4 : Nat) (List.drop (8 : Nat) (sh (0 : Int) (0 : Int) (0 : Int) false ++ sh (4 : Int) (2 : Int) (1 : Int) false ++ sh (3 : Int) (2 : Int) (0 : Int) true ++ sh (1 : Int) (2 : Int) (0 : Int) true ++ sh (3 : Int) (2 : Int) (0 : Int) false ++ sh (1 : Int) (2 : Int) (1 : Int) true ++ sh (3 : Int) (3 : Int) (1 : Int) true ++ sh (1 : Int) (1 : Int) (0 : Int) true)) = sh (3 : Int) (2 : Int) (0 : Int) true ∧ Value.int IntKind.i64 (0 : Int) = Value.int IntKind.i64 (0 : Int)) := by kernel_rfl

set_option maxHeartbeats 8000000 in
theorem wpShape2  : wpE FShape2 (Tryd.f17.body.getD .skip) ⟨Tryd.f17.ntmps, slotsOf 0 (kShape2 ()).avs, (kShape2 ()).mem⟩ (finK Tryd.prog Tryd.f17.results.toList (postN (kShape2 ()))) := by
  with_reducible refine Eq.mpr (vcShape2 ()) ?_
  intros
  and_intros <;> first | omega | exact True.intro | kernel_rfl
set_option maxHeartbeats 8000000 in
theorem cShape2_ok : SpecOK Tryd.prog cShape2 := by
  refine callG_ok (c := Tryd.f17.body.getD .skip) mixed Tryd.func17 (by kernel_rfl) rfl (fun x hob => ?_)
  exact ⟨FShape2, rfl, evOKs trivial, rfl, rfl, by with_reducible exact wpShape2  ⟩

def kShape3 : Unit → ClN := fun _ => ⟨[vv (.int .i64 3)], [], .t [.g [.many 4 (.v (sh 1 2 0 true))], .c (.v (.int .i64 0))], [], [], []⟩
noncomputable def FShape3 : FnE := ⟨mkEv Tryd.prog tabs [] 0, [0, 2, 3, 9], fun _ _ => .rounds 0⟩
def mShape3 : List AV → (Nat → Option MB) → Option (List Nat × Unit)
  | [.o (.c (.v (.int .i64 3)))], _ => some ([], ())
  | _, _ => none
noncomputable def cShape3 : Spec := callG 17 Tryd.f17.ntmps mShape3 kShape3 (tabs)
theorem vcShape3 (_ : Unit) : (wpE FShape3 (Tryd.f17.body.getD .skip) ⟨Tryd.f17.ntmps, slotsOf 0 (kShape3 ()).avs, (kShape3 ()).mem⟩ (finK Tryd.prog Tryd.f17.results.toList (postN (kShape3 ())))) = ((0 : Int) ≤ (3 : Int) ∧ (3 : Int) < (8 : Int) ∧ (16 : Nat) ≤ (32 : Nat) ∧ true = true ∧ true = true ∧ (14 : Nat) = (14 : Nat) ∧ (4 : Nat) = (4 : Nat) ∧ List.take (4 : Nat) (List.drop (12 : Nat) (sh (0 : Int) (0 : Int) (0 : Int) false ++ sh (4 : Int) (2 : Int) (1 : Int) false ++ sh (3 : Int) (2 : Int) (0 : Int) true ++ sh (1 : Int) (2 : Int) (0 : Int) true ++ sh (3 : Int) (2 : Int) (0 : Int) false ++ sh (1 : Int) (2 : Int) (1 : Int) true ++ sh (3 : Int) (3 : Int) (1 : Int) true ++ sh (1 : Int) (1 : Int) (0 : Int) true)) = sh (1 : Int) (2 : Int) (0 : Int) true ∧ Value.int IntKind.i64 (0 : Int) = Value.int IntKind.i64 (0 : Int)) := by kernel_rfl

set_option maxHeartbeats 8000000 in
theorem wpShape3  : wpE FShape3 (Tryd.f17.body.getD .skip) ⟨Tryd.f17.ntmps, slotsOf 0 (kShape3 ()).avs, (kShape3 ()).mem⟩ (finK Tryd.prog Tryd.f17.results.toList (postN (kShape3 ()))) := by
  with_reducible refine Eq.mpr (vcShape3 ()) ?_
  intros
  and_intros <;> first | omega | exact True.intro | kernel_rfl
set_option maxHeartbeats 8000000 in
theorem cShape3_ok : SpecOK Tryd.prog cShape3 := by
  refine callG_ok (c := Tryd.f17.body.getD .skip) mixed Tryd.func17 (by kernel_rfl) rfl (fun x hob => ?_)
  exact ⟨FShape3, rfl, evOKs trivial, rfl, rfl, by with_reducible exact wpShape3  ⟩

def kShape4 : Unit → ClN := fun _ => ⟨[vv (.int .i64 4)], [], .t [.g [.many 4 (.v (sh 3 2 0 false))], .c (.v (.int .i64 0))], [], [], []⟩
noncomputable def FShape4 : FnE := ⟨mkEv Tryd.prog tabs [] 0, [0, 2, 3, 9], fun _ _ => .rounds 0⟩
def mShape4 : List AV → (Nat → Option MB) → Option (List Nat × Unit)
  | [.o (.c (.v (.int .i64 4)))], _ => some ([], ())
  | _, _ => none
noncomputable def cShape4 : Spec := callG 17 Tryd.f17.ntmps mShape4 kShape4 (tabs)
theorem vcShape4 (_ : Unit) : (wpE FShape4 (Tryd.f17.body.getD .skip) ⟨Tryd.f17.ntmps, slotsOf 0 (kShape4 ()).avs, (kShape4 ()).mem⟩ (finK Tryd.prog Tryd.f17.results.toList (postN (kShape4 ())))) = ((0 : Int) ≤ (4 : Int) ∧ (4 : Int) < (8 : Int) ∧ (20 : Nat) ≤ (32 : Nat) ∧ true = true ∧ true = true ∧ (14 : Nat) = (14 : Nat) ∧ (4 : Nat) = (4 : Nat) ∧ List.take (4 : Nat) (List.drop (16 : Nat) (sh (0 : Int) (0 : Int) (0 : Int) false ++ sh (4 : Int) (2 : Int) (1 : Int) false ++ sh (3 : Int) (2 : Int) (0 : Int) true ++ sh (1 : Int) (2 : Int) (0 : Int) true ++ sh (3 : Int) (2 : Int) (0 : Int) false ++ sh (1 : Int) (2 : Int) (1 : Int) true ++ sh (3 : Int) (3 : Int) (1 : Int) true ++ sh (1 : Int) (1 : Int) (0 : Int) true)) = sh (3 : Int) (2 : Int) (0 : Int) false ∧ Value.int IntKind.i64 (0 : Int) = Value.int IntKind.i64 (0 : Int)) := by kernel_rfl

set_option maxHeartbeats 8000000 in
theorem wpShape4  : wpE FShape4 (Tryd.f17.body.getD .skip) ⟨Tryd.f17.ntmps, slotsOf 0 (kShape4 ()).avs, (kShape4 ()).mem⟩ (finK Tryd.prog Tryd.f17.results.toList (postN (kShape4 ()))) := by
  with_reducible refine Eq.mpr (vcShape4 ()) ?_
  intros
  and_intros <;> first | omega | exact True.intro | kernel_rfl
set_option maxHeartbeats 8000000 in
theorem cShape4_ok : SpecOK Tryd.prog cShape4 := by
  refine callG_ok (c := Tryd.f17.body.getD .skip) mixed Tryd.func17 (by kernel_rfl) rfl (fun x hob => ?_)
  exact ⟨FShape4, rfl, evOKs trivial, rfl, rfl, by with_reducible exact wpShape4  ⟩

def kShape5 : Unit → ClN := fun _ => ⟨[vv (.int .i64 5)], [], .t [.g [.many 4 (.v (sh 1 2 1 true))], .c (.v (.int .i64 0))], [], [], []⟩
noncomputable def FShape5 : FnE := ⟨mkEv Tryd.prog tabs [] 0, [0, 2, 3, 9], fun _ _ => .rounds 0⟩
def mShape5 : List AV → (Nat → Option MB) → Option (List Nat × Unit)
  | [.o (.c (.v (.int .i64 5)))], _ => some ([], ())
  | _, _ => none
noncomputable def cShape5 : Spec := callG 17 Tryd.f17.ntmps mShape5 kShape5 (tabs)
theorem vcShape5 (_ : Unit) : (wpE FShape5 (Tryd.f17.body.getD .skip) ⟨Tryd.f17.ntmps, slotsOf 0 (kShape5 ()).avs, (kShape5 ()).mem⟩ (finK Tryd.prog Tryd.f17.results.toList (postN (kShape5 ())))) = ((0 : Int) ≤ (5 : Int) ∧ (5 : Int) < (8 : Int) ∧ (24 : Nat) ≤ (32 : Nat) ∧ true = true ∧ true = true ∧ (14 : Nat) = (14 : Nat) ∧ (4 : Nat) = (4 : Nat) ∧ List.take (4 : Nat) (List.drop (20 : Nat) (sh (0 : Int) (0 : Int) (0 : Int) false ++ sh (4 : Int) (2 : Int) (1 : Int) false ++ sh (3 : Int) (2 : Int) (0 : Int) true ++ sh (1 : Int) (2 : Int) (0 : Int) true ++ sh (3 : Int) (2 : Int) (0 : Int) false ++ sh (1 : Int) (2 : Int) (1 : Int) true ++ sh (3 : Int) (3 : Int) (1 : Int) true ++ sh (1 : Int) (1 : Int) (0 : Int) true)) = sh (1 : Int) (2 : Int) (1 : Int) true ∧ Value.int IntKind.i64 (0 : Int) = Value.int IntKind.i64 (0 : Int)) := by kernel_rfl

set_option maxHeartbeats 8000000 in
theorem wpShape5  : wpE FShape5 (Tryd.f17.body.getD .skip) ⟨Tryd.f17.ntmps, slotsOf 0 (kShape5 ()).avs, (kShape5 ()).mem⟩ (finK Tryd.prog Tryd.f17.results.toList (postN (kShape5 ()))) := by
  with_reducible refine Eq.mpr (vcShape5 ()) ?_
  intros
  and_intros <;> first | omega | exact True.intro | kernel_rfl
set_option maxHeartbeats 8000000 in
theorem cShape5_ok : SpecOK Tryd.prog cShape5 := by
  refine callG_ok (c := Tryd.f17.body.getD .skip) mixed Tryd.func17 (by kernel_rfl) rfl (fun x hob => ?_)
  exact ⟨FShape5, rfl, evOKs trivial, rfl, rfl, by with_reducible exact wpShape5  ⟩

def kShape6 : Unit → ClN := fun _ => ⟨[vv (.int .i64 6)], [], .t [.g [.many 4 (.v (sh 3 3 1 true))], .c (.v (.int .i64 0))], [], [], []⟩
noncomputable def FShape6 : FnE := ⟨mkEv Tryd.prog tabs [] 0, [0, 2, 3, 9], fun _ _ => .rounds 0⟩
def mShape6 : List AV → (Nat → Option MB) → Option (List Nat × Unit)
  | [.o (.c (.v (.int .i64 6)))], _ => some ([], ())
  | _, _ => none
noncomputable def cShape6 : Spec := callG 17 Tryd.f17.ntmps mShape6 kShape6 (tabs)
theorem vcShape6 (_ : Unit) : (wpE FShape6 (Tryd.f17.body.getD .skip) ⟨Tryd.f17.ntmps, slotsOf 0 (kShape6 ()).avs, (kShape6 ()).mem⟩ (finK Tryd.prog Tryd.f17.results.toList (postN (kShape6 ())))) = ((0 : Int) ≤ (6 : Int) ∧ (6 : Int) < (8 : Int) ∧ (28 : Nat) ≤ (32 : Nat) ∧ true = true ∧ true = true ∧ (14 : Nat) = (14 : Nat) ∧ (4 : Nat) = (4 : Nat) ∧ List.take (4 : Nat) (List.drop (24 : Nat) (sh (0 : Int) (0 : Int) (0 : Int) false ++ sh (4 : Int) (2 : Int) (1 : Int) false ++ sh (3 : Int) (2 : Int) (0 : Int) true ++ sh (1 : Int) (2 : Int) (0 : Int) true ++ sh (3 : Int) (2 : Int) (0 : Int) false ++ sh (1 : Int) (2 : Int) (1 : Int) true ++ sh (3 : Int) (3 : Int) (1 : Int) true ++ sh (1 : Int) (1 : Int) (0 : Int) true)) = sh (3 : Int) (3 : Int) (1 : Int) true ∧ Value.int IntKind.i64 (0 : Int) = Value.int IntKind.i64 (0 : Int)) := by kernel_rfl

set_option maxHeartbeats 8000000 in
theorem wpShape6  : wpE FShape6 (Tryd.f17.body.getD .skip) ⟨Tryd.f17.ntmps, slotsOf 0 (kShape6 ()).avs, (kShape6 ()).mem⟩ (finK Tryd.prog Tryd.f17.results.toList (postN (kShape6 ()))) := by
  with_reducible refine Eq.mpr (vcShape6 ()) ?_
  intros
  and_intros <;> first | omega | exact True.intro | kernel_rfl
set_option maxHeartbeats 8000000 in
theorem cShape6_ok : SpecOK Tryd.prog cShape6 := by
  refine callG_ok (c := Tryd.f17.body.getD .skip) mixed Tryd.func17 (by kernel_rfl) rfl (fun x hob => ?_)
  exact ⟨FShape6, rfl, evOKs trivial, rfl, rfl, by with_reducible exact wpShape6  ⟩

def kShape7 : Unit → ClN := fun _ => ⟨[vv (.int .i64 7)], [], .t [.g [.many 4 (.v (sh 1 1 0 true))], .c (.v (.int .i64 0))], [], [], []⟩
noncomputable def FShape7 : FnE := ⟨mkEv Tryd.prog tabs [] 0, [0, 2, 3, 9], fun _ _ => .rounds 0⟩
def mShape7 : List AV → (Nat → Option MB) → Option (List Nat × Unit)
  | [.o (.c (.v (.int .i64 7)))], _ => some ([], ())
  | _, _ => none
noncomputable def cShape7 : Spec := callG 17 Tryd.f17.ntmps mShape7 kShape7 (tabs)
theorem vcShape7 (_ : Unit) : (wpE FShape7 (Tryd.f17.body.getD .skip) ⟨Tryd.f17.ntmps, slotsOf 0 (kShape7 ()).avs, (kShape7 ()).mem⟩ (finK Tryd.prog Tryd.f17.results.toList (postN (kShape7 ())))) = ((0 : Int) ≤ (7 : Int) ∧ (7 : Int) < (8 : Int) ∧ (32 : Nat) ≤ (32 : Nat) ∧ true = true ∧ true = true ∧ (14 : Nat) = (14 : Nat) ∧ (4 : Nat) = (4 : Nat) ∧ List.take (4 : Nat) (List.drop (28 : Nat) (sh (0 : Int) (0 : Int) (0 : Int) false ++ sh (4 : Int) (2 : Int) (1 : Int) false ++ sh (3 : Int) (2 : Int) (0 : Int) true ++ sh (1 : Int) (2 : Int) (0 : Int) true ++ sh (3 : Int) (2 : Int) (0 : Int) false ++ sh (1 : Int) (2 : Int) (1 : Int) true ++ sh (3 : Int) (3 : Int) (1 : Int) true ++ sh (1 : Int) (1 : Int) (0 : Int) true)) = sh (1 : Int) (1 : Int) (0 : Int) true ∧ Value.int IntKind.i64 (0 : Int) = Value.int IntKind.i64 (0 : Int)) := by kernel_rfl

set_option maxHeartbeats 8000000 in
theorem wpShape7  : wpE FShape7 (Tryd.f17.body.getD .skip) ⟨Tryd.f17.ntmps, slotsOf 0 (kShape7 ()).avs, (kShape7 ()).mem⟩ (finK Tryd.prog Tryd.f17.results.toList (postN (kShape7 ()))) := by
  with_reducible refine Eq.mpr (vcShape7 ()) ?_
  intros
  and_intros <;> first | omega | exact True.intro | kernel_rfl
set_option maxHeartbeats 8000000 in
theorem cShape7_ok : SpecOK Tryd.prog cShape7 := by
  refine callG_ok (c := Tryd.f17.body.getD .skip) mixed Tryd.func17 (by kernel_rfl) rfl (fun x hob => ?_)
  exact ⟨FShape7, rfl, evOKs trivial, rfl, rfl, by with_reducible exact wpShape7  ⟩

def zsh : List Seg := [.one (.v (.int .i64 0)), .one (.v (.int .i64 0)), .one (.v (.int .i64 0)), .one (.v (.bool false))]
def fcSa (d : Nat) : Option Bool := bif Nat.beq d 5 then some true else none
def fcSb (d : Nat) : Option Bool := bif Nat.beq d 5 then some false else bif Nat.beq d 8 then some true else none
def kShapeL : Int → ClN := fun x => ⟨[vv (.int .i64 x)], [], .t [.g zsh, .c (.v (.int .i64 110))], [], [], [x < 1]⟩
noncomputable def FShapeL : FnE := ⟨mkEv Tryd.prog tabs [] 0 fcSa, [0, 2, 3, 9], fun _ _ => .rounds 0⟩
def mShapeL : List AV → (Nat → Option MB) → Option (List Nat × Int)
  | [.o (.c (.v (.int .i64 x)))], _ => some ([], x)
  | _, _ => none
noncomputable def cShapeL : Spec := callG 17 Tryd.f17.ntmps mShapeL kShapeL (tabs)
theorem vcShapeL (x : Int) : (wpE FShapeL (Tryd.f17.body.getD .skip) ⟨Tryd.f17.ntmps, slotsOf 0 (kShapeL x).avs, (kShapeL x).mem⟩ (finK Tryd.prog Tryd.f17.results.toList (postN (kShapeL x)))) = (decide (x < (1 : Int)) = true ∧ true = true ∧ true = true ∧ (14 : Nat) = (14 : Nat) ∧ Value.int IntKind.i64 (0 : Int) = Value.int IntKind.i64 (0 : Int) ∧ Value.int IntKind.i64 (0 : Int) = Value.int IntKind.i64 (0 : Int) ∧ Value.int IntKind.i64 (0 : Int) = Value.int IntKind.i64 (0 : Int) ∧ Value.bool false = Value.bool false ∧ Value.int IntKind.i64 (110 : Int) = Value.int IntKind.i64 (110 : Int)) := by kernel_rfl

set_option maxHeartbeats 8000000 in
theorem wpShapeL (x : Int) (h1 : x < 1) : wpE FShapeL (Tryd.f17.body.getD .skip) ⟨Tryd.f17.ntmps, slotsOf 0 (kShapeL x).avs, (kShapeL x).mem⟩ (finK Tryd.prog Tryd.f17.results.toList (postN (kShapeL x))) := by
  with_reducible refine Eq.mpr (vcShapeL x) ?_
  have hd := decide_eq_true h1
  and_intros <;> first | omega | exact True.intro | exact hd | rfl
set_option maxHeartbeats 8000000 in
theorem cShapeL_ok : SpecOK Tryd.prog cShapeL := by
  refine callG_ok (c := Tryd.f17.body.getD .skip) mixed Tryd.func17 (by kernel_rfl) rfl (fun x hob => ?_)
  have hob : (x < 1) := hob
  have h1 := hob
  exact ⟨FShapeL, rfl, evOKs trivial, rfl, rfl, by with_reducible exact wpShapeL x h1⟩

def kShapeH : Int → ClN := fun x => ⟨[vv (.int .i64 x)], [], .t [.g zsh, .c (.v (.int .i64 110))], [], [], [7 < x]⟩
noncomputable def FShapeH : FnE := ⟨mkEv Tryd.prog tabs [] 0 fcSb, [0, 2, 3, 9], fun _ _ => .rounds 0⟩
def mShapeH : List AV → (Nat → Option MB) → Option (List Nat × Int)
  | [.o (.c (.v (.int .i64 x)))], _ => some ([], x)
  | _, _ => none
noncomputable def cShapeH : Spec := callG 17 Tryd.f17.ntmps mShapeH kShapeH (tabs)
theorem vcShapeH (x : Int) : (wpE FShapeH (Tryd.f17.body.getD .skip) ⟨Tryd.f17.ntmps, slotsOf 0 (kShapeH x).avs, (kShapeH x).mem⟩ (finK Tryd.prog Tryd.f17.results.toList (postN (kShapeH x)))) = (decide (x < (1 : Int)) = false ∧ decide ((7 : Int) < x) = true ∧ true = true ∧ true = true ∧ (14 : Nat) = (14 : Nat) ∧ Value.int IntKind.i64 (0 : Int) = Value.int IntKind.i64 (0 : Int) ∧ Value.int IntKind.i64 (0 : Int) = Value.int IntKind.i64 (0 : Int) ∧ Value.int IntKind.i64 (0 : Int) = Value.int IntKind.i64 (0 : Int) ∧ Value.bool false = Value.bool false ∧ Value.int IntKind.i64 (110 : Int) = Value.int IntKind.i64 (110 : Int)) := by kernel_rfl

set_option maxHeartbeats 8000000 in
theorem wpShapeH (x : Int) (h1 : 7 < x) : wpE FShapeH (Tryd.f17.body.getD .skip) ⟨Tryd.f17.ntmps, slotsOf 0 (kShapeH x).avs, (kShapeH x).mem⟩ (finK Tryd.prog Tryd.f17.results.toList (postN (kShapeH x))) := by
  with_reducible refine Eq.mpr (vcShapeH x) ?_
  have hd := decide_eq_true h1
  have hd2 : decide (x < 1) = false := decide_eq_false (by omega)
  and_intros <;> first | omega | exact True.intro | exact hd | exact hd2 | rfl
set_option maxHeartbeats 8000000 in
theorem cShapeH_ok : SpecOK Tryd.prog cShapeH := by
  refine callG_ok (c := Tryd.f17.body.getD .skip) mixed Tryd.func17 (by kernel_rfl) rfl (fun x hob => ?_)
  have hob : (7 < x) := hob
  have h1 := hob
  exact ⟨FShapeH, rfl, evOKs trivial, rfl, rfl, by with_reducible exact wpShapeH x h1⟩

def kSize : Int × Int × Int × Bool → ClN := fun (k, n, s, d) => ⟨[.o (.g [.many 4 (.v (sh k n s d))])], [], vv (.int .i64 (1 + 32 * k + 4 * n + 64 * s + (if d then 4 else 0))), [], [], [0 ≤ k ∧ k ≤ 16, 0 ≤ n ∧ n ≤ 16, 0 ≤ s ∧ s ≤ 16]⟩
noncomputable def FSize : FnE := ⟨mkEv Tryd.prog [] [] 0, [0, 1, 2, 3, 17], fun _ _ => .rounds 0⟩
def mSize : List AV → (Nat → Option MB) → Option (List Nat × (Int × Int × Int × Bool))
  | [.o (.g [.many 4 (.v [.int .i64 k, .int .i64 n, .int .i64 s, .bool d])])], _ => some ([], k, n, s, d)
  | _, _ => none
noncomputable def cSize : Spec := callG 28 Tryd.f28.ntmps mSize kSize
theorem vcSize (k n s : Int) (d : Bool) : (wpE FSize (Tryd.f28.body.getD .skip) ⟨Tryd.f28.ntmps, slotsOf 0 (kSize (k, n, s, d)).avs, (kSize (k, n, s, d)).mem⟩ (finK Tryd.prog Tryd.f28.results.toList (postN (kSize (k, n, s, d))))) = (let x1 := IntKind.wrap IntKind.i64 (IntKind.wrap IntKind.i64 (IntKind.wrap IntKind.i64 ((1 : Int) + IntKind.wrap IntKind.i64 (k * (32 : Int))) + IntKind.wrap IntKind.i64 (n * (4 : Int))) + IntKind.wrap IntKind.i64 (s * (64 : Int))); (0 : Nat) < (4 : Nat) ∧ (1 : Nat) < (4 : Nat) ∧ (2 : Nat) < (4 : Nat) ∧ (3 : Nat) < (4 : Nat) ∧ bif d then true = true ∧ true = true ∧ (21 : Nat) = (21 : Nat) ∧ Value.int IntKind.i64 (IntKind.wrap IntKind.i64 (x1 + (4 : Int))) = Value.int IntKind.i64 ((1 : Int) + (32 : Int) * k + (4 : Int) * n + (64 : Int) * s + if d = true then (4 : Int) else (0 : Int)) else true = true ∧ true = true ∧ (21 : Nat) = (21 : Nat) ∧ Value.int IntKind.i64 x1 = Value.int IntKind.i64 ((1 : Int) + (32 : Int) * k + (4 : Int) * n + (64 : Int) * s + if d = true then (4 : Int) else (0 : Int))) := by kernel_rfl

set_option maxHeartbeats 8000000 in
theorem wpSize (k n s : Int) (d : Bool) (h1 : 0 ≤ k ∧ k ≤ 16) (h2 : 0 ≤ n ∧ n ≤ 16) (h3 : 0 ≤ s ∧ s ≤ 16) : wpE FSize (Tryd.f28.body.getD .skip) ⟨Tryd.f28.ntmps, slotsOf 0 (kSize (k, n, s, d)).avs, (kSize (k, n, s, d)).mem⟩ (finK Tryd.prog Tryd.f28.results.toList (postN (kSize (k, n, s, d)))) := by
  with_reducible refine Eq.mpr (vcSize k n s d) ?_
  intro x1
  have e : x1 = 1 + 32 * k + 4 * n + 64 * s := by
    show IntKind.wrap .i64 _ = _
    simp only [IntKind.wrap_i64]
    omega
  have e2 : IntKind.wrap .i64 (x1 + 4) = 1 + 32 * k + 4 * n + 64 * s + 4 := by rw [e, IntKind.wrap_i64]; omega
  rw [e2, e]
  cases d <;> and_intros <;> first | omega | exact True.intro | rfl | (congr 1; simp)
set_option maxHeartbeats 8000000 in
theorem cSize_ok : SpecOK Tryd.prog cSize := by
  refine callG_ok (c := Tryd.f28.body.getD .skip) mixed Tryd.func28 (by kernel_rfl) rfl (fun x hob => ?_)
  obtain ⟨k, n, s, d⟩ := x
  have hob : (0 ≤ k ∧ k ≤ 16) ∧ (0 ≤ n ∧ n ≤ 16) ∧ (0 ≤ s ∧ s ≤ 16) := hob
  obtain ⟨h1, h2, h3⟩ := hob
  exact ⟨FSize, rfl, evOKs trivial, rfl, rfl, by with_reducible exact wpSize k n s d h1 h2 h3⟩
end Go.Proofs.YtcbnbhadanldpabDoor
