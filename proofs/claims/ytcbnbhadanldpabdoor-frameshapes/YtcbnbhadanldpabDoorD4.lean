/-
  FrameShapes.
-/
import Derived.Test.YtcbnbhadanldpabDoorD3
import Derived.Test.YtcbnbhadanldpabDoorOy
namespace Go.Proofs.YtcbnbhadanldpabDoor
open Go.RowKit
set_option maxRecDepth 100000

def kRef1 : Unit → ClN := fun _ => ⟨[vv (.int .i64 1)], [], .t [.g [.many 4 (.i .i64 [4, 2, 1, 0])], .c (.v (.bool true))], [], [], []⟩
noncomputable def FRef1 : FnE := ⟨mkEv Tryd.prog [] [] 0, [0, 2, 3, 4, 19], fun _ _ => .rounds 0⟩
def mRef1 : List AV → (Nat → Option MB) → Option (List Nat × Unit)
  | [.o (.c (.v (.int .i64 1)))], _ => some ([], ())
  | _, _ => none
noncomputable def cRef1 : Spec := callG 18 Tryd.f18.ntmps mRef1 kRef1
theorem vcRef1 (_ : Unit) : (wpE FRef1 (Tryd.f18.body.getD .skip) ⟨Tryd.f18.ntmps, slotsOf 0 (kRef1 ()).avs, (kRef1 ()).mem⟩ (finK Tryd.prog Tryd.f18.results.toList (postN (kRef1 ())))) = ((0 : Int) ≤ (1 : Int) ∧ (1 : Int) < (8 : Int) ∧ true = true ∧ true = true ∧ (24 : Nat) = (24 : Nat) ∧ (4 : Nat) = (4 : Nat) ∧ [(4 : Int), (2 : Int), (1 : Int), (0 : Int)] = [(4 : Int), (2 : Int), (1 : Int), (0 : Int)] ∧ Value.bool true = Value.bool true) := by kernel_rfl

set_option maxHeartbeats 8000000 in
theorem wpRef1  : wpE FRef1 (Tryd.f18.body.getD .skip) ⟨Tryd.f18.ntmps, slotsOf 0 (kRef1 ()).avs, (kRef1 ()).mem⟩ (finK Tryd.prog Tryd.f18.results.toList (postN (kRef1 ()))) := by
  with_reducible refine Eq.mpr (vcRef1 ()) ?_
  intros
  and_intros <;> first | omega | exact True.intro | kernel_rfl
set_option maxHeartbeats 8000000 in
theorem cRef1_ok : SpecOK Tryd.prog cRef1 := by
  refine callG_ok (c := Tryd.f18.body.getD .skip) mixed Tryd.func18 (by kernel_rfl) rfl (fun x hob => ?_)
  exact ⟨FRef1, rfl, evOKs trivial, rfl, rfl, by with_reducible exact wpRef1  ⟩

def kSizeK1 : Unit → ClN := fun _ => ⟨[vv (.int .i64 1)], [], vv (.int .i64 201), [], [], []⟩
noncomputable def FSizeK1 : FnE := ⟨mkEv Tryd.prog tabs [cShape1, cSize] 0, [0, 2, 3, 4, 11], fun _ _ => .rounds 0⟩
def mSizeK1 : List AV → (Nat → Option MB) → Option (List Nat × Unit)
  | [.o (.c (.v (.int .i64 1)))], _ => some ([], ())
  | _, _ => none
noncomputable def cSizeK1 : Spec := callG 19 Tryd.f19.ntmps mSizeK1 kSizeK1 (tabs)
theorem vcSizeK1 (_ : Unit) : (wpE FSizeK1 (Tryd.f19.body.getD .skip) ⟨Tryd.f19.ntmps, slotsOf 0 (kSizeK1 ()).avs, (kSizeK1 ()).mem⟩ (finK Tryd.prog Tryd.f19.results.toList (postN (kSizeK1 ())))) = (true = true ∧ Value.int IntKind.i64 (1 : Int) = Value.int IntKind.i64 (1 : Int) ∧ true = true ∧ (4 : Nat) = (4 : Nat) ∧ sh (4 : Int) (2 : Int) (1 : Int) false = sh (4 : Int) (2 : Int) (1 : Int) false ∧ ((0 : Int) ≤ (4 : Int) ∧ (4 : Int) ≤ (16 : Int)) ∧ ((0 : Int) ≤ (2 : Int) ∧ (2 : Int) ≤ (16 : Int)) ∧ ((0 : Int) ≤ (1 : Int) ∧ (1 : Int) ≤ (16 : Int)) ∧ true = true ∧ true = true ∧ (14 : Nat) = (14 : Nat) ∧ Value.int IntKind.i64 (201 : Int) = Value.int IntKind.i64 (201 : Int)) := by kernel_rfl

set_option maxHeartbeats 8000000 in
theorem wpSizeK1  : wpE FSizeK1 (Tryd.f19.body.getD .skip) ⟨Tryd.f19.ntmps, slotsOf 0 (kSizeK1 ()).avs, (kSizeK1 ()).mem⟩ (finK Tryd.prog Tryd.f19.results.toList (postN (kSizeK1 ()))) := by
  with_reducible refine Eq.mpr (vcSizeK1 ()) ?_
  intros
  and_intros <;> first | omega | exact True.intro | kernel_rfl
set_option maxHeartbeats 8000000 in
theorem cSizeK1_ok : SpecOK Tryd.prog cSizeK1 := by
  refine callG_ok (c := Tryd.f19.body.getD .skip) mixed Tryd.func19 (by kernel_rfl) rfl (fun x hob => ?_)
  exact ⟨FSizeK1, rfl, evOKs ⟨⟨cShape1_ok, by kernel_rfl, gl_sub (by first | exact .inl rfl | exact .inr rfl)⟩, ⟨⟨cSize_ok, by kernel_rfl, gl_sub (by first | exact .inl rfl | exact .inr rfl)⟩, trivial⟩⟩, rfl, rfl, by with_reducible exact wpSizeK1  ⟩

def kShapes1 : Unit → ClN := fun _ => ⟨[vv (.int .i64 1)], [], vv (.bool true), [], [], []⟩
noncomputable def FShapes1 : FnE := ⟨mkEv Tryd.prog tabs [cWrites, cShape1, cRef1, cSizeK1] 0, [0, 2, 3, 4, 5, 6, 7, 9, 31, 32], fun _ _ => .rounds 0⟩
theorem vcShapes1 (_ : Unit) : (wpE FShapes1 (Tryd.f5.body.getD .skip) ⟨Tryd.f5.ntmps, slotsOf 0 (kShapes1 ()).avs, (kShapes1 ()).mem⟩ (finK Tryd.prog Tryd.f5.results.toList (postN (kShapes1 ())))) = (true = true ∧ true = true ∧ Value.int IntKind.i64 (1 : Int) = Value.int IntKind.i64 (1 : Int) ∧ true = true ∧ Value.int IntKind.i64 (1 : Int) = Value.int IntKind.i64 (1 : Int) ∧ (0 : Int) ≤ (0 : Int) ∧ (0 : Int) < (4 : Int) ∧ (0 : Nat) < (4 : Nat) ∧ (0 : Int) ≤ (1 : Int) ∧ (1 : Int) < (4 : Int) ∧ (1 : Nat) < (4 : Nat) ∧ (0 : Int) ≤ (2 : Int) ∧ (2 : Int) < (4 : Int) ∧ (2 : Nat) < (4 : Nat) ∧ (0 : Int) ≤ (3 : Int) ∧ (3 : Int) < (4 : Int) ∧ (3 : Nat) < (4 : Nat) ∧ (0 : Nat) < (4 : Nat) ∧ (0 : Int) ≤ (0 : Int) ∧ (0 : Int) < (4 : Int) ∧ (0 : Nat) < (4 : Nat) ∧ (1 : Nat) < (4 : Nat) ∧ (0 : Int) ≤ (1 : Int) ∧ (1 : Int) < (4 : Int) ∧ (1 : Nat) < (4 : Nat) ∧ (2 : Nat) < (4 : Nat) ∧ (0 : Int) ≤ (2 : Int) ∧ (2 : Int) < (4 : Int) ∧ (2 : Nat) < (4 : Nat) ∧ (3 : Nat) < (4 : Nat) ∧ (0 : Int) ≤ (3 : Int) ∧ (3 : Int) < (4 : Int) ∧ (3 : Nat) < (4 : Nat) ∧ true = true ∧ Value.int IntKind.i64 (1 : Int) = Value.int IntKind.i64 (1 : Int) ∧ true = true ∧ true = true ∧ (82 : Nat) = (82 : Nat) ∧ (bif true then Value.bool (decide ((201 : Int) = (201 : Int))) else Value.bool false) = Value.bool true) := by kernel_rfl

set_option maxHeartbeats 8000000 in
theorem wpShapes1  : wpE FShapes1 (Tryd.f5.body.getD .skip) ⟨Tryd.f5.ntmps, slotsOf 0 (kShapes1 ()).avs, (kShapes1 ()).mem⟩ (finK Tryd.prog Tryd.f5.results.toList (postN (kShapes1 ()))) := by
  with_reducible refine Eq.mpr (vcShapes1 ()) ?_
  intros
  and_intros <;> first | omega | exact True.intro | kernel_rfl
set_option maxHeartbeats 8000000 in
theorem lwShapes1  {W : World} {vs : List Value} (hgl : ∀ g l, (g, l) ∈ (tabs : List (Nat × L)) → Lies (cxL W (tabs)) g 0 l) (hD : All2 (DA (cxL W (tabs)) be0) (kShapes1 ()).avs vs) : Calls Tryd.prog 5 vs.toArray W (fun e W' => e = .returned (.bool true) ∧ Upd (fun _ => False) W W') :=
  law_calls (F := FShapes1) (fn := Tryd.f5) (c := Tryd.f5.body.getD .skip) (k := kShapes1 ()) rfl (evOKs ⟨⟨cWrites_ok, by kernel_rfl, gl_sub (by first | exact .inl rfl | exact .inr rfl)⟩, ⟨⟨cShape1_ok, by kernel_rfl, gl_sub (by first | exact .inl rfl | exact .inr rfl)⟩, ⟨⟨cRef1_ok, by kernel_rfl, gl_sub (by first | exact .inl rfl | exact .inr rfl)⟩, ⟨⟨cSizeK1_ok, by kernel_rfl, gl_sub (by first | exact .inl rfl | exact .inr rfl)⟩, trivial⟩⟩⟩⟩) mixed rfl hgl Tryd.func5 (by kernel_rfl) rfl rfl hD (by kernel_rfl) (by with_reducible exact wpShapes1  )

def kRef2 : Unit → ClN := fun _ => ⟨[vv (.int .i64 2)], [], .t [.g [.many 4 (.i .i64 [3, 2, 0, 1])], .c (.v (.bool true))], [], [], []⟩
noncomputable def FRef2 : FnE := ⟨mkEv Tryd.prog [] [] 0, [0, 2, 3, 4, 19], fun _ _ => .rounds 0⟩
def mRef2 : List AV → (Nat → Option MB) → Option (List Nat × Unit)
  | [.o (.c (.v (.int .i64 2)))], _ => some ([], ())
  | _, _ => none
noncomputable def cRef2 : Spec := callG 18 Tryd.f18.ntmps mRef2 kRef2
theorem vcRef2 (_ : Unit) : (wpE FRef2 (Tryd.f18.body.getD .skip) ⟨Tryd.f18.ntmps, slotsOf 0 (kRef2 ()).avs, (kRef2 ()).mem⟩ (finK Tryd.prog Tryd.f18.results.toList (postN (kRef2 ())))) = ((0 : Int) ≤ (2 : Int) ∧ (2 : Int) < (8 : Int) ∧ true = true ∧ true = true ∧ (24 : Nat) = (24 : Nat) ∧ (4 : Nat) = (4 : Nat) ∧ [(3 : Int), (2 : Int), (0 : Int), (1 : Int)] = [(3 : Int), (2 : Int), (0 : Int), (1 : Int)] ∧ Value.bool true = Value.bool true) := by kernel_rfl

set_option maxHeartbeats 8000000 in
theorem wpRef2  : wpE FRef2 (Tryd.f18.body.getD .skip) ⟨Tryd.f18.ntmps, slotsOf 0 (kRef2 ()).avs, (kRef2 ()).mem⟩ (finK Tryd.prog Tryd.f18.results.toList (postN (kRef2 ()))) := by
  with_reducible refine Eq.mpr (vcRef2 ()) ?_
  intros
  and_intros <;> first | omega | exact True.intro | kernel_rfl
set_option maxHeartbeats 8000000 in
theorem cRef2_ok : SpecOK Tryd.prog cRef2 := by
  refine callG_ok (c := Tryd.f18.body.getD .skip) mixed Tryd.func18 (by kernel_rfl) rfl (fun x hob => ?_)
  exact ⟨FRef2, rfl, evOKs trivial, rfl, rfl, by with_reducible exact wpRef2  ⟩

def kSizeK2 : Unit → ClN := fun _ => ⟨[vv (.int .i64 2)], [], vv (.int .i64 109), [], [], []⟩
noncomputable def FSizeK2 : FnE := ⟨mkEv Tryd.prog tabs [cShape2, cSize] 0, [0, 2, 3, 4, 11], fun _ _ => .rounds 0⟩
def mSizeK2 : List AV → (Nat → Option MB) → Option (List Nat × Unit)
  | [.o (.c (.v (.int .i64 2)))], _ => some ([], ())
  | _, _ => none
noncomputable def cSizeK2 : Spec := callG 19 Tryd.f19.ntmps mSizeK2 kSizeK2 (tabs)
theorem vcSizeK2 (_ : Unit) : (wpE FSizeK2 (Tryd.f19.body.getD .skip) ⟨Tryd.f19.ntmps, slotsOf 0 (kSizeK2 ()).avs, (kSizeK2 ()).mem⟩ (finK Tryd.prog Tryd.f19.results.toList (postN (kSizeK2 ())))) = (true = true ∧ Value.int IntKind.i64 (2 : Int) = Value.int IntKind.i64 (2 : Int) ∧ true = true ∧ (4 : Nat) = (4 : Nat) ∧ sh (3 : Int) (2 : Int) (0 : Int) true = sh (3 : Int) (2 : Int) (0 : Int) true ∧ ((0 : Int) ≤ (3 : Int) ∧ (3 : Int) ≤ (16 : Int)) ∧ ((0 : Int) ≤ (2 : Int) ∧ (2 : Int) ≤ (16 : Int)) ∧ ((0 : Int) ≤ (0 : Int) ∧ (0 : Int) ≤ (16 : Int)) ∧ true = true ∧ true = true ∧ (14 : Nat) = (14 : Nat) ∧ Value.int IntKind.i64 (109 : Int) = Value.int IntKind.i64 (109 : Int)) := by kernel_rfl

set_option maxHeartbeats 8000000 in
theorem wpSizeK2  : wpE FSizeK2 (Tryd.f19.body.getD .skip) ⟨Tryd.f19.ntmps, slotsOf 0 (kSizeK2 ()).avs, (kSizeK2 ()).mem⟩ (finK Tryd.prog Tryd.f19.results.toList (postN (kSizeK2 ()))) := by
  with_reducible refine Eq.mpr (vcSizeK2 ()) ?_
  intros
  and_intros <;> first | omega | exact True.intro | kernel_rfl
set_option maxHeartbeats 8000000 in
theorem cSizeK2_ok : SpecOK Tryd.prog cSizeK2 := by
  refine callG_ok (c := Tryd.f19.body.getD .skip) mixed Tryd.func19 (by kernel_rfl) rfl (fun x hob => ?_)
  exact ⟨FSizeK2, rfl, evOKs ⟨⟨cShape2_ok, by kernel_rfl, gl_sub (by first | exact .inl rfl | exact .inr rfl)⟩, ⟨⟨cSize_ok, by kernel_rfl, gl_sub (by first | exact .inl rfl | exact .inr rfl)⟩, trivial⟩⟩, rfl, rfl, by with_reducible exact wpSizeK2  ⟩

def kShapes2 : Unit → ClN := fun _ => ⟨[vv (.int .i64 2)], [], vv (.bool true), [], [], []⟩
noncomputable def FShapes2 : FnE := ⟨mkEv Tryd.prog tabs [cWrites, cShape2, cRef2, cSizeK2] 0, [0, 2, 3, 4, 5, 6, 7, 9, 31, 32], fun _ _ => .rounds 0⟩
theorem vcShapes2 (_ : Unit) : (wpE FShapes2 (Tryd.f5.body.getD .skip) ⟨Tryd.f5.ntmps, slotsOf 0 (kShapes2 ()).avs, (kShapes2 ()).mem⟩ (finK Tryd.prog Tryd.f5.results.toList (postN (kShapes2 ())))) = (true = true ∧ true = true ∧ Value.int IntKind.i64 (2 : Int) = Value.int IntKind.i64 (2 : Int) ∧ true = true ∧ Value.int IntKind.i64 (2 : Int) = Value.int IntKind.i64 (2 : Int) ∧ (0 : Int) ≤ (0 : Int) ∧ (0 : Int) < (4 : Int) ∧ (0 : Nat) < (4 : Nat) ∧ (0 : Int) ≤ (1 : Int) ∧ (1 : Int) < (4 : Int) ∧ (1 : Nat) < (4 : Nat) ∧ (0 : Int) ≤ (2 : Int) ∧ (2 : Int) < (4 : Int) ∧ (2 : Nat) < (4 : Nat) ∧ (0 : Int) ≤ (3 : Int) ∧ (3 : Int) < (4 : Int) ∧ (3 : Nat) < (4 : Nat) ∧ (0 : Nat) < (4 : Nat) ∧ (0 : Int) ≤ (0 : Int) ∧ (0 : Int) < (4 : Int) ∧ (0 : Nat) < (4 : Nat) ∧ (1 : Nat) < (4 : Nat) ∧ (0 : Int) ≤ (1 : Int) ∧ (1 : Int) < (4 : Int) ∧ (1 : Nat) < (4 : Nat) ∧ (2 : Nat) < (4 : Nat) ∧ (0 : Int) ≤ (2 : Int) ∧ (2 : Int) < (4 : Int) ∧ (2 : Nat) < (4 : Nat) ∧ (3 : Nat) < (4 : Nat) ∧ (0 : Int) ≤ (3 : Int) ∧ (3 : Int) < (4 : Int) ∧ (3 : Nat) < (4 : Nat) ∧ true = true ∧ Value.int IntKind.i64 (2 : Int) = Value.int IntKind.i64 (2 : Int) ∧ true = true ∧ true = true ∧ (82 : Nat) = (82 : Nat) ∧ (bif true then Value.bool (decide ((109 : Int) = (109 : Int))) else Value.bool false) = Value.bool true) := by kernel_rfl

set_option maxHeartbeats 8000000 in
theorem wpShapes2  : wpE FShapes2 (Tryd.f5.body.getD .skip) ⟨Tryd.f5.ntmps, slotsOf 0 (kShapes2 ()).avs, (kShapes2 ()).mem⟩ (finK Tryd.prog Tryd.f5.results.toList (postN (kShapes2 ()))) := by
  with_reducible refine Eq.mpr (vcShapes2 ()) ?_
  intros
  and_intros <;> first | omega | exact True.intro | kernel_rfl
set_option maxHeartbeats 8000000 in
theorem lwShapes2  {W : World} {vs : List Value} (hgl : ∀ g l, (g, l) ∈ (tabs : List (Nat × L)) → Lies (cxL W (tabs)) g 0 l) (hD : All2 (DA (cxL W (tabs)) be0) (kShapes2 ()).avs vs) : Calls Tryd.prog 5 vs.toArray W (fun e W' => e = .returned (.bool true) ∧ Upd (fun _ => False) W W') :=
  law_calls (F := FShapes2) (fn := Tryd.f5) (c := Tryd.f5.body.getD .skip) (k := kShapes2 ()) rfl (evOKs ⟨⟨cWrites_ok, by kernel_rfl, gl_sub (by first | exact .inl rfl | exact .inr rfl)⟩, ⟨⟨cShape2_ok, by kernel_rfl, gl_sub (by first | exact .inl rfl | exact .inr rfl)⟩, ⟨⟨cRef2_ok, by kernel_rfl, gl_sub (by first | exact .inl rfl | exact .inr rfl)⟩, ⟨⟨cSizeK2_ok, by kernel_rfl, gl_sub (by first | exact .inl rfl | exact .inr rfl)⟩, trivial⟩⟩⟩⟩) mixed rfl hgl Tryd.func5 (by kernel_rfl) rfl rfl hD (by kernel_rfl) (by with_reducible exact wpShapes2  )

def kRef3 : Unit → ClN := fun _ => ⟨[vv (.int .i64 3)], [], .t [.g [.many 4 (.i .i64 [1, 2, 0, 1])], .c (.v (.bool true))], [], [], []⟩
noncomputable def FRef3 : FnE := ⟨mkEv Tryd.prog [] [] 0, [0, 2, 3, 4, 19], fun _ _ => .rounds 0⟩
def mRef3 : List AV → (Nat → Option MB) → Option (List Nat × Unit)
  | [.o (.c (.v (.int .i64 3)))], _ => some ([], ())
  | _, _ => none
noncomputable def cRef3 : Spec := callG 18 Tryd.f18.ntmps mRef3 kRef3
theorem vcRef3 (_ : Unit) : (wpE FRef3 (Tryd.f18.body.getD .skip) ⟨Tryd.f18.ntmps, slotsOf 0 (kRef3 ()).avs, (kRef3 ()).mem⟩ (finK Tryd.prog Tryd.f18.results.toList (postN (kRef3 ())))) = ((0 : Int) ≤ (3 : Int) ∧ (3 : Int) < (8 : Int) ∧ true = true ∧ true = true ∧ (24 : Nat) = (24 : Nat) ∧ (4 : Nat) = (4 : Nat) ∧ [(1 : Int), (2 : Int), (0 : Int), (1 : Int)] = [(1 : Int), (2 : Int), (0 : Int), (1 : Int)] ∧ Value.bool true = Value.bool true) := by kernel_rfl

set_option maxHeartbeats 8000000 in
theorem wpRef3  : wpE FRef3 (Tryd.f18.body.getD .skip) ⟨Tryd.f18.ntmps, slotsOf 0 (kRef3 ()).avs, (kRef3 ()).mem⟩ (finK Tryd.prog Tryd.f18.results.toList (postN (kRef3 ()))) := by
  with_reducible refine Eq.mpr (vcRef3 ()) ?_
  intros
  and_intros <;> first | omega | exact True.intro | kernel_rfl
set_option maxHeartbeats 8000000 in
theorem cRef3_ok : SpecOK Tryd.prog cRef3 := by
  refine callG_ok (c := Tryd.f18.body.getD .skip) mixed Tryd.func18 (by kernel_rfl) rfl (fun x hob => ?_)
  exact ⟨FRef3, rfl, evOKs trivial, rfl, rfl, by with_reducible exact wpRef3  ⟩

def kSizeK3 : Unit → ClN := fun _ => ⟨[vv (.int .i64 3)], [], vv (.int .i64 45), [], [], []⟩
noncomputable def FSizeK3 : FnE := ⟨mkEv Tryd.prog tabs [cShape3, cSize] 0, [0, 2, 3, 4, 11], fun _ _ => .rounds 0⟩
def mSizeK3 : List AV → (Nat → Option MB) → Option (List Nat × Unit)
  | [.o (.c (.v (.int .i64 3)))], _ => some ([], ())
  | _, _ => none
noncomputable def cSizeK3 : Spec := callG 19 Tryd.f19.ntmps mSizeK3 kSizeK3 (tabs)
theorem vcSizeK3 (_ : Unit) : (wpE FSizeK3 (Tryd.f19.body.getD .skip) ⟨Tryd.f19.ntmps, slotsOf 0 (kSizeK3 ()).avs, (kSizeK3 ()).mem⟩ (finK Tryd.prog Tryd.f19.results.toList (postN (kSizeK3 ())))) = (true = true ∧ Value.int IntKind.i64 (3 : Int) = Value.int IntKind.i64 (3 : Int) ∧ true = true ∧ (4 : Nat) = (4 : Nat) ∧ sh (1 : Int) (2 : Int) (0 : Int) true = sh (1 : Int) (2 : Int) (0 : Int) true ∧ ((0 : Int) ≤ (1 : Int) ∧ (1 : Int) ≤ (16 : Int)) ∧ ((0 : Int) ≤ (2 : Int) ∧ (2 : Int) ≤ (16 : Int)) ∧ ((0 : Int) ≤ (0 : Int) ∧ (0 : Int) ≤ (16 : Int)) ∧ true = true ∧ true = true ∧ (14 : Nat) = (14 : Nat) ∧ Value.int IntKind.i64 (45 : Int) = Value.int IntKind.i64 (45 : Int)) := by kernel_rfl

set_option maxHeartbeats 8000000 in
theorem wpSizeK3  : wpE FSizeK3 (Tryd.f19.body.getD .skip) ⟨Tryd.f19.ntmps, slotsOf 0 (kSizeK3 ()).avs, (kSizeK3 ()).mem⟩ (finK Tryd.prog Tryd.f19.results.toList (postN (kSizeK3 ()))) := by
  with_reducible refine Eq.mpr (vcSizeK3 ()) ?_
  intros
  and_intros <;> first | omega | exact True.intro | kernel_rfl
set_option maxHeartbeats 8000000 in
theorem cSizeK3_ok : SpecOK Tryd.prog cSizeK3 := by
  refine callG_ok (c := Tryd.f19.body.getD .skip) mixed Tryd.func19 (by kernel_rfl) rfl (fun x hob => ?_)
  exact ⟨FSizeK3, rfl, evOKs ⟨⟨cShape3_ok, by kernel_rfl, gl_sub (by first | exact .inl rfl | exact .inr rfl)⟩, ⟨⟨cSize_ok, by kernel_rfl, gl_sub (by first | exact .inl rfl | exact .inr rfl)⟩, trivial⟩⟩, rfl, rfl, by with_reducible exact wpSizeK3  ⟩

def kShapes3 : Unit → ClN := fun _ => ⟨[vv (.int .i64 3)], [], vv (.bool true), [], [], []⟩
noncomputable def FShapes3 : FnE := ⟨mkEv Tryd.prog tabs [cWrites, cShape3, cRef3, cSizeK3] 0, [0, 2, 3, 4, 5, 6, 7, 9, 31, 32], fun _ _ => .rounds 0⟩
theorem vcShapes3 (_ : Unit) : (wpE FShapes3 (Tryd.f5.body.getD .skip) ⟨Tryd.f5.ntmps, slotsOf 0 (kShapes3 ()).avs, (kShapes3 ()).mem⟩ (finK Tryd.prog Tryd.f5.results.toList (postN (kShapes3 ())))) = (true = true ∧ true = true ∧ Value.int IntKind.i64 (3 : Int) = Value.int IntKind.i64 (3 : Int) ∧ true = true ∧ Value.int IntKind.i64 (3 : Int) = Value.int IntKind.i64 (3 : Int) ∧ (0 : Int) ≤ (0 : Int) ∧ (0 : Int) < (4 : Int) ∧ (0 : Nat) < (4 : Nat) ∧ (0 : Int) ≤ (1 : Int) ∧ (1 : Int) < (4 : Int) ∧ (1 : Nat) < (4 : Nat) ∧ (0 : Int) ≤ (2 : Int) ∧ (2 : Int) < (4 : Int) ∧ (2 : Nat) < (4 : Nat) ∧ (0 : Int) ≤ (3 : Int) ∧ (3 : Int) < (4 : Int) ∧ (3 : Nat) < (4 : Nat) ∧ (0 : Nat) < (4 : Nat) ∧ (0 : Int) ≤ (0 : Int) ∧ (0 : Int) < (4 : Int) ∧ (0 : Nat) < (4 : Nat) ∧ (1 : Nat) < (4 : Nat) ∧ (0 : Int) ≤ (1 : Int) ∧ (1 : Int) < (4 : Int) ∧ (1 : Nat) < (4 : Nat) ∧ (2 : Nat) < (4 : Nat) ∧ (0 : Int) ≤ (2 : Int) ∧ (2 : Int) < (4 : Int) ∧ (2 : Nat) < (4 : Nat) ∧ (3 : Nat) < (4 : Nat) ∧ (0 : Int) ≤ (3 : Int) ∧ (3 : Int) < (4 : Int) ∧ (3 : Nat) < (4 : Nat) ∧ true = true ∧ Value.int IntKind.i64 (3 : Int) = Value.int IntKind.i64 (3 : Int) ∧ true = true ∧ true = true ∧ (82 : Nat) = (82 : Nat) ∧ (bif true then Value.bool (decide ((45 : Int) = (45 : Int))) else Value.bool false) = Value.bool true) := by kernel_rfl

set_option maxHeartbeats 8000000 in
theorem wpShapes3  : wpE FShapes3 (Tryd.f5.body.getD .skip) ⟨Tryd.f5.ntmps, slotsOf 0 (kShapes3 ()).avs, (kShapes3 ()).mem⟩ (finK Tryd.prog Tryd.f5.results.toList (postN (kShapes3 ()))) := by
  with_reducible refine Eq.mpr (vcShapes3 ()) ?_
  intros
  and_intros <;> first | omega | exact True.intro | kernel_rfl
set_option maxHeartbeats 8000000 in
theorem lwShapes3  {W : World} {vs : List Value} (hgl : ∀ g l, (g, l) ∈ (tabs : List (Nat × L)) → Lies (cxL W (tabs)) g 0 l) (hD : All2 (DA (cxL W (tabs)) be0) (kShapes3 ()).avs vs) : Calls Tryd.prog 5 vs.toArray W (fun e W' => e = .returned (.bool true) ∧ Upd (fun _ => False) W W') :=
  law_calls (F := FShapes3) (fn := Tryd.f5) (c := Tryd.f5.body.getD .skip) (k := kShapes3 ()) rfl (evOKs ⟨⟨cWrites_ok, by kernel_rfl, gl_sub (by first | exact .inl rfl | exact .inr rfl)⟩, ⟨⟨cShape3_ok, by kernel_rfl, gl_sub (by first | exact .inl rfl | exact .inr rfl)⟩, ⟨⟨cRef3_ok, by kernel_rfl, gl_sub (by first | exact .inl rfl | exact .inr rfl)⟩, ⟨⟨cSizeK3_ok, by kernel_rfl, gl_sub (by first | exact .inl rfl | exact .inr rfl)⟩, trivial⟩⟩⟩⟩) mixed rfl hgl Tryd.func5 (by kernel_rfl) rfl rfl hD (by kernel_rfl) (by with_reducible exact wpShapes3  )

def kRef4 : Unit → ClN := fun _ => ⟨[vv (.int .i64 4)], [], .t [.g [.many 4 (.i .i64 [3, 2, 0, 0])], .c (.v (.bool true))], [], [], []⟩
noncomputable def FRef4 : FnE := ⟨mkEv Tryd.prog [] [] 0, [0, 2, 3, 4, 19], fun _ _ => .rounds 0⟩
def mRef4 : List AV → (Nat → Option MB) → Option (List Nat × Unit)
  | [.o (.c (.v (.int .i64 4)))], _ => some ([], ())
  | _, _ => none
noncomputable def cRef4 : Spec := callG 18 Tryd.f18.ntmps mRef4 kRef4
theorem vcRef4 (_ : Unit) : (wpE FRef4 (Tryd.f18.body.getD .skip) ⟨Tryd.f18.ntmps, slotsOf 0 (kRef4 ()).avs, (kRef4 ()).mem⟩ (finK Tryd.prog Tryd.f18.results.toList (postN (kRef4 ())))) = ((0 : Int) ≤ (4 : Int) ∧ (4 : Int) < (8 : Int) ∧ true = true ∧ true = true ∧ (24 : Nat) = (24 : Nat) ∧ (4 : Nat) = (4 : Nat) ∧ [(3 : Int), (2 : Int), (0 : Int), (0 : Int)] = [(3 : Int), (2 : Int), (0 : Int), (0 : Int)] ∧ Value.bool true = Value.bool true) := by kernel_rfl

set_option maxHeartbeats 8000000 in
theorem wpRef4  : wpE FRef4 (Tryd.f18.body.getD .skip) ⟨Tryd.f18.ntmps, slotsOf 0 (kRef4 ()).avs, (kRef4 ()).mem⟩ (finK Tryd.prog Tryd.f18.results.toList (postN (kRef4 ()))) := by
  with_reducible refine Eq.mpr (vcRef4 ()) ?_
  intros
  and_intros <;> first | omega | exact True.intro | kernel_rfl
set_option maxHeartbeats 8000000 in
theorem cRef4_ok : SpecOK Tryd.prog cRef4 := by
  refine callG_ok (c := Tryd.f18.body.getD .skip) mixed Tryd.func18 (by kernel_rfl) rfl (fun x hob => ?_)
  exact ⟨FRef4, rfl, evOKs trivial, rfl, rfl, by with_reducible exact wpRef4  ⟩

def kSizeK4 : Unit → ClN := fun _ => ⟨[vv (.int .i64 4)], [], vv (.int .i64 105), [], [], []⟩
noncomputable def FSizeK4 : FnE := ⟨mkEv Tryd.prog tabs [cShape4, cSize] 0, [0, 2, 3, 4, 11], fun _ _ => .rounds 0⟩
def mSizeK4 : List AV → (Nat → Option MB) → Option (List Nat × Unit)
  | [.o (.c (.v (.int .i64 4)))], _ => some ([], ())
  | _, _ => none
noncomputable def cSizeK4 : Spec := callG 19 Tryd.f19.ntmps mSizeK4 kSizeK4 (tabs)
theorem vcSizeK4 (_ : Unit) : (wpE FSizeK4 (Tryd.f19.body.getD .skip) ⟨Tryd.f19.ntmps, slotsOf 0 (kSizeK4 ()).avs, (kSizeK4 ()).mem⟩ (finK Tryd.prog Tryd.f19.results.toList (postN (kSizeK4 ())))) = (true = true ∧ Value.int IntKind.i64 (4 : Int) = Value.int IntKind.i64 (4 : Int) ∧ true = true ∧ (4 : Nat) = (4 : Nat) ∧ sh (3 : Int) (2 : Int) (0 : Int) false = sh (3 : Int) (2 : Int) (0 : Int) false ∧ ((0 : Int) ≤ (3 : Int) ∧ (3 : Int) ≤ (16 : Int)) ∧ ((0 : Int) ≤ (2 : Int) ∧ (2 : Int) ≤ (16 : Int)) ∧ ((0 : Int) ≤ (0 : Int) ∧ (0 : Int) ≤ (16 : Int)) ∧ true = true ∧ true = true ∧ (14 : Nat) = (14 : Nat) ∧ Value.int IntKind.i64 (105 : Int) = Value.int IntKind.i64 (105 : Int)) := by kernel_rfl

set_option maxHeartbeats 8000000 in
theorem wpSizeK4  : wpE FSizeK4 (Tryd.f19.body.getD .skip) ⟨Tryd.f19.ntmps, slotsOf 0 (kSizeK4 ()).avs, (kSizeK4 ()).mem⟩ (finK Tryd.prog Tryd.f19.results.toList (postN (kSizeK4 ()))) := by
  with_reducible refine Eq.mpr (vcSizeK4 ()) ?_
  intros
  and_intros <;> first | omega | exact True.intro | kernel_rfl
set_option maxHeartbeats 8000000 in
theorem cSizeK4_ok : SpecOK Tryd.prog cSizeK4 := by
  refine callG_ok (c := Tryd.f19.body.getD .skip) mixed Tryd.func19 (by kernel_rfl) rfl (fun x hob => ?_)
  exact ⟨FSizeK4, rfl, evOKs ⟨⟨cShape4_ok, by kernel_rfl, gl_sub (by first | exact .inl rfl | exact .inr rfl)⟩, ⟨⟨cSize_ok, by kernel_rfl, gl_sub (by first | exact .inl rfl | exact .inr rfl)⟩, trivial⟩⟩, rfl, rfl, by with_reducible exact wpSizeK4  ⟩

def kShapes4 : Unit → ClN := fun _ => ⟨[vv (.int .i64 4)], [], vv (.bool true), [], [], []⟩
noncomputable def FShapes4 : FnE := ⟨mkEv Tryd.prog tabs [cWrites, cShape4, cRef4, cSizeK4] 0, [0, 2, 3, 4, 5, 6, 7, 9, 31, 32], fun _ _ => .rounds 0⟩
theorem vcShapes4 (_ : Unit) : (wpE FShapes4 (Tryd.f5.body.getD .skip) ⟨Tryd.f5.ntmps, slotsOf 0 (kShapes4 ()).avs, (kShapes4 ()).mem⟩ (finK Tryd.prog Tryd.f5.results.toList (postN (kShapes4 ())))) = (true = true ∧ true = true ∧ Value.int IntKind.i64 (4 : Int) = Value.int IntKind.i64 (4 : Int) ∧ true = true ∧ Value.int IntKind.i64 (4 : Int) = Value.int IntKind.i64 (4 : Int) ∧ (0 : Int) ≤ (0 : Int) ∧ (0 : Int) < (4 : Int) ∧ (0 : Nat) < (4 : Nat) ∧ (0 : Int) ≤ (1 : Int) ∧ (1 : Int) < (4 : Int) ∧ (1 : Nat) < (4 : Nat) ∧ (0 : Int) ≤ (2 : Int) ∧ (2 : Int) < (4 : Int) ∧ (2 : Nat) < (4 : Nat) ∧ (0 : Int) ≤ (3 : Int) ∧ (3 : Int) < (4 : Int) ∧ (3 : Nat) < (4 : Nat) ∧ (0 : Nat) < (4 : Nat) ∧ (0 : Int) ≤ (0 : Int) ∧ (0 : Int) < (4 : Int) ∧ (0 : Nat) < (4 : Nat) ∧ (1 : Nat) < (4 : Nat) ∧ (0 : Int) ≤ (1 : Int) ∧ (1 : Int) < (4 : Int) ∧ (1 : Nat) < (4 : Nat) ∧ (2 : Nat) < (4 : Nat) ∧ (0 : Int) ≤ (2 : Int) ∧ (2 : Int) < (4 : Int) ∧ (2 : Nat) < (4 : Nat) ∧ (3 : Nat) < (4 : Nat) ∧ (0 : Int) ≤ (3 : Int) ∧ (3 : Int) < (4 : Int) ∧ (3 : Nat) < (4 : Nat) ∧ true = true ∧ Value.int IntKind.i64 (4 : Int) = Value.int IntKind.i64 (4 : Int) ∧ true = true ∧ true = true ∧ (82 : Nat) = (82 : Nat) ∧ (bif true then Value.bool (decide ((105 : Int) = (105 : Int))) else Value.bool false) = Value.bool true) := by kernel_rfl

set_option maxHeartbeats 8000000 in
theorem wpShapes4  : wpE FShapes4 (Tryd.f5.body.getD .skip) ⟨Tryd.f5.ntmps, slotsOf 0 (kShapes4 ()).avs, (kShapes4 ()).mem⟩ (finK Tryd.prog Tryd.f5.results.toList (postN (kShapes4 ()))) := by
  with_reducible refine Eq.mpr (vcShapes4 ()) ?_
  intros
  and_intros <;> first | omega | exact True.intro | kernel_rfl
set_option maxHeartbeats 8000000 in
theorem lwShapes4  {W : World} {vs : List Value} (hgl : ∀ g l, (g, l) ∈ (tabs : List (Nat × L)) → Lies (cxL W (tabs)) g 0 l) (hD : All2 (DA (cxL W (tabs)) be0) (kShapes4 ()).avs vs) : Calls Tryd.prog 5 vs.toArray W (fun e W' => e = .returned (.bool true) ∧ Upd (fun _ => False) W W') :=
  law_calls (F := FShapes4) (fn := Tryd.f5) (c := Tryd.f5.body.getD .skip) (k := kShapes4 ()) rfl (evOKs ⟨⟨cWrites_ok, by kernel_rfl, gl_sub (by first | exact .inl rfl | exact .inr rfl)⟩, ⟨⟨cShape4_ok, by kernel_rfl, gl_sub (by first | exact .inl rfl | exact .inr rfl)⟩, ⟨⟨cRef4_ok, by kernel_rfl, gl_sub (by first | exact .inl rfl | exact .inr rfl)⟩, ⟨⟨cSizeK4_ok, by kernel_rfl, gl_sub (by first | exact .inl rfl | exact .inr rfl)⟩, trivial⟩⟩⟩⟩) mixed rfl hgl Tryd.func5 (by kernel_rfl) rfl rfl hD (by kernel_rfl) (by with_reducible exact wpShapes4  )

def kRef5 : Unit → ClN := fun _ => ⟨[vv (.int .i64 5)], [], .t [.g [.many 4 (.i .i64 [1, 2, 1, 1])], .c (.v (.bool true))], [], [], []⟩
noncomputable def FRef5 : FnE := ⟨mkEv Tryd.prog [] [] 0, [0, 2, 3, 4, 19], fun _ _ => .rounds 0⟩
def mRef5 : List AV → (Nat → Option MB) → Option (List Nat × Unit)
  | [.o (.c (.v (.int .i64 5)))], _ => some ([], ())
  | _, _ => none
noncomputable def cRef5 : Spec := callG 18 Tryd.f18.ntmps mRef5 kRef5
theorem vcRef5 (_ : Unit) : (wpE FRef5 (Tryd.f18.body.getD .skip) ⟨Tryd.f18.ntmps, slotsOf 0 (kRef5 ()).avs, (kRef5 ()).mem⟩ (finK Tryd.prog Tryd.f18.results.toList (postN (kRef5 ())))) = ((0 : Int) ≤ (5 : Int) ∧ (5 : Int) < (8 : Int) ∧ true = true ∧ true = true ∧ (24 : Nat) = (24 : Nat) ∧ (4 : Nat) = (4 : Nat) ∧ [(1 : Int), (2 : Int), (1 : Int), (1 : Int)] = [(1 : Int), (2 : Int), (1 : Int), (1 : Int)] ∧ Value.bool true = Value.bool true) := by kernel_rfl

set_option maxHeartbeats 8000000 in
theorem wpRef5  : wpE FRef5 (Tryd.f18.body.getD .skip) ⟨Tryd.f18.ntmps, slotsOf 0 (kRef5 ()).avs, (kRef5 ()).mem⟩ (finK Tryd.prog Tryd.f18.results.toList (postN (kRef5 ()))) := by
  with_reducible refine Eq.mpr (vcRef5 ()) ?_
  intros
  and_intros <;> first | omega | exact True.intro | kernel_rfl
set_option maxHeartbeats 8000000 in
theorem cRef5_ok : SpecOK Tryd.prog cRef5 := by
  refine callG_ok (c := Tryd.f18.body.getD .skip) mixed Tryd.func18 (by kernel_rfl) rfl (fun x hob => ?_)
  exact ⟨FRef5, rfl, evOKs trivial, rfl, rfl, by with_reducible exact wpRef5  ⟩

def kSizeK5 : Unit → ClN := fun _ => ⟨[vv (.int .i64 5)], [], vv (.int .i64 109), [], [], []⟩
noncomputable def FSizeK5 : FnE := ⟨mkEv Tryd.prog tabs [cShape5, cSize] 0, [0, 2, 3, 4, 11], fun _ _ => .rounds 0⟩
def mSizeK5 : List AV → (Nat → Option MB) → Option (List Nat × Unit)
  | [.o (.c (.v (.int .i64 5)))], _ => some ([], ())
  | _, _ => none
noncomputable def cSizeK5 : Spec := callG 19 Tryd.f19.ntmps mSizeK5 kSizeK5 (tabs)
theorem vcSizeK5 (_ : Unit) : (wpE FSizeK5 (Tryd.f19.body.getD .skip) ⟨Tryd.f19.ntmps, slotsOf 0 (kSizeK5 ()).avs, (kSizeK5 ()).mem⟩ (finK Tryd.prog Tryd.f19.results.toList (postN (kSizeK5 ())))) = (true = true ∧ Value.int IntKind.i64 (5 : Int) = Value.int IntKind.i64 (5 : Int) ∧ true = true ∧ (4 : Nat) = (4 : Nat) ∧ sh (1 : Int) (2 : Int) (1 : Int) true = sh (1 : Int) (2 : Int) (1 : Int) true ∧ ((0 : Int) ≤ (1 : Int) ∧ (1 : Int) ≤ (16 : Int)) ∧ ((0 : Int) ≤ (2 : Int) ∧ (2 : Int) ≤ (16 : Int)) ∧ ((0 : Int) ≤ (1 : Int) ∧ (1 : Int) ≤ (16 : Int)) ∧ true = true ∧ true = true ∧ (14 : Nat) = (14 : Nat) ∧ Value.int IntKind.i64 (109 : Int) = Value.int IntKind.i64 (109 : Int)) := by kernel_rfl

set_option maxHeartbeats 8000000 in
theorem wpSizeK5  : wpE FSizeK5 (Tryd.f19.body.getD .skip) ⟨Tryd.f19.ntmps, slotsOf 0 (kSizeK5 ()).avs, (kSizeK5 ()).mem⟩ (finK Tryd.prog Tryd.f19.results.toList (postN (kSizeK5 ()))) := by
  with_reducible refine Eq.mpr (vcSizeK5 ()) ?_
  intros
  and_intros <;> first | omega | exact True.intro | kernel_rfl
set_option maxHeartbeats 8000000 in
theorem cSizeK5_ok : SpecOK Tryd.prog cSizeK5 := by
  refine callG_ok (c := Tryd.f19.body.getD .skip) mixed Tryd.func19 (by kernel_rfl) rfl (fun x hob => ?_)
  exact ⟨FSizeK5, rfl, evOKs ⟨⟨cShape5_ok, by kernel_rfl, gl_sub (by first | exact .inl rfl | exact .inr rfl)⟩, ⟨⟨cSize_ok, by kernel_rfl, gl_sub (by first | exact .inl rfl | exact .inr rfl)⟩, trivial⟩⟩, rfl, rfl, by with_reducible exact wpSizeK5  ⟩

def kShapes5 : Unit → ClN := fun _ => ⟨[vv (.int .i64 5)], [], vv (.bool true), [], [], []⟩
noncomputable def FShapes5 : FnE := ⟨mkEv Tryd.prog tabs [cWrites, cShape5, cRef5, cSizeK5] 0, [0, 2, 3, 4, 5, 6, 7, 9, 31, 32], fun _ _ => .rounds 0⟩
theorem vcShapes5 (_ : Unit) : (wpE FShapes5 (Tryd.f5.body.getD .skip) ⟨Tryd.f5.ntmps, slotsOf 0 (kShapes5 ()).avs, (kShapes5 ()).mem⟩ (finK Tryd.prog Tryd.f5.results.toList (postN (kShapes5 ())))) = (true = true ∧ true = true ∧ Value.int IntKind.i64 (5 : Int) = Value.int IntKind.i64 (5 : Int) ∧ true = true ∧ Value.int IntKind.i64 (5 : Int) = Value.int IntKind.i64 (5 : Int) ∧ (0 : Int) ≤ (0 : Int) ∧ (0 : Int) < (4 : Int) ∧ (0 : Nat) < (4 : Nat) ∧ (0 : Int) ≤ (1 : Int) ∧ (1 : Int) < (4 : Int) ∧ (1 : Nat) < (4 : Nat) ∧ (0 : Int) ≤ (2 : Int) ∧ (2 : Int) < (4 : Int) ∧ (2 : Nat) < (4 : Nat) ∧ (0 : Int) ≤ (3 : Int) ∧ (3 : Int) < (4 : Int) ∧ (3 : Nat) < (4 : Nat) ∧ (0 : Nat) < (4 : Nat) ∧ (0 : Int) ≤ (0 : Int) ∧ (0 : Int) < (4 : Int) ∧ (0 : Nat) < (4 : Nat) ∧ (1 : Nat) < (4 : Nat) ∧ (0 : Int) ≤ (1 : Int) ∧ (1 : Int) < (4 : Int) ∧ (1 : Nat) < (4 : Nat) ∧ (2 : Nat) < (4 : Nat) ∧ (0 : Int) ≤ (2 : Int) ∧ (2 : Int) < (4 : Int) ∧ (2 : Nat) < (4 : Nat) ∧ (3 : Nat) < (4 : Nat) ∧ (0 : Int) ≤ (3 : Int) ∧ (3 : Int) < (4 : Int) ∧ (3 : Nat) < (4 : Nat) ∧ true = true ∧ Value.int IntKind.i64 (5 : Int) = Value.int IntKind.i64 (5 : Int) ∧ true = true ∧ true = true ∧ (82 : Nat) = (82 : Nat) ∧ (bif true then Value.bool (decide ((109 : Int) = (109 : Int))) else Value.bool false) = Value.bool true) := by kernel_rfl

set_option maxHeartbeats 8000000 in
theorem wpShapes5  : wpE FShapes5 (Tryd.f5.body.getD .skip) ⟨Tryd.f5.ntmps, slotsOf 0 (kShapes5 ()).avs, (kShapes5 ()).mem⟩ (finK Tryd.prog Tryd.f5.results.toList (postN (kShapes5 ()))) := by
  with_reducible refine Eq.mpr (vcShapes5 ()) ?_
  intros
  and_intros <;> first | omega | exact True.intro | kernel_rfl
set_option maxHeartbeats 8000000 in
theorem lwShapes5  {W : World} {vs : List Value} (hgl : ∀ g l, (g, l) ∈ (tabs : List (Nat × L)) → Lies (cxL W (tabs)) g 0 l) (hD : All2 (DA (cxL W (tabs)) be0) (kShapes5 ()).avs vs) : Calls Tryd.prog 5 vs.toArray W (fun e W' => e = .returned (.bool true) ∧ Upd (fun _ => False) W W') :=
  law_calls (F := FShapes5) (fn := Tryd.f5) (c := Tryd.f5.body.getD .skip) (k := kShapes5 ()) rfl (evOKs ⟨⟨cWrites_ok, by kernel_rfl, gl_sub (by first | exact .inl rfl | exact .inr rfl)⟩, ⟨⟨cShape5_ok, by kernel_rfl, gl_sub (by first | exact .inl rfl | exact .inr rfl)⟩, ⟨⟨cRef5_ok, by kernel_rfl, gl_sub (by first | exact .inl rfl | exact .inr rfl)⟩, ⟨⟨cSizeK5_ok, by kernel_rfl, gl_sub (by first | exact .inl rfl | exact .inr rfl)⟩, trivial⟩⟩⟩⟩) mixed rfl hgl Tryd.func5 (by kernel_rfl) rfl rfl hD (by kernel_rfl) (by with_reducible exact wpShapes5  )

def kRef6 : Unit → ClN := fun _ => ⟨[vv (.int .i64 6)], [], .t [.g [.many 4 (.i .i64 [3, 3, 1, 1])], .c (.v (.bool true))], [], [], []⟩
noncomputable def FRef6 : FnE := ⟨mkEv Tryd.prog [] [] 0, [0, 2, 3, 4, 19], fun _ _ => .rounds 0⟩
def mRef6 : List AV → (Nat → Option MB) → Option (List Nat × Unit)
  | [.o (.c (.v (.int .i64 6)))], _ => some ([], ())
  | _, _ => none
noncomputable def cRef6 : Spec := callG 18 Tryd.f18.ntmps mRef6 kRef6
theorem vcRef6 (_ : Unit) : (wpE FRef6 (Tryd.f18.body.getD .skip) ⟨Tryd.f18.ntmps, slotsOf 0 (kRef6 ()).avs, (kRef6 ()).mem⟩ (finK Tryd.prog Tryd.f18.results.toList (postN (kRef6 ())))) = ((0 : Int) ≤ (6 : Int) ∧ (6 : Int) < (8 : Int) ∧ true = true ∧ true = true ∧ (24 : Nat) = (24 : Nat) ∧ (4 : Nat) = (4 : Nat) ∧ [(3 : Int), (3 : Int), (1 : Int), (1 : Int)] = [(3 : Int), (3 : Int), (1 : Int), (1 : Int)] ∧ Value.bool true = Value.bool true) := by kernel_rfl

set_option maxHeartbeats 8000000 in
theorem wpRef6  : wpE FRef6 (Tryd.f18.body.getD .skip) ⟨Tryd.f18.ntmps, slotsOf 0 (kRef6 ()).avs, (kRef6 ()).mem⟩ (finK Tryd.prog Tryd.f18.results.toList (postN (kRef6 ()))) := by
  with_reducible refine Eq.mpr (vcRef6 ()) ?_
  intros
  and_intros <;> first | omega | exact True.intro | kernel_rfl
set_option maxHeartbeats 8000000 in
theorem cRef6_ok : SpecOK Tryd.prog cRef6 := by
  refine callG_ok (c := Tryd.f18.body.getD .skip) mixed Tryd.func18 (by kernel_rfl) rfl (fun x hob => ?_)
  exact ⟨FRef6, rfl, evOKs trivial, rfl, rfl, by with_reducible exact wpRef6  ⟩

def kSizeK6 : Unit → ClN := fun _ => ⟨[vv (.int .i64 6)], [], vv (.int .i64 177), [], [], []⟩
noncomputable def FSizeK6 : FnE := ⟨mkEv Tryd.prog tabs [cShape6, cSize] 0, [0, 2, 3, 4, 11], fun _ _ => .rounds 0⟩
def mSizeK6 : List AV → (Nat → Option MB) → Option (List Nat × Unit)
  | [.o (.c (.v (.int .i64 6)))], _ => some ([], ())
  | _, _ => none
noncomputable def cSizeK6 : Spec := callG 19 Tryd.f19.ntmps mSizeK6 kSizeK6 (tabs)
theorem vcSizeK6 (_ : Unit) : (wpE FSizeK6 (Tryd.f19.body.getD .skip) ⟨Tryd.f19.ntmps, slotsOf 0 (kSizeK6 ()).avs, (kSizeK6 ()).mem⟩ (finK Tryd.prog Tryd.f19.results.toList (postN (kSizeK6 ())))) = (true = true ∧ Value.int IntKind.i64 (6 : Int) = Value.int IntKind.i64 (6 : Int) ∧ true = true ∧ (4 : Nat) = (4 : Nat) ∧ sh (3 : Int) (3 : Int) (1 : Int) true = sh (3 : Int) (3 : Int) (1 : Int) true ∧ ((0 : Int) ≤ (3 : Int) ∧ (3 : Int) ≤ (16 : Int)) ∧ ((0 : Int) ≤ (3 : Int) ∧ (3 : Int) ≤ (16 : Int)) ∧ ((0 : Int) ≤ (1 : Int) ∧ (1 : Int) ≤ (16 : Int)) ∧ true = true ∧ true = true ∧ (14 : Nat) = (14 : Nat) ∧ Value.int IntKind.i64 (177 : Int) = Value.int IntKind.i64 (177 : Int)) := by kernel_rfl

set_option maxHeartbeats 8000000 in
theorem wpSizeK6  : wpE FSizeK6 (Tryd.f19.body.getD .skip) ⟨Tryd.f19.ntmps, slotsOf 0 (kSizeK6 ()).avs, (kSizeK6 ()).mem⟩ (finK Tryd.prog Tryd.f19.results.toList (postN (kSizeK6 ()))) := by
  with_reducible refine Eq.mpr (vcSizeK6 ()) ?_
  intros
  and_intros <;> first | omega | exact True.intro | kernel_rfl
set_option maxHeartbeats 8000000 in
theorem cSizeK6_ok : SpecOK Tryd.prog cSizeK6 := by
  refine callG_ok (c := Tryd.f19.body.getD .skip) mixed Tryd.func19 (by kernel_rfl) rfl (fun x hob => ?_)
  exact ⟨FSizeK6, rfl, evOKs ⟨⟨cShape6_ok, by kernel_rfl, gl_sub (by first | exact .inl rfl | exact .inr rfl)⟩, ⟨⟨cSize_ok, by kernel_rfl, gl_sub (by first | exact .inl rfl | exact .inr rfl)⟩, trivial⟩⟩, rfl, rfl, by with_reducible exact wpSizeK6  ⟩

def kShapes6 : Unit → ClN := fun _ => ⟨[vv (.int .i64 6)], [], vv (.bool true), [], [], []⟩
noncomputable def FShapes6 : FnE := ⟨mkEv Tryd.prog tabs [cWrites, cShape6, cRef6, cSizeK6] 0, [0, 2, 3, 4, 5, 6, 7, 9, 31, 32], fun _ _ => .rounds 0⟩
theorem vcShapes6 (_ : Unit) : (wpE FShapes6 (Tryd.f5.body.getD .skip) ⟨Tryd.f5.ntmps, slotsOf 0 (kShapes6 ()).avs, (kShapes6 ()).mem⟩ (finK Tryd.prog Tryd.f5.results.toList (postN (kShapes6 ())))) = (true = true ∧ true = true ∧ Value.int IntKind.i64 (6 : Int) = Value.int IntKind.i64 (6 : Int) ∧ true = true ∧ Value.int IntKind.i64 (6 : Int) = Value.int IntKind.i64 (6 : Int) ∧ (0 : Int) ≤ (0 : Int) ∧ (0 : Int) < (4 : Int) ∧ (0 : Nat) < (4 : Nat) ∧ (0 : Int) ≤ (1 : Int) ∧ (1 : Int) < (4 : Int) ∧ (1 : Nat) < (4 : Nat) ∧ (0 : Int) ≤ (2 : Int) ∧ (2 : Int) < (4 : Int) ∧ (2 : Nat) < (4 : Nat) ∧ (0 : Int) ≤ (3 : Int) ∧ (3 : Int) < (4 : Int) ∧ (3 : Nat) < (4 : Nat) ∧ (0 : Nat) < (4 : Nat) ∧ (0 : Int) ≤ (0 : Int) ∧ (0 : Int) < (4 : Int) ∧ (0 : Nat) < (4 : Nat) ∧ (1 : Nat) < (4 : Nat) ∧ (0 : Int) ≤ (1 : Int) ∧ (1 : Int) < (4 : Int) ∧ (1 : Nat) < (4 : Nat) ∧ (2 : Nat) < (4 : Nat) ∧ (0 : Int) ≤ (2 : Int) ∧ (2 : Int) < (4 : Int) ∧ (2 : Nat) < (4 : Nat) ∧ (3 : Nat) < (4 : Nat) ∧ (0 : Int) ≤ (3 : Int) ∧ (3 : Int) < (4 : Int) ∧ (3 : Nat) < (4 : Nat) ∧ true = true ∧ Value.int IntKind.i64 (6 : Int) = Value.int IntKind.i64 (6 : Int) ∧ true = true ∧ true = true ∧ (82 : Nat) = (82 : Nat) ∧ (bif true then Value.bool (decide ((177 : Int) = (177 : Int))) else Value.bool false) = Value.bool true) := by kernel_rfl

set_option maxHeartbeats 8000000 in
theorem wpShapes6  : wpE FShapes6 (Tryd.f5.body.getD .skip) ⟨Tryd.f5.ntmps, slotsOf 0 (kShapes6 ()).avs, (kShapes6 ()).mem⟩ (finK Tryd.prog Tryd.f5.results.toList (postN (kShapes6 ()))) := by
  with_reducible refine Eq.mpr (vcShapes6 ()) ?_
  intros
  and_intros <;> first | omega | exact True.intro | kernel_rfl
set_option maxHeartbeats 8000000 in
theorem lwShapes6  {W : World} {vs : List Value} (hgl : ∀ g l, (g, l) ∈ (tabs : List (Nat × L)) → Lies (cxL W (tabs)) g 0 l) (hD : All2 (DA (cxL W (tabs)) be0) (kShapes6 ()).avs vs) : Calls Tryd.prog 5 vs.toArray W (fun e W' => e = .returned (.bool true) ∧ Upd (fun _ => False) W W') :=
  law_calls (F := FShapes6) (fn := Tryd.f5) (c := Tryd.f5.body.getD .skip) (k := kShapes6 ()) rfl (evOKs ⟨⟨cWrites_ok, by kernel_rfl, gl_sub (by first | exact .inl rfl | exact .inr rfl)⟩, ⟨⟨cShape6_ok, by kernel_rfl, gl_sub (by first | exact .inl rfl | exact .inr rfl)⟩, ⟨⟨cRef6_ok, by kernel_rfl, gl_sub (by first | exact .inl rfl | exact .inr rfl)⟩, ⟨⟨cSizeK6_ok, by kernel_rfl, gl_sub (by first | exact .inl rfl | exact .inr rfl)⟩, trivial⟩⟩⟩⟩) mixed rfl hgl Tryd.func5 (by kernel_rfl) rfl rfl hD (by kernel_rfl) (by with_reducible exact wpShapes6  )

def kRef7 : Unit → ClN := fun _ => ⟨[vv (.int .i64 7)], [], .t [.g [.many 4 (.i .i64 [1, 1, 0, 1])], .c (.v (.bool true))], [], [], []⟩
noncomputable def FRef7 : FnE := ⟨mkEv Tryd.prog [] [] 0, [0, 2, 3, 4, 19], fun _ _ => .rounds 0⟩
def mRef7 : List AV → (Nat → Option MB) → Option (List Nat × Unit)
  | [.o (.c (.v (.int .i64 7)))], _ => some ([], ())
  | _, _ => none
noncomputable def cRef7 : Spec := callG 18 Tryd.f18.ntmps mRef7 kRef7
theorem vcRef7 (_ : Unit) : (wpE FRef7 (Tryd.f18.body.getD .skip) ⟨Tryd.f18.ntmps, slotsOf 0 (kRef7 ()).avs, (kRef7 ()).mem⟩ (finK Tryd.prog Tryd.f18.results.toList (postN (kRef7 ())))) = ((0 : Int) ≤ (7 : Int) ∧ (7 : Int) < (8 : Int) ∧ true = true ∧ true = true ∧ (24 : Nat) = (24 : Nat) ∧ (4 : Nat) = (4 : Nat) ∧ [(1 : Int), (1 : Int), (0 : Int), (1 : Int)] = [(1 : Int), (1 : Int), (0 : Int), (1 : Int)] ∧ Value.bool true = Value.bool true) := by kernel_rfl

set_option maxHeartbeats 8000000 in
theorem wpRef7  : wpE FRef7 (Tryd.f18.body.getD .skip) ⟨Tryd.f18.ntmps, slotsOf 0 (kRef7 ()).avs, (kRef7 ()).mem⟩ (finK Tryd.prog Tryd.f18.results.toList (postN (kRef7 ()))) := by
  with_reducible refine Eq.mpr (vcRef7 ()) ?_
  intros
  and_intros <;> first | omega | exact True.intro | kernel_rfl
set_option maxHeartbeats 8000000 in
theorem cRef7_ok : SpecOK Tryd.prog cRef7 := by
  refine callG_ok (c := Tryd.f18.body.getD .skip) mixed Tryd.func18 (by kernel_rfl) rfl (fun x hob => ?_)
  exact ⟨FRef7, rfl, evOKs trivial, rfl, rfl, by with_reducible exact wpRef7  ⟩

def kSizeK7 : Unit → ClN := fun _ => ⟨[vv (.int .i64 7)], [], vv (.int .i64 41), [], [], []⟩
noncomputable def FSizeK7 : FnE := ⟨mkEv Tryd.prog tabs [cShape7, cSize] 0, [0, 2, 3, 4, 11], fun _ _ => .rounds 0⟩
def mSizeK7 : List AV → (Nat → Option MB) → Option (List Nat × Unit)
  | [.o (.c (.v (.int .i64 7)))], _ => some ([], ())
  | _, _ => none
noncomputable def cSizeK7 : Spec := callG 19 Tryd.f19.ntmps mSizeK7 kSizeK7 (tabs)
theorem vcSizeK7 (_ : Unit) : (wpE FSizeK7 (Tryd.f19.body.getD .skip) ⟨Tryd.f19.ntmps, slotsOf 0 (kSizeK7 ()).avs, (kSizeK7 ()).mem⟩ (finK Tryd.prog Tryd.f19.results.toList (postN (kSizeK7 ())))) = (true = true ∧ Value.int IntKind.i64 (7 : Int) = Value.int IntKind.i64 (7 : Int) ∧ true = true ∧ (4 : Nat) = (4 : Nat) ∧ sh (1 : Int) (1 : Int) (0 : Int) true = sh (1 : Int) (1 : Int) (0 : Int) true ∧ ((0 : Int) ≤ (1 : Int) ∧ (1 : Int) ≤ (16 : Int)) ∧ ((0 : Int) ≤ (1 : Int) ∧ (1 : Int) ≤ (16 : Int)) ∧ ((0 : Int) ≤ (0 : Int) ∧ (0 : Int) ≤ (16 : Int)) ∧ true = true ∧ true = true ∧ (14 : Nat) = (14 : Nat) ∧ Value.int IntKind.i64 (41 : Int) = Value.int IntKind.i64 (41 : Int)) := by kernel_rfl

set_option maxHeartbeats 8000000 in
theorem wpSizeK7  : wpE FSizeK7 (Tryd.f19.body.getD .skip) ⟨Tryd.f19.ntmps, slotsOf 0 (kSizeK7 ()).avs, (kSizeK7 ()).mem⟩ (finK Tryd.prog Tryd.f19.results.toList (postN (kSizeK7 ()))) := by
  with_reducible refine Eq.mpr (vcSizeK7 ()) ?_
  intros
  and_intros <;> first | omega | exact True.intro | kernel_rfl
set_option maxHeartbeats 8000000 in
theorem cSizeK7_ok : SpecOK Tryd.prog cSizeK7 := by
  refine callG_ok (c := Tryd.f19.body.getD .skip) mixed Tryd.func19 (by kernel_rfl) rfl (fun x hob => ?_)
  exact ⟨FSizeK7, rfl, evOKs ⟨⟨cShape7_ok, by kernel_rfl, gl_sub (by first | exact .inl rfl | exact .inr rfl)⟩, ⟨⟨cSize_ok, by kernel_rfl, gl_sub (by first | exact .inl rfl | exact .inr rfl)⟩, trivial⟩⟩, rfl, rfl, by with_reducible exact wpSizeK7  ⟩

def kShapes7 : Unit → ClN := fun _ => ⟨[vv (.int .i64 7)], [], vv (.bool true), [], [], []⟩
noncomputable def FShapes7 : FnE := ⟨mkEv Tryd.prog tabs [cWrites, cShape7, cRef7, cSizeK7] 0, [0, 2, 3, 4, 5, 6, 7, 9, 31, 32], fun _ _ => .rounds 0⟩
theorem vcShapes7 (_ : Unit) : (wpE FShapes7 (Tryd.f5.body.getD .skip) ⟨Tryd.f5.ntmps, slotsOf 0 (kShapes7 ()).avs, (kShapes7 ()).mem⟩ (finK Tryd.prog Tryd.f5.results.toList (postN (kShapes7 ())))) = (true = true ∧ true = true ∧ Value.int IntKind.i64 (7 : Int) = Value.int IntKind.i64 (7 : Int) ∧ true = true ∧ Value.int IntKind.i64 (7 : Int) = Value.int IntKind.i64 (7 : Int) ∧ (0 : Int) ≤ (0 : Int) ∧ (0 : Int) < (4 : Int) ∧ (0 : Nat) < (4 : Nat) ∧ (0 : Int) ≤ (1 : Int) ∧ (1 : Int) < (4 : Int) ∧ (1 : Nat) < (4 : Nat) ∧ (0 : Int) ≤ (2 : Int) ∧ (2 : Int) < (4 : Int) ∧ (2 : Nat) < (4 : Nat) ∧ (0 : Int) ≤ (3 : Int) ∧ (3 : Int) < (4 : Int) ∧ (3 : Nat) < (4 : Nat) ∧ (0 : Nat) < (4 : Nat) ∧ (0 : Int) ≤ (0 : Int) ∧ (0 : Int) < (4 : Int) ∧ (0 : Nat) < (4 : Nat) ∧ (1 : Nat) < (4 : Nat) ∧ (0 : Int) ≤ (1 : Int) ∧ (1 : Int) < (4 : Int) ∧ (1 : Nat) < (4 : Nat) ∧ (2 : Nat) < (4 : Nat) ∧ (0 : Int) ≤ (2 : Int) ∧ (2 : Int) < (4 : Int) ∧ (2 : Nat) < (4 : Nat) ∧ (3 : Nat) < (4 : Nat) ∧ (0 : Int) ≤ (3 : Int) ∧ (3 : Int) < (4 : Int) ∧ (3 : Nat) < (4 : Nat) ∧ true = true ∧ Value.int IntKind.i64 (7 : Int) = Value.int IntKind.i64 (7 : Int) ∧ true = true ∧ true = true ∧ (82 : Nat) = (82 : Nat) ∧ (bif true then Value.bool (decide ((41 : Int) = (41 : Int))) else Value.bool false) = Value.bool true) := by kernel_rfl

set_option maxHeartbeats 8000000 in
theorem wpShapes7  : wpE FShapes7 (Tryd.f5.body.getD .skip) ⟨Tryd.f5.ntmps, slotsOf 0 (kShapes7 ()).avs, (kShapes7 ()).mem⟩ (finK Tryd.prog Tryd.f5.results.toList (postN (kShapes7 ()))) := by
  with_reducible refine Eq.mpr (vcShapes7 ()) ?_
  intros
  and_intros <;> first | omega | exact True.intro | kernel_rfl
set_option maxHeartbeats 8000000 in
theorem lwShapes7  {W : World} {vs : List Value} (hgl : ∀ g l, (g, l) ∈ (tabs : List (Nat × L)) → Lies (cxL W (tabs)) g 0 l) (hD : All2 (DA (cxL W (tabs)) be0) (kShapes7 ()).avs vs) : Calls Tryd.prog 5 vs.toArray W (fun e W' => e = .returned (.bool true) ∧ Upd (fun _ => False) W W') :=
  law_calls (F := FShapes7) (fn := Tryd.f5) (c := Tryd.f5.body.getD .skip) (k := kShapes7 ()) rfl (evOKs ⟨⟨cWrites_ok, by kernel_rfl, gl_sub (by first | exact .inl rfl | exact .inr rfl)⟩, ⟨⟨cShape7_ok, by kernel_rfl, gl_sub (by first | exact .inl rfl | exact .inr rfl)⟩, ⟨⟨cRef7_ok, by kernel_rfl, gl_sub (by first | exact .inl rfl | exact .inr rfl)⟩, ⟨⟨cSizeK7_ok, by kernel_rfl, gl_sub (by first | exact .inl rfl | exact .inr rfl)⟩, trivial⟩⟩⟩⟩) mixed rfl hgl Tryd.func5 (by kernel_rfl) rfl rfl hD (by kernel_rfl) (by with_reducible exact wpShapes7  )

def fcRL (d : Nat) : Option Bool := bif Nat.beq d 15 then some true else none
def kRefL : Int → ClN := fun x => ⟨[vv (.int .i64 x)], [], .t [.g [.many 4 (.i .i64 [0, 0, 0, 0])], .c (.v (.bool false))], [], [], [x < 1]⟩
noncomputable def FRefL : FnE := ⟨mkEv Tryd.prog [] [] 0 fcRL, [0, 2, 3, 4, 19], fun _ _ => .rounds 0⟩
def mRefL : List AV → (Nat → Option MB) → Option (List Nat × Int)
  | [.o (.c (.v (.int .i64 x)))], _ => some ([], x)
  | _, _ => none
noncomputable def cRefL : Spec := callG 18 Tryd.f18.ntmps mRefL kRefL
theorem vcRefL (x : Int) : (wpE FRefL (Tryd.f18.body.getD .skip) ⟨Tryd.f18.ntmps, slotsOf 0 (kRefL x).avs, (kRefL x).mem⟩ (finK Tryd.prog Tryd.f18.results.toList (postN (kRefL x)))) = (decide (x < (1 : Int)) = true ∧ true = true ∧ true = true ∧ (24 : Nat) = (24 : Nat) ∧ (4 : Nat) = (4 : Nat) ∧ [(0 : Int), (0 : Int), (0 : Int), (0 : Int)] = [(0 : Int), (0 : Int), (0 : Int), (0 : Int)] ∧ Value.bool false = Value.bool false) := by kernel_rfl

set_option maxHeartbeats 8000000 in
theorem wpRefL (x : Int) (h1 : x < 1) : wpE FRefL (Tryd.f18.body.getD .skip) ⟨Tryd.f18.ntmps, slotsOf 0 (kRefL x).avs, (kRefL x).mem⟩ (finK Tryd.prog Tryd.f18.results.toList (postN (kRefL x))) := by
  with_reducible refine Eq.mpr (vcRefL x) ?_
  have hd := decide_eq_true h1
  and_intros <;> first | omega | exact True.intro | exact hd | kernel_rfl
set_option maxHeartbeats 8000000 in
theorem cRefL_ok : SpecOK Tryd.prog cRefL := by
  refine callG_ok (c := Tryd.f18.body.getD .skip) mixed Tryd.func18 (by kernel_rfl) rfl (fun x hob => ?_)
  have hob : (x < 1) := hob
  have h1 := hob
  exact ⟨FRefL, rfl, evOKs trivial, rfl, rfl, by with_reducible exact wpRefL x h1⟩

def kSizeKL : Int → ClN := fun x => ⟨[vv (.int .i64 x)], [], vv (.int .i64 0), [], [], [x < 1]⟩
noncomputable def FSizeKL : FnE := ⟨mkEv Tryd.prog tabs [cShapeL] 0, [0, 2, 3, 4, 11], fun _ _ => .rounds 0⟩
def mSizeKL : List AV → (Nat → Option MB) → Option (List Nat × Int)
  | [.o (.c (.v (.int .i64 x)))], _ => some ([], x)
  | _, _ => none
noncomputable def cSizeKL : Spec := callG 19 Tryd.f19.ntmps mSizeKL kSizeKL (tabs)
theorem vcSizeKL (x : Int) : (wpE FSizeKL (Tryd.f19.body.getD .skip) ⟨Tryd.f19.ntmps, slotsOf 0 (kSizeKL x).avs, (kSizeKL x).mem⟩ (finK Tryd.prog Tryd.f19.results.toList (postN (kSizeKL x)))) = (true = true ∧ Value.int IntKind.i64 x = Value.int IntKind.i64 x ∧ x < (1 : Int) ∧ true = true ∧ true = true ∧ (14 : Nat) = (14 : Nat) ∧ Value.int IntKind.i64 (0 : Int) = Value.int IntKind.i64 (0 : Int)) := by kernel_rfl

set_option maxHeartbeats 8000000 in
theorem wpSizeKL (x : Int) (h1 : x < 1) : wpE FSizeKL (Tryd.f19.body.getD .skip) ⟨Tryd.f19.ntmps, slotsOf 0 (kSizeKL x).avs, (kSizeKL x).mem⟩ (finK Tryd.prog Tryd.f19.results.toList (postN (kSizeKL x))) := by
  with_reducible refine Eq.mpr (vcSizeKL x) ?_
  intros
  and_intros <;> first | omega | exact True.intro | kernel_rfl
set_option maxHeartbeats 8000000 in
theorem cSizeKL_ok : SpecOK Tryd.prog cSizeKL := by
  refine callG_ok (c := Tryd.f19.body.getD .skip) mixed Tryd.func19 (by kernel_rfl) rfl (fun x hob => ?_)
  have hob : (x < 1) := hob
  have h1 := hob
  exact ⟨FSizeKL, rfl, evOKs ⟨⟨cShapeL_ok, by kernel_rfl, gl_sub (by first | exact .inl rfl | exact .inr rfl)⟩, trivial⟩, rfl, rfl, by with_reducible exact wpSizeKL x h1⟩

def kShapesL : Int → ClN := fun x => ⟨[vv (.int .i64 x)], [], vv (.bool true), [], [], [x < 1]⟩
noncomputable def FShapesL : FnE := ⟨mkEv Tryd.prog tabs [cWrites, cShapeL, cRefL, cSizeKL] 0, [0, 2, 3, 4, 5, 6, 7, 9, 31, 32], fun _ _ => .rounds 0⟩
theorem vcShapesL (x : Int) : (wpE FShapesL (Tryd.f5.body.getD .skip) ⟨Tryd.f5.ntmps, slotsOf 0 (kShapesL x).avs, (kShapesL x).mem⟩ (finK Tryd.prog Tryd.f5.results.toList (postN (kShapesL x)))) = (true = true ∧ true = true ∧ Value.int IntKind.i64 x = Value.int IntKind.i64 x ∧ x < (1 : Int) ∧ true = true ∧ Value.int IntKind.i64 x = Value.int IntKind.i64 x ∧ x < (1 : Int) ∧ (0 : Int) ≤ (0 : Int) ∧ (0 : Int) < (4 : Int) ∧ (0 : Nat) < (4 : Nat) ∧ (0 : Int) ≤ (1 : Int) ∧ (1 : Int) < (4 : Int) ∧ (1 : Nat) < (4 : Nat) ∧ (0 : Int) ≤ (2 : Int) ∧ (2 : Int) < (4 : Int) ∧ (2 : Nat) < (4 : Nat) ∧ (0 : Int) ≤ (3 : Int) ∧ (3 : Int) < (4 : Int) ∧ (3 : Nat) < (4 : Nat) ∧ true = true ∧ Value.int IntKind.i64 x = Value.int IntKind.i64 x ∧ x < (1 : Int) ∧ true = true ∧ true = true ∧ (82 : Nat) = (82 : Nat) ∧ (bif true then Value.bool (decide ((0 : Int) = (0 : Int))) else Value.bool false) = Value.bool true) := by kernel_rfl

set_option maxHeartbeats 8000000 in
theorem wpShapesL (x : Int) (h1 : x < 1) : wpE FShapesL (Tryd.f5.body.getD .skip) ⟨Tryd.f5.ntmps, slotsOf 0 (kShapesL x).avs, (kShapesL x).mem⟩ (finK Tryd.prog Tryd.f5.results.toList (postN (kShapesL x))) := by
  with_reducible refine Eq.mpr (vcShapesL x) ?_
  intros
  and_intros <;> first | omega | exact True.intro | kernel_rfl
set_option maxHeartbeats 8000000 in
theorem lwShapesL (x : Int) (h1 : x < 1) {W : World} {vs : List Value} (hgl : ∀ g l, (g, l) ∈ (tabs : List (Nat × L)) → Lies (cxL W (tabs)) g 0 l) (hD : All2 (DA (cxL W (tabs)) be0) (kShapesL x).avs vs) : Calls Tryd.prog 5 vs.toArray W (fun e W' => e = .returned (.bool true) ∧ Upd (fun _ => False) W W') :=
  law_calls (F := FShapesL) (fn := Tryd.f5) (c := Tryd.f5.body.getD .skip) (k := kShapesL x) rfl (evOKs ⟨⟨cWrites_ok, by kernel_rfl, gl_sub (by first | exact .inl rfl | exact .inr rfl)⟩, ⟨⟨cShapeL_ok, by kernel_rfl, gl_sub (by first | exact .inl rfl | exact .inr rfl)⟩, ⟨⟨cRefL_ok, by kernel_rfl, gl_sub (by first | exact .inl rfl | exact .inr rfl)⟩, ⟨⟨cSizeKL_ok, by kernel_rfl, gl_sub (by first | exact .inl rfl | exact .inr rfl)⟩, trivial⟩⟩⟩⟩) mixed rfl hgl Tryd.func5 (by kernel_rfl) rfl rfl hD (by kernel_rfl) (by with_reducible exact wpShapesL x h1)

def fcRH (d : Nat) : Option Bool := bif Nat.beq d 15 then some false else bif Nat.beq d 18 then some true else none
def kRefH : Int → ClN := fun x => ⟨[vv (.int .i64 x)], [], .t [.g [.many 4 (.i .i64 [0, 0, 0, 0])], .c (.v (.bool false))], [], [], [7 < x]⟩
noncomputable def FRefH : FnE := ⟨mkEv Tryd.prog [] [] 0 fcRH, [0, 2, 3, 4, 19], fun _ _ => .rounds 0⟩
def mRefH : List AV → (Nat → Option MB) → Option (List Nat × Int)
  | [.o (.c (.v (.int .i64 x)))], _ => some ([], x)
  | _, _ => none
noncomputable def cRefH : Spec := callG 18 Tryd.f18.ntmps mRefH kRefH
theorem vcRefH (x : Int) : (wpE FRefH (Tryd.f18.body.getD .skip) ⟨Tryd.f18.ntmps, slotsOf 0 (kRefH x).avs, (kRefH x).mem⟩ (finK Tryd.prog Tryd.f18.results.toList (postN (kRefH x)))) = (decide (x < (1 : Int)) = false ∧ decide ((7 : Int) < x) = true ∧ true = true ∧ true = true ∧ (24 : Nat) = (24 : Nat) ∧ (4 : Nat) = (4 : Nat) ∧ [(0 : Int), (0 : Int), (0 : Int), (0 : Int)] = [(0 : Int), (0 : Int), (0 : Int), (0 : Int)] ∧ Value.bool false = Value.bool false) := by kernel_rfl

set_option maxHeartbeats 8000000 in
theorem wpRefH (x : Int) (h1 : 7 < x) : wpE FRefH (Tryd.f18.body.getD .skip) ⟨Tryd.f18.ntmps, slotsOf 0 (kRefH x).avs, (kRefH x).mem⟩ (finK Tryd.prog Tryd.f18.results.toList (postN (kRefH x))) := by
  with_reducible refine Eq.mpr (vcRefH x) ?_
  have hd := decide_eq_true h1
  have hd2 : decide (x < 1) = false := decide_eq_false (by omega)
  and_intros <;> first | omega | exact True.intro | exact hd | exact hd2 | kernel_rfl
set_option maxHeartbeats 8000000 in
theorem cRefH_ok : SpecOK Tryd.prog cRefH := by
  refine callG_ok (c := Tryd.f18.body.getD .skip) mixed Tryd.func18 (by kernel_rfl) rfl (fun x hob => ?_)
  have hob : (7 < x) := hob
  have h1 := hob
  exact ⟨FRefH, rfl, evOKs trivial, rfl, rfl, by with_reducible exact wpRefH x h1⟩

def kSizeKH : Int → ClN := fun x => ⟨[vv (.int .i64 x)], [], vv (.int .i64 0), [], [], [7 < x]⟩
noncomputable def FSizeKH : FnE := ⟨mkEv Tryd.prog tabs [cShapeH] 0, [0, 2, 3, 4, 11], fun _ _ => .rounds 0⟩
def mSizeKH : List AV → (Nat → Option MB) → Option (List Nat × Int)
  | [.o (.c (.v (.int .i64 x)))], _ => some ([], x)
  | _, _ => none
noncomputable def cSizeKH : Spec := callG 19 Tryd.f19.ntmps mSizeKH kSizeKH (tabs)
theorem vcSizeKH (x : Int) : (wpE FSizeKH (Tryd.f19.body.getD .skip) ⟨Tryd.f19.ntmps, slotsOf 0 (kSizeKH x).avs, (kSizeKH x).mem⟩ (finK Tryd.prog Tryd.f19.results.toList (postN (kSizeKH x)))) = (true = true ∧ Value.int IntKind.i64 x = Value.int IntKind.i64 x ∧ (7 : Int) < x ∧ true = true ∧ true = true ∧ (14 : Nat) = (14 : Nat) ∧ Value.int IntKind.i64 (0 : Int) = Value.int IntKind.i64 (0 : Int)) := by kernel_rfl

set_option maxHeartbeats 8000000 in
theorem wpSizeKH (x : Int) (h1 : 7 < x) : wpE FSizeKH (Tryd.f19.body.getD .skip) ⟨Tryd.f19.ntmps, slotsOf 0 (kSizeKH x).avs, (kSizeKH x).mem⟩ (finK Tryd.prog Tryd.f19.results.toList (postN (kSizeKH x))) := by
  with_reducible refine Eq.mpr (vcSizeKH x) ?_
  intros
  and_intros <;> first | omega | exact True.intro | kernel_rfl
set_option maxHeartbeats 8000000 in
theorem cSizeKH_ok : SpecOK Tryd.prog cSizeKH := by
  refine callG_ok (c := Tryd.f19.body.getD .skip) mixed Tryd.func19 (by kernel_rfl) rfl (fun x hob => ?_)
  have hob : (7 < x) := hob
  have h1 := hob
  exact ⟨FSizeKH, rfl, evOKs ⟨⟨cShapeH_ok, by kernel_rfl, gl_sub (by first | exact .inl rfl | exact .inr rfl)⟩, trivial⟩, rfl, rfl, by with_reducible exact wpSizeKH x h1⟩

def kShapesH : Int → ClN := fun x => ⟨[vv (.int .i64 x)], [], vv (.bool true), [], [], [7 < x]⟩
noncomputable def FShapesH : FnE := ⟨mkEv Tryd.prog tabs [cWrites, cShapeH, cRefH, cSizeKH] 0, [0, 2, 3, 4, 5, 6, 7, 9, 31, 32], fun _ _ => .rounds 0⟩
theorem vcShapesH (x : Int) : (wpE FShapesH (Tryd.f5.body.getD .skip) ⟨Tryd.f5.ntmps, slotsOf 0 (kShapesH x).avs, (kShapesH x).mem⟩ (finK Tryd.prog Tryd.f5.results.toList (postN (kShapesH x)))) = (true = true ∧ true = true ∧ Value.int IntKind.i64 x = Value.int IntKind.i64 x ∧ (7 : Int) < x ∧ true = true ∧ Value.int IntKind.i64 x = Value.int IntKind.i64 x ∧ (7 : Int) < x ∧ (0 : Int) ≤ (0 : Int) ∧ (0 : Int) < (4 : Int) ∧ (0 : Nat) < (4 : Nat) ∧ (0 : Int) ≤ (1 : Int) ∧ (1 : Int) < (4 : Int) ∧ (1 : Nat) < (4 : Nat) ∧ (0 : Int) ≤ (2 : Int) ∧ (2 : Int) < (4 : Int) ∧ (2 : Nat) < (4 : Nat) ∧ (0 : Int) ≤ (3 : Int) ∧ (3 : Int) < (4 : Int) ∧ (3 : Nat) < (4 : Nat) ∧ true = true ∧ Value.int IntKind.i64 x = Value.int IntKind.i64 x ∧ (7 : Int) < x ∧ true = true ∧ true = true ∧ (82 : Nat) = (82 : Nat) ∧ (bif true then Value.bool (decide ((0 : Int) = (0 : Int))) else Value.bool false) = Value.bool true) := by kernel_rfl

set_option maxHeartbeats 8000000 in
theorem wpShapesH (x : Int) (h1 : 7 < x) : wpE FShapesH (Tryd.f5.body.getD .skip) ⟨Tryd.f5.ntmps, slotsOf 0 (kShapesH x).avs, (kShapesH x).mem⟩ (finK Tryd.prog Tryd.f5.results.toList (postN (kShapesH x))) := by
  with_reducible refine Eq.mpr (vcShapesH x) ?_
  intros
  and_intros <;> first | omega | exact True.intro | kernel_rfl
set_option maxHeartbeats 8000000 in
theorem lwShapesH (x : Int) (h1 : 7 < x) {W : World} {vs : List Value} (hgl : ∀ g l, (g, l) ∈ (tabs : List (Nat × L)) → Lies (cxL W (tabs)) g 0 l) (hD : All2 (DA (cxL W (tabs)) be0) (kShapesH x).avs vs) : Calls Tryd.prog 5 vs.toArray W (fun e W' => e = .returned (.bool true) ∧ Upd (fun _ => False) W W') :=
  law_calls (F := FShapesH) (fn := Tryd.f5) (c := Tryd.f5.body.getD .skip) (k := kShapesH x) rfl (evOKs ⟨⟨cWrites_ok, by kernel_rfl, gl_sub (by first | exact .inl rfl | exact .inr rfl)⟩, ⟨⟨cShapeH_ok, by kernel_rfl, gl_sub (by first | exact .inl rfl | exact .inr rfl)⟩, ⟨⟨cRefH_ok, by kernel_rfl, gl_sub (by first | exact .inl rfl | exact .inr rfl)⟩, ⟨⟨cSizeKH_ok, by kernel_rfl, gl_sub (by first | exact .inl rfl | exact .inr rfl)⟩, trivial⟩⟩⟩⟩) mixed rfl hgl Tryd.func5 (by kernel_rfl) rfl rfl hD (by kernel_rfl) (by with_reducible exact wpShapesH x h1)

theorem frameShapes_any (x : Int) {W : World} (hgl : ∀ g l, (g, l) ∈ tabs → Lies (cxL W tabs) g 0 l) : Calls Tryd.prog 5 #[.int .i64 x] W (fun e W' => e = .returned (.bool true) ∧ Upd (fun _ => False) W W') := by
  by_cases h1 : x < 1
  · exact lwShapesL x h1 hgl (vs := [_]) ⟨da_int, trivial⟩
  by_cases h2 : 7 < x
  · exact lwShapesH x h2 hgl (vs := [_]) ⟨da_int, trivial⟩
  have h3 : x = 1 ∨ x = 2 ∨ x = 3 ∨ x = 4 ∨ x = 5 ∨ x = 6 ∨ x = 7 := by omega
  rcases h3 with rfl | rfl | rfl | rfl | rfl | rfl | rfl
  · exact lwShapes1 hgl (vs := [_]) ⟨da_int, trivial⟩
  · exact lwShapes2 hgl (vs := [_]) ⟨da_int, trivial⟩
  · exact lwShapes3 hgl (vs := [_]) ⟨da_int, trivial⟩
  · exact lwShapes4 hgl (vs := [_]) ⟨da_int, trivial⟩
  · exact lwShapes5 hgl (vs := [_]) ⟨da_int, trivial⟩
  · exact lwShapes6 hgl (vs := [_]) ⟨da_int, trivial⟩
  · exact lwShapes7 hgl (vs := [_]) ⟨da_int, trivial⟩
end Go.Proofs.YtcbnbhadanldpabDoor
