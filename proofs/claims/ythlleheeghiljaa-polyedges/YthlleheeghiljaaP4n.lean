/-
  poly: what the laws know.
-/
import Derived.Test.YthlleheeghiljaaP4m
namespace Go.Proofs.Ythlleheeghiljaa
open Go.RowKit
set_option maxRecDepth 100000

def fcPK (d : Nat) : Option Bool := bif Nat.beq d 11 || Nat.beq d 15 then some true else none
def kPKnown : Unit → ClN := fun _ => ⟨[], [], vv (.bool true), [], [], []⟩
noncomputable def FPKnown : FnE := ⟨mkEv Try.prog [] [cSum] 0 fcPK, [0, 1, 2], fun _ _ => .rounds 0⟩
def mPKnown : List AV → (Nat → Option MB) → Option (List Nat × Unit)
  | [], _ => some ([], ())
  | _, _ => none
noncomputable def cPKnown : Spec := callG 15 Try.f15.ntmps mPKnown kPKnown
theorem vcPKnown (_ : Unit) : (wpE FPKnown (Try.f15.body.getD .skip) ⟨Try.f15.ntmps, slotsOf 0 (kPKnown ()).avs, (kPKnown ()).mem⟩ (finK Try.prog Try.f15.results.toList (postN (kPKnown ())))) = (true = true ∧ (32 : Nat) = (32 : Nat) ∧ [(2 : Int), (0 : Int), (0 : Int), (0 : Int), (0 : Int), (0 : Int), (0 : Int), (0 : Int), (0 : Int), (0 : Int), (0 : Int), (0 : Int), (0 : Int), (0 : Int), (0 : Int), (0 : Int), (7 : Int), (0 : Int), (0 : Int), (0 : Int), (0 : Int), (0 : Int), (0 : Int), (0 : Int), (0 : Int), (0 : Int), (0 : Int), (0 : Int), (0 : Int), (0 : Int), (0 : Int), (9 : Int)] = [(2 : Int), (0 : Int), (0 : Int), (0 : Int), (0 : Int), (0 : Int), (0 : Int), (0 : Int), (0 : Int), (0 : Int), (0 : Int), (0 : Int), (0 : Int), (0 : Int), (0 : Int), (0 : Int), (7 : Int), (0 : Int), (0 : Int), (0 : Int), (0 : Int), (0 : Int), (0 : Int), (0 : Int), (0 : Int), (0 : Int), (0 : Int), (0 : Int), (0 : Int), (0 : Int), (0 : Int), (9 : Int)] ∧ true = true ∧ [[(3 : Int)]] = [[(3 : Int)]] ∧ (1 : Nat) = (1 : Nat) ∧ (1 : Nat) = (1 : Nat) ∧ (32 : Nat) = (32 : Nat) ∧ (1 : Nat) ≤ (140737488355328 : Nat) ∧ true = true ∧ (32 : Nat) = (32 : Nat) ∧ [(2 : Int), (0 : Int), (0 : Int), (0 : Int), (0 : Int), (0 : Int), (0 : Int), (0 : Int), (0 : Int), (0 : Int), (0 : Int), (0 : Int), (0 : Int), (0 : Int), (0 : Int), (0 : Int), (7 : Int), (0 : Int), (0 : Int), (0 : Int), (0 : Int), (0 : Int), (0 : Int), (0 : Int), (0 : Int), (0 : Int), (0 : Int), (0 : Int), (0 : Int), (0 : Int), (0 : Int), (9 : Int)] = [(2 : Int), (0 : Int), (0 : Int), (0 : Int), (0 : Int), (0 : Int), (0 : Int), (0 : Int), (0 : Int), (0 : Int), (0 : Int), (0 : Int), (0 : Int), (0 : Int), (0 : Int), (0 : Int), (7 : Int), (0 : Int), (0 : Int), (0 : Int), (0 : Int), (0 : Int), (0 : Int), (0 : Int), (0 : Int), (0 : Int), (0 : Int), (0 : Int), (0 : Int), (0 : Int), (0 : Int), (9 : Int)] ∧ true = true ∧ nilSS = [] ∧ (32 : Nat) = (32 : Nat) ∧ (0 : Nat) ≤ (140737488355328 : Nat) ∧ decide (sumL [(2 : Int), (0 : Int), (0 : Int), (0 : Int), (0 : Int), (0 : Int), (0 : Int), (0 : Int), (0 : Int), (0 : Int), (0 : Int), (0 : Int), (0 : Int), (0 : Int), (0 : Int), (0 : Int), (7 : Int), (0 : Int), (0 : Int), (0 : Int), (0 : Int), (0 : Int), (0 : Int), (0 : Int), (0 : Int), (0 : Int), (0 : Int), (0 : Int), (0 : Int), (0 : Int), (0 : Int), (9 : Int)] (List.flatten []) = [(7 : Int), (0 : Int), (0 : Int), (0 : Int), (0 : Int), (0 : Int), (0 : Int), (0 : Int), (0 : Int), (0 : Int), (0 : Int), (0 : Int), (0 : Int), (0 : Int), (0 : Int), (9 : Int)]) = true ∧ decide (sumL [(2 : Int), (0 : Int), (0 : Int), (0 : Int), (0 : Int), (0 : Int), (0 : Int), (0 : Int), (0 : Int), (0 : Int), (0 : Int), (0 : Int), (0 : Int), (0 : Int), (0 : Int), (0 : Int), (7 : Int), (0 : Int), (0 : Int), (0 : Int), (0 : Int), (0 : Int), (0 : Int), (0 : Int), (0 : Int), (0 : Int), (0 : Int), (0 : Int), (0 : Int), (0 : Int), (0 : Int), (9 : Int)] (List.flatten [[(3 : Int)]]) = [(13 : Int), (2 : Int), (0 : Int), (0 : Int), (0 : Int), (0 : Int), (0 : Int), (0 : Int), (0 : Int), (0 : Int), (0 : Int), (0 : Int), (0 : Int), (0 : Int), (0 : Int), (9 : Int)]) = true ∧ true = true ∧ true = true ∧ (17 : Nat) = (17 : Nat) ∧ (bif true then Value.bool true else Value.bool false) = Value.bool true) := by kernel_rfl

set_option maxHeartbeats 8000000 in
theorem wpPKnown  : wpE FPKnown (Try.f15.body.getD .skip) ⟨Try.f15.ntmps, slotsOf 0 (kPKnown ()).avs, (kPKnown ()).mem⟩ (finK Try.prog Try.f15.results.toList (postN (kPKnown ()))) := by
  with_reducible refine Eq.mpr (vcPKnown ()) ?_
  and_intros <;> first | omega | exact True.intro | rfl | kernel_rfl
set_option maxHeartbeats 8000000 in
theorem cPKnown_ok : SpecOK Try.prog cPKnown := by
  refine callG_ok (c := Try.f15.body.getD .skip) mixed Try.func15 (by kernel_rfl) rfl (fun x hob => ?_)
  exact ⟨FPKnown, rfl, evOKs ⟨.inl ⟨cSum_ok, by kernel_rfl, gl_nil rfl⟩, trivial⟩, rfl, rfl, by with_reducible exact wpPKnown  ⟩
end Go.Proofs.Ythlleheeghiljaa
