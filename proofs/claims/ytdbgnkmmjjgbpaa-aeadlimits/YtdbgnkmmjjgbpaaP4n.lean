/-
  poly: Sum; what the laws know.
-/
import Derived.Test.YtdbgnkmmjjgbpaaP3n
namespace Go.Proofs.Ytdbgnkmmjjgbpaa
open Go.RowKit
set_option maxRecDepth 100000

/-- The tag of all parts' bytes. -/
def sumS (k : List Int) (s : List Int) : List Int := tagL ((k.drop 16).take 16) (s.getD 0 0) (s.getD 1 0) (s.getD 2 0) (s.getD 3 0) (s.getD 4 0)
def sumL (k t : List Int) : List Int := sumS k (all5 [0, 0, 0, 0, 0] (digL (facL k) 0) t)
def kSum : (List Int) × (List (List Int)) → ClN := fun (k, ls) => ⟨[.o (.g [.many 32 (.i .u8 k)]), .o (.c (.rss ls))], [], .o (.g [.many 16 (.i .u8 (sumL k ls.flatten))]), [], [], [k.length = 32, ls.length ≤ 140737488355328]⟩
noncomputable def FSum : FnE := ⟨mkEv Try.prog [] [cFactor, cInBn, cTag] 0, [0, 1, 2, 4, 5, 6], fun _ _ => .rounds 0⟩
def mSum : List AV → (Nat → Option MB) → Option (List Nat × ((List Int) × (List (List Int))))
  | [.o (.g [.many 32 (.i .u8 k)]), .o (.c x)], lk => match slS lk x with
    | some ls => some ([], k, ls)
    | none => none
  | _, _ => none
noncomputable def cSum : Spec := callG 20 Try.f20.ntmps mSum kSum
theorem vcSum (k : List Int) (ls : List (List Int)) : (wpE FSum (Try.f20.body.getD .skip) ⟨Try.f20.ntmps, slotsOf 0 (kSum (k, ls)).avs, (kSum (k, ls)).mem⟩ (finK Try.prog Try.f20.results.toList (postN (kSum (k, ls))))) = (let x1 := [bits BinOp.and IntKind.u64 (w8 (facL k)) (67108863 : Int), bits BinOp.and IntKind.u64 (sShr IntKind.u64 (w8 (facL k)) (26 : Int)) (67108863 : Int), bits BinOp.and IntKind.u64 (bits BinOp.or IntKind.u64 (sShr IntKind.u64 (w8 (facL k)) (52 : Int)) (sShl IntKind.u64 (w8 (List.drop (8 : Nat) (facL k))) (12 : Int))) (67108863 : Int), bits BinOp.and IntKind.u64 (sShr IntKind.u64 (w8 (List.drop (8 : Nat) (facL k))) (14 : Int)) (67108863 : Int), bits BinOp.or IntKind.u64 (sShr IntKind.u64 (w8 (List.drop (8 : Nat) (facL k))) (40 : Int)) (0 : Int)]; let x2 := all5 [(0 : Int), (0 : Int), (0 : Int), (0 : Int), (0 : Int)] x1 (List.flatten ls); let x3 := List.getD x2 (0 : Nat) (0 : Int); let x4 := List.getD x2 (1 : Nat) (0 : Int); let x5 := List.getD x2 (2 : Nat) (0 : Int); let x6 := List.getD x2 (3 : Nat) (0 : Int); let x7 := List.getD x2 (4 : Nat) (0 : Int); let x8 := List.take (16 : Nat) (List.drop (16 : Nat) k); true = true ∧ (32 : Nat) = (32 : Nat) ∧ k = k ∧ List.length k = (32 : Nat) ∧ true = true ∧ true = true ∧ ls = ls ∧ (34 : Nat) = (34 : Nat) ∧ getL [(3 : Nat), Nat.add (Nat.add (2 : Nat) (0 : Nat)) (0 : Nat)] (0 : Nat) = some (3 : Nat) ∧ (0 : Nat) = (0 : Nat) ∧ getL [(3 : Nat), Nat.add (Nat.add (2 : Nat) (0 : Nat)) (0 : Nat)] (1 : Nat) = some (Nat.add (Nat.add (2 : Nat) (0 : Nat)) (0 : Nat)) ∧ (0 : Nat) = (0 : Nat) ∧ (67 : Nat) = (67 : Nat) ∧ (5 : Nat) = (5 : Nat) ∧ List.replicate (5 : Nat) (0 : Int) = [(0 : Int), (0 : Int), (0 : Int), (0 : Int), (0 : Int)] ∧ (67 : Nat) = (67 : Nat) ∧ (5 : Nat) = (5 : Nat) ∧ digL (facL k) (0 : Int) = x1 ∧ List.length ls ≤ (140737488355328 : Nat) ∧ (0 : Int) ≤ (16 : Int) ∧ (16 : Nat) ≤ (32 : Nat) ∧ (32 : Nat) ≤ (9223372036854775807 : Nat) ∧ true = true ∧ (5 : Nat) = (5 : Nat) ∧ ex5 x2 = [x3, x4, x5, x6, x7] ∧ true = true ∧ (16 : Nat) = (16 : Nat) ∧ x8 = x8 ∧ (32 : Nat) ≤ (32 : Nat) ∧ (16 : Nat) ≤ (16 : Nat) ∧ List.length x8 = (16 : Nat) ∧ true = true ∧ true = true ∧ (15 : Nat) = (15 : Nat) ∧ (16 : Nat) = (16 : Nat) ∧ tagL x8 x3 x4 x5 x6 x7 = sumL k (List.flatten ls)) := by kernel_rfl

set_option maxHeartbeats 8000000 in
theorem wpSum (k : List Int) (ls : List (List Int)) (h1 : k.length = 32) (h2 : ls.length ≤ 140737488355328) : wpE FSum (Try.f20.body.getD .skip) ⟨Try.f20.ntmps, slotsOf 0 (kSum (k, ls)).avs, (kSum (k, ls)).mem⟩ (finK Try.prog Try.f20.results.toList (postN (kSum (k, ls)))) := by
  with_reducible refine Eq.mpr (vcSum k ls) ?_
  intro x1 x2 x3 x4 x5 x6 x7 x8
  have l8 : x8.length = 16 := by show (List.take 16 (List.drop 16 k)).length = 16; rw [List.length_take, List.length_drop, h1]; rfl
  have e1 : digL (facL k) 0 = x1 := by kernel_rfl
  have e9 : tagL x8 x3 x4 x5 x6 x7 = sumL k ls.flatten := by unfold sumL; rw [e1]; rfl
  clear_value x1
  and_intros <;> first | omega | exact True.intro | exact e1 | exact e9 | exact l8 | rfl
set_option maxHeartbeats 8000000 in
theorem cSum_ok : SpecOK Try.prog cSum := by
  refine callG_ok (c := Try.f20.body.getD .skip) mixed Try.func20 (by kernel_rfl) rfl (fun x hob => ?_)
  obtain ⟨k, ls⟩ := x
  have hob : (k.length = 32) ∧ (ls.length ≤ 140737488355328) := hob
  obtain ⟨h1, h2⟩ := hob
  exact ⟨FSum, rfl, evOKs ⟨.inl ⟨cFactor_ok, by kernel_rfl, gl_nil rfl⟩, ⟨.inl ⟨cInBn_ok, by kernel_rfl, gl_nil rfl⟩, ⟨.inl ⟨cTag_ok, by kernel_rfl, gl_nil rfl⟩, trivial⟩⟩⟩, rfl, rfl, by with_reducible exact wpSum k ls h1 h2⟩

def fcPK (d : Nat) : Option Bool := bif Nat.beq d 11 || Nat.beq d 15 then some true else none
def kPKnown : Unit → ClN := fun _ => ⟨[], [], vv (.bool true), [], [], []⟩
noncomputable def FPKnown : FnE := ⟨mkEv Try.prog [] [cSum] 0 fcPK, [0, 1, 2], fun _ _ => .rounds 0⟩
def mPKnown : List AV → (Nat → Option MB) → Option (List Nat × Unit)
  | [], _ => some ([], ())
  | _, _ => none
noncomputable def cPKnown : Spec := callG 19 Try.f19.ntmps mPKnown kPKnown
theorem vcPKnown (_ : Unit) : (wpE FPKnown (Try.f19.body.getD .skip) ⟨Try.f19.ntmps, slotsOf 0 (kPKnown ()).avs, (kPKnown ()).mem⟩ (finK Try.prog Try.f19.results.toList (postN (kPKnown ())))) = (true = true ∧ (32 : Nat) = (32 : Nat) ∧ [(2 : Int), (0 : Int), (0 : Int), (0 : Int), (0 : Int), (0 : Int), (0 : Int), (0 : Int), (0 : Int), (0 : Int), (0 : Int), (0 : Int), (0 : Int), (0 : Int), (0 : Int), (0 : Int), (7 : Int), (0 : Int), (0 : Int), (0 : Int), (0 : Int), (0 : Int), (0 : Int), (0 : Int), (0 : Int), (0 : Int), (0 : Int), (0 : Int), (0 : Int), (0 : Int), (0 : Int), (9 : Int)] = [(2 : Int), (0 : Int), (0 : Int), (0 : Int), (0 : Int), (0 : Int), (0 : Int), (0 : Int), (0 : Int), (0 : Int), (0 : Int), (0 : Int), (0 : Int), (0 : Int), (0 : Int), (0 : Int), (7 : Int), (0 : Int), (0 : Int), (0 : Int), (0 : Int), (0 : Int), (0 : Int), (0 : Int), (0 : Int), (0 : Int), (0 : Int), (0 : Int), (0 : Int), (0 : Int), (0 : Int), (9 : Int)] ∧ true = true ∧ [[(3 : Int)]] = [[(3 : Int)]] ∧ (1 : Nat) = (1 : Nat) ∧ (1 : Nat) = (1 : Nat) ∧ (32 : Nat) = (32 : Nat) ∧ (1 : Nat) ≤ (140737488355328 : Nat) ∧ true = true ∧ (32 : Nat) = (32 : Nat) ∧ [(2 : Int), (0 : Int), (0 : Int), (0 : Int), (0 : Int), (0 : Int), (0 : Int), (0 : Int), (0 : Int), (0 : Int), (0 : Int), (0 : Int), (0 : Int), (0 : Int), (0 : Int), (0 : Int), (7 : Int), (0 : Int), (0 : Int), (0 : Int), (0 : Int), (0 : Int), (0 : Int), (0 : Int), (0 : Int), (0 : Int), (0 : Int), (0 : Int), (0 : Int), (0 : Int), (0 : Int), (9 : Int)] = [(2 : Int), (0 : Int), (0 : Int), (0 : Int), (0 : Int), (0 : Int), (0 : Int), (0 : Int), (0 : Int), (0 : Int), (0 : Int), (0 : Int), (0 : Int), (0 : Int), (0 : Int), (0 : Int), (7 : Int), (0 : Int), (0 : Int), (0 : Int), (0 : Int), (0 : Int), (0 : Int), (0 : Int), (0 : Int), (0 : Int), (0 : Int), (0 : Int), (0 : Int), (0 : Int), (0 : Int), (9 : Int)] ∧ true = true ∧ nilSS = [] ∧ (32 : Nat) = (32 : Nat) ∧ (0 : Nat) ≤ (140737488355328 : Nat) ∧ decide (sumL [(2 : Int), (0 : Int), (0 : Int), (0 : Int), (0 : Int), (0 : Int), (0 : Int), (0 : Int), (0 : Int), (0 : Int), (0 : Int), (0 : Int), (0 : Int), (0 : Int), (0 : Int), (0 : Int), (7 : Int), (0 : Int), (0 : Int), (0 : Int), (0 : Int), (0 : Int), (0 : Int), (0 : Int), (0 : Int), (0 : Int), (0 : Int), (0 : Int), (0 : Int), (0 : Int), (0 : Int), (9 : Int)] (List.flatten []) = [(7 : Int), (0 : Int), (0 : Int), (0 : Int), (0 : Int), (0 : Int), (0 : Int), (0 : Int), (0 : Int), (0 : Int), (0 : Int), (0 : Int), (0 : Int), (0 : Int), (0 : Int), (9 : Int)]) = true ∧ decide (sumL [(2 : Int), (0 : Int), (0 : Int), (0 : Int), (0 : Int), (0 : Int), (0 : Int), (0 : Int), (0 : Int), (0 : Int), (0 : Int), (0 : Int), (0 : Int), (0 : Int), (0 : Int), (0 : Int), (7 : Int), (0 : Int), (0 : Int), (0 : Int), (0 : Int), (0 : Int), (0 : Int), (0 : Int), (0 : Int), (0 : Int), (0 : Int), (0 : Int), (0 : Int), (0 : Int), (0 : Int), (9 : Int)] (List.flatten [[(3 : Int)]]) = [(13 : Int), (2 : Int), (0 : Int), (0 : Int), (0 : Int), (0 : Int), (0 : Int), (0 : Int), (0 : Int), (0 : Int), (0 : Int), (0 : Int), (0 : Int), (0 : Int), (0 : Int), (9 : Int)]) = true ∧ true = true ∧ true = true ∧ (17 : Nat) = (17 : Nat) ∧ (bif true then Value.bool true else Value.bool false) = Value.bool true) := by kernel_rfl

set_option maxHeartbeats 8000000 in
theorem wpPKnown  : wpE FPKnown (Try.f19.body.getD .skip) ⟨Try.f19.ntmps, slotsOf 0 (kPKnown ()).avs, (kPKnown ()).mem⟩ (finK Try.prog Try.f19.results.toList (postN (kPKnown ()))) := by
  with_reducible refine Eq.mpr (vcPKnown ()) ?_
  and_intros <;> first | omega | exact True.intro | rfl | kernel_rfl
set_option maxHeartbeats 8000000 in
theorem cPKnown_ok : SpecOK Try.prog cPKnown := by
  refine callG_ok (c := Try.f19.body.getD .skip) mixed Try.func19 (by kernel_rfl) rfl (fun x hob => ?_)
  exact ⟨FPKnown, rfl, evOKs ⟨.inl ⟨cSum_ok, by kernel_rfl, gl_nil rfl⟩, trivial⟩, rfl, rfl, by with_reducible exact wpPKnown  ⟩
end Go.Proofs.Ytdbgnkmmjjgbpaa
