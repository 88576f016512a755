/-
  poly: numbers of five digits.
-/
/-
  poly: blocks read, the factor.
-/
import Derived.Test.YthlleheeghiljaaMx
namespace Go.Proofs.Ythlleheeghiljaa
open Go.RowKit
set_option maxRecDepth 100000

def w6 (x : Int) : Int := IntKind.wrap .u64 x
def m26 (x : Int) : Int := bits .and .u64 x 67108863
def s26 (x : Int) : Int := sShr .u64 x 26
def upL (a b c d e : Int) : List Int :=
  [w6 (m26 (w6 (a + 0)) + w6 (5 * s26 (w6 (e + s26 (w6 (d + s26 (w6 (c + s26 (w6 (b + s26 (w6 (a + 0)))))))))))), m26 (w6 (b + s26 (w6 (a + 0)))), m26 (w6 (c + s26 (w6 (b + s26 (w6 (a + 0)))))), m26 (w6 (d + s26 (w6 (c + s26 (w6 (b + s26 (w6 (a + 0)))))))), m26 (w6 (e + s26 (w6 (d + s26 (w6 (c + s26 (w6 (b + s26 (w6 (a + 0)))))))))) ]
def kUp : Int × Int × Int × Int × Int → ClN := fun (a, b, c, d, e) => ⟨[.o (.g [.many 5 (.i .u64 [a, b, c, d, e])])], [], .o (.g [.many 5 (.i .u64 (upL a b c d e))]), [], [], []⟩
noncomputable def FUp : FnE := ⟨mkEv Try.prog [] [] 0, [0, 1, 2, 3, 4, 5, 6], fun _ _ => .rounds 6⟩
def mUp : List AV → (Nat → Option MB) → Option (List Nat × (Int × Int × Int × Int × Int))
  | [.o (.g [.many 5 (.i .u64 [a, b, c, d, e])])], _ => some ([], (a, b, c, d, e))
  | _, _ => none
noncomputable def cUp : Spec := callG 46 Try.f46.ntmps mUp kUp
theorem vcUp (a b c d e : Int) : (wpE FUp (Try.f46.body.getD .skip) ⟨Try.f46.ntmps, slotsOf 0 (kUp (a, b, c, d, e)).avs, (kUp (a, b, c, d, e)).mem⟩ (finK Try.prog Try.f46.results.toList (postN (kUp (a, b, c, d, e))))) = (let x1 := IntKind.wrap IntKind.u64 (a + (0 : Int)); let x2 := IntKind.wrap IntKind.u64 (b + sShr IntKind.u64 x1 (26 : Int)); let x3 := IntKind.wrap IntKind.u64 (c + sShr IntKind.u64 x2 (26 : Int)); let x4 := IntKind.wrap IntKind.u64 (d + sShr IntKind.u64 x3 (26 : Int)); let x5 := IntKind.wrap IntKind.u64 (e + sShr IntKind.u64 x4 (26 : Int)); (0 : Int) ≤ (0 : Int) ∧ (0 : Int) < (5 : Int) ∧ (0 : Nat) < (5 : Nat) ∧ (0 : Int) ≤ (0 : Int) ∧ (0 : Int) < (5 : Int) ∧ (0 : Nat) < (5 : Nat) ∧ (0 : Int) ≤ (0 : Int) ∧ (0 : Int) < (5 : Int) ∧ (0 : Nat) < (5 : Nat) ∧ (0 : Int) ≤ (26 : Int) ∧ (0 : Int) ≤ (0 : Int) ∧ (0 : Int) < (5 : Int) ∧ (0 : Nat) < (5 : Nat) ∧ (0 : Int) ≤ (0 : Int) ∧ (0 : Int) < (5 : Int) ∧ (0 : Nat) < (5 : Nat) ∧ (0 : Int) ≤ (1 : Int) ∧ (1 : Int) < (5 : Int) ∧ (1 : Nat) < (5 : Nat) ∧ (0 : Int) ≤ (1 : Int) ∧ (1 : Int) < (5 : Int) ∧ (1 : Nat) < (5 : Nat) ∧ (0 : Int) ≤ (1 : Int) ∧ (1 : Int) < (5 : Int) ∧ (1 : Nat) < (5 : Nat) ∧ (0 : Int) ≤ (26 : Int) ∧ (0 : Int) ≤ (1 : Int) ∧ (1 : Int) < (5 : Int) ∧ (1 : Nat) < (5 : Nat) ∧ (0 : Int) ≤ (1 : Int) ∧ (1 : Int) < (5 : Int) ∧ (1 : Nat) < (5 : Nat) ∧ (0 : Int) ≤ (2 : Int) ∧ (2 : Int) < (5 : Int) ∧ (2 : Nat) < (5 : Nat) ∧ (0 : Int) ≤ (2 : Int) ∧ (2 : Int) < (5 : Int) ∧ (2 : Nat) < (5 : Nat) ∧ (0 : Int) ≤ (2 : Int) ∧ (2 : Int) < (5 : Int) ∧ (2 : Nat) < (5 : Nat) ∧ (0 : Int) ≤ (26 : Int) ∧ (0 : Int) ≤ (2 : Int) ∧ (2 : Int) < (5 : Int) ∧ (2 : Nat) < (5 : Nat) ∧ (0 : Int) ≤ (2 : Int) ∧ (2 : Int) < (5 : Int) ∧ (2 : Nat) < (5 : Nat) ∧ (0 : Int) ≤ (3 : Int) ∧ (3 : Int) < (5 : Int) ∧ (3 : Nat) < (5 : Nat) ∧ (0 : Int) ≤ (3 : Int) ∧ (3 : Int) < (5 : Int) ∧ (3 : Nat) < (5 : Nat) ∧ (0 : Int) ≤ (3 : Int) ∧ (3 : Int) < (5 : Int) ∧ (3 : Nat) < (5 : Nat) ∧ (0 : Int) ≤ (26 : Int) ∧ (0 : Int) ≤ (3 : Int) ∧ (3 : Int) < (5 : Int) ∧ (3 : Nat) < (5 : Nat) ∧ (0 : Int) ≤ (3 : Int) ∧ (3 : Int) < (5 : Int) ∧ (3 : Nat) < (5 : Nat) ∧ (0 : Int) ≤ (4 : Int) ∧ (4 : Int) < (5 : Int) ∧ (4 : Nat) < (5 : Nat) ∧ (0 : Int) ≤ (4 : Int) ∧ (4 : Int) < (5 : Int) ∧ (4 : Nat) < (5 : Nat) ∧ (0 : Int) ≤ (4 : Int) ∧ (4 : Int) < (5 : Int) ∧ (4 : Nat) < (5 : Nat) ∧ (0 : Int) ≤ (26 : Int) ∧ (0 : Int) ≤ (4 : Int) ∧ (4 : Int) < (5 : Int) ∧ (4 : Nat) < (5 : Nat) ∧ (0 : Int) ≤ (4 : Int) ∧ (4 : Int) < (5 : Int) ∧ (4 : Nat) < (5 : Nat) ∧ (0 : Int) ≤ (0 : Int) ∧ (0 : Int) < (5 : Int) ∧ (0 : Nat) < (5 : Nat) ∧ (0 : Int) ≤ (0 : Int) ∧ (0 : Int) < (5 : Int) ∧ (0 : Nat) < (5 : Nat) ∧ true = true ∧ true = true ∧ (31 : Nat) = (31 : Nat) ∧ (5 : Nat) = (5 : Nat) ∧ [IntKind.wrap IntKind.u64 (bits BinOp.and IntKind.u64 x1 (67108863 : Int) + IntKind.wrap IntKind.u64 ((5 : Int) * sShr IntKind.u64 x5 (26 : Int))), bits BinOp.and IntKind.u64 x2 (67108863 : Int), bits BinOp.and IntKind.u64 x3 (67108863 : Int), bits BinOp.and IntKind.u64 x4 (67108863 : Int), bits BinOp.and IntKind.u64 x5 (67108863 : Int)] = upL a b c d e) := by kernel_rfl

set_option maxHeartbeats 8000000 in
theorem wpUp (a b c d e : Int) : wpE FUp (Try.f46.body.getD .skip) ⟨Try.f46.ntmps, slotsOf 0 (kUp (a, b, c, d, e)).avs, (kUp (a, b, c, d, e)).mem⟩ (finK Try.prog Try.f46.results.toList (postN (kUp (a, b, c, d, e)))) := by
  with_reducible refine Eq.mpr (vcUp a b c d e) ?_
  intros
  and_intros <;> first | omega | exact True.intro | kernel_rfl
set_option maxHeartbeats 8000000 in
theorem cUp_ok : SpecOK Try.prog cUp := by
  refine callG_ok (c := Try.f46.body.getD .skip) mixed Try.func46 (by kernel_rfl) rfl (fun x hob => ?_)
  obtain ⟨a, b, c, d, e⟩ := x
  exact ⟨FUp, rfl, evOKs trivial, rfl, rfl, by with_reducible exact wpUp a b c d e ⟩

def kPlus : Int × Int × Int × Int × Int × Int × Int × Int × Int × Int → ClN := fun (a, b, c, d, e, p, q, r, s, t) => ⟨[.o (.g [.many 5 (.i .u64 [a, b, c, d, e])]), .o (.g [.many 5 (.i .u64 [p, q, r, s, t])])], [], .o (.g [.many 5 (.i .u64 [w6 (a + p), w6 (b + q), w6 (c + r), w6 (d + s), w6 (e + t)])]), [], [], []⟩
noncomputable def FPlus : FnE := ⟨mkEv Try.prog [] [] 0, [0, 1, 2, 3, 4, 5, 6, 7], fun _ _ => .rounds 6⟩
def mPlus : List AV → (Nat → Option MB) → Option (List Nat × (Int × Int × Int × Int × Int × Int × Int × Int × Int × Int))
  | [.o (.g [.many 5 (.i .u64 [a, b, c, d, e])]), .o (.g [.many 5 (.i .u64 [p, q, r, s, t])])], _ => some ([], (a, b, c, d, e, p, q, r, s, t))
  | _, _ => none
noncomputable def cPlus : Spec := callG 31 Try.f31.ntmps mPlus kPlus
theorem vcPlus (a b c d e p q r s t : Int) : (wpE FPlus (Try.f31.body.getD .skip) ⟨Try.f31.ntmps, slotsOf 0 (kPlus (a, b, c, d, e, p, q, r, s, t)).avs, (kPlus (a, b, c, d, e, p, q, r, s, t)).mem⟩ (finK Try.prog Try.f31.results.toList (postN (kPlus (a, b, c, d, e, p, q, r, s, t))))) = ((0 : Int) ≤ (0 : Int) ∧ (0 : Int) < (5 : Int) ∧ (0 : Nat) < (5 : Nat) ∧ (0 : Int) ≤ (0 : Int) ∧ (0 : Int) < (5 : Int) ∧ (0 : Nat) < (5 : Nat) ∧ (0 : Int) ≤ (0 : Int) ∧ (0 : Int) < (5 : Int) ∧ (0 : Nat) < (5 : Nat) ∧ (0 : Int) ≤ (1 : Int) ∧ (1 : Int) < (5 : Int) ∧ (1 : Nat) < (5 : Nat) ∧ (0 : Int) ≤ (1 : Int) ∧ (1 : Int) < (5 : Int) ∧ (1 : Nat) < (5 : Nat) ∧ (0 : Int) ≤ (1 : Int) ∧ (1 : Int) < (5 : Int) ∧ (1 : Nat) < (5 : Nat) ∧ (0 : Int) ≤ (2 : Int) ∧ (2 : Int) < (5 : Int) ∧ (2 : Nat) < (5 : Nat) ∧ (0 : Int) ≤ (2 : Int) ∧ (2 : Int) < (5 : Int) ∧ (2 : Nat) < (5 : Nat) ∧ (0 : Int) ≤ (2 : Int) ∧ (2 : Int) < (5 : Int) ∧ (2 : Nat) < (5 : Nat) ∧ (0 : Int) ≤ (3 : Int) ∧ (3 : Int) < (5 : Int) ∧ (3 : Nat) < (5 : Nat) ∧ (0 : Int) ≤ (3 : Int) ∧ (3 : Int) < (5 : Int) ∧ (3 : Nat) < (5 : Nat) ∧ (0 : Int) ≤ (3 : Int) ∧ (3 : Int) < (5 : Int) ∧ (3 : Nat) < (5 : Nat) ∧ (0 : Int) ≤ (4 : Int) ∧ (4 : Int) < (5 : Int) ∧ (4 : Nat) < (5 : Nat) ∧ (0 : Int) ≤ (4 : Int) ∧ (4 : Int) < (5 : Int) ∧ (4 : Nat) < (5 : Nat) ∧ (0 : Int) ≤ (4 : Int) ∧ (4 : Int) < (5 : Int) ∧ (4 : Nat) < (5 : Nat) ∧ true = true ∧ true = true ∧ (19 : Nat) = (19 : Nat) ∧ (5 : Nat) = (5 : Nat) ∧ [IntKind.wrap IntKind.u64 (a + p), IntKind.wrap IntKind.u64 (b + q), IntKind.wrap IntKind.u64 (c + r), IntKind.wrap IntKind.u64 (d + s), IntKind.wrap IntKind.u64 (e + t)] = [w6 (a + p), w6 (b + q), w6 (c + r), w6 (d + s), w6 (e + t)]) := by kernel_rfl

set_option maxHeartbeats 8000000 in
theorem wpPlus (a b c d e p q r s t : Int) : wpE FPlus (Try.f31.body.getD .skip) ⟨Try.f31.ntmps, slotsOf 0 (kPlus (a, b, c, d, e, p, q, r, s, t)).avs, (kPlus (a, b, c, d, e, p, q, r, s, t)).mem⟩ (finK Try.prog Try.f31.results.toList (postN (kPlus (a, b, c, d, e, p, q, r, s, t)))) := by
  with_reducible refine Eq.mpr (vcPlus a b c d e p q r s t) ?_
  intros
  and_intros <;> first | omega | exact True.intro | kernel_rfl
set_option maxHeartbeats 8000000 in
theorem cPlus_ok : SpecOK Try.prog cPlus := by
  refine callG_ok (c := Try.f31.body.getD .skip) mixed Try.func31 (by kernel_rfl) rfl (fun x hob => ?_)
  obtain ⟨a, b, c, d, e, p, q, r, s, t⟩ := x
  exact ⟨FPlus, rfl, evOKs trivial, rfl, rfl, by with_reducible exact wpPlus a b c d e p q r s t ⟩

def ml (x y : Int) : Int := w6 (x * y)
def m5 (x y : Int) : Int := w6 (w6 (5 * x) * y)
def sm (x0 x1 x2 x3 x4 : Int) : Int := w6 (w6 (w6 (w6 (w6 (0 + x0) + x1) + x2) + x3) + x4)
def timesL (a b c d e p q r s t : Int) : List Int := upL (sm (ml a p) (m5 b t) (m5 c s) (m5 d r) (m5 e q)) (sm (ml a q) (ml b p) (m5 c t) (m5 d s) (m5 e r)) (sm (ml a r) (ml b q) (ml c p) (m5 d t) (m5 e s)) (sm (ml a s) (ml b r) (ml c q) (ml d p) (m5 e t)) (sm (ml a t) (ml b s) (ml c r) (ml d q) (ml e p))
def kTimes : Int × Int × Int × Int × Int × Int × Int × Int × Int × Int → ClN := fun (a, b, c, d, e, p, q, r, s, t) => ⟨[.o (.g [.many 5 (.i .u64 [a, b, c, d, e])]), .o (.g [.many 5 (.i .u64 [p, q, r, s, t])])], [], .o (.g [.many 5 (.i .u64 (timesL a b c d e p q r s t))]), [], [], []⟩
noncomputable def FTimes : FnE := ⟨mkEv Try.prog [] [cUp] 0, [0, 1, 2, 3, 4, 5, 6, 7, 8, 9, 10, 11, 12, 15, 16, 17, 23], fun _ _ => .rounds 6⟩
def mTimes : List AV → (Nat → Option MB) → Option (List Nat × (Int × Int × Int × Int × Int × Int × Int × Int × Int × Int))
  | [.o (.g [.many 5 (.i .u64 [a, b, c, d, e])]), .o (.g [.many 5 (.i .u64 [p, q, r, s, t])])], _ => some ([], (a, b, c, d, e, p, q, r, s, t))
  | _, _ => none
noncomputable def cTimes : Spec := callG 33 Try.f33.ntmps mTimes kTimes
theorem vcTimes (a b c d e p q r s t : Int) : (wpE FTimes (Try.f33.body.getD .skip) ⟨Try.f33.ntmps, slotsOf 0 (kTimes (a, b, c, d, e, p, q, r, s, t)).avs, (kTimes (a, b, c, d, e, p, q, r, s, t)).mem⟩ (finK Try.prog Try.f33.results.toList (postN (kTimes (a, b, c, d, e, p, q, r, s, t))))) = (let x1 := IntKind.wrap IntKind.u64 ((5 : Int) * c); let x2 := IntKind.wrap IntKind.u64 ((5 : Int) * d); let x3 := IntKind.wrap IntKind.u64 ((5 : Int) * e); let x4 := IntKind.wrap IntKind.u64 (IntKind.wrap IntKind.u64 (IntKind.wrap IntKind.u64 (IntKind.wrap IntKind.u64 (IntKind.wrap IntKind.u64 ((0 : Int) + IntKind.wrap IntKind.u64 (a * p)) + IntKind.wrap IntKind.u64 (IntKind.wrap IntKind.u64 ((5 : Int) * b) * t)) + IntKind.wrap IntKind.u64 (x1 * s)) + IntKind.wrap IntKind.u64 (x2 * r)) + IntKind.wrap IntKind.u64 (x3 * q)); let x5 := IntKind.wrap IntKind.u64 (IntKind.wrap IntKind.u64 (IntKind.wrap IntKind.u64 (IntKind.wrap IntKind.u64 (IntKind.wrap IntKind.u64 ((0 : Int) + IntKind.wrap IntKind.u64 (a * q)) + IntKind.wrap IntKind.u64 (b * p)) + IntKind.wrap IntKind.u64 (x1 * t)) + IntKind.wrap IntKind.u64 (x2 * s)) + IntKind.wrap IntKind.u64 (x3 * r)); let x6 := IntKind.wrap IntKind.u64 (IntKind.wrap IntKind.u64 (IntKind.wrap IntKind.u64 (IntKind.wrap IntKind.u64 (IntKind.wrap IntKind.u64 ((0 : Int) + IntKind.wrap IntKind.u64 (a * r)) + IntKind.wrap IntKind.u64 (b * q)) + IntKind.wrap IntKind.u64 (c * p)) + IntKind.wrap IntKind.u64 (x2 * t)) + IntKind.wrap IntKind.u64 (x3 * s)); let x7 := IntKind.wrap IntKind.u64 (IntKind.wrap IntKind.u64 (IntKind.wrap IntKind.u64 (IntKind.wrap IntKind.u64 (IntKind.wrap IntKind.u64 ((0 : Int) + IntKind.wrap IntKind.u64 (a * s)) + IntKind.wrap IntKind.u64 (b * r)) + IntKind.wrap IntKind.u64 (c * q)) + IntKind.wrap IntKind.u64 (d * p)) + IntKind.wrap IntKind.u64 (x3 * t)); let x8 := IntKind.wrap IntKind.u64 (IntKind.wrap IntKind.u64 (IntKind.wrap IntKind.u64 (IntKind.wrap IntKind.u64 (IntKind.wrap IntKind.u64 ((0 : Int) + IntKind.wrap IntKind.u64 (a * t)) + IntKind.wrap IntKind.u64 (b * s)) + IntKind.wrap IntKind.u64 (c * r)) + IntKind.wrap IntKind.u64 (d * q)) + IntKind.wrap IntKind.u64 (e * p)); let x9 := [x4, x5, x6, x7, x8]; (0 : Int) ≤ (0 : Int) ∧ (0 : Int) < (5 : Int) ∧ (0 : Int) ≤ (0 : Int) ∧ (0 : Int) < (5 : Int) ∧ (0 : Int) ≤ (0 : Int) ∧ (0 : Int) < (5 : Int) ∧ (0 : Nat) < (5 : Nat) ∧ (0 : Int) ≤ (0 : Int) ∧ (0 : Int) < (5 : Int) ∧ (0 : Nat) < (5 : Nat) ∧ (0 : Int) ≤ (1 : Int) ∧ (1 : Int) < (5 : Int) ∧ (0 : Int) ≤ (1 : Int) ∧ (1 : Int) < (5 : Int) ∧ (1 : Nat) < (5 : Nat) ∧ (0 : Int) ≤ (1 : Int) ∧ (1 : Int) < (5 : Int) ∧ (1 : Nat) < (5 : Nat) ∧ (0 : Int) ≤ (2 : Int) ∧ (2 : Int) < (5 : Int) ∧ (0 : Int) ≤ (2 : Int) ∧ (2 : Int) < (5 : Int) ∧ (2 : Nat) < (5 : Nat) ∧ (0 : Int) ≤ (2 : Int) ∧ (2 : Int) < (5 : Int) ∧ (2 : Nat) < (5 : Nat) ∧ (0 : Int) ≤ (3 : Int) ∧ (3 : Int) < (5 : Int) ∧ (0 : Int) ≤ (3 : Int) ∧ (3 : Int) < (5 : Int) ∧ (3 : Nat) < (5 : Nat) ∧ (0 : Int) ≤ (3 : Int) ∧ (3 : Int) < (5 : Int) ∧ (3 : Nat) < (5 : Nat) ∧ (0 : Int) ≤ (4 : Int) ∧ (4 : Int) < (5 : Int) ∧ (0 : Int) ≤ (4 : Int) ∧ (4 : Int) < (5 : Int) ∧ (4 : Nat) < (5 : Nat) ∧ (0 : Int) ≤ (4 : Int) ∧ (4 : Int) < (5 : Int) ∧ (4 : Nat) < (5 : Nat) ∧ (0 : Int) ≤ (1 : Int) ∧ (1 : Int) < (5 : Int) ∧ (0 : Int) ≤ (0 : Int) ∧ (0 : Int) < (5 : Int) ∧ (0 : Int) ≤ (1 : Int) ∧ (1 : Int) < (5 : Int) ∧ (1 : Nat) < (5 : Nat) ∧ (0 : Int) ≤ (1 : Int) ∧ (1 : Int) < (5 : Int) ∧ (1 : Nat) < (5 : Nat) ∧ (0 : Int) ≤ (1 : Int) ∧ (1 : Int) < (5 : Int) ∧ (0 : Int) ≤ (2 : Int) ∧ (2 : Int) < (5 : Int) ∧ (2 : Nat) < (5 : Nat) ∧ (0 : Int) ≤ (2 : Int) ∧ (2 : Int) < (5 : Int) ∧ (2 : Nat) < (5 : Nat) ∧ (0 : Int) ≤ (2 : Int) ∧ (2 : Int) < (5 : Int) ∧ (0 : Int) ≤ (3 : Int) ∧ (3 : Int) < (5 : Int) ∧ (3 : Nat) < (5 : Nat) ∧ (0 : Int) ≤ (3 : Int) ∧ (3 : Int) < (5 : Int) ∧ (3 : Nat) < (5 : Nat) ∧ (0 : Int) ≤ (3 : Int) ∧ (3 : Int) < (5 : Int) ∧ (0 : Int) ≤ (4 : Int) ∧ (4 : Int) < (5 : Int) ∧ (4 : Nat) < (5 : Nat) ∧ (0 : Int) ≤ (4 : Int) ∧ (4 : Int) < (5 : Int) ∧ (4 : Nat) < (5 : Nat) ∧ (0 : Int) ≤ (4 : Int) ∧ (4 : Int) < (5 : Int) ∧ (0 : Int) ≤ (0 : Int) ∧ (0 : Int) < (5 : Int) ∧ (0 : Nat) < (5 : Nat) ∧ (0 : Int) ≤ (0 : Int) ∧ (0 : Int) < (5 : Int) ∧ (0 : Nat) < (5 : Nat) ∧ (0 : Int) ≤ (2 : Int) ∧ (2 : Int) < (5 : Int) ∧ (0 : Int) ≤ (0 : Int) ∧ (0 : Int) < (5 : Int) ∧ (0 : Int) ≤ (2 : Int) ∧ (2 : Int) < (5 : Int) ∧ (2 : Nat) < (5 : Nat) ∧ (0 : Int) ≤ (2 : Int) ∧ (2 : Int) < (5 : Int) ∧ (2 : Nat) < (5 : Nat) ∧ (0 : Int) ≤ (1 : Int) ∧ (1 : Int) < (5 : Int) ∧ (0 : Int) ≤ (3 : Int) ∧ (3 : Int) < (5 : Int) ∧ (3 : Nat) < (5 : Nat) ∧ (0 : Int) ≤ (3 : Int) ∧ (3 : Int) < (5 : Int) ∧ (3 : Nat) < (5 : Nat) ∧ (0 : Int) ≤ (2 : Int) ∧ (2 : Int) < (5 : Int) ∧ (0 : Int) ≤ (4 : Int) ∧ (4 : Int) < (5 : Int) ∧ (4 : Nat) < (5 : Nat) ∧ (0 : Int) ≤ (4 : Int) ∧ (4 : Int) < (5 : Int) ∧ (4 : Nat) < (5 : Nat) ∧ (0 : Int) ≤ (3 : Int) ∧ (3 : Int) < (5 : Int) ∧ (0 : Int) ≤ (0 : Int) ∧ (0 : Int) < (5 : Int) ∧ (0 : Nat) < (5 : Nat) ∧ (0 : Int) ≤ (0 : Int) ∧ (0 : Int) < (5 : Int) ∧ (0 : Nat) < (5 : Nat) ∧ (0 : Int) ≤ (4 : Int) ∧ (4 : Int) < (5 : Int) ∧ (0 : Int) ≤ (1 : Int) ∧ (1 : Int) < (5 : Int) ∧ (1 : Nat) < (5 : Nat) ∧ (0 : Int) ≤ (1 : Int) ∧ (1 : Int) < (5 : Int) ∧ (1 : Nat) < (5 : Nat) ∧ (0 : Int) ≤ (3 : Int) ∧ (3 : Int) < (5 : Int) ∧ (0 : Int) ≤ (0 : Int) ∧ (0 : Int) < (5 : Int) ∧ (0 : Int) ≤ (3 : Int) ∧ (3 : Int) < (5 : Int) ∧ (3 : Nat) < (5 : Nat) ∧ (0 : Int) ≤ (3 : Int) ∧ (3 : Int) < (5 : Int) ∧ (3 : Nat) < (5 : Nat) ∧ (0 : Int) ≤ (1 : Int) ∧ (1 : Int) < (5 : Int) ∧ (0 : Int) ≤ (4 : Int) ∧ (4 : Int) < (5 : Int) ∧ (4 : Nat) < (5 : Nat) ∧ (0 : Int) ≤ (4 : Int) ∧ (4 : Int) < (5 : Int) ∧ (4 : Nat) < (5 : Nat) ∧ (0 : Int) ≤ (2 : Int) ∧ (2 : Int) < (5 : Int) ∧ (0 : Int) ≤ (0 : Int) ∧ (0 : Int) < (5 : Int) ∧ (0 : Nat) < (5 : Nat) ∧ (0 : Int) ≤ (0 : Int) ∧ (0 : Int) < (5 : Int) ∧ (0 : Nat) < (5 : Nat) ∧ (0 : Int) ≤ (3 : Int) ∧ (3 : Int) < (5 : Int) ∧ (0 : Int) ≤ (1 : Int) ∧ (1 : Int) < (5 : Int) ∧ (1 : Nat) < (5 : Nat) ∧ (0 : Int) ≤ (1 : Int) ∧ (1 : Int) < (5 : Int) ∧ (1 : Nat) < (5 : Nat) ∧ (0 : Int) ≤ (4 : Int) ∧ (4 : Int) < (5 : Int) ∧ (0 : Int) ≤ (2 : Int) ∧ (2 : Int) < (5 : Int) ∧ (2 : Nat) < (5 : Nat) ∧ (0 : Int) ≤ (2 : Int) ∧ (2 : Int) < (5 : Int) ∧ (2 : Nat) < (5 : Nat) ∧ (0 : Int) ≤ (4 : Int) ∧ (4 : Int) < (5 : Int) ∧ (0 : Int) ≤ (0 : Int) ∧ (0 : Int) < (5 : Int) ∧ (0 : Int) ≤ (4 : Int) ∧ (4 : Int) < (5 : Int) ∧ (4 : Nat) < (5 : Nat) ∧ (0 : Int) ≤ (4 : Int) ∧ (4 : Int) < (5 : Int) ∧ (4 : Nat) < (5 : Nat) ∧ (0 : Int) ≤ (1 : Int) ∧ (1 : Int) < (5 : Int) ∧ (0 : Int) ≤ (0 : Int) ∧ (0 : Int) < (5 : Int) ∧ (0 : Nat) < (5 : Nat) ∧ (0 : Int) ≤ (0 : Int) ∧ (0 : Int) < (5 : Int) ∧ (0 : Nat) < (5 : Nat) ∧ (0 : Int) ≤ (2 : Int) ∧ (2 : Int) < (5 : Int) ∧ (0 : Int) ≤ (1 : Int) ∧ (1 : Int) < (5 : Int) ∧ (1 : Nat) < (5 : Nat) ∧ (0 : Int) ≤ (1 : Int) ∧ (1 : Int) < (5 : Int) ∧ (1 : Nat) < (5 : Nat) ∧ (0 : Int) ≤ (3 : Int) ∧ (3 : Int) < (5 : Int) ∧ (0 : Int) ≤ (2 : Int) ∧ (2 : Int) < (5 : Int) ∧ (2 : Nat) < (5 : Nat) ∧ (0 : Int) ≤ (2 : Int) ∧ (2 : Int) < (5 : Int) ∧ (2 : Nat) < (5 : Nat) ∧ (0 : Int) ≤ (4 : Int) ∧ (4 : Int) < (5 : Int) ∧ (0 : Int) ≤ (3 : Int) ∧ (3 : Int) < (5 : Int) ∧ (3 : Nat) < (5 : Nat) ∧ (0 : Int) ≤ (3 : Int) ∧ (3 : Int) < (5 : Int) ∧ (3 : Nat) < (5 : Nat) ∧ true = true ∧ (5 : Nat) = (5 : Nat) ∧ x9 = x9 ∧ true = true ∧ true = true ∧ (50 : Nat) = (50 : Nat) ∧ (5 : Nat) = (5 : Nat) ∧ upL x4 x5 x6 x7 x8 = timesL a b c d e p q r s t) := by kernel_rfl

set_option maxHeartbeats 8000000 in
theorem wpTimes (a b c d e p q r s t : Int) : wpE FTimes (Try.f33.body.getD .skip) ⟨Try.f33.ntmps, slotsOf 0 (kTimes (a, b, c, d, e, p, q, r, s, t)).avs, (kTimes (a, b, c, d, e, p, q, r, s, t)).mem⟩ (finK Try.prog Try.f33.results.toList (postN (kTimes (a, b, c, d, e, p, q, r, s, t)))) := by
  with_reducible refine Eq.mpr (vcTimes a b c d e p q r s t) ?_
  intros
  and_intros <;> first | omega | exact True.intro | kernel_rfl
set_option maxHeartbeats 8000000 in
theorem cTimes_ok : SpecOK Try.prog cTimes := by
  refine callG_ok (c := Try.f33.body.getD .skip) mixed Try.func33 (by kernel_rfl) rfl (fun x hob => ?_)
  obtain ⟨a, b, c, d, e, p, q, r, s, t⟩ := x
  exact ⟨FTimes, rfl, evOKs ⟨.inl ⟨cUp_ok, by kernel_rfl, gl_nil rfl⟩, trivial⟩, rfl, rfl, by with_reducible exact wpTimes a b c d e p q r s t ⟩

/-- Eight bytes as a word, as it is reckoned. -/
def w8 (l : List Int) : Int := [0, 1, 2, 3, 4, 5, 6, 7].foldl (fun x i => bits .or .u64 x (sShl .u64 (IntKind.wrap .u64 (l.getD i 0)) (8 * (i : Int)))) 0
def kPWord : Nat × (List Int) → ClN := fun (n, l) => ⟨[.o (.c (.rs 1 n (.i .u8 l)))], [], vv (.int .u64 (w8 l)), [], [], [8 ≤ n, l.length = n]⟩
noncomputable def FPWord : FnE := ⟨mkEv Try.prog [] [] 0, [0, 2, 3, 4, 5, 6], fun _ _ => .rounds 9⟩
def mPWord : List AV → (Nat → Option MB) → Option (List Nat × (Nat × (List Int)))
  | [.o (.c c)], lk => match slI lk c with
    | some (n, l) => some ([], n, l)
    | none => none
  | _, _ => none
noncomputable def cPWord : Spec := callG 49 Try.f49.ntmps mPWord kPWord
theorem vcPWord (n : Nat) (l : List Int) : (wpE FPWord (Try.f49.body.getD .skip) ⟨Try.f49.ntmps, slotsOf 0 (kPWord (n, l)).avs, (kPWord (n, l)).mem⟩ (finK Try.prog Try.f49.results.toList (postN (kPWord (n, l))))) = ((0 : Int) ≤ (0 : Int) ∧ (0 : Int) < (↑n : Int) ∧ (0 : Nat) < List.length l ∧ (0 : Int) ≤ (0 : Int) ∧ (0 : Int) ≤ (1 : Int) ∧ (1 : Int) < (↑n : Int) ∧ (1 : Nat) < List.length l ∧ (0 : Int) ≤ (8 : Int) ∧ (0 : Int) ≤ (2 : Int) ∧ (2 : Int) < (↑n : Int) ∧ (2 : Nat) < List.length l ∧ (0 : Int) ≤ (16 : Int) ∧ (0 : Int) ≤ (3 : Int) ∧ (3 : Int) < (↑n : Int) ∧ (3 : Nat) < List.length l ∧ (0 : Int) ≤ (24 : Int) ∧ (0 : Int) ≤ (4 : Int) ∧ (4 : Int) < (↑n : Int) ∧ (4 : Nat) < List.length l ∧ (0 : Int) ≤ (32 : Int) ∧ (0 : Int) ≤ (5 : Int) ∧ (5 : Int) < (↑n : Int) ∧ (5 : Nat) < List.length l ∧ (0 : Int) ≤ (40 : Int) ∧ (0 : Int) ≤ (6 : Int) ∧ (6 : Int) < (↑n : Int) ∧ (6 : Nat) < List.length l ∧ (0 : Int) ≤ (48 : Int) ∧ (0 : Int) ≤ (7 : Int) ∧ (7 : Int) < (↑n : Int) ∧ (7 : Nat) < List.length l ∧ (0 : Int) ≤ (56 : Int) ∧ true = true ∧ true = true ∧ (20 : Nat) = (20 : Nat) ∧ Value.int IntKind.u64 (bits BinOp.or IntKind.u64 (bits BinOp.or IntKind.u64 (bits BinOp.or IntKind.u64 (bits BinOp.or IntKind.u64 (bits BinOp.or IntKind.u64 (bits BinOp.or IntKind.u64 (bits BinOp.or IntKind.u64 (bits BinOp.or IntKind.u64 (0 : Int) (sShl IntKind.u64 (IntKind.wrap IntKind.u64 (List.getD l (0 : Nat) (0 : Int))) (0 : Int))) (sShl IntKind.u64 (IntKind.wrap IntKind.u64 (List.getD l (1 : Nat) (0 : Int))) (8 : Int))) (sShl IntKind.u64 (IntKind.wrap IntKind.u64 (List.getD l (2 : Nat) (0 : Int))) (16 : Int))) (sShl IntKind.u64 (IntKind.wrap IntKind.u64 (List.getD l (3 : Nat) (0 : Int))) (24 : Int))) (sShl IntKind.u64 (IntKind.wrap IntKind.u64 (List.getD l (4 : Nat) (0 : Int))) (32 : Int))) (sShl IntKind.u64 (IntKind.wrap IntKind.u64 (List.getD l (5 : Nat) (0 : Int))) (40 : Int))) (sShl IntKind.u64 (IntKind.wrap IntKind.u64 (List.getD l (6 : Nat) (0 : Int))) (48 : Int))) (sShl IntKind.u64 (IntKind.wrap IntKind.u64 (List.getD l (7 : Nat) (0 : Int))) (56 : Int))) = Value.int IntKind.u64 (w8 l)) := by kernel_rfl

set_option maxHeartbeats 8000000 in
theorem wpPWord (n : Nat) (l : List Int) (h1 : 8 ≤ n) (h2 : l.length = n) : wpE FPWord (Try.f49.body.getD .skip) ⟨Try.f49.ntmps, slotsOf 0 (kPWord (n, l)).avs, (kPWord (n, l)).mem⟩ (finK Try.prog Try.f49.results.toList (postN (kPWord (n, l)))) := by
  with_reducible refine Eq.mpr (vcPWord n l) ?_
  intros
  and_intros <;> first | omega | exact True.intro | kernel_rfl
set_option maxHeartbeats 8000000 in
theorem cPWord_ok : SpecOK Try.prog cPWord := by
  refine callG_ok (c := Try.f49.body.getD .skip) mixed Try.func49 (by kernel_rfl) rfl (fun x hob => ?_)
  obtain ⟨n, l⟩ := x
  have hob : (8 ≤ n) ∧ (l.length = n) := hob
  obtain ⟨h1, h2⟩ := hob
  exact ⟨FPWord, rfl, evOKs trivial, rfl, rfl, by with_reducible exact wpPWord n l h1 h2⟩

def digL (l : List Int) (x : Int) : List Int := [bits .and .u64 (w8 l) 67108863, bits .and .u64 (sShr .u64 (w8 l) 26) 67108863, bits .and .u64 (bits .or .u64 (sShr .u64 (w8 l) 52) (sShl .u64 (w8 (l.drop 8)) 12)) 67108863, bits .and .u64 (sShr .u64 (w8 (l.drop 8)) 14) 67108863, bits .or .u64 (sShr .u64 (w8 (l.drop 8)) 40) (sShl .u64 x 24)]
theorem take_drop8 {l : List Int} {n : Nat} (h : l.length = n) : (l.drop 8).take (n - 8) = l.drop 8 := List.take_of_length_le (by rw [List.length_drop]; omega)
def kDigits : Nat × (List Int) × Int → ClN := fun (n, l, x) => ⟨[.o (.c (.rs 1 n (.i .u8 l))), vv (.int .u64 x)], [], .o (.g [.many 5 (.i .u64 (digL l x))]), [], [], [16 ≤ n, l.length = n]⟩
noncomputable def FDigits : FnE := ⟨mkEv Try.prog [] [cPWord] 0, [0, 1, 4, 5, 6], fun _ _ => .rounds 0⟩
def mDigits : List AV → (Nat → Option MB) → Option (List Nat × (Nat × (List Int) × Int))
  | [.o (.c c), .o (.c (.v (.int .u64 x)))], lk => match slI lk c with
    | some (n, l) => some ([], n, l, x)
    | none => none
  | _, _ => none
noncomputable def cDigits : Spec := callG 45 Try.f45.ntmps mDigits kDigits
theorem vcDigits (n : Nat) (l : List Int) (x : Int) : (wpE FDigits (Try.f45.body.getD .skip) ⟨Try.f45.ntmps, slotsOf 0 (kDigits (n, l, x)).avs, (kDigits (n, l, x)).mem⟩ (finK Try.prog Try.f45.results.toList (postN (kDigits (n, l, x))))) = (let x1 := List.take (n - (8 : Nat)) (List.drop (8 : Nat) l); let x2 := w8 x1; true = true ∧ true = true ∧ n = n ∧ l = l ∧ (8 : Nat) ≤ n ∧ List.length l = n ∧ (0 : Int) ≤ (8 : Int) ∧ (8 : Nat) ≤ n ∧ true = true ∧ true = true ∧ n - (8 : Nat) = n - (8 : Nat) ∧ x1 = x1 ∧ (8 : Nat) ≤ n - (8 : Nat) ∧ List.length x1 = n - (8 : Nat) ∧ (0 : Int) ≤ (26 : Int) ∧ (0 : Int) ≤ (52 : Int) ∧ (0 : Int) ≤ (12 : Int) ∧ (0 : Int) ≤ (14 : Int) ∧ (0 : Int) ≤ (40 : Int) ∧ (0 : Int) ≤ (24 : Int) ∧ true = true ∧ true = true ∧ (32 : Nat) = (32 : Nat) ∧ (5 : Nat) = (5 : Nat) ∧ [bits BinOp.and IntKind.u64 (w8 l) (67108863 : Int), bits BinOp.and IntKind.u64 (sShr IntKind.u64 (w8 l) (26 : Int)) (67108863 : Int), bits BinOp.and IntKind.u64 (bits BinOp.or IntKind.u64 (sShr IntKind.u64 (w8 l) (52 : Int)) (sShl IntKind.u64 x2 (12 : Int))) (67108863 : Int), bits BinOp.and IntKind.u64 (sShr IntKind.u64 x2 (14 : Int)) (67108863 : Int), bits BinOp.or IntKind.u64 (sShr IntKind.u64 x2 (40 : Int)) (sShl IntKind.u64 x (24 : Int))] = digL l x) := by kernel_rfl

set_option maxHeartbeats 8000000 in
theorem wpDigits (n : Nat) (l : List Int) (x : Int) (h1 : 16 ≤ n) (h2 : l.length = n) : wpE FDigits (Try.f45.body.getD .skip) ⟨Try.f45.ntmps, slotsOf 0 (kDigits (n, l, x)).avs, (kDigits (n, l, x)).mem⟩ (finK Try.prog Try.f45.results.toList (postN (kDigits (n, l, x)))) := by
  with_reducible refine Eq.mpr (vcDigits n l x) ?_
  simp only [take_drop8 h2]
  have hl : (l.drop 8).length = n - 8 := by rw [List.length_drop, h2]
  and_intros <;> first | omega | exact True.intro | kernel_rfl
set_option maxHeartbeats 8000000 in
theorem cDigits_ok : SpecOK Try.prog cDigits := by
  refine callG_ok (c := Try.f45.body.getD .skip) mixed Try.func45 (by kernel_rfl) rfl (fun x hob => ?_)
  obtain ⟨n, l, x⟩ := x
  have hob : (16 ≤ n) ∧ (l.length = n) := hob
  obtain ⟨h1, h2⟩ := hob
  exact ⟨FDigits, rfl, evOKs ⟨.inl ⟨cPWord_ok, by kernel_rfl, gl_nil rfl⟩, trivial⟩, rfl, rfl, by with_reducible exact wpDigits n l x h1 h2⟩
end Go.Proofs.Ythlleheeghiljaa
namespace Go.Proofs.Ythlleheeghiljaa
open Go.RowKit
set_option maxRecDepth 100000

def rdF (l : List Int) : List Int := ((lay (List.replicate 16 (0 : Int)) 0 ((l.drop 0).take 16)).drop 0).take 16
def rdP (n : Nat) (l : List Int) : List Int := (((lay (List.replicate 16 (0 : Int)) 0 ((l.drop 0).take (Nat.min n 16))).set n 1).drop 0).take 16
theorem rdF_len {l : List Int} (h : l.length = 16) : (rdF l).length = 16 := by
  unfold rdF
  rw [List.length_take, List.length_drop, lay_length _ _ _ (by simp [h])]
  simp
theorem rdP_len {n : Nat} {l : List Int} (h : l.length = n) (hn : n < 16) : (rdP n l).length = 16 := by
  unfold rdP
  rw [List.length_take, List.length_drop, List.length_set, lay_length _ _ _ (by simp [h]; omega)]
  simp
def kReadF : (List Int) → ClN := fun l => ⟨[.o (.c (.rs 1 16 (.i .u8 l)))], [], .o (.g [.many 5 (.i .u64 (digL (rdF l) 1))]), [], [], [l.length = 16]⟩
noncomputable def FReadF : FnE := ⟨mkEv Try.prog [] [cDigits] 0, [0, 2, 3, 9], fun _ _ => .rounds 0⟩
def mReadF : List AV → (Nat → Option MB) → Option (List Nat × (List Int))
  | [.o (.c c)], lk => match slI lk c with
    | some (16, l) => some ([], l)
    | _ => none
  | _, _ => none
noncomputable def cReadF : Spec := callG 32 Try.f32.ntmps mReadF kReadF
theorem vcReadF (l : List Int) : (wpE FReadF (Try.f32.body.getD .skip) ⟨Try.f32.ntmps, slotsOf 0 (kReadF l).avs, (kReadF l).mem⟩ (finK Try.prog Try.f32.results.toList (postN (kReadF l)))) = (let x1 := List.take (16 : Nat) (List.drop (0 : Nat) (lay (List.replicate (16 : Nat) (0 : Int)) (0 : Nat) (List.take (16 : Nat) (List.drop (0 : Nat) l)))); (16 : Nat) ≤ (9223372036854775807 : Nat) ∧ (16 : Nat) ≤ (16 : Nat) ∧ (16 : Nat) ≤ (9223372036854775807 : Nat) ∧ true = true ∧ true = true ∧ (16 : Nat) = (16 : Nat) ∧ x1 = x1 ∧ (16 : Nat) ≤ (16 : Nat) ∧ Value.int IntKind.u64 (1 : Int) = Value.int IntKind.u64 (1 : Int) ∧ (16 : Nat) ≤ (16 : Nat) ∧ List.length x1 = (16 : Nat) ∧ true = true ∧ true = true ∧ (17 : Nat) = (17 : Nat) ∧ (5 : Nat) = (5 : Nat) ∧ digL x1 (1 : Int) = digL (rdF l) (1 : Int)) := by kernel_rfl

set_option maxHeartbeats 8000000 in
theorem wpReadF (l : List Int) (h1 : l.length = 16) : wpE FReadF (Try.f32.body.getD .skip) ⟨Try.f32.ntmps, slotsOf 0 (kReadF l).avs, (kReadF l).mem⟩ (finK Try.prog Try.f32.results.toList (postN (kReadF l))) := by
  with_reducible refine Eq.mpr (vcReadF l) ?_
  have hl := rdF_len h1
  and_intros <;> first | omega | exact True.intro | exact hl | kernel_rfl
set_option maxHeartbeats 8000000 in
theorem cReadF_ok : SpecOK Try.prog cReadF := by
  refine callG_ok (c := Try.f32.body.getD .skip) mixed Try.func32 (by kernel_rfl) rfl (fun l hob => ?_)
  have hob : (l.length = 16) := hob
  have h1 := hob
  exact ⟨FReadF, rfl, evOKs ⟨.inl ⟨cDigits_ok, by kernel_rfl, gl_nil rfl⟩, trivial⟩, rfl, rfl, by with_reducible exact wpReadF l h1⟩

def fcRd (d : Nat) : Option Bool := bif Nat.beq d 9 then some false else none
def kReadP : Nat × (List Int) → ClN := fun (n, l) => ⟨[.o (.c (.rs 1 n (.i .u8 l)))], [], .o (.g [.many 5 (.i .u64 (digL (rdP n l) 0))]), [], [], [l.length = n, n < 16]⟩
noncomputable def FReadP : FnE := ⟨mkEv Try.prog [] [cDigits] 0 fcRd, [0, 2, 3, 9], fun _ _ => .rounds 0⟩
def mReadP : List AV → (Nat → Option MB) → Option (List Nat × (Nat × (List Int)))
  | [.o (.c c)], lk => match slI lk c with
    | some (n, l) => some ([], n, l)
    | none => none
  | _, _ => none
noncomputable def cReadP : Spec := callG 32 Try.f32.ntmps mReadP kReadP
theorem vcReadP (n : Nat) (l : List Int) : (wpE FReadP (Try.f32.body.getD .skip) ⟨Try.f32.ntmps, slotsOf 0 (kReadP (n, l)).avs, (kReadP (n, l)).mem⟩ (finK Try.prog Try.f32.results.toList (postN (kReadP (n, l))))) = (let x1 := List.take (16 : Nat) (List.drop (0 : Nat) (List.set (lay (List.replicate (16 : Nat) (0 : Int)) (0 : Nat) (List.take (Nat.min n (16 : Nat)) (List.drop (0 : Nat) l))) (Int.toNat (↑n : Int)) (1 : Int))); (16 : Nat) ≤ (9223372036854775807 : Nat) ∧ (0 : Nat) + Nat.min n (16 : Nat) ≤ (16 : Nat) ∧ decide ((↑n : Int) = (16 : Int)) = false ∧ (0 : Int) ≤ (↑n : Int) ∧ (↑n : Int) < (16 : Int) ∧ Int.toNat (↑n : Int) < (16 : Nat) ∧ (16 : Nat) ≤ (9223372036854775807 : Nat) ∧ true = true ∧ true = true ∧ (16 : Nat) = (16 : Nat) ∧ x1 = x1 ∧ (16 : Nat) ≤ (16 : Nat) ∧ Value.int IntKind.u64 (0 : Int) = Value.int IntKind.u64 (0 : Int) ∧ (16 : Nat) ≤ (16 : Nat) ∧ List.length x1 = (16 : Nat) ∧ true = true ∧ true = true ∧ (17 : Nat) = (17 : Nat) ∧ (5 : Nat) = (5 : Nat) ∧ digL x1 (0 : Int) = digL (rdP n l) (0 : Int)) := by kernel_rfl

set_option maxHeartbeats 8000000 in
theorem wpReadP (n : Nat) (l : List Int) (h1 : l.length = n) (h2 : n < 16) : wpE FReadP (Try.f32.body.getD .skip) ⟨Try.f32.ntmps, slotsOf 0 (kReadP (n, l)).avs, (kReadP (n, l)).mem⟩ (finK Try.prog Try.f32.results.toList (postN (kReadP (n, l)))) := by
  with_reducible refine Eq.mpr (vcReadP n l) ?_
  have hl := rdP_len h1 h2
  have hd : decide ((n : Int) = 16) = false := decide_eq_false (by omega)
  have hm : Nat.min n 16 = n := Nat.min_eq_left (by omega)
  simp only [Int.toNat_natCast]
  and_intros <;> first | omega | exact True.intro | exact hd | exact hl | (rw [hm]; omega) | kernel_rfl
set_option maxHeartbeats 8000000 in
theorem cReadP_ok : SpecOK Try.prog cReadP := by
  refine callG_ok (c := Try.f32.body.getD .skip) mixed Try.func32 (by kernel_rfl) rfl (fun x hob => ?_)
  obtain ⟨n, l⟩ := x
  have hob : (l.length = n) ∧ (n < 16) := hob
  obtain ⟨h1, h2⟩ := hob
  exact ⟨FReadP, rfl, evOKs ⟨.inl ⟨cDigits_ok, by kernel_rfl, gl_nil rfl⟩, trivial⟩, rfl, rfl, by with_reducible exact wpReadP n l h1 h2⟩

def an (l : List Int) (i : Nat) (m : Int) : List Int := l.set i (bits .and .u8 (l.getD i 0) m)
def facL (k : List Int) : List Int := ((an (an (an (an (an (an (an k 3 15) 7 15) 11 15) 15 15) 4 252) 8 252) 12 252).drop 0).take 16
theorem facL_len {k : List Int} (h : k.length = 32) : (facL k).length = 16 := by simp [facL, an, h]
def kFactor : (List Int) → ClN := fun k => ⟨[.o (.g [.many 32 (.i .u8 k)])], [], .o (.g [.many 5 (.i .u64 (digL (facL k) 0))]), [], [], [k.length = 32]⟩
noncomputable def FFactor : FnE := ⟨mkEv Try.prog [] [cDigits] 0, [0, 1, 2, 3, 5, 7, 9, 10, 11, 12, 22, 23, 24, 25], fun _ _ => .rounds 6⟩
def mFactor : List AV → (Nat → Option MB) → Option (List Nat × (List Int))
  | [.o (.g [.many 32 (.i .u8 k)])], _ => some ([], k)
  | _, _ => none
noncomputable def cFactor : Spec := callG 28 Try.f28.ntmps mFactor kFactor
theorem vcFactor (k : List Int) : (wpE FFactor (Try.f28.body.getD .skip) ⟨Try.f28.ntmps, slotsOf 0 (kFactor k).avs, (kFactor k).mem⟩ (finK Try.prog Try.f28.results.toList (postN (kFactor k)))) = (let x1 := List.set k (3 : Nat) (bits BinOp.and IntKind.u8 (List.getD k (3 : Nat) (0 : Int)) (15 : Int)); let x2 := List.set x1 (7 : Nat) (bits BinOp.and IntKind.u8 (List.getD x1 (7 : Nat) (0 : Int)) (15 : Int)); let x3 := List.set x2 (11 : Nat) (bits BinOp.and IntKind.u8 (List.getD x2 (11 : Nat) (0 : Int)) (15 : Int)); let x4 := List.set x3 (15 : Nat) (bits BinOp.and IntKind.u8 (List.getD x3 (15 : Nat) (0 : Int)) (15 : Int)); let x5 := List.set x4 (4 : Nat) (bits BinOp.and IntKind.u8 (List.getD x4 (4 : Nat) (0 : Int)) (252 : Int)); let x6 := List.set x5 (8 : Nat) (bits BinOp.and IntKind.u8 (List.getD x5 (8 : Nat) (0 : Int)) (252 : Int)); let x7 := List.take (16 : Nat) (List.drop (0 : Nat) (List.set x6 (12 : Nat) (bits BinOp.and IntKind.u8 (List.getD x6 (12 : Nat) (0 : Int)) (252 : Int)))); (0 : Int) ≤ (16 : Int) ∧ (16 : Nat) ≤ (32 : Nat) ∧ (32 : Nat) ≤ (9223372036854775807 : Nat) ∧ (0 : Int) ≤ (0 : Int) ∧ (0 : Int) < (4 : Int) ∧ (0 : Nat) < (4 : Nat) ∧ (0 : Int) ≤ (3 : Int) ∧ (3 : Int) < (16 : Int) ∧ (3 : Nat) < (32 : Nat) ∧ (0 : Int) ≤ (3 : Int) ∧ (3 : Int) < (16 : Int) ∧ (3 : Nat) < (32 : Nat) ∧ (0 : Int) ≤ (1 : Int) ∧ (1 : Int) < (4 : Int) ∧ (1 : Nat) < (4 : Nat) ∧ (0 : Int) ≤ (7 : Int) ∧ (7 : Int) < (16 : Int) ∧ (7 : Nat) < (32 : Nat) ∧ (0 : Int) ≤ (7 : Int) ∧ (7 : Int) < (16 : Int) ∧ (7 : Nat) < (32 : Nat) ∧ (0 : Int) ≤ (2 : Int) ∧ (2 : Int) < (4 : Int) ∧ (2 : Nat) < (4 : Nat) ∧ (0 : Int) ≤ (11 : Int) ∧ (11 : Int) < (16 : Int) ∧ (11 : Nat) < (32 : Nat) ∧ (0 : Int) ≤ (11 : Int) ∧ (11 : Int) < (16 : Int) ∧ (11 : Nat) < (32 : Nat) ∧ (0 : Int) ≤ (3 : Int) ∧ (3 : Int) < (4 : Int) ∧ (3 : Nat) < (4 : Nat) ∧ (0 : Int) ≤ (15 : Int) ∧ (15 : Int) < (16 : Int) ∧ (15 : Nat) < (32 : Nat) ∧ (0 : Int) ≤ (15 : Int) ∧ (15 : Int) < (16 : Int) ∧ (15 : Nat) < (32 : Nat) ∧ (0 : Int) ≤ (0 : Int) ∧ (0 : Int) < (3 : Int) ∧ (0 : Nat) < (3 : Nat) ∧ (0 : Int) ≤ (4 : Int) ∧ (4 : Int) < (16 : Int) ∧ (4 : Nat) < (32 : Nat) ∧ (0 : Int) ≤ (4 : Int) ∧ (4 : Int) < (16 : Int) ∧ (4 : Nat) < (32 : Nat) ∧ (0 : Int) ≤ (1 : Int) ∧ (1 : Int) < (3 : Int) ∧ (1 : Nat) < (3 : Nat) ∧ (0 : Int) ≤ (8 : Int) ∧ (8 : Int) < (16 : Int) ∧ (8 : Nat) < (32 : Nat) ∧ (0 : Int) ≤ (8 : Int) ∧ (8 : Int) < (16 : Int) ∧ (8 : Nat) < (32 : Nat) ∧ (0 : Int) ≤ (2 : Int) ∧ (2 : Int) < (3 : Int) ∧ (2 : Nat) < (3 : Nat) ∧ (0 : Int) ≤ (12 : Int) ∧ (12 : Int) < (16 : Int) ∧ (12 : Nat) < (32 : Nat) ∧ (0 : Int) ≤ (12 : Int) ∧ (12 : Int) < (16 : Int) ∧ (12 : Nat) < (32 : Nat) ∧ true = true ∧ true = true ∧ (16 : Nat) = (16 : Nat) ∧ x7 = x7 ∧ (16 : Nat) ≤ (32 : Nat) ∧ Value.int IntKind.u64 (0 : Int) = Value.int IntKind.u64 (0 : Int) ∧ (16 : Nat) ≤ (16 : Nat) ∧ List.length x7 = (16 : Nat) ∧ true = true ∧ true = true ∧ (37 : Nat) = (37 : Nat) ∧ (5 : Nat) = (5 : Nat) ∧ digL x7 (0 : Int) = digL (facL k) (0 : Int)) := by kernel_rfl

set_option maxHeartbeats 8000000 in
theorem wpFactor (k : List Int) (h1 : k.length = 32) : wpE FFactor (Try.f28.body.getD .skip) ⟨Try.f28.ntmps, slotsOf 0 (kFactor k).avs, (kFactor k).mem⟩ (finK Try.prog Try.f28.results.toList (postN (kFactor k))) := by
  with_reducible refine Eq.mpr (vcFactor k) ?_
  have hl := facL_len h1
  intros
  and_intros <;> first | omega | exact True.intro | exact hl | kernel_rfl
set_option maxHeartbeats 8000000 in
theorem cFactor_ok : SpecOK Try.prog cFactor := by
  refine callG_ok (c := Try.f28.body.getD .skip) mixed Try.func28 (by kernel_rfl) rfl (fun k hob => ?_)
  have hob : (k.length = 32) := hob
  have h1 := hob
  exact ⟨FFactor, rfl, evOKs ⟨.inl ⟨cDigits_ok, by kernel_rfl, gl_nil rfl⟩, trivial⟩, rfl, rfl, by with_reducible exact wpFactor k h1⟩

def lst5 (f : Int → Int → Int → Int → Int → List Int) : List Int → List Int
  | [a, b, c, d, e] => f a b c d e
  | _ => []
def pk (x y r : Int) : Int := bits .or .u64 (bits .andNot .u64 x r) (bits .and .u64 y r)
/-- Five more, and the carries. -/
def mo0 (a : Int) : Int := w6 (a + 5)
def mo1 (a b : Int) : Int := w6 (b + s26 (mo0 a))
def mo2 (a b c : Int) : Int := w6 (c + s26 (mo1 a b))
def mo3 (a b c d : Int) : Int := w6 (d + s26 (mo2 a b c))
def mo4 (a b c d e : Int) : Int := w6 (e + s26 (mo3 a b c d))
def least1 (a b c d e : Int) : List Int := [pk a (m26 (mo0 a)) (w6 (0 - s26 (mo4 a b c d e))), pk b (m26 (mo1 a b)) (w6 (0 - s26 (mo4 a b c d e))), pk c (m26 (mo2 a b c)) (w6 (0 - s26 (mo4 a b c d e))), pk d (m26 (mo3 a b c d)) (w6 (0 - s26 (mo4 a b c d e))), pk e (m26 (mo4 a b c d e)) (w6 (0 - s26 (mo4 a b c d e)))]
def leastL (a b c d e : Int) : List Int := lst5 least1 (lst5 upL (upL a b c d e))
def kLeast : Int × Int × Int × Int × Int → ClN := fun (a, b, c, d, e) => ⟨[.o (.g [.many 5 (.i .u64 [a, b, c, d, e])])], [], .o (.g [.many 5 (.i .u64 (leastL a b c d e))]), [], [], []⟩
noncomputable def FLeast : FnE := ⟨mkEv Try.prog [] [cUp] 0, [0, 1, 2, 3, 4, 5, 6, 15, 16, 42, 43], fun _ _ => .rounds 6⟩
def mLeast : List AV → (Nat → Option MB) → Option (List Nat × (Int × Int × Int × Int × Int))
  | [.o (.g [.many 5 (.i .u64 [a, b, c, d, e])])], _ => some ([], (a, b, c, d, e))
  | _, _ => none
noncomputable def cLeast : Spec := callG 47 Try.f47.ntmps mLeast kLeast
theorem vcLeast (a b c d e : Int) : (wpE FLeast (Try.f47.body.getD .skip) ⟨Try.f47.ntmps, slotsOf 0 (kLeast (a, b, c, d, e)).avs, (kLeast (a, b, c, d, e)).mem⟩ (finK Try.prog Try.f47.results.toList (postN (kLeast (a, b, c, d, e))))) = (let x1 := [a, b, c, d, e]; let x2 := w6 (a + (0 : Int)); let x3 := w6 (b + s26 x2); let x4 := w6 (c + s26 x3); let x5 := w6 (d + s26 x4); let x6 := w6 (e + s26 x5); let x7 := w6 (m26 x2 + w6 ((5 : Int) * s26 x6)); let x8 := m26 x3; let x9 := m26 x4; let x10 := m26 x5; let x11 := m26 x6; let x12 := upL x7 x8 x9 x10 x11; let x13 := List.getD x12 (0 : Nat) (0 : Int); let x14 := List.set x12 (0 : Nat) (IntKind.wrap IntKind.u64 (x13 + (5 : Int))); let x15 := List.set x14 (1 : Nat) (IntKind.wrap IntKind.u64 (List.getD x14 (1 : Nat) (0 : Int) + sShr IntKind.u64 (List.getD x14 (0 : Nat) (0 : Int)) (26 : Int))); let x16 := List.set x15 (0 : Nat) (bits BinOp.and IntKind.u64 (List.getD x15 (0 : Nat) (0 : Int)) (67108863 : Int)); let x17 := List.set x16 (2 : Nat) (IntKind.wrap IntKind.u64 (List.getD x16 (2 : Nat) (0 : Int) + sShr IntKind.u64 (List.getD x16 (1 : Nat) (0 : Int)) (26 : Int))); let x18 := List.set x17 (1 : Nat) (bits BinOp.and IntKind.u64 (List.getD x17 (1 : Nat) (0 : Int)) (67108863 : Int)); let x19 := List.set x18 (3 : Nat) (IntKind.wrap IntKind.u64 (List.getD x18 (3 : Nat) (0 : Int) + sShr IntKind.u64 (List.getD x18 (2 : Nat) (0 : Int)) (26 : Int))); let x20 := List.set x19 (2 : Nat) (bits BinOp.and IntKind.u64 (List.getD x19 (2 : Nat) (0 : Int)) (67108863 : Int)); let x21 := List.set x20 (4 : Nat) (IntKind.wrap IntKind.u64 (List.getD x20 (4 : Nat) (0 : Int) + sShr IntKind.u64 (List.getD x20 (3 : Nat) (0 : Int)) (26 : Int))); let x22 := List.set x21 (3 : Nat) (bits BinOp.and IntKind.u64 (List.getD x21 (3 : Nat) (0 : Int)) (67108863 : Int)); let x23 := List.getD x22 (4 : Nat) (0 : Int); let x24 := IntKind.wrap IntKind.u64 ((0 : Int) - sShr IntKind.u64 x23 (26 : Int)); let x25 := List.set x22 (4 : Nat) (bits BinOp.and IntKind.u64 x23 (67108863 : Int)); let x26 := List.set x12 (0 : Nat) (bits BinOp.or IntKind.u64 (bits BinOp.andNot IntKind.u64 x13 x24) (bits BinOp.and IntKind.u64 (List.getD x25 (0 : Nat) (0 : Int)) x24)); let x27 := List.set x26 (1 : Nat) (bits BinOp.or IntKind.u64 (bits BinOp.andNot IntKind.u64 (List.getD x26 (1 : Nat) (0 : Int)) x24) (bits BinOp.and IntKind.u64 (List.getD x25 (1 : Nat) (0 : Int)) x24)); let x28 := List.set x27 (2 : Nat) (bits BinOp.or IntKind.u64 (bits BinOp.andNot IntKind.u64 (List.getD x27 (2 : Nat) (0 : Int)) x24) (bits BinOp.and IntKind.u64 (List.getD x25 (2 : Nat) (0 : Int)) x24)); let x29 := List.set x28 (3 : Nat) (bits BinOp.or IntKind.u64 (bits BinOp.andNot IntKind.u64 (List.getD x28 (3 : Nat) (0 : Int)) x24) (bits BinOp.and IntKind.u64 (List.getD x25 (3 : Nat) (0 : Int)) x24)); true = true ∧ (5 : Nat) = (5 : Nat) ∧ x1 = x1 ∧ true = true ∧ (5 : Nat) = (5 : Nat) ∧ upL a b c d e = [x7, x8, x9, x10, x11] ∧ (0 : Int) ≤ (0 : Int) ∧ (0 : Int) < (5 : Int) ∧ (0 : Nat) < (5 : Nat) ∧ (0 : Int) ≤ (0 : Int) ∧ (0 : Int) < (5 : Int) ∧ (0 : Nat) < (5 : Nat) ∧ (0 : Int) ≤ (1 : Int) ∧ (1 : Int) < (5 : Int) ∧ (1 : Nat) < (5 : Nat) ∧ (0 : Int) ≤ (0 : Int) ∧ (0 : Int) < (5 : Int) ∧ (0 : Nat) < (5 : Nat) ∧ (0 : Int) ≤ (26 : Int) ∧ (0 : Int) ≤ (1 : Int) ∧ (1 : Int) < (5 : Int) ∧ (1 : Nat) < (5 : Nat) ∧ (0 : Int) ≤ (0 : Int) ∧ (0 : Int) < (5 : Int) ∧ (0 : Nat) < (5 : Nat) ∧ (0 : Int) ≤ (0 : Int) ∧ (0 : Int) < (5 : Int) ∧ (0 : Nat) < (5 : Nat) ∧ (0 : Int) ≤ (2 : Int) ∧ (2 : Int) < (5 : Int) ∧ (2 : Nat) < (5 : Nat) ∧ (0 : Int) ≤ (1 : Int) ∧ (1 : Int) < (5 : Int) ∧ (1 : Nat) < (5 : Nat) ∧ (0 : Int) ≤ (26 : Int) ∧ (0 : Int) ≤ (2 : Int) ∧ (2 : Int) < (5 : Int) ∧ (2 : Nat) < (5 : Nat) ∧ (0 : Int) ≤ (1 : Int) ∧ (1 : Int) < (5 : Int) ∧ (1 : Nat) < (5 : Nat) ∧ (0 : Int) ≤ (1 : Int) ∧ (1 : Int) < (5 : Int) ∧ (1 : Nat) < (5 : Nat) ∧ (0 : Int) ≤ (3 : Int) ∧ (3 : Int) < (5 : Int) ∧ (3 : Nat) < (5 : Nat) ∧ (0 : Int) ≤ (2 : Int) ∧ (2 : Int) < (5 : Int) ∧ (2 : Nat) < (5 : Nat) ∧ (0 : Int) ≤ (26 : Int) ∧ (0 : Int) ≤ (3 : Int) ∧ (3 : Int) < (5 : Int) ∧ (3 : Nat) < (5 : Nat) ∧ (0 : Int) ≤ (2 : Int) ∧ (2 : Int) < (5 : Int) ∧ (2 : Nat) < (5 : Nat) ∧ (0 : Int) ≤ (2 : Int) ∧ (2 : Int) < (5 : Int) ∧ (2 : Nat) < (5 : Nat) ∧ (0 : Int) ≤ (4 : Int) ∧ (4 : Int) < (5 : Int) ∧ (4 : Nat) < (5 : Nat) ∧ (0 : Int) ≤ (3 : Int) ∧ (3 : Int) < (5 : Int) ∧ (3 : Nat) < (5 : Nat) ∧ (0 : Int) ≤ (26 : Int) ∧ (0 : Int) ≤ (4 : Int) ∧ (4 : Int) < (5 : Int) ∧ (4 : Nat) < (5 : Nat) ∧ (0 : Int) ≤ (3 : Int) ∧ (3 : Int) < (5 : Int) ∧ (3 : Nat) < (5 : Nat) ∧ (0 : Int) ≤ (3 : Int) ∧ (3 : Int) < (5 : Int) ∧ (3 : Nat) < (5 : Nat) ∧ (0 : Int) ≤ (4 : Int) ∧ (4 : Int) < (5 : Int) ∧ (4 : Nat) < (5 : Nat) ∧ (0 : Int) ≤ (26 : Int) ∧ (0 : Int) ≤ (4 : Int) ∧ (4 : Int) < (5 : Int) ∧ (4 : Nat) < (5 : Nat) ∧ (0 : Int) ≤ (4 : Int) ∧ (4 : Int) < (5 : Int) ∧ (4 : Nat) < (5 : Nat) ∧ (0 : Int) ≤ (0 : Int) ∧ (0 : Int) < (5 : Int) ∧ (0 : Nat) < (5 : Nat) ∧ (0 : Int) ≤ (0 : Int) ∧ (0 : Int) < (5 : Int) ∧ (0 : Nat) < (5 : Nat) ∧ (0 : Int) ≤ (0 : Int) ∧ (0 : Int) < (5 : Int) ∧ (0 : Nat) < (5 : Nat) ∧ (0 : Int) ≤ (1 : Int) ∧ (1 : Int) < (5 : Int) ∧ (1 : Nat) < (5 : Nat) ∧ (0 : Int) ≤ (1 : Int) ∧ (1 : Int) < (5 : Int) ∧ (1 : Nat) < (5 : Nat) ∧ (0 : Int) ≤ (1 : Int) ∧ (1 : Int) < (5 : Int) ∧ (1 : Nat) < (5 : Nat) ∧ (0 : Int) ≤ (2 : Int) ∧ (2 : Int) < (5 : Int) ∧ (2 : Nat) < (5 : Nat) ∧ (0 : Int) ≤ (2 : Int) ∧ (2 : Int) < (5 : Int) ∧ (2 : Nat) < (5 : Nat) ∧ (0 : Int) ≤ (2 : Int) ∧ (2 : Int) < (5 : Int) ∧ (2 : Nat) < (5 : Nat) ∧ (0 : Int) ≤ (3 : Int) ∧ (3 : Int) < (5 : Int) ∧ (3 : Nat) < (5 : Nat) ∧ (0 : Int) ≤ (3 : Int) ∧ (3 : Int) < (5 : Int) ∧ (3 : Nat) < (5 : Nat) ∧ (0 : Int) ≤ (3 : Int) ∧ (3 : Int) < (5 : Int) ∧ (3 : Nat) < (5 : Nat) ∧ (0 : Int) ≤ (4 : Int) ∧ (4 : Int) < (5 : Int) ∧ (4 : Nat) < (5 : Nat) ∧ (0 : Int) ≤ (4 : Int) ∧ (4 : Int) < (5 : Int) ∧ (4 : Nat) < (5 : Nat) ∧ (0 : Int) ≤ (4 : Int) ∧ (4 : Int) < (5 : Int) ∧ (4 : Nat) < (5 : Nat) ∧ true = true ∧ true = true ∧ (60 : Nat) = (60 : Nat) ∧ (5 : Nat) = (5 : Nat) ∧ List.set x29 (4 : Nat) (bits BinOp.or IntKind.u64 (bits BinOp.andNot IntKind.u64 (List.getD x29 (4 : Nat) (0 : Int)) x24) (bits BinOp.and IntKind.u64 (List.getD x25 (4 : Nat) (0 : Int)) x24)) = leastL a b c d e) := by kernel_rfl

set_option maxHeartbeats 8000000 in
theorem wpLeast (a b c d e : Int) : wpE FLeast (Try.f47.body.getD .skip) ⟨Try.f47.ntmps, slotsOf 0 (kLeast (a, b, c, d, e)).avs, (kLeast (a, b, c, d, e)).mem⟩ (finK Try.prog Try.f47.results.toList (postN (kLeast (a, b, c, d, e)))) := by
  with_reducible refine Eq.mpr (vcLeast a b c d e) ?_
  intros
  and_intros <;> first | omega | exact True.intro | kernel_rfl
set_option maxHeartbeats 8000000 in
theorem cLeast_ok : SpecOK Try.prog cLeast := by
  refine callG_ok (c := Try.f47.body.getD .skip) mixed Try.func47 (by kernel_rfl) rfl (fun x hob => ?_)
  obtain ⟨a, b, c, d, e⟩ := x
  exact ⟨FLeast, rfl, evOKs ⟨.inl ⟨cUp_ok, by kernel_rfl, gl_nil rfl⟩, trivial⟩, rfl, rfl, by with_reducible exact wpLeast a b c d e ⟩

theorem eAdd_ok : ExtOK Try.prog (eAdd64 48) := eAdd64_ok Try.func48 (by kernel_rfl) (by kernel_rfl) (by kernel_rfl) (by kernel_rfl)
noncomputable def eAdd : Spec := eAdd64 48
/-- The two words of a number. -/
def lowE (a b c : Int) : Int := bits .or .u64 (bits .or .u64 a (sShl .u64 b 26)) (sShl .u64 c 52)
def highE (c d e : Int) : Int := bits .or .u64 (bits .or .u64 (sShr .u64 c 12) (sShl .u64 d 14)) (sShl .u64 e 40)
def byE (x : Int) (i : Nat) : Int := IntKind.wrap .u8 (sShr .u64 x (8 * (i : Int)))
def bys16 (x y : Int) : List Int := [byE x 0, byE x 1, byE x 2, byE x 3, byE x 4, byE x 5, byE x 6, byE x 7, byE y 0, byE y 1, byE y 2, byE y 3, byE y 4, byE y 5, byE y 6, byE y 7]
/-- The tag of two words and a key's other half. -/
def tag2 (lo hi : Int) (k : List Int) : List Int := bys16 ((lo + w8 k + 0) % 18446744073709551616) ((hi + w8 (k.drop 8) + (lo + w8 k + 0) / 18446744073709551616) % 18446744073709551616)
def tag5 (k : List Int) (a b c d e : Int) : List Int := tag2 (lowE a b c) (highE c d e) k
def tagL (k : List Int) (a b c d e : Int) : List Int := lst5 (tag5 k) (leastL a b c d e)
theorem or_in (x y : Int) : 0 ≤ bits .or .u64 x y ∧ bits .or .u64 x y < 18446744073709551616 := ⟨bits_lo_u64 _ _ _, by have := bits_hi_u64 .or x y; omega⟩
theorem w8_in (l : List Int) : 0 ≤ w8 l ∧ w8 l < 18446744073709551616 := or_in _ _
theorem carry_in (x y : Int) (k : List Int) : 0 ≤ (bits .or .u64 x y + w8 k + 0) / 18446744073709551616 ∧ (bits .or .u64 x y + w8 k + 0) / 18446744073709551616 ≤ 1 := by
  have h1 := or_in x y
  have h2 := w8_in k
  omega
def kTag : Int × Int × Int × Int × Int × Nat × (List Int) → ClN := fun (a, b, c, d, e, n, k) => ⟨[.o (.g [.many 5 (.i .u64 [a, b, c, d, e])]), .o (.c (.rs 1 n (.i .u8 k)))], [], .o (.g [.many 16 (.i .u8 (tagL k a b c d e))]), [], [], [16 ≤ n, k.length = n]⟩
noncomputable def FTag : FnE := ⟨mkEv Try.prog [] [cLeast, cPWord, eAdd] 0, [0, 1, 2, 4, 5, 6, 7, 9, 10, 48, 49], fun _ _ => .rounds 9⟩
def mTag : List AV → (Nat → Option MB) → Option (List Nat × (Int × Int × Int × Int × Int × Nat × (List Int)))
  | [.o (.g [.many 5 (.i .u64 [a, b, c, d, e])]), .o (.c x)], lk => match slI lk x with
    | some (n, k) => some ([], a, b, c, d, e, n, k)
    | none => none
  | _, _ => none
noncomputable def cTag : Spec := callG 34 Try.f34.ntmps mTag kTag
theorem vcTag (a b c d e : Int) (n : Nat) (k : List Int) : (wpE FTag (Try.f34.body.getD .skip) ⟨Try.f34.ntmps, slotsOf 0 (kTag (a, b, c, d, e, n, k)).avs, (kTag (a, b, c, d, e, n, k)).mem⟩ (finK Try.prog Try.f34.results.toList (postN (kTag (a, b, c, d, e, n, k))))) = (let x1 := [a, b, c, d, e]; let x2 := List.getD (leastL a b c d e) (2 : Nat) (0 : Int); let x3 := bits BinOp.or IntKind.u64 (bits BinOp.or IntKind.u64 (List.getD (leastL a b c d e) (0 : Nat) (0 : Int)) (sShl IntKind.u64 (List.getD (leastL a b c d e) (1 : Nat) (0 : Int)) (26 : Int))) (sShl IntKind.u64 x2 (52 : Int)); let x4 := List.take (n - (8 : Nat)) (List.drop (8 : Nat) k); let x5 := bits BinOp.or IntKind.u64 (bits BinOp.or IntKind.u64 (sShr IntKind.u64 x2 (12 : Int)) (sShl IntKind.u64 (List.getD (leastL a b c d e) (3 : Nat) (0 : Int)) (14 : Int))) (sShl IntKind.u64 (List.getD (leastL a b c d e) (4 : Nat) (0 : Int)) (40 : Int)); let x6 := w8 x4; let x7 := x3 + w8 k + (0 : Int); let x8 := x7 / (18446744073709551616 : Int); let x9 := x7 % (18446744073709551616 : Int); let x10 := (x5 + x6 + x8) % (18446744073709551616 : Int); true = true ∧ (5 : Nat) = (5 : Nat) ∧ x1 = x1 ∧ (0 : Int) ≤ (0 : Int) ∧ (0 : Int) < (5 : Int) ∧ (0 : Nat) < (5 : Nat) ∧ (0 : Int) ≤ (1 : Int) ∧ (1 : Int) < (5 : Int) ∧ (1 : Nat) < (5 : Nat) ∧ (0 : Int) ≤ (26 : Int) ∧ (0 : Int) ≤ (2 : Int) ∧ (2 : Int) < (5 : Int) ∧ (2 : Nat) < (5 : Nat) ∧ (0 : Int) ≤ (52 : Int) ∧ true = true ∧ true = true ∧ n = n ∧ k = k ∧ (8 : Nat) ≤ n ∧ List.length k = n ∧ (0 : Int) ≤ x3 ∧ (0 : Int) ≤ w8 k ∧ (0 : Int) ≤ (0 : Int) ∧ (0 : Int) ≤ (1 : Int) ∧ (0 : Int) ≤ (2 : Int) ∧ (2 : Int) < (5 : Int) ∧ (2 : Nat) < (5 : Nat) ∧ (0 : Int) ≤ (12 : Int) ∧ (0 : Int) ≤ (3 : Int) ∧ (3 : Int) < (5 : Int) ∧ (3 : Nat) < (5 : Nat) ∧ (0 : Int) ≤ (14 : Int) ∧ (0 : Int) ≤ (4 : Int) ∧ (4 : Int) < (5 : Int) ∧ (4 : Nat) < (5 : Nat) ∧ (0 : Int) ≤ (40 : Int) ∧ (0 : Int) ≤ (8 : Int) ∧ (8 : Nat) ≤ n ∧ true = true ∧ true = true ∧ n - (8 : Nat) = n - (8 : Nat) ∧ x4 = x4 ∧ (8 : Nat) ≤ n - (8 : Nat) ∧ List.length x4 = n - (8 : Nat) ∧ (0 : Int) ≤ x5 ∧ (0 : Int) ≤ x6 ∧ (0 : Int) ≤ x8 ∧ x8 ≤ (1 : Int) ∧ (0 : Int) ≤ (0 : Int) ∧ (0 : Int) ≤ (0 : Int) ∧ (0 : Int) ≤ (0 : Int) ∧ (0 : Int) < (16 : Int) ∧ (0 : Nat) < (16 : Nat) ∧ (0 : Int) ≤ (8 : Int) ∧ (8 : Int) < (16 : Int) ∧ (8 : Nat) < (16 : Nat) ∧ (0 : Int) ≤ (8 : Int) ∧ (0 : Int) ≤ (8 : Int) ∧ (0 : Int) ≤ (1 : Int) ∧ (1 : Int) < (16 : Int) ∧ (1 : Nat) < (16 : Nat) ∧ (0 : Int) ≤ (9 : Int) ∧ (9 : Int) < (16 : Int) ∧ (9 : Nat) < (16 : Nat) ∧ (0 : Int) ≤ (16 : Int) ∧ (0 : Int) ≤ (16 : Int) ∧ (0 : Int) ≤ (2 : Int) ∧ (2 : Int) < (16 : Int) ∧ (2 : Nat) < (16 : Nat) ∧ (0 : Int) ≤ (10 : Int) ∧ (10 : Int) < (16 : Int) ∧ (10 : Nat) < (16 : Nat) ∧ (0 : Int) ≤ (24 : Int) ∧ (0 : Int) ≤ (24 : Int) ∧ (0 : Int) ≤ (3 : Int) ∧ (3 : Int) < (16 : Int) ∧ (3 : Nat) < (16 : Nat) ∧ (0 : Int) ≤ (11 : Int) ∧ (11 : Int) < (16 : Int) ∧ (11 : Nat) < (16 : Nat) ∧ (0 : Int) ≤ (32 : Int) ∧ (0 : Int) ≤ (32 : Int) ∧ (0 : Int) ≤ (4 : Int) ∧ (4 : Int) < (16 : Int) ∧ (4 : Nat) < (16 : Nat) ∧ (0 : Int) ≤ (12 : Int) ∧ (12 : Int) < (16 : Int) ∧ (12 : Nat) < (16 : Nat) ∧ (0 : Int) ≤ (40 : Int) ∧ (0 : Int) ≤ (40 : Int) ∧ (0 : Int) ≤ (5 : Int) ∧ (5 : Int) < (16 : Int) ∧ (5 : Nat) < (16 : Nat) ∧ (0 : Int) ≤ (13 : Int) ∧ (13 : Int) < (16 : Int) ∧ (13 : Nat) < (16 : Nat) ∧ (0 : Int) ≤ (48 : Int) ∧ (0 : Int) ≤ (48 : Int) ∧ (0 : Int) ≤ (6 : Int) ∧ (6 : Int) < (16 : Int) ∧ (6 : Nat) < (16 : Nat) ∧ (0 : Int) ≤ (14 : Int) ∧ (14 : Int) < (16 : Int) ∧ (14 : Nat) < (16 : Nat) ∧ (0 : Int) ≤ (56 : Int) ∧ (0 : Int) ≤ (56 : Int) ∧ (0 : Int) ≤ (7 : Int) ∧ (7 : Int) < (16 : Int) ∧ (7 : Nat) < (16 : Nat) ∧ (0 : Int) ≤ (15 : Int) ∧ (15 : Int) < (16 : Int) ∧ (15 : Nat) < (16 : Nat) ∧ true = true ∧ true = true ∧ (68 : Nat) = (68 : Nat) ∧ (16 : Nat) = (16 : Nat) ∧ [IntKind.wrap IntKind.u8 (sShr IntKind.u64 x9 (0 : Int)), IntKind.wrap IntKind.u8 (sShr IntKind.u64 x9 (8 : Int)), IntKind.wrap IntKind.u8 (sShr IntKind.u64 x9 (16 : Int)), IntKind.wrap IntKind.u8 (sShr IntKind.u64 x9 (24 : Int)), IntKind.wrap IntKind.u8 (sShr IntKind.u64 x9 (32 : Int)), IntKind.wrap IntKind.u8 (sShr IntKind.u64 x9 (40 : Int)), IntKind.wrap IntKind.u8 (sShr IntKind.u64 x9 (48 : Int)), IntKind.wrap IntKind.u8 (sShr IntKind.u64 x9 (56 : Int)), IntKind.wrap IntKind.u8 (sShr IntKind.u64 x10 (0 : Int)), IntKind.wrap IntKind.u8 (sShr IntKind.u64 x10 (8 : Int)), IntKind.wrap IntKind.u8 (sShr IntKind.u64 x10 (16 : Int)), IntKind.wrap IntKind.u8 (sShr IntKind.u64 x10 (24 : Int)), IntKind.wrap IntKind.u8 (sShr IntKind.u64 x10 (32 : Int)), IntKind.wrap IntKind.u8 (sShr IntKind.u64 x10 (40 : Int)), IntKind.wrap IntKind.u8 (sShr IntKind.u64 x10 (48 : Int)), IntKind.wrap IntKind.u8 (sShr IntKind.u64 x10 (56 : Int))] = tagL k a b c d e) := by kernel_rfl

set_option maxHeartbeats 8000000 in
theorem wpTag (a b c d e : Int) (n : Nat) (k : List Int) (h1 : 16 ≤ n) (h2 : k.length = n) : wpE FTag (Try.f34.body.getD .skip) ⟨Try.f34.ntmps, slotsOf 0 (kTag (a, b, c, d, e, n, k)).avs, (kTag (a, b, c, d, e, n, k)).mem⟩ (finK Try.prog Try.f34.results.toList (postN (kTag (a, b, c, d, e, n, k)))) := by
  with_reducible refine Eq.mpr (vcTag a b c d e n k) ?_
  simp only [take_drop8 h2]
  have hl : (k.drop 8).length = n - 8 := by rw [List.length_drop, h2]
  intros
  and_intros <;> first | omega | exact True.intro | exact (or_in _ _).1 | exact (w8_in _).1 | exact (carry_in _ _ _).1 | exact (carry_in _ _ _).2 | kernel_rfl
set_option maxHeartbeats 8000000 in
theorem cTag_ok : SpecOK Try.prog cTag := by
  refine callG_ok (c := Try.f34.body.getD .skip) mixed Try.func34 (by kernel_rfl) rfl (fun x hob => ?_)
  obtain ⟨a, b, c, d, e, n, k⟩ := x
  have hob : (16 ≤ n) ∧ (k.length = n) := hob
  obtain ⟨h1, h2⟩ := hob
  exact ⟨FTag, rfl, evOKs ⟨.inl ⟨cLeast_ok, by kernel_rfl, gl_nil rfl⟩, ⟨.inl ⟨cPWord_ok, by kernel_rfl, gl_nil rfl⟩, ⟨.inr (eAdd_ok), trivial⟩⟩⟩, rfl, rfl, by with_reducible exact wpTag a b c d e n k h1 h2⟩
end Go.Proofs.Ythlleheeghiljaa
