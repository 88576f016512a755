/-
  poly: numbers of five digits.
-/
import Derived.Test.YtdbgnkmmjjgbpaaMx
namespace Go.Proofs.Ytdbgnkmmjjgbpaa
open Go.RowKit
set_option maxRecDepth 100000

def w6 (x : Int) : Int := IntKind.wrap .u64 x
def m26 (x : Int) : Int := bits .and .u64 x 67108863
def s26 (x : Int) : Int := sShr .u64 x 26
def upL (a b c d e : Int) : List Int :=
  [w6 (m26 (w6 (a + 0)) + w6 (5 * s26 (w6 (e + s26 (w6 (d + s26 (w6 (c + s26 (w6 (b + s26 (w6 (a + 0)))))))))))), m26 (w6 (b + s26 (w6 (a + 0)))), m26 (w6 (c + s26 (w6 (b + s26 (w6 (a + 0)))))), m26 (w6 (d + s26 (w6 (c + s26 (w6 (b + s26 (w6 (a + 0)))))))), m26 (w6 (e + s26 (w6 (d + s26 (w6 (c + s26 (w6 (b + s26 (w6 (a + 0)))))))))) ]
def kUp : Int × Int × Int × Int × Int → ClN := fun (a, b, c, d, e) => ⟨[.o (.g [.many 5 (.i .u64 [a, b, c, d, e])])], [], .o (.g [.many 5 (.i .u64 (upL a b c d e))]), [], [], []⟩
noncomputable def FUp : FnE := ⟨mkEv Try.prog [] [] 0, [0, 1, 2, 3, 4, 5, 6], fun _ _ => .rounds 6⟩
def mUp : List AV → (Nat → Option MB) → Option (List Nat × (Int × Int × Int × Int × Int))
  | [.o (.g [.many 5 (.i .u64 [a, b, c, d, e])])], _ => some ([], (a, b, c, d, e))
  | _, _ => none
noncomputable def cUp : Spec := callG 50 Try.f50.ntmps mUp kUp
theorem vcUp (a b c d e : Int) : (wpE FUp (Try.f50.body.getD .skip) ⟨Try.f50.ntmps, slotsOf 0 (kUp (a, b, c, d, e)).avs, (kUp (a, b, c, d, e)).mem⟩ (finK Try.prog Try.f50.results.toList (postN (kUp (a, b, c, d, e))))) = (let x1 := IntKind.wrap IntKind.u64 (a + (0 : Int)); let x2 := IntKind.wrap IntKind.u64 (b + sShr IntKind.u64 x1 (26 : Int)); let x3 := IntKind.wrap IntKind.u64 (c + sShr IntKind.u64 x2 (26 : Int)); let x4 := IntKind.wrap IntKind.u64 (d + sShr IntKind.u64 x3 (26 : Int)); let x5 := IntKind.wrap IntKind.u64 (e + sShr IntKind.u64 x4 (26 : Int)); (0 : Int) ≤ (0 : Int) ∧ (0 : Int) < (5 : Int) ∧ (0 : Nat) < (5 : Nat) ∧ (0 : Int) ≤ (0 : Int) ∧ (0 : Int) < (5 : Int) ∧ (0 : Nat) < (5 : Nat) ∧ (0 : Int) ≤ (0 : Int) ∧ (0 : Int) < (5 : Int) ∧ (0 : Nat) < (5 : Nat) ∧ (0 : Int) ≤ (26 : Int) ∧ (0 : Int) ≤ (0 : Int) ∧ (0 : Int) < (5 : Int) ∧ (0 : Nat) < (5 : Nat) ∧ (0 : Int) ≤ (0 : Int) ∧ (0 : Int) < (5 : Int) ∧ (0 : Nat) < (5 : Nat) ∧ (0 : Int) ≤ (1 : Int) ∧ (1 : Int) < (5 : Int) ∧ (1 : Nat) < (5 : Nat) ∧ (0 : Int) ≤ (1 : Int) ∧ (1 : Int) < (5 : Int) ∧ (1 : Nat) < (5 : Nat) ∧ (0 : Int) ≤ (1 : Int) ∧ (1 : Int) < (5 : Int) ∧ (1 : Nat) < (5 : Nat) ∧ (0 : Int) ≤ (26 : Int) ∧ (0 : Int) ≤ (1 : Int) ∧ (1 : Int) < (5 : Int) ∧ (1 : Nat) < (5 : Nat) ∧ (0 : Int) ≤ (1 : Int) ∧ (1 : Int) < (5 : Int) ∧ (1 : Nat) < (5 : Nat) ∧ (0 : Int) ≤ (2 : Int) ∧ (2 : Int) < (5 : Int) ∧ (2 : Nat) < (5 : Nat) ∧ (0 : Int) ≤ (2 : Int) ∧ (2 : Int) < (5 : Int) ∧ (2 : Nat) < (5 : Nat) ∧ (0 : Int) ≤ (2 : Int) ∧ (2 : Int) < (5 : Int) ∧ (2 : Nat) < (5 : Nat) ∧ (0 : Int) ≤ (26 : Int) ∧ (0 : Int) ≤ (2 : Int) ∧ (2 : Int) < (5 : Int) ∧ (2 : Nat) < (5 : Nat) ∧ (0 : Int) ≤ (2 : Int) ∧ (2 : Int) < (5 : Int) ∧ (2 : Nat) < (5 : Nat) ∧ (0 : Int) ≤ (3 : Int) ∧ (3 : Int) < (5 : Int) ∧ (3 : Nat) < (5 : Nat) ∧ (0 : Int) ≤ (3 : Int) ∧ (3 : Int) < (5 : Int) ∧ (3 : Nat) < (5 : Nat) ∧ (0 : Int) ≤ (3 : Int) ∧ (3 : Int) < (5 : Int) ∧ (3 : Nat) < (5 : Nat) ∧ (0 : Int) ≤ (26 : Int) ∧ (0 : Int) ≤ (3 : Int) ∧ (3 : Int) < (5 : Int) ∧ (3 : Nat) < (5 : Nat) ∧ (0 : Int) ≤ (3 : Int) ∧ (3 : Int) < (5 : Int) ∧ (3 : Nat) < (5 : Nat) ∧ (0 : Int) ≤ (4 : Int) ∧ (4 : Int) < (5 : Int) ∧ (4 : Nat) < (5 : Nat) ∧ (0 : Int) ≤ (4 : Int) ∧ (4 : Int) < (5 : Int) ∧ (4 : Nat) < (5 : Nat) ∧ (0 : Int) ≤ (4 : Int) ∧ (4 : Int) < (5 : Int) ∧ (4 : Nat) < (5 : Nat) ∧ (0 : Int) ≤ (26 : Int) ∧ (0 : Int) ≤ (4 : Int) ∧ (4 : Int) < (5 : Int) ∧ (4 : Nat) < (5 : Nat) ∧ (0 : Int) ≤ (4 : Int) ∧ (4 : Int) < (5 : Int) ∧ (4 : Nat) < (5 : Nat) ∧ (0 : Int) ≤ (0 : Int) ∧ (0 : Int) < (5 : Int) ∧ (0 : Nat) < (5 : Nat) ∧ (0 : Int) ≤ (0 : Int) ∧ (0 : Int) < (5 : Int) ∧ (0 : Nat) < (5 : Nat) ∧ true = true ∧ true = true ∧ (31 : Nat) = (31 : Nat) ∧ (5 : Nat) = (5 : Nat) ∧ [IntKind.wrap IntKind.u64 (bits BinOp.and IntKind.u64 x1 (67108863 : Int) + IntKind.wrap IntKind.u64 ((5 : Int) * sShr IntKind.u64 x5 (26 : Int))), bits BinOp.and IntKind.u64 x2 (67108863 : Int), bits BinOp.and IntKind.u64 x3 (67108863 : Int), bits BinOp.and IntKind.u64 x4 (67108863 : Int), bits BinOp.and IntKind.u64 x5 (67108863 : Int)] = upL a b c d e) := by kernel_rfl

set_option maxHeartbeats 8000000 in
theorem wpUp (a b c d e : Int) : wpE FUp (Try.f50.body.getD .skip) ⟨Try.f50.ntmps, slotsOf 0 (kUp (a, b, c, d, e)).avs, (kUp (a, b, c, d, e)).mem⟩ (finK Try.prog Try.f50.results.toList (postN (kUp (a, b, c, d, e)))) := by
  with_reducible refine Eq.mpr (vcUp a b c d e) ?_
  intros
  and_intros <;> first | omega | exact True.intro | kernel_rfl
set_option maxHeartbeats 8000000 in
theorem cUp_ok : SpecOK Try.prog cUp := by
  refine callG_ok (c := Try.f50.body.getD .skip) mixed Try.func50 (by kernel_rfl) rfl (fun x hob => ?_)
  obtain ⟨a, b, c, d, e⟩ := x
  exact ⟨FUp, rfl, evOKs trivial, rfl, rfl, by with_reducible exact wpUp a b c d e ⟩

def kPlus : Int × Int × Int × Int × Int × Int × Int × Int × Int × Int → ClN := fun (a, b, c, d, e, p, q, r, s, t) => ⟨[.o (.g [.many 5 (.i .u64 [a, b, c, d, e])]), .o (.g [.many 5 (.i .u64 [p, q, r, s, t])])], [], .o (.g [.many 5 (.i .u64 [w6 (a + p), w6 (b + q), w6 (c + r), w6 (d + s), w6 (e + t)])]), [], [], []⟩
noncomputable def FPlus : FnE := ⟨mkEv Try.prog [] [] 0, [0, 1, 2, 3, 4, 5, 6, 7], fun _ _ => .rounds 6⟩
def mPlus : List AV → (Nat → Option MB) → Option (List Nat × (Int × Int × Int × Int × Int × Int × Int × Int × Int × Int))
  | [.o (.g [.many 5 (.i .u64 [a, b, c, d, e])]), .o (.g [.many 5 (.i .u64 [p, q, r, s, t])])], _ => some ([], (a, b, c, d, e, p, q, r, s, t))
  | _, _ => none
noncomputable def cPlus : Spec := callG 35 Try.f35.ntmps mPlus kPlus
theorem vcPlus (a b c d e p q r s t : Int) : (wpE FPlus (Try.f35.body.getD .skip) ⟨Try.f35.ntmps, slotsOf 0 (kPlus (a, b, c, d, e, p, q, r, s, t)).avs, (kPlus (a, b, c, d, e, p, q, r, s, t)).mem⟩ (finK Try.prog Try.f35.results.toList (postN (kPlus (a, b, c, d, e, p, q, r, s, t))))) = ((0 : Int) ≤ (0 : Int) ∧ (0 : Int) < (5 : Int) ∧ (0 : Nat) < (5 : Nat) ∧ (0 : Int) ≤ (0 : Int) ∧ (0 : Int) < (5 : Int) ∧ (0 : Nat) < (5 : Nat) ∧ (0 : Int) ≤ (0 : Int) ∧ (0 : Int) < (5 : Int) ∧ (0 : Nat) < (5 : Nat) ∧ (0 : Int) ≤ (1 : Int) ∧ (1 : Int) < (5 : Int) ∧ (1 : Nat) < (5 : Nat) ∧ (0 : Int) ≤ (1 : Int) ∧ (1 : Int) < (5 : Int) ∧ (1 : Nat) < (5 : Nat) ∧ (0 : Int) ≤ (1 : Int) ∧ (1 : Int) < (5 : Int) ∧ (1 : Nat) < (5 : Nat) ∧ (0 : Int) ≤ (2 : Int) ∧ (2 : Int) < (5 : Int) ∧ (2 : Nat) < (5 : Nat) ∧ (0 : Int) ≤ (2 : Int) ∧ (2 : Int) < (5 : Int) ∧ (2 : Nat) < (5 : Nat) ∧ (0 : Int) ≤ (2 : Int) ∧ (2 : Int) < (5 : Int) ∧ (2 : Nat) < (5 : Nat) ∧ (0 : Int) ≤ (3 : Int) ∧ (3 : Int) < (5 : Int) ∧ (3 : Nat) < (5 : Nat) ∧ (0 : Int) ≤ (3 : Int) ∧ (3 : Int) < (5 : Int) ∧ (3 : Nat) < (5 : Nat) ∧ (0 : Int) ≤ (3 : Int) ∧ (3 : Int) < (5 : Int) ∧ (3 : Nat) < (5 : Nat) ∧ (0 : Int) ≤ (4 : Int) ∧ (4 : Int) < (5 : Int) ∧ (4 : Nat) < (5 : Nat) ∧ (0 : Int) ≤ (4 : Int) ∧ (4 : Int) < (5 : Int) ∧ (4 : Nat) < (5 : Nat) ∧ (0 : Int) ≤ (4 : Int) ∧ (4 : Int) < (5 : Int) ∧ (4 : Nat) < (5 : Nat) ∧ true = true ∧ true = true ∧ (19 : Nat) = (19 : Nat) ∧ (5 : Nat) = (5 : Nat) ∧ [IntKind.wrap IntKind.u64 (a + p), IntKind.wrap IntKind.u64 (b + q), IntKind.wrap IntKind.u64 (c + r), IntKind.wrap IntKind.u64 (d + s), IntKind.wrap IntKind.u64 (e + t)] = [w6 (a + p), w6 (b + q), w6 (c + r), w6 (d + s), w6 (e + t)]) := by kernel_rfl

set_option maxHeartbeats 8000000 in
theorem wpPlus (a b c d e p q r s t : Int) : wpE FPlus (Try.f35.body.getD .skip) ⟨Try.f35.ntmps, slotsOf 0 (kPlus (a, b, c, d, e, p, q, r, s, t)).avs, (kPlus (a, b, c, d, e, p, q, r, s, t)).mem⟩ (finK Try.prog Try.f35.results.toList (postN (kPlus (a, b, c, d, e, p, q, r, s, t)))) := by
  with_reducible refine Eq.mpr (vcPlus a b c d e p q r s t) ?_
  intros
  and_intros <;> first | omega | exact True.intro | kernel_rfl
set_option maxHeartbeats 8000000 in
theorem cPlus_ok : SpecOK Try.prog cPlus := by
  refine callG_ok (c := Try.f35.body.getD .skip) mixed Try.func35 (by kernel_rfl) rfl (fun x hob => ?_)
  obtain ⟨a, b, c, d, e, p, q, r, s, t⟩ := x
  exact ⟨FPlus, rfl, evOKs trivial, rfl, rfl, by with_reducible exact wpPlus a b c d e p q r s t ⟩

def ml (x y : Int) : Int := w6 (x * y)
def m5 (x y : Int) : Int := w6 (w6 (5 * x) * y)
def sm (x0 x1 x2 x3 x4 : Int) : Int := w6 (w6 (w6 (w6 (w6 (0 + x0) + x1) + x2) + x3) + x4)
def timesL (a b c d e p q r s t : Int) : List Int := upL (sm (ml a p) (m5 b t) (m5 c s) (m5 d r) (m5 e q)) (sm (ml a q) (ml b p) (m5 c t) (m5 d s) (m5 e r)) (sm (ml a r) (ml b q) (ml c p) (m5 d t) (m5 e s)) (sm (ml a s) (ml b r) (ml c q) (ml d p) (m5 e t)) (sm (ml a t) (ml b s) (ml c r) (ml d q) (ml e p))
def kTimes : Int × Int × Int × Int × Int × Int × Int × Int × Int × Int → ClN := fun (a, b, c, d, e, p, q, r, s, t) => ⟨[.o (.g [.many 5 (.i .u64 [a, b, c, d, e])]), .o (.g [.many 5 (.i .u64 [p, q, r, s, t])])], [], .o (.g [.many 5 (.i .u64 (timesL a b c d e p q r s t))]), [], [], []⟩
noncomputable def FTimes : FnE := ⟨mkEv Try.prog [] [cUp] 0, [0, 1, 2, 3, 4, 5, 6, 7, 8, 9, 10, 11, 12, 15, 16, 17, 23], fun _ _ => .rounds 6⟩
def mTimes : List AV → (Nat → Option MB) → Option (List Nat × (Int × Int × Int × Int × Int × Int × Int × Int × Int × Int))
  | [.o (.g [.many 5 (.i .u64 [a, b, c, d, e])]), .o (.g [.many 5 (.i .u64 [p, q, r, s, t])])], _ => some ([], (a, b, c, d, e, p, q, r, s, t))
  | _, _ => none
noncomputable def cTimes : Spec := callG 37 Try.f37.ntmps mTimes kTimes
theorem vcTimes (a b c d e p q r s t : Int) : (wpE FTimes (Try.f37.body.getD .skip) ⟨Try.f37.ntmps, slotsOf 0 (kTimes (a, b, c, d, e, p, q, r, s, t)).avs, (kTimes (a, b, c, d, e, p, q, r, s, t)).mem⟩ (finK Try.prog Try.f37.results.toList (postN (kTimes (a, b, c, d, e, p, q, r, s, t))))) = (let x1 := IntKind.wrap IntKind.u64 ((5 : Int) * c); let x2 := IntKind.wrap IntKind.u64 ((5 : Int) * d); let x3 := IntKind.wrap IntKind.u64 ((5 : Int) * e); let x4 := IntKind.wrap IntKind.u64 (IntKind.wrap IntKind.u64 (IntKind.wrap IntKind.u64 (IntKind.wrap IntKind.u64 (IntKind.wrap IntKind.u64 ((0 : Int) + IntKind.wrap IntKind.u64 (a * p)) + IntKind.wrap IntKind.u64 (IntKind.wrap IntKind.u64 ((5 : Int) * b) * t)) + IntKind.wrap IntKind.u64 (x1 * s)) + IntKind.wrap IntKind.u64 (x2 * r)) + IntKind.wrap IntKind.u64 (x3 * q)); let x5 := IntKind.wrap IntKind.u64 (IntKind.wrap IntKind.u64 (IntKind.wrap IntKind.u64 (IntKind.wrap IntKind.u64 (IntKind.wrap IntKind.u64 ((0 : Int) + IntKind.wrap IntKind.u64 (a * q)) + IntKind.wrap IntKind.u64 (b * p)) + IntKind.wrap IntKind.u64 (x1 * t)) + IntKind.wrap IntKind.u64 (x2 * s)) + IntKind.wrap IntKind.u64 (x3 * r)); let x6 := IntKind.wrap IntKind.u64 (IntKind.wrap IntKind.u64 (IntKind.wrap IntKind.u64 (IntKind.wrap IntKind.u64 (IntKind.wrap IntKind.u64 ((0 : Int) + IntKind.wrap IntKind.u64 (a * r)) + IntKind.wrap IntKind.u64 (b * q)) + IntKind.wrap IntKind.u64 (c * p)) + IntKind.wrap IntKind.u64 (x2 * t)) + IntKind.wrap IntKind.u64 (x3 * s)); let x7 := IntKind.wrap IntKind.u64 (IntKind.wrap IntKind.u64 (IntKind.wrap IntKind.u64 (IntKind.wrap IntKind.u64 (IntKind.wrap IntKind.u64 ((0 : Int) + IntKind.wrap IntKind.u64 (a * s)) + IntKind.wrap IntKind.u64 (b * r)) + IntKind.wrap IntKind.u64 (c * q)) + IntKind.wrap IntKind.u64 (d * p)) + IntKind.wrap IntKind.u64 (x3 * t)); let x8 := IntKind.wrap IntKind.u64 (IntKind.wrap IntKind.u64 (IntKind.wrap IntKind.u64 (IntKind.wrap IntKind.u64 (IntKind.wrap IntKind.u64 ((0 : Int) + IntKind.wrap IntKind.u64 (a * t)) + IntKind.wrap IntKind.u64 (b * s)) + IntKind.wrap IntKind.u64 (c * r)) + IntKind.wrap IntKind.u64 (d * q)) + IntKind.wrap IntKind.u64 (e * p)); let x9 := [x4, x5, x6, x7, x8]; (0 : Int) ≤ (0 : Int) ∧ (0 : Int) < (5 : Int) ∧ (0 : Int) ≤ (0 : Int) ∧ (0 : Int) < (5 : Int) ∧ (0 : Int) ≤ (0 : Int) ∧ (0 : Int) < (5 : Int) ∧ (0 : Nat) < (5 : Nat) ∧ (0 : Int) ≤ (0 : Int) ∧ (0 : Int) < (5 : Int) ∧ (0 : Nat) < (5 : Nat) ∧ (0 : Int) ≤ (1 : Int) ∧ (1 : Int) < (5 : Int) ∧ (0 : Int) ≤ (1 : Int) ∧ (1 : Int) < (5 : Int) ∧ (1 : Nat) < (5 : Nat) ∧ (0 : Int) ≤ (1 : Int) ∧ (1 : Int) < (5 : Int) ∧ (1 : Nat) < (5 : Nat) ∧ (0 : Int) ≤ (2 : Int) ∧ (2 : Int) < (5 : Int) ∧ (0 : Int) ≤ (2 : Int) ∧ (2 : Int) < (5 : Int) ∧ (2 : Nat) < (5 : Nat) ∧ (0 : Int) ≤ (2 : Int) ∧ (2 : Int) < (5 : Int) ∧ (2 : Nat) < (5 : Nat) ∧ (0 : Int) ≤ (3 : Int) ∧ (3 : Int) < (5 : Int) ∧ (0 : Int) ≤ (3 : Int) ∧ (3 : Int) < (5 : Int) ∧ (3 : Nat) < (5 : Nat) ∧ (0 : Int) ≤ (3 : Int) ∧ (3 : Int) < (5 : Int) ∧ (3 : Nat) < (5 : Nat) ∧ (0 : Int) ≤ (4 : Int) ∧ (4 : Int) < (5 : Int) ∧ (0 : Int) ≤ (4 : Int) ∧ (4 : Int) < (5 : Int) ∧ (4 : Nat) < (5 : Nat) ∧ (0 : Int) ≤ (4 : Int) ∧ (4 : Int) < (5 : Int) ∧ (4 : Nat) < (5 : Nat) ∧ (0 : Int) ≤ (1 : Int) ∧ (1 : Int) < (5 : Int) ∧ (0 : Int) ≤ (0 : Int) ∧ (0 : Int) < (5 : Int) ∧ (0 : Int) ≤ (1 : Int) ∧ (1 : Int) < (5 : Int) ∧ (1 : Nat) < (5 : Nat) ∧ (0 : Int) ≤ (1 : Int) ∧ (1 : Int) < (5 : Int) ∧ (1 : Nat) < (5 : Nat) ∧ (0 : Int) ≤ (1 : Int) ∧ (1 : Int) < (5 : Int) ∧ (0 : Int) ≤ (2 : Int) ∧ (2 : Int) < (5 : Int) ∧ (2 : Nat) < (5 : Nat) ∧ (0 : Int) ≤ (2 : Int) ∧ (2 : Int) < (5 : Int) ∧ (2 : Nat) < (5 : Nat) ∧ (0 : Int) ≤ (2 : Int) ∧ (2 : Int) < (5 : Int) ∧ (0 : Int) ≤ (3 : Int) ∧ (3 : Int) < (5 : Int) ∧ (3 : Nat) < (5 : Nat) ∧ (0 : Int) ≤ (3 : Int) ∧ (3 : Int) < (5 : Int) ∧ (3 : Nat) < (5 : Nat) ∧ (0 : Int) ≤ (3 : Int) ∧ (3 : Int) < (5 : Int) ∧ (0 : Int) ≤ (4 : Int) ∧ (4 : Int) < (5 : Int) ∧ (4 : Nat) < (5 : Nat) ∧ (0 : Int) ≤ (4 : Int) ∧ (4 : Int) < (5 : Int) ∧ (4 : Nat) < (5 : Nat) ∧ (0 : Int) ≤ (4 : Int) ∧ (4 : Int) < (5 : Int) ∧ (0 : Int) ≤ (0 : Int) ∧ (0 : Int) < (5 : Int) ∧ (0 : Nat) < (5 : Nat) ∧ (0 : Int) ≤ (0 : Int) ∧ (0 : Int) < (5 : Int) ∧ (0 : Nat) < (5 : Nat) ∧ (0 : Int) ≤ (2 : Int) ∧ (2 : Int) < (5 : Int) ∧ (0 : Int) ≤ (0 : Int) ∧ (0 : Int) < (5 : Int) ∧ (0 : Int) ≤ (2 : Int) ∧ (2 : Int) < (5 : Int) ∧ (2 : Nat) < (5 : Nat) ∧ (0 : Int) ≤ (2 : Int) ∧ (2 : Int) < (5 : Int) ∧ (2 : Nat) < (5 : Nat) ∧ (0 : Int) ≤ (1 : Int) ∧ (1 : Int) < (5 : Int) ∧ (0 : Int) ≤ (3 : Int) ∧ (3 : Int) < (5 : Int) ∧ (3 : Nat) < (5 : Nat) ∧ (0 : Int) ≤ (3 : Int) ∧ (3 : Int) < (5 : Int) ∧ (3 : Nat) < (5 : Nat) ∧ (0 : Int) ≤ (2 : Int) ∧ (2 : Int) < (5 : Int) ∧ (0 : Int) ≤ (4 : Int) ∧ (4 : Int) < (5 : Int) ∧ (4 : Nat) < (5 : Nat) ∧ (0 : Int) ≤ (4 : Int) ∧ (4 : Int) < (5 : Int) ∧ (4 : Nat) < (5 : Nat) ∧ (0 : Int) ≤ (3 : Int) ∧ (3 : Int) < (5 : Int) ∧ (0 : Int) ≤ (0 : Int) ∧ (0 : Int) < (5 : Int) ∧ (0 : Nat) < (5 : Nat) ∧ (0 : Int) ≤ (0 : Int) ∧ (0 : Int) < (5 : Int) ∧ (0 : Nat) < (5 : Nat) ∧ (0 : Int) ≤ (4 : Int) ∧ (4 : Int) < (5 : Int) ∧ (0 : Int) ≤ (1 : Int) ∧ (1 : Int) < (5 : Int) ∧ (1 : Nat) < (5 : Nat) ∧ (0 : Int) ≤ (1 : Int) ∧ (1 : Int) < (5 : Int) ∧ (1 : Nat) < (5 : Nat) ∧ (0 : Int) ≤ (3 : Int) ∧ (3 : Int) < (5 : Int) ∧ (0 : Int) ≤ (0 : Int) ∧ (0 : Int) < (5 : Int) ∧ (0 : Int) ≤ (3 : Int) ∧ (3 : Int) < (5 : Int) ∧ (3 : Nat) < (5 : Nat) ∧ (0 : Int) ≤ (3 : Int) ∧ (3 : Int) < (5 : Int) ∧ (3 : Nat) < (5 : Nat) ∧ (0 : Int) ≤ (1 : Int) ∧ (1 : Int) < (5 : Int) ∧ (0 : Int) ≤ (4 : Int) ∧ (4 : Int) < (5 : Int) ∧ (4 : Nat) < (5 : Nat) ∧ (0 : Int) ≤ (4 : Int) ∧ (4 : Int) < (5 : Int) ∧ (4 : Nat) < (5 : Nat) ∧ (0 : Int) ≤ (2 : Int) ∧ (2 : Int) < (5 : Int) ∧ (0 : Int) ≤ (0 : Int) ∧ (0 : Int) < (5 : Int) ∧ (0 : Nat) < (5 : Nat) ∧ (0 : Int) ≤ (0 : Int) ∧ (0 : Int) < (5 : Int) ∧ (0 : Nat) < (5 : Nat) ∧ (0 : Int) ≤ (3 : Int) ∧ (3 : Int) < (5 : Int) ∧ (0 : Int) ≤ (1 : Int) ∧ (1 : Int) < (5 : Int) ∧ (1 : Nat) < (5 : Nat) ∧ (0 : Int) ≤ (1 : Int) ∧ (1 : Int) < (5 : Int) ∧ (1 : Nat) < (5 : Nat) ∧ (0 : Int) ≤ (4 : Int) ∧ (4 : Int) < (5 : Int) ∧ (0 : Int) ≤ (2 : Int) ∧ (2 : Int) < (5 : Int) ∧ (2 : Nat) < (5 : Nat) ∧ (0 : Int) ≤ (2 : Int) ∧ (2 : Int) < (5 : Int) ∧ (2 : Nat) < (5 : Nat) ∧ (0 : Int) ≤ (4 : Int) ∧ (4 : Int) < (5 : Int) ∧ (0 : Int) ≤ (0 : Int) ∧ (0 : Int) < (5 : Int) ∧ (0 : Int) ≤ (4 : Int) ∧ (4 : Int) < (5 : Int) ∧ (4 : Nat) < (5 : Nat) ∧ (0 : Int) ≤ (4 : Int) ∧ (4 : Int) < (5 : Int) ∧ (4 : Nat) < (5 : Nat) ∧ (0 : Int) ≤ (1 : Int) ∧ (1 : Int) < (5 : Int) ∧ (0 : Int) ≤ (0 : Int) ∧ (0 : Int) < (5 : Int) ∧ (0 : Nat) < (5 : Nat) ∧ (0 : Int) ≤ (0 : Int) ∧ (0 : Int) < (5 : Int) ∧ (0 : Nat) < (5 : Nat) ∧ (0 : Int) ≤ (2 : Int) ∧ (2 : Int) < (5 : Int) ∧ (0 : Int) ≤ (1 : Int) ∧ (1 : Int) < (5 : Int) ∧ (1 : Nat) < (5 : Nat) ∧ (0 : Int) ≤ (1 : Int) ∧ (1 : Int) < (5 : Int) ∧ (1 : Nat) < (5 : Nat) ∧ (0 : Int) ≤ (3 : Int) ∧ (3 : Int) < (5 : Int) ∧ (0 : Int) ≤ (2 : Int) ∧ (2 : Int) < (5 : Int) ∧ (2 : Nat) < (5 : Nat) ∧ (0 : Int) ≤ (2 : Int) ∧ (2 : Int) < (5 : Int) ∧ (2 : Nat) < (5 : Nat) ∧ (0 : Int) ≤ (4 : Int) ∧ (4 : Int) < (5 : Int) ∧ (0 : Int) ≤ (3 : Int) ∧ (3 : Int) < (5 : Int) ∧ (3 : Nat) < (5 : Nat) ∧ (0 : Int) ≤ (3 : Int) ∧ (3 : Int) < (5 : Int) ∧ (3 : Nat) < (5 : Nat) ∧ true = true ∧ (5 : Nat) = (5 : Nat) ∧ x9 = x9 ∧ true = true ∧ true = true ∧ (50 : Nat) = (50 : Nat) ∧ (5 : Nat) = (5 : Nat) ∧ upL x4 x5 x6 x7 x8 = timesL a b c d e p q r s t) := by kernel_rfl

set_option maxHeartbeats 8000000 in
theorem wpTimes (a b c d e p q r s t : Int) : wpE FTimes (Try.f37.body.getD .skip) ⟨Try.f37.ntmps, slotsOf 0 (kTimes (a, b, c, d, e, p, q, r, s, t)).avs, (kTimes (a, b, c, d, e, p, q, r, s, t)).mem⟩ (finK Try.prog Try.f37.results.toList (postN (kTimes (a, b, c, d, e, p, q, r, s, t)))) := by
  with_reducible refine Eq.mpr (vcTimes a b c d e p q r s t) ?_
  intros
  and_intros <;> first | omega | exact True.intro | kernel_rfl
set_option maxHeartbeats 8000000 in
theorem cTimes_ok : SpecOK Try.prog cTimes := by
  refine callG_ok (c := Try.f37.body.getD .skip) mixed Try.func37 (by kernel_rfl) rfl (fun x hob => ?_)
  obtain ⟨a, b, c, d, e, p, q, r, s, t⟩ := x
  exact ⟨FTimes, rfl, evOKs ⟨.inl ⟨cUp_ok, by kernel_rfl, gl_nil rfl⟩, trivial⟩, rfl, rfl, by with_reducible exact wpTimes a b c d e p q r s t ⟩

/-- Eight bytes as a word, as it is reckoned. -/
def w8 (l : List Int) : Int := [0, 1, 2, 3, 4, 5, 6, 7].foldl (fun x i => bits .or .u64 x (sShl .u64 (IntKind.wrap .u64 (l.getD i 0)) (8 * (i : Int)))) 0
def kPWord : Nat × (List Int) → ClN := fun (n, l) => ⟨[.o (.c (.rs 1 n (.i .u8 l)))], [], vv (.int .u64 (w8 l)), [], [], [8 ≤ n, l.length = n]⟩
noncomputable def FPWord : FnE := ⟨mkEv Try.prog [] [] 0, [0, 2, 3, 4, 5, 6], fun _ _ => .rounds 9⟩
def mPWord : List AV → (Nat → Option MB) → Option (List Nat × (Nat × (List Int)))
  | [.o (.c c)], lk => match slI lk c with
    | some (n, l) => some ([], n, l)
    | none => none
  | _, _ => none
noncomputable def cPWord : Spec := callG 53 Try.f53.ntmps mPWord kPWord
theorem vcPWord (n : Nat) (l : List Int) : (wpE FPWord (Try.f53.body.getD .skip) ⟨Try.f53.ntmps, slotsOf 0 (kPWord (n, l)).avs, (kPWord (n, l)).mem⟩ (finK Try.prog Try.f53.results.toList (postN (kPWord (n, l))))) = ((0 : Int) ≤ (0 : Int) ∧ (0 : Int) < (↑n : Int) ∧ (0 : Nat) < List.length l ∧ (0 : Int) ≤ (0 : Int) ∧ (0 : Int) ≤ (1 : Int) ∧ (1 : Int) < (↑n : Int) ∧ (1 : Nat) < List.length l ∧ (0 : Int) ≤ (8 : Int) ∧ (0 : Int) ≤ (2 : Int) ∧ (2 : Int) < (↑n : Int) ∧ (2 : Nat) < List.length l ∧ (0 : Int) ≤ (16 : Int) ∧ (0 : Int) ≤ (3 : Int) ∧ (3 : Int) < (↑n : Int) ∧ (3 : Nat) < List.length l ∧ (0 : Int) ≤ (24 : Int) ∧ (0 : Int) ≤ (4 : Int) ∧ (4 : Int) < (↑n : Int) ∧ (4 : Nat) < List.length l ∧ (0 : Int) ≤ (32 : Int) ∧ (0 : Int) ≤ (5 : Int) ∧ (5 : Int) < (↑n : Int) ∧ (5 : Nat) < List.length l ∧ (0 : Int) ≤ (40 : Int) ∧ (0 : Int) ≤ (6 : Int) ∧ (6 : Int) < (↑n : Int) ∧ (6 : Nat) < List.length l ∧ (0 : Int) ≤ (48 : Int) ∧ (0 : Int) ≤ (7 : Int) ∧ (7 : Int) < (↑n : Int) ∧ (7 : Nat) < List.length l ∧ (0 : Int) ≤ (56 : Int) ∧ true = true ∧ true = true ∧ (20 : Nat) = (20 : Nat) ∧ Value.int IntKind.u64 (bits BinOp.or IntKind.u64 (bits BinOp.or IntKind.u64 (bits BinOp.or IntKind.u64 (bits BinOp.or IntKind.u64 (bits BinOp.or IntKind.u64 (bits BinOp.or IntKind.u64 (bits BinOp.or IntKind.u64 (bits BinOp.or IntKind.u64 (0 : Int) (sShl IntKind.u64 (IntKind.wrap IntKind.u64 (List.getD l (0 : Nat) (0 : Int))) (0 : Int))) (sShl IntKind.u64 (IntKind.wrap IntKind.u64 (List.getD l (1 : Nat) (0 : Int))) (8 : Int))) (sShl IntKind.u64 (IntKind.wrap IntKind.u64 (List.getD l (2 : Nat) (0 : Int))) (16 : Int))) (sShl IntKind.u64 (IntKind.wrap IntKind.u64 (List.getD l (3 : Nat) (0 : Int))) (24 : Int))) (sShl IntKind.u64 (IntKind.wrap IntKind.u64 (List.getD l (4 : Nat) (0 : Int))) (32 : Int))) (sShl IntKind.u64 (IntKind.wrap IntKind.u64 (List.getD l (5 : Nat) (0 : Int))) (40 : Int))) (sShl IntKind.u64 (IntKind.wrap IntKind.u64 (List.getD l (6 : Nat) (0 : Int))) (48 : Int))) (sShl IntKind.u64 (IntKind.wrap IntKind.u64 (List.getD l (7 : Nat) (0 : Int))) (56 : Int))) = Value.int IntKind.u64 (w8 l)) := by kernel_rfl

set_option maxHeartbeats 8000000 in
theorem wpPWord (n : Nat) (l : List Int) (h1 : 8 ≤ n) (h2 : l.length = n) : wpE FPWord (Try.f53.body.getD .skip) ⟨Try.f53.ntmps, slotsOf 0 (kPWord (n, l)).avs, (kPWord (n, l)).mem⟩ (finK Try.prog Try.f53.results.toList (postN (kPWord (n, l)))) := by
  with_reducible refine Eq.mpr (vcPWord n l) ?_
  intros
  and_intros <;> first | omega | exact True.intro | kernel_rfl
set_option maxHeartbeats 8000000 in
theorem cPWord_ok : SpecOK Try.prog cPWord := by
  refine callG_ok (c := Try.f53.body.getD .skip) mixed Try.func53 (by kernel_rfl) rfl (fun x hob => ?_)
  obtain ⟨n, l⟩ := x
  have hob : (8 ≤ n) ∧ (l.length = n) := hob
  obtain ⟨h1, h2⟩ := hob
  exact ⟨FPWord, rfl, evOKs trivial, rfl, rfl, by with_reducible exact wpPWord n l h1 h2⟩

def digL (l : List Int) (x : Int) : List Int := [bits .and .u64 (w8 l) 67108863, bits .and .u64 (sShr .u64 (w8 l) 26) 67108863, bits .and .u64 (bits .or .u64 (sShr .u64 (w8 l) 52) (sShl .u64 (w8 (l.drop 8)) 12)) 67108863, bits .and .u64 (sShr .u64 (w8 (l.drop 8)) 14) 67108863, bits .or .u64 (sShr .u64 (w8 (l.drop 8)) 40) (sShl .u64 x 24)]
theorem take_drop8 {l : List Int} {n : Nat} (h : l.length = n) : (l.drop 8).take (n - 8) = l.drop 8 := List.take_of_length_le (by rw [List.length_drop]; omega)
def kDigits : Nat × (List Int) × Int → ClN := fun (n, l, x) => ⟨[.o (.c (.rs 1 n (.i .u8 l))), vv (.int .u64 x)], [], .o (.g [.many 5 (.i .u64 (digL l x))]), [], [], [16 ≤ n, l.length = n]⟩
noncomputable def FDigits : FnE := ⟨mkEv Try.prog [] [cPWord] 0, [0, 1, 4, 5, 6], fun _ _ => .rounds 0⟩
def mDigits : List AV → (Nat → Option MB) → Option (List Nat × (Nat × (List Int) × Int))
  | [.o (.c c), .o (.c (.v (.int .u64 x)))], lk => match slI lk c with
    | some (n, l) => some ([], n, l, x)
    | none => none
  | _, _ => none
noncomputable def cDigits : Spec := callG 49 Try.f49.ntmps mDigits kDigits
theorem vcDigits (n : Nat) (l : List Int) (x : Int) : (wpE FDigits (Try.f49.body.getD .skip) ⟨Try.f49.ntmps, slotsOf 0 (kDigits (n, l, x)).avs, (kDigits (n, l, x)).mem⟩ (finK Try.prog Try.f49.results.toList (postN (kDigits (n, l, x))))) = (let x1 := List.take (n - (8 : Nat)) (List.drop (8 : Nat) l); let x2 := w8 x1; true = true ∧ true = true ∧ n = n ∧ l = l ∧ (8 : Nat) ≤ n ∧ List.length l = n ∧ (0 : Int) ≤ (8 : Int) ∧ (8 : Nat) ≤ n ∧ true = true ∧ true = true ∧ n - (8 : Nat) = n - (8 : Nat) ∧ x1 = x1 ∧ (8 : Nat) ≤ n - (8 : Nat) ∧ List.length x1 = n - (8 : Nat) ∧ (0 : Int) ≤ (26 : Int) ∧ (0 : Int) ≤ (52 : Int) ∧ (0 : Int) ≤ (12 : Int) ∧ (0 : Int) ≤ (14 : Int) ∧ (0 : Int) ≤ (40 : Int) ∧ (0 : Int) ≤ (24 : Int) ∧ true = true ∧ true = true ∧ (32 : Nat) = (32 : Nat) ∧ (5 : Nat) = (5 : Nat) ∧ [bits BinOp.and IntKind.u64 (w8 l) (67108863 : Int), bits BinOp.and IntKind.u64 (sShr IntKind.u64 (w8 l) (26 : Int)) (67108863 : Int), bits BinOp.and IntKind.u64 (bits BinOp.or IntKind.u64 (sShr IntKind.u64 (w8 l) (52 : Int)) (sShl IntKind.u64 x2 (12 : Int))) (67108863 : Int), bits BinOp.and IntKind.u64 (sShr IntKind.u64 x2 (14 : Int)) (67108863 : Int), bits BinOp.or IntKind.u64 (sShr IntKind.u64 x2 (40 : Int)) (sShl IntKind.u64 x (24 : Int))] = digL l x) := by kernel_rfl

set_option maxHeartbeats 8000000 in
theorem wpDigits (n : Nat) (l : List Int) (x : Int) (h1 : 16 ≤ n) (h2 : l.length = n) : wpE FDigits (Try.f49.body.getD .skip) ⟨Try.f49.ntmps, slotsOf 0 (kDigits (n, l, x)).avs, (kDigits (n, l, x)).mem⟩ (finK Try.prog Try.f49.results.toList (postN (kDigits (n, l, x)))) := by
  with_reducible refine Eq.mpr (vcDigits n l x) ?_
  simp only [take_drop8 h2]
  have hl : (l.drop 8).length = n - 8 := by rw [List.length_drop, h2]
  and_intros <;> first | omega | exact True.intro | kernel_rfl
set_option maxHeartbeats 8000000 in
theorem cDigits_ok : SpecOK Try.prog cDigits := by
  refine callG_ok (c := Try.f49.body.getD .skip) mixed Try.func49 (by kernel_rfl) rfl (fun x hob => ?_)
  obtain ⟨n, l, x⟩ := x
  have hob : (16 ≤ n) ∧ (l.length = n) := hob
  obtain ⟨h1, h2⟩ := hob
  exact ⟨FDigits, rfl, evOKs ⟨.inl ⟨cPWord_ok, by kernel_rfl, gl_nil rfl⟩, trivial⟩, rfl, rfl, by with_reducible exact wpDigits n l x h1 h2⟩
end Go.Proofs.Ytdbgnkmmjjgbpaa
