/-
  poly: numbers of five digits.
-/
/-
  poly: blocks read, the factor.
-/
/-
  poly: a block read and taken.
-/
/-
  poly: the sum of parts.
-/
/-
  poly: Sum.
-/
import Derived.Test.YthhjcpiaoempfaaDoorMx
namespace Go.Proofs.YthhjcpiaoempfaaDoor
open Go.RowKit
set_option maxRecDepth 100000

def w6 (x : Int) : Int := IntKind.wrap .u64 x
def m26 (x : Int) : Int := bits .and .u64 x 67108863
def s26 (x : Int) : Int := sShr .u64 x 26
def upL (a b c d e : Int) : List Int :=
  [w6 (m26 (w6 (a + 0)) + w6 (5 * s26 (w6 (e + s26 (w6 (d + s26 (w6 (c + s26 (w6 (b + s26 (w6 (a + 0)))))))))))), m26 (w6 (b + s26 (w6 (a + 0)))), m26 (w6 (c + s26 (w6 (b + s26 (w6 (a + 0)))))), m26 (w6 (d + s26 (w6 (c + s26 (w6 (b + s26 (w6 (a + 0)))))))), m26 (w6 (e + s26 (w6 (d + s26 (w6 (c + s26 (w6 (b + s26 (w6 (a + 0)))))))))) ]
def kUp : Int × Int × Int × Int × Int → ClN := fun (a, b, c, d, e) => ⟨[.o (.g [.many 5 (.i .u64 [a, b, c, d, e])])], [], .o (.g [.many 5 (.i .u64 (upL a b c d e))]), [], [], []⟩
noncomputable def FUp : FnE := ⟨mkEv Tryd.prog [] [] 0, [0, 1, 2, 3, 4, 5, 6], fun _ _ => .rounds 6⟩
def mUp : List AV → (Nat → Option MB) → Option (List Nat × (Int × Int × Int × Int × Int))
  | [.o (.g [.many 5 (.i .u64 [a, b, c, d, e])])], _ => some ([], (a, b, c, d, e))
  | _, _ => none
noncomputable def cUp : Spec := callG 60 Tryd.f60.ntmps mUp kUp
theorem vcUp (a b c d e : Int) : (wpE FUp (Tryd.f60.body.getD .skip) ⟨Tryd.f60.ntmps, slotsOf 0 (kUp (a, b, c, d, e)).avs, (kUp (a, b, c, d, e)).mem⟩ (finK Tryd.prog Tryd.f60.results.toList (postN (kUp (a, b, c, d, e))))) = (let x1 := IntKind.wrap IntKind.u64 (a + (0 : Int)); let x2 := IntKind.wrap IntKind.u64 (b + sShr IntKind.u64 x1 (26 : Int)); let x3 := IntKind.wrap IntKind.u64 (c + sShr IntKind.u64 x2 (26 : Int)); let x4 := IntKind.wrap IntKind.u64 (d + sShr IntKind.u64 x3 (26 : Int)); let x5 := IntKind.wrap IntKind.u64 (e + sShr IntKind.u64 x4 (26 : Int)); (0 : Int) ≤ (0 : Int) ∧ (0 : Int) < (5 : Int) ∧ (0 : Nat) < (5 : Nat) ∧ (0 : Int) ≤ (0 : Int) ∧ (0 : Int) < (5 : Int) ∧ (0 : Nat) < (5 : Nat) ∧ (0 : Int) ≤ (0 : Int) ∧ (0 : Int) < (5 : Int) ∧ (0 : Nat) < (5 : Nat) ∧ (0 : Int) ≤ (26 : Int) ∧ (0 : Int) ≤ (0 : Int) ∧ (0 : Int) < (5 : Int) ∧ (0 : Nat) < (5 : Nat) ∧ (0 : Int) ≤ (0 : Int) ∧ (0 : Int) < (5 : Int) ∧ (0 : Nat) < (5 : Nat) ∧ (0 : Int) ≤ (1 : Int) ∧ (1 : Int) < (5 : Int) ∧ (1 : Nat) < (5 : Nat) ∧ (0 : Int) ≤ (1 : Int) ∧ (1 : Int) < (5 : Int) ∧ (1 : Nat) < (5 : Nat) ∧ (0 : Int) ≤ (1 : Int) ∧ (1 : Int) < (5 : Int) ∧ (1 : Nat) < (5 : Nat) ∧ (0 : Int) ≤ (26 : Int) ∧ (0 : Int) ≤ (1 : Int) ∧ (1 : Int) < (5 : Int) ∧ (1 : Nat) < (5 : Nat) ∧ (0 : Int) ≤ (1 : Int) ∧ (1 : Int) < (5 : Int) ∧ (1 : Nat) < (5 : Nat) ∧ (0 : Int) ≤ (2 : Int) ∧ (2 : Int) < (5 : Int) ∧ (2 : Nat) < (5 : Nat) ∧ (0 : Int) ≤ (2 : Int) ∧ (2 : Int) < (5 : Int) ∧ (2 : Nat) < (5 : Nat) ∧ (0 : Int) ≤ (2 : Int) ∧ (2 : Int) < (5 : Int) ∧ (2 : Nat) < (5 : Nat) ∧ (0 : Int) ≤ (26 : Int) ∧ (0 : Int) ≤ (2 : Int) ∧ (2 : Int) < (5 : Int) ∧ (2 : Nat) < (5 : Nat) ∧ (0 : Int) ≤ (2 : Int) ∧ (2 : Int) < (5 : Int) ∧ (2 : Nat) < (5 : Nat) ∧ (0 : Int) ≤ (3 : Int) ∧ (3 : Int) < (5 : Int) ∧ (3 : Nat) < (5 : Nat) ∧ (0 : Int) ≤ (3 : Int) ∧ (3 : Int) < (5 : Int) ∧ (3 : Nat) < (5 : Nat) ∧ (0 : Int) ≤ (3 : Int) ∧ (3 : Int) < (5 : Int) ∧ (3 : Nat) < (5 : Nat) ∧ (0 : Int) ≤ (26 : Int) ∧ (0 : Int) ≤ (3 : Int) ∧ (3 : Int) < (5 : Int) ∧ (3 : Nat) < (5 : Nat) ∧ (0 : Int) ≤ (3 : Int) ∧ (3 : Int) < (5 : Int) ∧ (3 : Nat) < (5 : Nat) ∧ (0 : Int) ≤ (4 : Int) ∧ (4 : Int) < (5 : Int) ∧ (4 : Nat) < (5 : Nat) ∧ (0 : Int) ≤ (4 : Int) ∧ (4 : Int) < (5 : Int) ∧ (4 : Nat) < (5 : Nat) ∧ (0 : Int) ≤ (4 : Int) ∧ (4 : Int) < (5 : Int) ∧ (4 : Nat) < (5 : Nat) ∧ (0 : Int) ≤ (26 : Int) ∧ (0 : Int) ≤ (4 : Int) ∧ (4 : Int) < (5 : Int) ∧ (4 : Nat) < (5 : Nat) ∧ (0 : Int) ≤ (4 : Int) ∧ (4 : Int) < (5 : Int) ∧ (4 : Nat) < (5 : Nat) ∧ (0 : Int) ≤ (0 : Int) ∧ (0 : Int) < (5 : Int) ∧ (0 : Nat) < (5 : Nat) ∧ (0 : Int) ≤ (0 : Int) ∧ (0 : Int) < (5 : Int) ∧ (0 : Nat) < (5 : Nat) ∧ true = true ∧ true = true ∧ (31 : Nat) = (31 : Nat) ∧ (5 : Nat) = (5 : Nat) ∧ [IntKind.wrap IntKind.u64 (bits BinOp.and IntKind.u64 x1 (67108863 : Int) + IntKind.wrap IntKind.u64 ((5 : Int) * sShr IntKind.u64 x5 (26 : Int))), bits BinOp.and IntKind.u64 x2 (67108863 : Int), bits BinOp.and IntKind.u64 x3 (67108863 : Int), bits BinOp.and IntKind.u64 x4 (67108863 : Int), bits BinOp.and IntKind.u64 x5 (67108863 : Int)] = upL a b c d e) := by kernel_rfl

set_option maxHeartbeats 8000000 in
theorem wpUp (a b c d e : Int) : wpE FUp (Tryd.f60.body.getD .skip) ⟨Tryd.f60.ntmps, slotsOf 0 (kUp (a, b, c, d, e)).avs, (kUp (a, b, c, d, e)).mem⟩ (finK Tryd.prog Tryd.f60.results.toList (postN (kUp (a, b, c, d, e)))) := by
  with_reducible refine Eq.mpr (vcUp a b c d e) ?_
  intros
  and_intros <;> first | omega | exact True.intro | kernel_rfl
set_option maxHeartbeats 8000000 in
theorem cUp_ok : SpecOK Tryd.prog cUp := by
  refine callG_ok (c := Tryd.f60.body.getD .skip) mixed Tryd.func60 (by kernel_rfl) rfl (fun x hob => ?_)
  obtain ⟨a, b, c, d, e⟩ := x
  exact ⟨FUp, rfl, evOKs trivial, rfl, rfl, by with_reducible exact wpUp a b c d e ⟩

def kPlus : Int × Int × Int × Int × Int × Int × Int × Int × Int × Int → ClN := fun (a, b, c, d, e, p, q, r, s, t) => ⟨[.o (.g [.many 5 (.i .u64 [a, b, c, d, e])]), .o (.g [.many 5 (.i .u64 [p, q, r, s, t])])], [], .o (.g [.many 5 (.i .u64 [w6 (a + p), w6 (b + q), w6 (c + r), w6 (d + s), w6 (e + t)])]), [], [], []⟩
noncomputable def FPlus : FnE := ⟨mkEv Tryd.prog [] [] 0, [0, 1, 2, 3, 4, 5, 6, 7], fun _ _ => .rounds 6⟩
def mPlus : List AV → (Nat → Option MB) → Option (List Nat × (Int × Int × Int × Int × Int × Int × Int × Int × Int × Int))
  | [.o (.g [.many 5 (.i .u64 [a, b, c, d, e])]), .o (.g [.many 5 (.i .u64 [p, q, r, s, t])])], _ => some ([], (a, b, c, d, e, p, q, r, s, t))
  | _, _ => none
noncomputable def cPlus : Spec := callG 43 Tryd.f43.ntmps mPlus kPlus
theorem vcPlus (a b c d e p q r s t : Int) : (wpE FPlus (Tryd.f43.body.getD .skip) ⟨Tryd.f43.ntmps, slotsOf 0 (kPlus (a, b, c, d, e, p, q, r, s, t)).avs, (kPlus (a, b, c, d, e, p, q, r, s, t)).mem⟩ (finK Tryd.prog Tryd.f43.results.toList (postN (kPlus (a, b, c, d, e, p, q, r, s, t))))) = ((0 : Int) ≤ (0 : Int) ∧ (0 : Int) < (5 : Int) ∧ (0 : Nat) < (5 : Nat) ∧ (0 : Int) ≤ (0 : Int) ∧ (0 : Int) < (5 : Int) ∧ (0 : Nat) < (5 : Nat) ∧ (0 : Int) ≤ (0 : Int) ∧ (0 : Int) < (5 : Int) ∧ (0 : Nat) < (5 : Nat) ∧ (0 : Int) ≤ (1 : Int) ∧ (1 : Int) < (5 : Int) ∧ (1 : Nat) < (5 : Nat) ∧ (0 : Int) ≤ (1 : Int) ∧ (1 : Int) < (5 : Int) ∧ (1 : Nat) < (5 : Nat) ∧ (0 : Int) ≤ (1 : Int) ∧ (1 : Int) < (5 : Int) ∧ (1 : Nat) < (5 : Nat) ∧ (0 : Int) ≤ (2 : Int) ∧ (2 : Int) < (5 : Int) ∧ (2 : Nat) < (5 : Nat) ∧ (0 : Int) ≤ (2 : Int) ∧ (2 : Int) < (5 : Int) ∧ (2 : Nat) < (5 : Nat) ∧ (0 : Int) ≤ (2 : Int) ∧ (2 : Int) < (5 : Int) ∧ (2 : Nat) < (5 : Nat) ∧ (0 : Int) ≤ (3 : Int) ∧ (3 : Int) < (5 : Int) ∧ (3 : Nat) < (5 : Nat) ∧ (0 : Int) ≤ (3 : Int) ∧ (3 : Int) < (5 : Int) ∧ (3 : Nat) < (5 : Nat) ∧ (0 : Int) ≤ (3 : Int) ∧ (3 : Int) < (5 : Int) ∧ (3 : Nat) < (5 : Nat) ∧ (0 : Int) ≤ (4 : Int) ∧ (4 : Int) < (5 : Int) ∧ (4 : Nat) < (5 : Nat) ∧ (0 : Int) ≤ (4 : Int) ∧ (4 : Int) < (5 : Int) ∧ (4 : Nat) < (5 : Nat) ∧ (0 : Int) ≤ (4 : Int) ∧ (4 : Int) < (5 : Int) ∧ (4 : Nat) < (5 : Nat) ∧ true = true ∧ true = true ∧ (19 : Nat) = (19 : Nat) ∧ (5 : Nat) = (5 : Nat) ∧ [IntKind.wrap IntKind.u64 (a + p), IntKind.wrap IntKind.u64 (b + q), IntKind.wrap IntKind.u64 (c + r), IntKind.wrap IntKind.u64 (d + s), IntKind.wrap IntKind.u64 (e + t)] = [w6 (a + p), w6 (b + q), w6 (c + r), w6 (d + s), w6 (e + t)]) := by kernel_rfl

set_option maxHeartbeats 8000000 in
theorem wpPlus (a b c d e p q r s t : Int) : wpE FPlus (Tryd.f43.body.getD .skip) ⟨Tryd.f43.ntmps, slotsOf 0 (kPlus (a, b, c, d, e, p, q, r, s, t)).avs, (kPlus (a, b, c, d, e, p, q, r, s, t)).mem⟩ (finK Tryd.prog Tryd.f43.results.toList (postN (kPlus (a, b, c, d, e, p, q, r, s, t)))) := by
  with_reducible refine Eq.mpr (vcPlus a b c d e p q r s t) ?_
  intros
  and_intros <;> first | omega | exact True.intro | kernel_rfl
set_option maxHeartbeats 8000000 in
theorem cPlus_ok : SpecOK Tryd.prog cPlus := by
  refine callG_ok (c := Tryd.f43.body.getD .skip) mixed Tryd.func43 (by kernel_rfl) rfl (fun x hob => ?_)
  obtain ⟨a, b, c, d, e, p, q, r, s, t⟩ := x
  exact ⟨FPlus, rfl, evOKs trivial, rfl, rfl, by with_reducible exact wpPlus a b c d e p q r s t ⟩

def ml (x y : Int) : Int := w6 (x * y)
def m5 (x y : Int) : Int := w6 (w6 (5 * x) * y)
def sm (x0 x1 x2 x3 x4 : Int) : Int := w6 (w6 (w6 (w6 (w6 (0 + x0) + x1) + x2) + x3) + x4)
def timesL (a b c d e p q r s t : Int) : List Int := upL (sm (ml a p) (m5 b t) (m5 c s) (m5 d r) (m5 e q)) (sm (ml a q) (ml b p) (m5 c t) (m5 d s) (m5 e r)) (sm (ml a r) (ml b q) (ml c p) (m5 d t) (m5 e s)) (sm (ml a s) (ml b r) (ml c q) (ml d p) (m5 e t)) (sm (ml a t) (ml b s) (ml c r) (ml d q) (ml e p))
def kTimes : Int × Int × Int × Int × Int × Int × Int × Int × Int × Int → ClN := fun (a, b, c, d, e, p, q, r, s, t) => ⟨[.o (.g [.many 5 (.i .u64 [a, b, c, d, e])]), .o (.g [.many 5 (.i .u64 [p, q, r, s, t])])], [], .o (.g [.many 5 (.i .u64 (timesL a b c d e p q r s t))]), [], [], []⟩
noncomputable def FTimes : FnE := ⟨mkEv Tryd.prog [] [cUp] 0, [0, 1, 2, 3, 4, 5, 6, 7, 8, 9, 10, 11, 12, 15, 16, 17, 23], fun _ _ => .rounds 6⟩
def mTimes : List AV → (Nat → Option MB) → Option (List Nat × (Int × Int × Int × Int × Int × Int × Int × Int × Int × Int))
  | [.o (.g [.many 5 (.i .u64 [a, b, c, d, e])]), .o (.g [.many 5 (.i .u64 [p, q, r, s, t])])], _ => some ([], (a, b, c, d, e, p, q, r, s, t))
  | _, _ => none
noncomputable def cTimes : Spec := callG 45 Tryd.f45.ntmps mTimes kTimes
theorem vcTimes (a b c d e p q r s t : Int) : (wpE FTimes (Tryd.f45.body.getD .skip) ⟨Tryd.f45.ntmps, slotsOf 0 (kTimes (a, b, c, d, e, p, q, r, s, t)).avs, (kTimes (a, b, c, d, e, p, q, r, s, t)).mem⟩ (finK Tryd.prog Tryd.f45.results.toList (postN (kTimes (a, b, c, d, e, p, q, r, s, t))))) = (let x1 := IntKind.wrap IntKind.u64 ((5 : Int) * c); let x2 := IntKind.wrap IntKind.u64 ((5 : Int) * d); let x3 := IntKind.wrap IntKind.u64 ((5 : Int) * e); let x4 := IntKind.wrap IntKind.u64 (IntKind.wrap IntKind.u64 (IntKind.wrap IntKind.u64 (IntKind.wrap IntKind.u64 (IntKind.wrap IntKind.u64 ((0 : Int) + IntKind.wrap IntKind.u64 (a * p)) + IntKind.wrap IntKind.u64 (IntKind.wrap IntKind.u64 ((5 : Int) * b) * t)) + IntKind.wrap IntKind.u64 (x1 * s)) + IntKind.wrap IntKind.u64 (x2 * r)) + IntKind.wrap IntKind.u64 (x3 * q)); let x5 := IntKind.wrap IntKind.u64 (IntKind.wrap IntKind.u64 (IntKind.wrap IntKind.u64 (IntKind.wrap IntKind.u64 (IntKind.wrap IntKind.u64 ((0 : Int) + IntKind.wrap IntKind.u64 (a * q)) + IntKind.wrap IntKind.u64 (b * p)) + IntKind.wrap IntKind.u64 (x1 * t)) + IntKind.wrap IntKind.u64 (x2 * s)) + IntKind.wrap IntKind.u64 (x3 * r)); let x6 := IntKind.wrap IntKind.u64 (IntKind.wrap IntKind.u64 (IntKind.wrap IntKind.u64 (IntKind.wrap IntKind.u64 (IntKind.wrap IntKind.u64 ((0 : Int) + IntKind.wrap IntKind.u64 (a * r)) + IntKind.wrap IntKind.u64 (b * q)) + IntKind.wrap IntKind.u64 (c * p)) + IntKind.wrap IntKind.u64 (x2 * t)) + IntKind.wrap IntKind.u64 (x3 * s)); let x7 := IntKind.wrap IntKind.u64 (IntKind.wrap IntKind.u64 (IntKind.wrap IntKind.u64 (IntKind.wrap IntKind.u64 (IntKind.wrap IntKind.u64 ((0 : Int) + IntKind.wrap IntKind.u64 (a * s)) + IntKind.wrap IntKind.u64 (b * r)) + IntKind.wrap IntKind.u64 (c * q)) + IntKind.wrap IntKind.u64 (d * p)) + IntKind.wrap IntKind.u64 (x3 * t)); let x8 := IntKind.wrap IntKind.u64 (IntKind.wrap IntKind.u64 (IntKind.wrap IntKind.u64 (IntKind.wrap IntKind.u64 (IntKind.wrap IntKind.u64 ((0 : Int) + IntKind.wrap IntKind.u64 (a * t)) + IntKind.wrap IntKind.u64 (b * s)) + IntKind.wrap IntKind.u64 (c * r)) + IntKind.wrap IntKind.u64 (d * q)) + IntKind.wrap IntKind.u64 (e * p)); let x9 := [x4, x5, x6, x7, x8]; (0 : Int) ≤ (0 : Int) ∧ (0 : Int) < (5 : Int) ∧ (0 : Int) ≤ (0 : Int) ∧ (0 : Int) < (5 : Int) ∧ (0 : Int) ≤ (0 : Int) ∧ (0 : Int) < (5 : Int) ∧ (0 : Nat) < (5 : Nat) ∧ (0 : Int) ≤ (0 : Int) ∧ (0 : Int) < (5 : Int) ∧ (0 : Nat) < (5 : Nat) ∧ (0 : Int) ≤ (1 : Int) ∧ (1 : Int) < (5 : Int) ∧ (0 : Int) ≤ (1 : Int) ∧ (1 : Int) < (5 : Int) ∧ (1 : Nat) < (5 : Nat) ∧ (0 : Int) ≤ (1 : Int) ∧ (1 : Int) < (5 : Int) ∧ (1 : Nat) < (5 : Nat) ∧ (0 : Int) ≤ (2 : Int) ∧ (2 : Int) < (5 : Int) ∧ (0 : Int) ≤ (2 : Int) ∧ (2 : Int) < (5 : Int) ∧ (2 : Nat) < (5 : Nat) ∧ (0 : Int) ≤ (2 : Int) ∧ (2 : Int) < (5 : Int) ∧ (2 : Nat) < (5 : Nat) ∧ (0 : Int) ≤ (3 : Int) ∧ (3 : Int) < (5 : Int) ∧ (0 : Int) ≤ (3 : Int) ∧ (3 : Int) < (5 : Int) ∧ (3 : Nat) < (5 : Nat) ∧ (0 : Int) ≤ (3 : Int) ∧ (3 : Int) < (5 : Int) ∧ (3 : Nat) < (5 : Nat) ∧ (0 : Int) ≤ (4 : Int) ∧ (4 : Int) < (5 : Int) ∧ (0 : Int) ≤ (4 : Int) ∧ (4 : Int) < (5 : Int) ∧ (4 : Nat) < (5 : Nat) ∧ (0 : Int) ≤ (4 : Int) ∧ (4 : Int) < (5 : Int) ∧ (4 : Nat) < (5 : Nat) ∧ (0 : Int) ≤ (1 : Int) ∧ (1 : Int) < (5 : Int) ∧ (0 : Int) ≤ (0 : Int) ∧ (0 : Int) < (5 : Int) ∧ (0 : Int) ≤ (1 : Int) ∧ (1 : Int) < (5 : Int) ∧ (1 : Nat) < (5 : Nat) ∧ (0 : Int) ≤ (1 : Int) ∧ (1 : Int) < (5 : Int) ∧ (1 : Nat) < (5 : Nat) ∧ (0 : Int) ≤ (1 : Int) ∧ (1 : Int) < (5 : Int) ∧ (0 : Int) ≤ (2 : Int) ∧ (2 : Int) < (5 : Int) ∧ (2 : Nat) < (5 : Nat) ∧ (0 : Int) ≤ (2 : Int) ∧ (2 : Int) < (5 : Int) ∧ (2 : Nat) < (5 : Nat) ∧ (0 : Int) ≤ (2 : Int) ∧ (2 : Int) < (5 : Int) ∧ (0 : Int) ≤ (3 : Int) ∧ (3 : Int) < (5 : Int) ∧ (3 : Nat) < (5 : Nat) ∧ (0 : Int) ≤ (3 : Int) ∧ (3 : Int) < (5 : Int) ∧ (3 : Nat) < (5 : Nat) ∧ (0 : Int) ≤ (3 : Int) ∧ (3 : Int) < (5 : Int) ∧ (0 : Int) ≤ (4 : Int) ∧ (4 : Int) < (5 : Int) ∧ (4 : Nat) < (5 : Nat) ∧ (0 : Int) ≤ (4 : Int) ∧ (4 : Int) < (5 : Int) ∧ (4 : Nat) < (5 : Nat) ∧ (0 : Int) ≤ (4 : Int) ∧ (4 : Int) < (5 : Int) ∧ (0 : Int) ≤ (0 : Int) ∧ (0 : Int) < (5 : Int) ∧ (0 : Nat) < (5 : Nat) ∧ (0 : Int) ≤ (0 : Int) ∧ (0 : Int) < (5 : Int) ∧ (0 : Nat) < (5 : Nat) ∧ (0 : Int) ≤ (2 : Int) ∧ (2 : Int) < (5 : Int) ∧ (0 : Int) ≤ (0 : Int) ∧ (0 : Int) < (5 : Int) ∧ (0 : Int) ≤ (2 : Int) ∧ (2 : Int) < (5 : Int) ∧ (2 : Nat) < (5 : Nat) ∧ (0 : Int) ≤ (2 : Int) ∧ (2 : Int) < (5 : Int) ∧ (2 : Nat) < (5 : Nat) ∧ (0 : Int) ≤ (1 : Int) ∧ (1 : Int) < (5 : Int) ∧ (0 : Int) ≤ (3 : Int) ∧ (3 : Int) < (5 : Int) ∧ (3 : Nat) < (5 : Nat) ∧ (0 : Int) ≤ (3 : Int) ∧ (3 : Int) < (5 : Int) ∧ (3 : Nat) < (5 : Nat) ∧ (0 : Int) ≤ (2 : Int) ∧ (2 : Int) < (5 : Int) ∧ (0 : Int) ≤ (4 : Int) ∧ (4 : Int) < (5 : Int) ∧ (4 : Nat) < (5 : Nat) ∧ (0 : Int) ≤ (4 : Int) ∧ (4 : Int) < (5 : Int) ∧ (4 : Nat) < (5 : Nat) ∧ (0 : Int) ≤ (3 : Int) ∧ (3 : Int) < (5 : Int) ∧ (0 : Int) ≤ (0 : Int) ∧ (0 : Int) < (5 : Int) ∧ (0 : Nat) < (5 : Nat) ∧ (0 : Int) ≤ (0 : Int) ∧ (0 : Int) < (5 : Int) ∧ (0 : Nat) < (5 : Nat) ∧ (0 : Int) ≤ (4 : Int) ∧ (4 : Int) < (5 : Int) ∧ (0 : Int) ≤ (1 : Int) ∧ (1 : Int) < (5 : Int) ∧ (1 : Nat) < (5 : Nat) ∧ (0 : Int) ≤ (1 : Int) ∧ (1 : Int) < (5 : Int) ∧ (1 : Nat) < (5 : Nat) ∧ (0 : Int) ≤ (3 : Int) ∧ (3 : Int) < (5 : Int) ∧ (0 : Int) ≤ (0 : Int) ∧ (0 : Int) < (5 : Int) ∧ (0 : Int) ≤ (3 : Int) ∧ (3 : Int) < (5 : Int) ∧ (3 : Nat) < (5 : Nat) ∧ (0 : Int) ≤ (3 : Int) ∧ (3 : Int) < (5 : Int) ∧ (3 : Nat) < (5 : Nat) ∧ (0 : Int) ≤ (1 : Int) ∧ (1 : Int) < (5 : Int) ∧ (0 : Int) ≤ (4 : Int) ∧ (4 : Int) < (5 : Int) ∧ (4 : Nat) < (5 : Nat) ∧ (0 : Int) ≤ (4 : Int) ∧ (4 : Int) < (5 : Int) ∧ (4 : Nat) < (5 : Nat) ∧ (0 : Int) ≤ (2 : Int) ∧ (2 : Int) < (5 : Int) ∧ (0 : Int) ≤ (0 : Int) ∧ (0 : Int) < (5 : Int) ∧ (0 : Nat) < (5 : Nat) ∧ (0 : Int) ≤ (0 : Int) ∧ (0 : Int) < (5 : Int) ∧ (0 : Nat) < (5 : Nat) ∧ (0 : Int) ≤ (3 : Int) ∧ (3 : Int) < (5 : Int) ∧ (0 : Int) ≤ (1 : Int) ∧ (1 : Int) < (5 : Int) ∧ (1 : Nat) < (5 : Nat) ∧ (0 : Int) ≤ (1 : Int) ∧ (1 : Int) < (5 : Int) ∧ (1 : Nat) < (5 : Nat) ∧ (0 : Int) ≤ (4 : Int) ∧ (4 : Int) < (5 : Int) ∧ (0 : Int) ≤ (2 : Int) ∧ (2 : Int) < (5 : Int) ∧ (2 : Nat) < (5 : Nat) ∧ (0 : Int) ≤ (2 : Int) ∧ (2 : Int) < (5 : Int) ∧ (2 : Nat) < (5 : Nat) ∧ (0 : Int) ≤ (4 : Int) ∧ (4 : Int) < (5 : Int) ∧ (0 : Int) ≤ (0 : Int) ∧ (0 : Int) < (5 : Int) ∧ (0 : Int) ≤ (4 : Int) ∧ (4 : Int) < (5 : Int) ∧ (4 : Nat) < (5 : Nat) ∧ (0 : Int) ≤ (4 : Int) ∧ (4 : Int) < (5 : Int) ∧ (4 : Nat) < (5 : Nat) ∧ (0 : Int) ≤ (1 : Int) ∧ (1 : Int) < (5 : Int) ∧ (0 : Int) ≤ (0 : Int) ∧ (0 : Int) < (5 : Int) ∧ (0 : Nat) < (5 : Nat) ∧ (0 : Int) ≤ (0 : Int) ∧ (0 : Int) < (5 : Int) ∧ (0 : Nat) < (5 : Nat) ∧ (0 : Int) ≤ (2 : Int) ∧ (2 : Int) < (5 : Int) ∧ (0 : Int) ≤ (1 : Int) ∧ (1 : Int) < (5 : Int) ∧ (1 : Nat) < (5 : Nat) ∧ (0 : Int) ≤ (1 : Int) ∧ (1 : Int) < (5 : Int) ∧ (1 : Nat) < (5 : Nat) ∧ (0 : Int) ≤ (3 : Int) ∧ (3 : Int) < (5 : Int) ∧ (0 : Int) ≤ (2 : Int) ∧ (2 : Int) < (5 : Int) ∧ (2 : Nat) < (5 : Nat) ∧ (0 : Int) ≤ (2 : Int) ∧ (2 : Int) < (5 : Int) ∧ (2 : Nat) < (5 : Nat) ∧ (0 : Int) ≤ (4 : Int) ∧ (4 : Int) < (5 : Int) ∧ (0 : Int) ≤ (3 : Int) ∧ (3 : Int) < (5 : Int) ∧ (3 : Nat) < (5 : Nat) ∧ (0 : Int) ≤ (3 : Int) ∧ (3 : Int) < (5 : Int) ∧ (3 : Nat) < (5 : Nat) ∧ true = true ∧ (5 : Nat) = (5 : Nat) ∧ x9 = x9 ∧ true = true ∧ true = true ∧ (50 : Nat) = (50 : Nat) ∧ (5 : Nat) = (5 : Nat) ∧ upL x4 x5 x6 x7 x8 = timesL a b c d e p q r s t) := by kernel_rfl

set_option maxHeartbeats 8000000 in
theorem wpTimes (a b c d e p q r s t : Int) : wpE FTimes (Tryd.f45.body.getD .skip) ⟨Tryd.f45.ntmps, slotsOf 0 (kTimes (a, b, c, d, e, p, q, r, s, t)).avs, (kTimes (a, b, c, d, e, p, q, r, s, t)).mem⟩ (finK Tryd.prog Tryd.f45.results.toList (postN (kTimes (a, b, c, d, e, p, q, r, s, t)))) := by
  with_reducible refine Eq.mpr (vcTimes a b c d e p q r s t) ?_
  intros
  and_intros <;> first | omega | exact True.intro | kernel_rfl
set_option maxHeartbeats 8000000 in
theorem cTimes_ok : SpecOK Tryd.prog cTimes := by
  refine callG_ok (c := Tryd.f45.body.getD .skip) mixed Tryd.func45 (by kernel_rfl) rfl (fun x hob => ?_)
  obtain ⟨a, b, c, d, e, p, q, r, s, t⟩ := x
  exact ⟨FTimes, rfl, evOKs ⟨.inl ⟨cUp_ok, by kernel_rfl, gl_nil rfl⟩, trivial⟩, rfl, rfl, by with_reducible exact wpTimes a b c d e p q r s t ⟩

/-- Eight bytes as a word, as it is reckoned. -/
def w8 (l : List Int) : Int := [0, 1, 2, 3, 4, 5, 6, 7].foldl (fun x i => bits .or .u64 x (sShl .u64 (IntKind.wrap .u64 (l.getD i 0)) (8 * (i : Int)))) 0
def kPWord : Nat × (List Int) → ClN := fun (n, l) => ⟨[.o (.c (.rs 1 n (.i .u8 l)))], [], vv (.int .u64 (w8 l)), [], [], [8 ≤ n, l.length = n]⟩
noncomputable def FPWord : FnE := ⟨mkEv Tryd.prog [] [] 0, [0, 2, 3, 4, 5, 6], fun _ _ => .rounds 9⟩
def mPWord : List AV → (Nat → Option MB) → Option (List Nat × (Nat × (List Int)))
  | [.o (.c c)], lk => match slI lk c with
    | some (n, l) => some ([], n, l)
    | none => none
  | _, _ => none
noncomputable def cPWord : Spec := callG 63 Tryd.f63.ntmps mPWord kPWord
theorem vcPWord (n : Nat) (l : List Int) : (wpE FPWord (Tryd.f63.body.getD .skip) ⟨Tryd.f63.ntmps, slotsOf 0 (kPWord (n, l)).avs, (kPWord (n, l)).mem⟩ (finK Tryd.prog Tryd.f63.results.toList (postN (kPWord (n, l))))) = ((0 : Int) ≤ (0 : Int) ∧ (0 : Int) < (↑n : Int) ∧ (0 : Nat) < List.length l ∧ (0 : Int) ≤ (0 : Int) ∧ (0 : Int) ≤ (1 : Int) ∧ (1 : Int) < (↑n : Int) ∧ (1 : Nat) < List.length l ∧ (0 : Int) ≤ (8 : Int) ∧ (0 : Int) ≤ (2 : Int) ∧ (2 : Int) < (↑n : Int) ∧ (2 : Nat) < List.length l ∧ (0 : Int) ≤ (16 : Int) ∧ (0 : Int) ≤ (3 : Int) ∧ (3 : Int) < (↑n : Int) ∧ (3 : Nat) < List.length l ∧ (0 : Int) ≤ (24 : Int) ∧ (0 : Int) ≤ (4 : Int) ∧ (4 : Int) < (↑n : Int) ∧ (4 : Nat) < List.length l ∧ (0 : Int) ≤ (32 : Int) ∧ (0 : Int) ≤ (5 : Int) ∧ (5 : Int) < (↑n : Int) ∧ (5 : Nat) < List.length l ∧ (0 : Int) ≤ (40 : Int) ∧ (0 : Int) ≤ (6 : Int) ∧ (6 : Int) < (↑n : Int) ∧ (6 : Nat) < List.length l ∧ (0 : Int) ≤ (48 : Int) ∧ (0 : Int) ≤ (7 : Int) ∧ (7 : Int) < (↑n : Int) ∧ (7 : Nat) < List.length l ∧ (0 : Int) ≤ (56 : Int) ∧ true = true ∧ true = true ∧ (20 : Nat) = (20 : Nat) ∧ Value.int IntKind.u64 (bits BinOp.or IntKind.u64 (bits BinOp.or IntKind.u64 (bits BinOp.or IntKind.u64 (bits BinOp.or IntKind.u64 (bits BinOp.or IntKind.u64 (bits BinOp.or IntKind.u64 (bits BinOp.or IntKind.u64 (bits BinOp.or IntKind.u64 (0 : Int) (sShl IntKind.u64 (IntKind.wrap IntKind.u64 (List.getD l (0 : Nat) (0 : Int))) (0 : Int))) (sShl IntKind.u64 (IntKind.wrap IntKind.u64 (List.getD l (1 : Nat) (0 : Int))) (8 : Int))) (sShl IntKind.u64 (IntKind.wrap IntKind.u64 (List.getD l (2 : Nat) (0 : Int))) (16 : Int))) (sShl IntKind.u64 (IntKind.wrap IntKind.u64 (List.getD l (3 : Nat) (0 : Int))) (24 : Int))) (sShl IntKind.u64 (IntKind.wrap IntKind.u64 (List.getD l (4 : Nat) (0 : Int))) (32 : Int))) (sShl IntKind.u64 (IntKind.wrap IntKind.u64 (List.getD l (5 : Nat) (0 : Int))) (40 : Int))) (sShl IntKind.u64 (IntKind.wrap IntKind.u64 (List.getD l (6 : Nat) (0 : Int))) (48 : Int))) (sShl IntKind.u64 (IntKind.wrap IntKind.u64 (List.getD l (7 : Nat) (0 : Int))) (56 : Int))) = Value.int IntKind.u64 (w8 l)) := by kernel_rfl

set_option maxHeartbeats 8000000 in
theorem wpPWord (n : Nat) (l : List Int) (h1 : 8 ≤ n) (h2 : l.length = n) : wpE FPWord (Tryd.f63.body.getD .skip) ⟨Tryd.f63.ntmps, slotsOf 0 (kPWord (n, l)).avs, (kPWord (n, l)).mem⟩ (finK Tryd.prog Tryd.f63.results.toList (postN (kPWord (n, l)))) := by
  with_reducible refine Eq.mpr (vcPWord n l) ?_
  intros
  and_intros <;> first | omega | exact True.intro | kernel_rfl
set_option maxHeartbeats 8000000 in
theorem cPWord_ok : SpecOK Tryd.prog cPWord := by
  refine callG_ok (c := Tryd.f63.body.getD .skip) mixed Tryd.func63 (by kernel_rfl) rfl (fun x hob => ?_)
  obtain ⟨n, l⟩ := x
  have hob : (8 ≤ n) ∧ (l.length = n) := hob
  obtain ⟨h1, h2⟩ := hob
  exact ⟨FPWord, rfl, evOKs trivial, rfl, rfl, by with_reducible exact wpPWord n l h1 h2⟩

def digL (l : List Int) (x : Int) : List Int := [bits .and .u64 (w8 l) 67108863, bits .and .u64 (sShr .u64 (w8 l) 26) 67108863, bits .and .u64 (bits .or .u64 (sShr .u64 (w8 l) 52) (sShl .u64 (w8 (l.drop 8)) 12)) 67108863, bits .and .u64 (sShr .u64 (w8 (l.drop 8)) 14) 67108863, bits .or .u64 (sShr .u64 (w8 (l.drop 8)) 40) (sShl .u64 x 24)]
theorem take_drop8 {l : List Int} {n : Nat} (h : l.length = n) : (l.drop 8).take (n - 8) = l.drop 8 := List.take_of_length_le (by rw [List.length_drop]; omega)
def kDigits : Nat × (List Int) × Int → ClN := fun (n, l, x) => ⟨[.o (.c (.rs 1 n (.i .u8 l))), vv (.int .u64 x)], [], .o (.g [.many 5 (.i .u64 (digL l x))]), [], [], [16 ≤ n, l.length = n]⟩
noncomputable def FDigits : FnE := ⟨mkEv Tryd.prog [] [cPWord] 0, [0, 1, 4, 5, 6], fun _ _ => .rounds 0⟩
def mDigits : List AV → (Nat → Option MB) → Option (List Nat × (Nat × (List Int) × Int))
  | [.o (.c c), .o (.c (.v (.int .u64 x)))], lk => match slI lk c with
    | some (n, l) => some ([], n, l, x)
    | none => none
  | _, _ => none
noncomputable def cDigits : Spec := callG 59 Tryd.f59.ntmps mDigits kDigits
theorem vcDigits (n : Nat) (l : List Int) (x : Int) : (wpE FDigits (Tryd.f59.body.getD .skip) ⟨Tryd.f59.ntmps, slotsOf 0 (kDigits (n, l, x)).avs, (kDigits (n, l, x)).mem⟩ (finK Tryd.prog Tryd.f59.results.toList (postN (kDigits (n, l, x))))) = (let x1 := List.take (n - (8 : Nat)) (List.drop (8 : Nat) l); let x2 := w8 x1; true = true ∧ true = true ∧ n = n ∧ l = l ∧ (8 : Nat) ≤ n ∧ List.length l = n ∧ (0 : Int) ≤ (8 : Int) ∧ (8 : Nat) ≤ n ∧ true = true ∧ true = true ∧ n - (8 : Nat) = n - (8 : Nat) ∧ x1 = x1 ∧ (8 : Nat) ≤ n - (8 : Nat) ∧ List.length x1 = n - (8 : Nat) ∧ (0 : Int) ≤ (26 : Int) ∧ (0 : Int) ≤ (52 : Int) ∧ (0 : Int) ≤ (12 : Int) ∧ (0 : Int) ≤ (14 : Int) ∧ (0 : Int) ≤ (40 : Int) ∧ (0 : Int) ≤ (24 : Int) ∧ true = true ∧ true = true ∧ (32 : Nat) = (32 : Nat) ∧ (5 : Nat) = (5 : Nat) ∧ [bits BinOp.and IntKind.u64 (w8 l) (67108863 : Int), bits BinOp.and IntKind.u64 (sShr IntKind.u64 (w8 l) (26 : Int)) (67108863 : Int), bits BinOp.and IntKind.u64 (bits BinOp.or IntKind.u64 (sShr IntKind.u64 (w8 l) (52 : Int)) (sShl IntKind.u64 x2 (12 : Int))) (67108863 : Int), bits BinOp.and IntKind.u64 (sShr IntKind.u64 x2 (14 : Int)) (67108863 : Int), bits BinOp.or IntKind.u64 (sShr IntKind.u64 x2 (40 : Int)) (sShl IntKind.u64 x (24 : Int))] = digL l x) := by kernel_rfl

set_option maxHeartbeats 8000000 in
theorem wpDigits (n : Nat) (l : List Int) (x : Int) (h1 : 16 ≤ n) (h2 : l.length = n) : wpE FDigits (Tryd.f59.body.getD .skip) ⟨Tryd.f59.ntmps, slotsOf 0 (kDigits (n, l, x)).avs, (kDigits (n, l, x)).mem⟩ (finK Tryd.prog Tryd.f59.results.toList (postN (kDigits (n, l, x)))) := by
  with_reducible refine Eq.mpr (vcDigits n l x) ?_
  simp only [take_drop8 h2]
  have hl : (l.drop 8).length = n - 8 := by rw [List.length_drop, h2]
  and_intros <;> first | omega | exact True.intro | kernel_rfl
set_option maxHeartbeats 8000000 in
theorem cDigits_ok : SpecOK Tryd.prog cDigits := by
  refine callG_ok (c := Tryd.f59.body.getD .skip) mixed Tryd.func59 (by kernel_rfl) rfl (fun x hob => ?_)
  obtain ⟨n, l, x⟩ := x
  have hob : (16 ≤ n) ∧ (l.length = n) := hob
  obtain ⟨h1, h2⟩ := hob
  exact ⟨FDigits, rfl, evOKs ⟨.inl ⟨cPWord_ok, by kernel_rfl, gl_nil rfl⟩, trivial⟩, rfl, rfl, by with_reducible exact wpDigits n l x h1 h2⟩
end Go.Proofs.YthhjcpiaoempfaaDoor
namespace Go.Proofs.YthhjcpiaoempfaaDoor
open Go.RowKit
set_option maxRecDepth 100000

def rdF (l : List Int) : List Int := ((lay (List.replicate 16 (0 : Int)) 0 ((l.drop 0).take 16)).drop 0).take 16
def rdP (n : Nat) (l : List Int) : List Int := (((lay (List.replicate 16 (0 : Int)) 0 ((l.drop 0).take (Nat.min n 16))).set n 1).drop 0).take 16
theorem rdF_len {l : List Int} (h : l.length = 16) : (rdF l).length = 16 := by
  unfold rdF
  rw [List.length_take, List.length_drop, lay_length _ _ _ (by simp [h])]
  simp
theorem rdP_len {n : Nat} {l : List Int} (h : l.length = n) (hn : n < 16) : (rdP n l).length = 16 := by
  unfold rdP
  rw [List.length_take, List.length_drop, List.length_set, lay_length _ _ _ (by simp [h]; omega)]
  simp
def kReadF : (List Int) → ClN := fun l => ⟨[.o (.c (.rs 1 16 (.i .u8 l)))], [], .o (.g [.many 5 (.i .u64 (digL (rdF l) 1))]), [], [], [l.length = 16]⟩
noncomputable def FReadF : FnE := ⟨mkEv Tryd.prog [] [cDigits] 0, [0, 2, 3, 9], fun _ _ => .rounds 0⟩
def mReadF : List AV → (Nat → Option MB) → Option (List Nat × (List Int))
  | [.o (.c c)], lk => match slI lk c with
    | some (16, l) => some ([], l)
    | _ => none
  | _, _ => none
noncomputable def cReadF : Spec := callG 44 Tryd.f44.ntmps mReadF kReadF
theorem vcReadF (l : List Int) : (wpE FReadF (Tryd.f44.body.getD .skip) ⟨Tryd.f44.ntmps, slotsOf 0 (kReadF l).avs, (kReadF l).mem⟩ (finK Tryd.prog Tryd.f44.results.toList (postN (kReadF l)))) = (let x1 := List.take (16 : Nat) (List.drop (0 : Nat) (lay (List.replicate (16 : Nat) (0 : Int)) (0 : Nat) (List.take (16 : Nat) (List.drop (0 : Nat) l)))); (16 : Nat) ≤ (9223372036854775807 : Nat) ∧ (16 : Nat) ≤ (16 : Nat) ∧ (16 : Nat) ≤ (9223372036854775807 : Nat) ∧ true = true ∧ true = true ∧ (16 : Nat) = (16 : Nat) ∧ x1 = x1 ∧ (16 : Nat) ≤ (16 : Nat) ∧ Value.int IntKind.u64 (1 : Int) = Value.int IntKind.u64 (1 : Int) ∧ (16 : Nat) ≤ (16 : Nat) ∧ List.length x1 = (16 : Nat) ∧ true = true ∧ true = true ∧ (17 : Nat) = (17 : Nat) ∧ (5 : Nat) = (5 : Nat) ∧ digL x1 (1 : Int) = digL (rdF l) (1 : Int)) := by kernel_rfl

set_option maxHeartbeats 8000000 in
theorem wpReadF (l : List Int) (h1 : l.length = 16) : wpE FReadF (Tryd.f44.body.getD .skip) ⟨Tryd.f44.ntmps, slotsOf 0 (kReadF l).avs, (kReadF l).mem⟩ (finK Tryd.prog Tryd.f44.results.toList (postN (kReadF l))) := by
  with_reducible refine Eq.mpr (vcReadF l) ?_
  have hl := rdF_len h1
  and_intros <;> first | omega | exact True.intro | exact hl | kernel_rfl
set_option maxHeartbeats 8000000 in
theorem cReadF_ok : SpecOK Tryd.prog cReadF := by
  refine callG_ok (c := Tryd.f44.body.getD .skip) mixed Tryd.func44 (by kernel_rfl) rfl (fun l hob => ?_)
  have hob : (l.length = 16) := hob
  have h1 := hob
  exact ⟨FReadF, rfl, evOKs ⟨.inl ⟨cDigits_ok, by kernel_rfl, gl_nil rfl⟩, trivial⟩, rfl, rfl, by with_reducible exact wpReadF l h1⟩

def fcRd (d : Nat) : Option Bool := bif Nat.beq d 9 then some false else none
def kReadP : Nat × (List Int) → ClN := fun (n, l) => ⟨[.o (.c (.rs 1 n (.i .u8 l)))], [], .o (.g [.many 5 (.i .u64 (digL (rdP n l) 0))]), [], [], [l.length = n, n < 16]⟩
noncomputable def FReadP : FnE := ⟨mkEv Tryd.prog [] [cDigits] 0 fcRd, [0, 2, 3, 9], fun _ _ => .rounds 0⟩
def mReadP : List AV → (Nat → Option MB) → Option (List Nat × (Nat × (List Int)))
  | [.o (.c c)], lk => match slI lk c with
    | some (n, l) => some ([], n, l)
    | none => none
  | _, _ => none
noncomputable def cReadP : Spec := callG 44 Tryd.f44.ntmps mReadP kReadP
theorem vcReadP (n : Nat) (l : List Int) : (wpE FReadP (Tryd.f44.body.getD .skip) ⟨Tryd.f44.ntmps, slotsOf 0 (kReadP (n, l)).avs, (kReadP (n, l)).mem⟩ (finK Tryd.prog Tryd.f44.results.toList (postN (kReadP (n, l))))) = (let x1 := List.take (16 : Nat) (List.drop (0 : Nat) (List.set (lay (List.replicate (16 : Nat) (0 : Int)) (0 : Nat) (List.take (Nat.min n (16 : Nat)) (List.drop (0 : Nat) l))) (Int.toNat (↑n : Int)) (1 : Int))); (16 : Nat) ≤ (9223372036854775807 : Nat) ∧ (0 : Nat) + Nat.min n (16 : Nat) ≤ (16 : Nat) ∧ decide ((↑n : Int) = (16 : Int)) = false ∧ (0 : Int) ≤ (↑n : Int) ∧ (↑n : Int) < (16 : Int) ∧ Int.toNat (↑n : Int) < (16 : Nat) ∧ (16 : Nat) ≤ (9223372036854775807 : Nat) ∧ true = true ∧ true = true ∧ (16 : Nat) = (16 : Nat) ∧ x1 = x1 ∧ (16 : Nat) ≤ (16 : Nat) ∧ Value.int IntKind.u64 (0 : Int) = Value.int IntKind.u64 (0 : Int) ∧ (16 : Nat) ≤ (16 : Nat) ∧ List.length x1 = (16 : Nat) ∧ true = true ∧ true = true ∧ (17 : Nat) = (17 : Nat) ∧ (5 : Nat) = (5 : Nat) ∧ digL x1 (0 : Int) = digL (rdP n l) (0 : Int)) := by kernel_rfl

set_option maxHeartbeats 8000000 in
theorem wpReadP (n : Nat) (l : List Int) (h1 : l.length = n) (h2 : n < 16) : wpE FReadP (Tryd.f44.body.getD .skip) ⟨Tryd.f44.ntmps, slotsOf 0 (kReadP (n, l)).avs, (kReadP (n, l)).mem⟩ (finK Tryd.prog Tryd.f44.results.toList (postN (kReadP (n, l)))) := by
  with_reducible refine Eq.mpr (vcReadP n l) ?_
  have hl := rdP_len h1 h2
  have hd : decide ((n : Int) = 16) = false := decide_eq_false (by omega)
  have hm : Nat.min n 16 = n := Nat.min_eq_left (by omega)
  simp only [Int.toNat_natCast]
  and_intros <;> first | omega | exact True.intro | exact hd | exact hl | (rw [hm]; omega) | kernel_rfl
set_option maxHeartbeats 8000000 in
theorem cReadP_ok : SpecOK Tryd.prog cReadP := by
  refine callG_ok (c := Tryd.f44.body.getD .skip) mixed Tryd.func44 (by kernel_rfl) rfl (fun x hob => ?_)
  obtain ⟨n, l⟩ := x
  have hob : (l.length = n) ∧ (n < 16) := hob
  obtain ⟨h1, h2⟩ := hob
  exact ⟨FReadP, rfl, evOKs ⟨.inl ⟨cDigits_ok, by kernel_rfl, gl_nil rfl⟩, trivial⟩, rfl, rfl, by with_reducible exact wpReadP n l h1 h2⟩

def an (l : List Int) (i : Nat) (m : Int) : List Int := l.set i (bits .and .u8 (l.getD i 0) m)
def facL (k : List Int) : List Int := ((an (an (an (an (an (an (an k 3 15) 7 15) 11 15) 15 15) 4 252) 8 252) 12 252).drop 0).take 16
theorem facL_len {k : List Int} (h : k.length = 32) : (facL k).length = 16 := by simp [facL, an, h]
def kFactor : (List Int) → ClN := fun k => ⟨[.o (.g [.many 32 (.i .u8 k)])], [], .o (.g [.many 5 (.i .u64 (digL (facL k) 0))]), [], [], [k.length = 32]⟩
noncomputable def FFactor : FnE := ⟨mkEv Tryd.prog [] [cDigits] 0, [0, 1, 2, 3, 5, 7, 9, 10, 11, 12, 22, 23, 24, 25], fun _ _ => .rounds 6⟩
def mFactor : List AV → (Nat → Option MB) → Option (List Nat × (List Int))
  | [.o (.g [.many 32 (.i .u8 k)])], _ => some ([], k)
  | _, _ => none
noncomputable def cFactor : Spec := callG 40 Tryd.f40.ntmps mFactor kFactor
theorem vcFactor (k : List Int) : (wpE FFactor (Tryd.f40.body.getD .skip) ⟨Tryd.f40.ntmps, slotsOf 0 (kFactor k).avs, (kFactor k).mem⟩ (finK Tryd.prog Tryd.f40.results.toList (postN (kFactor k)))) = (let x1 := List.set k (3 : Nat) (bits BinOp.and IntKind.u8 (List.getD k (3 : Nat) (0 : Int)) (15 : Int)); let x2 := List.set x1 (7 : Nat) (bits BinOp.and IntKind.u8 (List.getD x1 (7 : Nat) (0 : Int)) (15 : Int)); let x3 := List.set x2 (11 : Nat) (bits BinOp.and IntKind.u8 (List.getD x2 (11 : Nat) (0 : Int)) (15 : Int)); let x4 := List.set x3 (15 : Nat) (bits BinOp.and IntKind.u8 (List.getD x3 (15 : Nat) (0 : Int)) (15 : Int)); let x5 := List.set x4 (4 : Nat) (bits BinOp.and IntKind.u8 (List.getD x4 (4 : Nat) (0 : Int)) (252 : Int)); let x6 := List.set x5 (8 : Nat) (bits BinOp.and IntKind.u8 (List.getD x5 (8 : Nat) (0 : Int)) (252 : Int)); let x7 := List.take (16 : Nat) (List.drop (0 : Nat) (List.set x6 (12 : Nat) (bits BinOp.and IntKind.u8 (List.getD x6 (12 : Nat) (0 : Int)) (252 : Int)))); (0 : Int) ≤ (16 : Int) ∧ (16 : Nat) ≤ (32 : Nat) ∧ (32 : Nat) ≤ (9223372036854775807 : Nat) ∧ (0 : Int) ≤ (0 : Int) ∧ (0 : Int) < (4 : Int) ∧ (0 : Nat) < (4 : Nat) ∧ (0 : Int) ≤ (3 : Int) ∧ (3 : Int) < (16 : Int) ∧ (3 : Nat) < (32 : Nat) ∧ (0 : Int) ≤ (3 : Int) ∧ (3 : Int) < (16 : Int) ∧ (3 : Nat) < (32 : Nat) ∧ (0 : Int) ≤ (1 : Int) ∧ (1 : Int) < (4 : Int) ∧ (1 : Nat) < (4 : Nat) ∧ (0 : Int) ≤ (7 : Int) ∧ (7 : Int) < (16 : Int) ∧ (7 : Nat) < (32 : Nat) ∧ (0 : Int) ≤ (7 : Int) ∧ (7 : Int) < (16 : Int) ∧ (7 : Nat) < (32 : Nat) ∧ (0 : Int) ≤ (2 : Int) ∧ (2 : Int) < (4 : Int) ∧ (2 : Nat) < (4 : Nat) ∧ (0 : Int) ≤ (11 : Int) ∧ (11 : Int) < (16 : Int) ∧ (11 : Nat) < (32 : Nat) ∧ (0 : Int) ≤ (11 : Int) ∧ (11 : Int) < (16 : Int) ∧ (11 : Nat) < (32 : Nat) ∧ (0 : Int) ≤ (3 : Int) ∧ (3 : Int) < (4 : Int) ∧ (3 : Nat) < (4 : Nat) ∧ (0 : Int) ≤ (15 : Int) ∧ (15 : Int) < (16 : Int) ∧ (15 : Nat) < (32 : Nat) ∧ (0 : Int) ≤ (15 : Int) ∧ (15 : Int) < (16 : Int) ∧ (15 : Nat) < (32 : Nat) ∧ (0 : Int) ≤ (0 : Int) ∧ (0 : Int) < (3 : Int) ∧ (0 : Nat) < (3 : Nat) ∧ (0 : Int) ≤ (4 : Int) ∧ (4 : Int) < (16 : Int) ∧ (4 : Nat) < (32 : Nat) ∧ (0 : Int) ≤ (4 : Int) ∧ (4 : Int) < (16 : Int) ∧ (4 : Nat) < (32 : Nat) ∧ (0 : Int) ≤ (1 : Int) ∧ (1 : Int) < (3 : Int) ∧ (1 : Nat) < (3 : Nat) ∧ (0 : Int) ≤ (8 : Int) ∧ (8 : Int) < (16 : Int) ∧ (8 : Nat) < (32 : Nat) ∧ (0 : Int) ≤ (8 : Int) ∧ (8 : Int) < (16 : Int) ∧ (8 : Nat) < (32 : Nat) ∧ (0 : Int) ≤ (2 : Int) ∧ (2 : Int) < (3 : Int) ∧ (2 : Nat) < (3 : Nat) ∧ (0 : Int) ≤ (12 : Int) ∧ (12 : Int) < (16 : Int) ∧ (12 : Nat) < (32 : Nat) ∧ (0 : Int) ≤ (12 : Int) ∧ (12 : Int) < (16 : Int) ∧ (12 : Nat) < (32 : Nat) ∧ true = true ∧ true = true ∧ (16 : Nat) = (16 : Nat) ∧ x7 = x7 ∧ (16 : Nat) ≤ (32 : Nat) ∧ Value.int IntKind.u64 (0 : Int) = Value.int IntKind.u64 (0 : Int) ∧ (16 : Nat) ≤ (16 : Nat) ∧ List.length x7 = (16 : Nat) ∧ true = true ∧ true = true ∧ (37 : Nat) = (37 : Nat) ∧ (5 : Nat) = (5 : Nat) ∧ digL x7 (0 : Int) = digL (facL k) (0 : Int)) := by kernel_rfl

set_option maxHeartbeats 8000000 in
theorem wpFactor (k : List Int) (h1 : k.length = 32) : wpE FFactor (Tryd.f40.body.getD .skip) ⟨Tryd.f40.ntmps, slotsOf 0 (kFactor k).avs, (kFactor k).mem⟩ (finK Tryd.prog Tryd.f40.results.toList (postN (kFactor k))) := by
  with_reducible refine Eq.mpr (vcFactor k) ?_
  have hl := facL_len h1
  intros
  and_intros <;> first | omega | exact True.intro | exact hl | kernel_rfl
set_option maxHeartbeats 8000000 in
theorem cFactor_ok : SpecOK Tryd.prog cFactor := by
  refine callG_ok (c := Tryd.f40.body.getD .skip) mixed Tryd.func40 (by kernel_rfl) rfl (fun k hob => ?_)
  have hob : (k.length = 32) := hob
  have h1 := hob
  exact ⟨FFactor, rfl, evOKs ⟨.inl ⟨cDigits_ok, by kernel_rfl, gl_nil rfl⟩, trivial⟩, rfl, rfl, by with_reducible exact wpFactor k h1⟩

def lst5 (f : Int → Int → Int → Int → Int → List Int) : List Int → List Int
  | [a, b, c, d, e] => f a b c d e
  | _ => []
def pk (x y r : Int) : Int := bits .or .u64 (bits .andNot .u64 x r) (bits .and .u64 y r)
/-- Five more, and the carries. -/
def mo0 (a : Int) : Int := w6 (a + 5)
def mo1 (a b : Int) : Int := w6 (b + s26 (mo0 a))
def mo2 (a b c : Int) : Int := w6 (c + s26 (mo1 a b))
def mo3 (a b c d : Int) : Int := w6 (d + s26 (mo2 a b c))
def mo4 (a b c d e : Int) : Int := w6 (e + s26 (mo3 a b c d))
def least1 (a b c d e : Int) : List Int := [pk a (m26 (mo0 a)) (w6 (0 - s26 (mo4 a b c d e))), pk b (m26 (mo1 a b)) (w6 (0 - s26 (mo4 a b c d e))), pk c (m26 (mo2 a b c)) (w6 (0 - s26 (mo4 a b c d e))), pk d (m26 (mo3 a b c d)) (w6 (0 - s26 (mo4 a b c d e))), pk e (m26 (mo4 a b c d e)) (w6 (0 - s26 (mo4 a b c d e)))]
def leastL (a b c d e : Int) : List Int := lst5 least1 (lst5 upL (upL a b c d e))
def kLeast : Int × Int × Int × Int × Int → ClN := fun (a, b, c, d, e) => ⟨[.o (.g [.many 5 (.i .u64 [a, b, c, d, e])])], [], .o (.g [.many 5 (.i .u64 (leastL a b c d e))]), [], [], []⟩
noncomputable def FLeast : FnE := ⟨mkEv Tryd.prog [] [cUp] 0, [0, 1, 2, 3, 4, 5, 6, 15, 16, 42, 43], fun _ _ => .rounds 6⟩
def mLeast : List AV → (Nat → Option MB) → Option (List Nat × (Int × Int × Int × Int × Int))
  | [.o (.g [.many 5 (.i .u64 [a, b, c, d, e])])], _ => some ([], (a, b, c, d, e))
  | _, _ => none
noncomputable def cLeast : Spec := callG 61 Tryd.f61.ntmps mLeast kLeast
theorem vcLeast (a b c d e : Int) : (wpE FLeast (Tryd.f61.body.getD .skip) ⟨Tryd.f61.ntmps, slotsOf 0 (kLeast (a, b, c, d, e)).avs, (kLeast (a, b, c, d, e)).mem⟩ (finK Tryd.prog Tryd.f61.results.toList (postN (kLeast (a, b, c, d, e))))) = (let x1 := [a, b, c, d, e]; let x2 := w6 (a + (0 : Int)); let x3 := w6 (b + s26 x2); let x4 := w6 (c + s26 x3); let x5 := w6 (d + s26 x4); let x6 := w6 (e + s26 x5); let x7 := w6 (m26 x2 + w6 ((5 : Int) * s26 x6)); let x8 := m26 x3; let x9 := m26 x4; let x10 := m26 x5; let x11 := m26 x6; let x12 := upL x7 x8 x9 x10 x11; let x13 := List.getD x12 (0 : Nat) (0 : Int); let x14 := List.set x12 (0 : Nat) (IntKind.wrap IntKind.u64 (x13 + (5 : Int))); let x15 := List.set x14 (1 : Nat) (IntKind.wrap IntKind.u64 (List.getD x14 (1 : Nat) (0 : Int) + sShr IntKind.u64 (List.getD x14 (0 : Nat) (0 : Int)) (26 : Int))); let x16 := List.set x15 (0 : Nat) (bits BinOp.and IntKind.u64 (List.getD x15 (0 : Nat) (0 : Int)) (67108863 : Int)); let x17 := List.set x16 (2 : Nat) (IntKind.wrap IntKind.u64 (List.getD x16 (2 : Nat) (0 : Int) + sShr IntKind.u64 (List.getD x16 (1 : Nat) (0 : Int)) (26 : Int))); let x18 := List.set x17 (1 : Nat) (bits BinOp.and IntKind.u64 (List.getD x17 (1 : Nat) (0 : Int)) (67108863 : Int)); let x19 := List.set x18 (3 : Nat) (IntKind.wrap IntKind.u64 (List.getD x18 (3 : Nat) (0 : Int) + sShr IntKind.u64 (List.getD x18 (2 : Nat) (0 : Int)) (26 : Int))); let x20 := List.set x19 (2 : Nat) (bits BinOp.and IntKind.u64 (List.getD x19 (2 : Nat) (0 : Int)) (67108863 : Int)); let x21 := List.set x20 (4 : Nat) (IntKind.wrap IntKind.u64 (List.getD x20 (4 : Nat) (0 : Int) + sShr IntKind.u64 (List.getD x20 (3 : Nat) (0 : Int)) (26 : Int))); let x22 := List.set x21 (3 : Nat) (bits BinOp.and IntKind.u64 (List.getD x21 (3 : Nat) (0 : Int)) (67108863 : Int)); let x23 := List.getD x22 (4 : Nat) (0 : Int); let x24 := IntKind.wrap IntKind.u64 ((0 : Int) - sShr IntKind.u64 x23 (26 : Int)); let x25 := List.set x22 (4 : Nat) (bits BinOp.and IntKind.u64 x23 (67108863 : Int)); let x26 := List.set x12 (0 : Nat) (bits BinOp.or IntKind.u64 (bits BinOp.andNot IntKind.u64 x13 x24) (bits BinOp.and IntKind.u64 (List.getD x25 (0 : Nat) (0 : Int)) x24)); let x27 := List.set x26 (1 : Nat) (bits BinOp.or IntKind.u64 (bits BinOp.andNot IntKind.u64 (List.getD x26 (1 : Nat) (0 : Int)) x24) (bits BinOp.and IntKind.u64 (List.getD x25 (1 : Nat) (0 : Int)) x24)); let x28 := List.set x27 (2 : Nat) (bits BinOp.or IntKind.u64 (bits BinOp.andNot IntKind.u64 (List.getD x27 (2 : Nat) (0 : Int)) x24) (bits BinOp.and IntKind.u64 (List.getD x25 (2 : Nat) (0 : Int)) x24)); let x29 := List.set x28 (3 : Nat) (bits BinOp.or IntKind.u64 (bits BinOp.andNot IntKind.u64 (List.getD x28 (3 : Nat) (0 : Int)) x24) (bits BinOp.and IntKind.u64 (List.getD x25 (3 : Nat) (0 : Int)) x24)); true = true ∧ (5 : Nat) = (5 : Nat) ∧ x1 = x1 ∧ true = true ∧ (5 : Nat) = (5 : Nat) ∧ upL a b c d e = [x7, x8, x9, x10, x11] ∧ (0 : Int) ≤ (0 : Int) ∧ (0 : Int) < (5 : Int) ∧ (0 : Nat) < (5 : Nat) ∧ (0 : Int) ≤ (0 : Int) ∧ (0 : Int) < (5 : Int) ∧ (0 : Nat) < (5 : Nat) ∧ (0 : Int) ≤ (1 : Int) ∧ (1 : Int) < (5 : Int) ∧ (1 : Nat) < (5 : Nat) ∧ (0 : Int) ≤ (0 : Int) ∧ (0 : Int) < (5 : Int) ∧ (0 : Nat) < (5 : Nat) ∧ (0 : Int) ≤ (26 : Int) ∧ (0 : Int) ≤ (1 : Int) ∧ (1 : Int) < (5 : Int) ∧ (1 : Nat) < (5 : Nat) ∧ (0 : Int) ≤ (0 : Int) ∧ (0 : Int) < (5 : Int) ∧ (0 : Nat) < (5 : Nat) ∧ (0 : Int) ≤ (0 : Int) ∧ (0 : Int) < (5 : Int) ∧ (0 : Nat) < (5 : Nat) ∧ (0 : Int) ≤ (2 : Int) ∧ (2 : Int) < (5 : Int) ∧ (2 : Nat) < (5 : Nat) ∧ (0 : Int) ≤ (1 : Int) ∧ (1 : Int) < (5 : Int) ∧ (1 : Nat) < (5 : Nat) ∧ (0 : Int) ≤ (26 : Int) ∧ (0 : Int) ≤ (2 : Int) ∧ (2 : Int) < (5 : Int) ∧ (2 : Nat) < (5 : Nat) ∧ (0 : Int) ≤ (1 : Int) ∧ (1 : Int) < (5 : Int) ∧ (1 : Nat) < (5 : Nat) ∧ (0 : Int) ≤ (1 : Int) ∧ (1 : Int) < (5 : Int) ∧ (1 : Nat) < (5 : Nat) ∧ (0 : Int) ≤ (3 : Int) ∧ (3 : Int) < (5 : Int) ∧ (3 : Nat) < (5 : Nat) ∧ (0 : Int) ≤ (2 : Int) ∧ (2 : Int) < (5 : Int) ∧ (2 : Nat) < (5 : Nat) ∧ (0 : Int) ≤ (26 : Int) ∧ (0 : Int) ≤ (3 : Int) ∧ (3 : Int) < (5 : Int) ∧ (3 : Nat) < (5 : Nat) ∧ (0 : Int) ≤ (2 : Int) ∧ (2 : Int) < (5 : Int) ∧ (2 : Nat) < (5 : Nat) ∧ (0 : Int) ≤ (2 : Int) ∧ (2 : Int) < (5 : Int) ∧ (2 : Nat) < (5 : Nat) ∧ (0 : Int) ≤ (4 : Int) ∧ (4 : Int) < (5 : Int) ∧ (4 : Nat) < (5 : Nat) ∧ (0 : Int) ≤ (3 : Int) ∧ (3 : Int) < (5 : Int) ∧ (3 : Nat) < (5 : Nat) ∧ (0 : Int) ≤ (26 : Int) ∧ (0 : Int) ≤ (4 : Int) ∧ (4 : Int) < (5 : Int) ∧ (4 : Nat) < (5 : Nat) ∧ (0 : Int) ≤ (3 : Int) ∧ (3 : Int) < (5 : Int) ∧ (3 : Nat) < (5 : Nat) ∧ (0 : Int) ≤ (3 : Int) ∧ (3 : Int) < (5 : Int) ∧ (3 : Nat) < (5 : Nat) ∧ (0 : Int) ≤ (4 : Int) ∧ (4 : Int) < (5 : Int) ∧ (4 : Nat) < (5 : Nat) ∧ (0 : Int) ≤ (26 : Int) ∧ (0 : Int) ≤ (4 : Int) ∧ (4 : Int) < (5 : Int) ∧ (4 : Nat) < (5 : Nat) ∧ (0 : Int) ≤ (4 : Int) ∧ (4 : Int) < (5 : Int) ∧ (4 : Nat) < (5 : Nat) ∧ (0 : Int) ≤ (0 : Int) ∧ (0 : Int) < (5 : Int) ∧ (0 : Nat) < (5 : Nat) ∧ (0 : Int) ≤ (0 : Int) ∧ (0 : Int) < (5 : Int) ∧ (0 : Nat) < (5 : Nat) ∧ (0 : Int) ≤ (0 : Int) ∧ (0 : Int) < (5 : Int) ∧ (0 : Nat) < (5 : Nat) ∧ (0 : Int) ≤ (1 : Int) ∧ (1 : Int) < (5 : Int) ∧ (1 : Nat) < (5 : Nat) ∧ (0 : Int) ≤ (1 : Int) ∧ (1 : Int) < (5 : Int) ∧ (1 : Nat) < (5 : Nat) ∧ (0 : Int) ≤ (1 : Int) ∧ (1 : Int) < (5 : Int) ∧ (1 : Nat) < (5 : Nat) ∧ (0 : Int) ≤ (2 : Int) ∧ (2 : Int) < (5 : Int) ∧ (2 : Nat) < (5 : Nat) ∧ (0 : Int) ≤ (2 : Int) ∧ (2 : Int) < (5 : Int) ∧ (2 : Nat) < (5 : Nat) ∧ (0 : Int) ≤ (2 : Int) ∧ (2 : Int) < (5 : Int) ∧ (2 : Nat) < (5 : Nat) ∧ (0 : Int) ≤ (3 : Int) ∧ (3 : Int) < (5 : Int) ∧ (3 : Nat) < (5 : Nat) ∧ (0 : Int) ≤ (3 : Int) ∧ (3 : Int) < (5 : Int) ∧ (3 : Nat) < (5 : Nat) ∧ (0 : Int) ≤ (3 : Int) ∧ (3 : Int) < (5 : Int) ∧ (3 : Nat) < (5 : Nat) ∧ (0 : Int) ≤ (4 : Int) ∧ (4 : Int) < (5 : Int) ∧ (4 : Nat) < (5 : Nat) ∧ (0 : Int) ≤ (4 : Int) ∧ (4 : Int) < (5 : Int) ∧ (4 : Nat) < (5 : Nat) ∧ (0 : Int) ≤ (4 : Int) ∧ (4 : Int) < (5 : Int) ∧ (4 : Nat) < (5 : Nat) ∧ true = true ∧ true = true ∧ (60 : Nat) = (60 : Nat) ∧ (5 : Nat) = (5 : Nat) ∧ List.set x29 (4 : Nat) (bits BinOp.or IntKind.u64 (bits BinOp.andNot IntKind.u64 (List.getD x29 (4 : Nat) (0 : Int)) x24) (bits BinOp.and IntKind.u64 (List.getD x25 (4 : Nat) (0 : Int)) x24)) = leastL a b c d e) := by kernel_rfl

set_option maxHeartbeats 8000000 in
theorem wpLeast (a b c d e : Int) : wpE FLeast (Tryd.f61.body.getD .skip) ⟨Tryd.f61.ntmps, slotsOf 0 (kLeast (a, b, c, d, e)).avs, (kLeast (a, b, c, d, e)).mem⟩ (finK Tryd.prog Tryd.f61.results.toList (postN (kLeast (a, b, c, d, e)))) := by
  with_reducible refine Eq.mpr (vcLeast a b c d e) ?_
  intros
  and_intros <;> first | omega | exact True.intro | kernel_rfl
set_option maxHeartbeats 8000000 in
theorem cLeast_ok : SpecOK Tryd.prog cLeast := by
  refine callG_ok (c := Tryd.f61.body.getD .skip) mixed Tryd.func61 (by kernel_rfl) rfl (fun x hob => ?_)
  obtain ⟨a, b, c, d, e⟩ := x
  exact ⟨FLeast, rfl, evOKs ⟨.inl ⟨cUp_ok, by kernel_rfl, gl_nil rfl⟩, trivial⟩, rfl, rfl, by with_reducible exact wpLeast a b c d e ⟩

theorem eAdd_ok : ExtOK Tryd.prog (eAdd64 62) := eAdd64_ok Tryd.func62 (by kernel_rfl) (by kernel_rfl) (by kernel_rfl) (by kernel_rfl)
noncomputable def eAdd : Spec := eAdd64 62
/-- The two words of a number. -/
def lowE (a b c : Int) : Int := bits .or .u64 (bits .or .u64 a (sShl .u64 b 26)) (sShl .u64 c 52)
def highE (c d e : Int) : Int := bits .or .u64 (bits .or .u64 (sShr .u64 c 12) (sShl .u64 d 14)) (sShl .u64 e 40)
def byE (x : Int) (i : Nat) : Int := IntKind.wrap .u8 (sShr .u64 x (8 * (i : Int)))
def bys16 (x y : Int) : List Int := [byE x 0, byE x 1, byE x 2, byE x 3, byE x 4, byE x 5, byE x 6, byE x 7, byE y 0, byE y 1, byE y 2, byE y 3, byE y 4, byE y 5, byE y 6, byE y 7]
/-- The tag of two words and a key's other half. -/
def tag2 (lo hi : Int) (k : List Int) : List Int := bys16 ((lo + w8 k + 0) % 18446744073709551616) ((hi + w8 (k.drop 8) + (lo + w8 k + 0) / 18446744073709551616) % 18446744073709551616)
def tag5 (k : List Int) (a b c d e : Int) : List Int := tag2 (lowE a b c) (highE c d e) k
def tagL (k : List Int) (a b c d e : Int) : List Int := lst5 (tag5 k) (leastL a b c d e)
theorem or_in (x y : Int) : 0 ≤ bits .or .u64 x y ∧ bits .or .u64 x y < 18446744073709551616 := ⟨bits_lo_u64 _ _ _, by have := bits_hi_u64 .or x y; omega⟩
theorem w8_in (l : List Int) : 0 ≤ w8 l ∧ w8 l < 18446744073709551616 := or_in _ _
theorem carry_in (x y : Int) (k : List Int) : 0 ≤ (bits .or .u64 x y + w8 k + 0) / 18446744073709551616 ∧ (bits .or .u64 x y + w8 k + 0) / 18446744073709551616 ≤ 1 := by
  have h1 := or_in x y
  have h2 := w8_in k
  omega
def kTag : Int × Int × Int × Int × Int × Nat × (List Int) → ClN := fun (a, b, c, d, e, n, k) => ⟨[.o (.g [.many 5 (.i .u64 [a, b, c, d, e])]), .o (.c (.rs 1 n (.i .u8 k)))], [], .o (.g [.many 16 (.i .u8 (tagL k a b c d e))]), [], [], [16 ≤ n, k.length = n]⟩
noncomputable def FTag : FnE := ⟨mkEv Tryd.prog [] [cLeast, cPWord, eAdd] 0, [0, 1, 2, 4, 5, 6, 7, 9, 10, 48, 49], fun _ _ => .rounds 9⟩
def mTag : List AV → (Nat → Option MB) → Option (List Nat × (Int × Int × Int × Int × Int × Nat × (List Int)))
  | [.o (.g [.many 5 (.i .u64 [a, b, c, d, e])]), .o (.c x)], lk => match slI lk x with
    | some (n, k) => some ([], a, b, c, d, e, n, k)
    | none => none
  | _, _ => none
noncomputable def cTag : Spec := callG 46 Tryd.f46.ntmps mTag kTag
theorem vcTag (a b c d e : Int) (n : Nat) (k : List Int) : (wpE FTag (Tryd.f46.body.getD .skip) ⟨Tryd.f46.ntmps, slotsOf 0 (kTag (a, b, c, d, e, n, k)).avs, (kTag (a, b, c, d, e, n, k)).mem⟩ (finK Tryd.prog Tryd.f46.results.toList (postN (kTag (a, b, c, d, e, n, k))))) = (let x1 := [a, b, c, d, e]; let x2 := List.getD (leastL a b c d e) (2 : Nat) (0 : Int); let x3 := bits BinOp.or IntKind.u64 (bits BinOp.or IntKind.u64 (List.getD (leastL a b c d e) (0 : Nat) (0 : Int)) (sShl IntKind.u64 (List.getD (leastL a b c d e) (1 : Nat) (0 : Int)) (26 : Int))) (sShl IntKind.u64 x2 (52 : Int)); let x4 := List.take (n - (8 : Nat)) (List.drop (8 : Nat) k); let x5 := bits BinOp.or IntKind.u64 (bits BinOp.or IntKind.u64 (sShr IntKind.u64 x2 (12 : Int)) (sShl IntKind.u64 (List.getD (leastL a b c d e) (3 : Nat) (0 : Int)) (14 : Int))) (sShl IntKind.u64 (List.getD (leastL a b c d e) (4 : Nat) (0 : Int)) (40 : Int)); let x6 := w8 x4; let x7 := x3 + w8 k + (0 : Int); let x8 := x7 / (18446744073709551616 : Int); let x9 := x7 % (18446744073709551616 : Int); let x10 := (x5 + x6 + x8) % (18446744073709551616 : Int); true = true ∧ (5 : Nat) = (5 : Nat) ∧ x1 = x1 ∧ (0 : Int) ≤ (0 : Int) ∧ (0 : Int) < (5 : Int) ∧ (0 : Nat) < (5 : Nat) ∧ (0 : Int) ≤ (1 : Int) ∧ (1 : Int) < (5 : Int) ∧ (1 : Nat) < (5 : Nat) ∧ (0 : Int) ≤ (26 : Int) ∧ (0 : Int) ≤ (2 : Int) ∧ (2 : Int) < (5 : Int) ∧ (2 : Nat) < (5 : Nat) ∧ (0 : Int) ≤ (52 : Int) ∧ true = true ∧ true = true ∧ n = n ∧ k = k ∧ (8 : Nat) ≤ n ∧ List.length k = n ∧ (0 : Int) ≤ x3 ∧ (0 : Int) ≤ w8 k ∧ (0 : Int) ≤ (0 : Int) ∧ (0 : Int) ≤ (1 : Int) ∧ (0 : Int) ≤ (2 : Int) ∧ (2 : Int) < (5 : Int) ∧ (2 : Nat) < (5 : Nat) ∧ (0 : Int) ≤ (12 : Int) ∧ (0 : Int) ≤ (3 : Int) ∧ (3 : Int) < (5 : Int) ∧ (3 : Nat) < (5 : Nat) ∧ (0 : Int) ≤ (14 : Int) ∧ (0 : Int) ≤ (4 : Int) ∧ (4 : Int) < (5 : Int) ∧ (4 : Nat) < (5 : Nat) ∧ (0 : Int) ≤ (40 : Int) ∧ (0 : Int) ≤ (8 : Int) ∧ (8 : Nat) ≤ n ∧ true = true ∧ true = true ∧ n - (8 : Nat) = n - (8 : Nat) ∧ x4 = x4 ∧ (8 : Nat) ≤ n - (8 : Nat) ∧ List.length x4 = n - (8 : Nat) ∧ (0 : Int) ≤ x5 ∧ (0 : Int) ≤ x6 ∧ (0 : Int) ≤ x8 ∧ x8 ≤ (1 : Int) ∧ (0 : Int) ≤ (0 : Int) ∧ (0 : Int) ≤ (0 : Int) ∧ (0 : Int) ≤ (0 : Int) ∧ (0 : Int) < (16 : Int) ∧ (0 : Nat) < (16 : Nat) ∧ (0 : Int) ≤ (8 : Int) ∧ (8 : Int) < (16 : Int) ∧ (8 : Nat) < (16 : Nat) ∧ (0 : Int) ≤ (8 : Int) ∧ (0 : Int) ≤ (8 : Int) ∧ (0 : Int) ≤ (1 : Int) ∧ (1 : Int) < (16 : Int) ∧ (1 : Nat) < (16 : Nat) ∧ (0 : Int) ≤ (9 : Int) ∧ (9 : Int) < (16 : Int) ∧ (9 : Nat) < (16 : Nat) ∧ (0 : Int) ≤ (16 : Int) ∧ (0 : Int) ≤ (16 : Int) ∧ (0 : Int) ≤ (2 : Int) ∧ (2 : Int) < (16 : Int) ∧ (2 : Nat) < (16 : Nat) ∧ (0 : Int) ≤ (10 : Int) ∧ (10 : Int) < (16 : Int) ∧ (10 : Nat) < (16 : Nat) ∧ (0 : Int) ≤ (24 : Int) ∧ (0 : Int) ≤ (24 : Int) ∧ (0 : Int) ≤ (3 : Int) ∧ (3 : Int) < (16 : Int) ∧ (3 : Nat) < (16 : Nat) ∧ (0 : Int) ≤ (11 : Int) ∧ (11 : Int) < (16 : Int) ∧ (11 : Nat) < (16 : Nat) ∧ (0 : Int) ≤ (32 : Int) ∧ (0 : Int) ≤ (32 : Int) ∧ (0 : Int) ≤ (4 : Int) ∧ (4 : Int) < (16 : Int) ∧ (4 : Nat) < (16 : Nat) ∧ (0 : Int) ≤ (12 : Int) ∧ (12 : Int) < (16 : Int) ∧ (12 : Nat) < (16 : Nat) ∧ (0 : Int) ≤ (40 : Int) ∧ (0 : Int) ≤ (40 : Int) ∧ (0 : Int) ≤ (5 : Int) ∧ (5 : Int) < (16 : Int) ∧ (5 : Nat) < (16 : Nat) ∧ (0 : Int) ≤ (13 : Int) ∧ (13 : Int) < (16 : Int) ∧ (13 : Nat) < (16 : Nat) ∧ (0 : Int) ≤ (48 : Int) ∧ (0 : Int) ≤ (48 : Int) ∧ (0 : Int) ≤ (6 : Int) ∧ (6 : Int) < (16 : Int) ∧ (6 : Nat) < (16 : Nat) ∧ (0 : Int) ≤ (14 : Int) ∧ (14 : Int) < (16 : Int) ∧ (14 : Nat) < (16 : Nat) ∧ (0 : Int) ≤ (56 : Int) ∧ (0 : Int) ≤ (56 : Int) ∧ (0 : Int) ≤ (7 : Int) ∧ (7 : Int) < (16 : Int) ∧ (7 : Nat) < (16 : Nat) ∧ (0 : Int) ≤ (15 : Int) ∧ (15 : Int) < (16 : Int) ∧ (15 : Nat) < (16 : Nat) ∧ true = true ∧ true = true ∧ (68 : Nat) = (68 : Nat) ∧ (16 : Nat) = (16 : Nat) ∧ [IntKind.wrap IntKind.u8 (sShr IntKind.u64 x9 (0 : Int)), IntKind.wrap IntKind.u8 (sShr IntKind.u64 x9 (8 : Int)), IntKind.wrap IntKind.u8 (sShr IntKind.u64 x9 (16 : Int)), IntKind.wrap IntKind.u8 (sShr IntKind.u64 x9 (24 : Int)), IntKind.wrap IntKind.u8 (sShr IntKind.u64 x9 (32 : Int)), IntKind.wrap IntKind.u8 (sShr IntKind.u64 x9 (40 : Int)), IntKind.wrap IntKind.u8 (sShr IntKind.u64 x9 (48 : Int)), IntKind.wrap IntKind.u8 (sShr IntKind.u64 x9 (56 : Int)), IntKind.wrap IntKind.u8 (sShr IntKind.u64 x10 (0 : Int)), IntKind.wrap IntKind.u8 (sShr IntKind.u64 x10 (8 : Int)), IntKind.wrap IntKind.u8 (sShr IntKind.u64 x10 (16 : Int)), IntKind.wrap IntKind.u8 (sShr IntKind.u64 x10 (24 : Int)), IntKind.wrap IntKind.u8 (sShr IntKind.u64 x10 (32 : Int)), IntKind.wrap IntKind.u8 (sShr IntKind.u64 x10 (40 : Int)), IntKind.wrap IntKind.u8 (sShr IntKind.u64 x10 (48 : Int)), IntKind.wrap IntKind.u8 (sShr IntKind.u64 x10 (56 : Int))] = tagL k a b c d e) := by kernel_rfl

set_option maxHeartbeats 8000000 in
theorem wpTag (a b c d e : Int) (n : Nat) (k : List Int) (h1 : 16 ≤ n) (h2 : k.length = n) : wpE FTag (Tryd.f46.body.getD .skip) ⟨Tryd.f46.ntmps, slotsOf 0 (kTag (a, b, c, d, e, n, k)).avs, (kTag (a, b, c, d, e, n, k)).mem⟩ (finK Tryd.prog Tryd.f46.results.toList (postN (kTag (a, b, c, d, e, n, k)))) := by
  with_reducible refine Eq.mpr (vcTag a b c d e n k) ?_
  simp only [take_drop8 h2]
  have hl : (k.drop 8).length = n - 8 := by rw [List.length_drop, h2]
  intros
  and_intros <;> first | omega | exact True.intro | exact (or_in _ _).1 | exact (w8_in _).1 | exact (carry_in _ _ _).1 | exact (carry_in _ _ _).2 | kernel_rfl
set_option maxHeartbeats 8000000 in
theorem cTag_ok : SpecOK Tryd.prog cTag := by
  refine callG_ok (c := Tryd.f46.body.getD .skip) mixed Tryd.func46 (by kernel_rfl) rfl (fun x hob => ?_)
  obtain ⟨a, b, c, d, e, n, k⟩ := x
  have hob : (16 ≤ n) ∧ (k.length = n) := hob
  obtain ⟨h1, h2⟩ := hob
  exact ⟨FTag, rfl, evOKs ⟨.inl ⟨cLeast_ok, by kernel_rfl, gl_nil rfl⟩, ⟨.inl ⟨cPWord_ok, by kernel_rfl, gl_nil rfl⟩, ⟨.inr (eAdd_ok), trivial⟩⟩⟩, rfl, rfl, by with_reducible exact wpTag a b c d e n k h1 h2⟩
end Go.Proofs.YthhjcpiaoempfaaDoor
namespace Go.Proofs.YthhjcpiaoempfaaDoor
open Go.RowKit
set_option maxRecDepth 100000

def ex5 (l : List Int) : List Int := [l.getD 0 0, l.getD 1 0, l.getD 2 0, l.getD 3 0, l.getD 4 0]
/-- What a block of at most sixteen bytes is read as. -/
def readL (n : Nat) (l : List Int) : List Int := cond (decide ((n : Int) = 16)) (digL (rdF l) 1) (digL (rdP n l) 0)
def kRead : Nat × (List Int) → ClN := fun (n, l) => ⟨[.o (.c (.rs 1 n (.i .u8 l)))], [], .o (.g [.many 5 (.i .u64 (ex5 (readL n l)))]), [], [], [l.length = n, n ≤ 16]⟩
noncomputable def FRead : FnE := ⟨mkEv Tryd.prog [] [cDigits] 0, [0, 2, 3, 9], fun _ _ => .rounds 0⟩
def mRead : List AV → (Nat → Option MB) → Option (List Nat × (Nat × (List Int)))
  | [.o (.c c)], lk => match slI lk c with
    | some (n, l) => some ([], n, l)
    | none => none
  | _, _ => none
noncomputable def cRead : Spec := callG 44 Tryd.f44.ntmps mRead kRead
theorem vcRead (n : Nat) (l : List Int) : (wpE FRead (Tryd.f44.body.getD .skip) ⟨Tryd.f44.ntmps, slotsOf 0 (kRead (n, l)).avs, (kRead (n, l)).mem⟩ (finK Tryd.prog Tryd.f44.results.toList (postN (kRead (n, l))))) = (let x1 := lay (List.replicate (16 : Nat) (0 : Int)) (0 : Nat) (List.take (Nat.min n (16 : Nat)) (List.drop (0 : Nat) l)); let x2 := List.take (16 : Nat) (List.drop (0 : Nat) x1); let x3 := List.take (16 : Nat) (List.drop (0 : Nat) (List.set x1 (Int.toNat (↑n : Int)) (1 : Int))); (16 : Nat) ≤ (9223372036854775807 : Nat) ∧ (0 : Nat) + Nat.min n (16 : Nat) ≤ (16 : Nat) ∧ bif decide ((↑n : Int) = (16 : Int)) then (16 : Nat) ≤ (9223372036854775807 : Nat) ∧ true = true ∧ true = true ∧ (16 : Nat) = (16 : Nat) ∧ x2 = x2 ∧ (16 : Nat) ≤ (16 : Nat) ∧ Value.int IntKind.u64 (1 : Int) = Value.int IntKind.u64 (1 : Int) ∧ (16 : Nat) ≤ (16 : Nat) ∧ List.length x2 = (16 : Nat) ∧ true = true ∧ true = true ∧ (17 : Nat) = (17 : Nat) ∧ (5 : Nat) = (5 : Nat) ∧ digL x2 (1 : Int) = ex5 (readL n l) else (0 : Int) ≤ (↑n : Int) ∧ (↑n : Int) < (16 : Int) ∧ Int.toNat (↑n : Int) < (16 : Nat) ∧ (16 : Nat) ≤ (9223372036854775807 : Nat) ∧ true = true ∧ true = true ∧ (16 : Nat) = (16 : Nat) ∧ x3 = x3 ∧ (16 : Nat) ≤ (16 : Nat) ∧ Value.int IntKind.u64 (0 : Int) = Value.int IntKind.u64 (0 : Int) ∧ (16 : Nat) ≤ (16 : Nat) ∧ List.length x3 = (16 : Nat) ∧ true = true ∧ true = true ∧ (17 : Nat) = (17 : Nat) ∧ (5 : Nat) = (5 : Nat) ∧ digL x3 (0 : Int) = ex5 (readL n l)) := by kernel_rfl

set_option maxHeartbeats 8000000 in
theorem wpRead (n : Nat) (l : List Int) (h1 : l.length = n) (h2 : n ≤ 16) : wpE FRead (Tryd.f44.body.getD .skip) ⟨Tryd.f44.ntmps, slotsOf 0 (kRead (n, l)).avs, (kRead (n, l)).mem⟩ (finK Tryd.prog Tryd.f44.results.toList (postN (kRead (n, l)))) := by
  with_reducible refine Eq.mpr (vcRead n l) ?_
  by_cases hn : n = 16
  · subst hn
    have hl := rdF_len h1
    have hd : decide (((16 : Nat) : Int) = 16) = true := rfl
    have e : ex5 (readL 16 l) = digL (rdF l) 1 := rfl
    rw [e, hd]
    intros
    rw [cond_true]
    and_intros <;> first | omega | exact True.intro | exact hl | exact (by decide : 0 + Nat.min 16 16 ≤ 16) | kernel_rfl
  · have hl := rdP_len h1 (by omega)
    have hd : decide ((n : Int) = 16) = false := decide_eq_false (by omega)
    have hm : Nat.min n 16 = n := Nat.min_eq_left h2
    have e : ex5 (readL n l) = digL (rdP n l) 0 := by unfold readL; rw [hd]; rfl
    simp only [Int.toNat_natCast]
    rw [e, hd, cond_false]
    and_intros <;> first | omega | exact True.intro | exact hl | (rw [hm]; omega) | kernel_rfl
set_option maxHeartbeats 8000000 in
theorem cRead_ok : SpecOK Tryd.prog cRead := by
  refine callG_ok (c := Tryd.f44.body.getD .skip) mixed Tryd.func44 (by kernel_rfl) rfl (fun x hob => ?_)
  obtain ⟨n, l⟩ := x
  have hob : (l.length = n) ∧ (n ≤ 16) := hob
  obtain ⟨h1, h2⟩ := hob
  exact ⟨FRead, rfl, evOKs ⟨.inl ⟨cDigits_ok, by kernel_rfl, gl_nil rfl⟩, trivial⟩, rfl, rfl, by with_reducible exact wpRead n l h1 h2⟩

def stp (a b c d e p q r s t : Int) (g : List Int) : List Int := timesL (w6 (a + g.getD 0 0)) (w6 (b + g.getD 1 0)) (w6 (c + g.getD 2 0)) (w6 (d + g.getD 3 0)) (w6 (e + g.getD 4 0)) p q r s t
def kTake : Nat × (List Int) × Nat × Nat × Int × Int × Int × Int × Int × Int × Int × Int × Int × Int → ClN := fun (n, l, ts, tr, a, b, c, d, e, p, q, r, s, t) => ⟨[.o (.c (.rs 1 n (.i .u8 l))), .o (.c (.ptr 0 0 none)), .o (.c (.ptr 1 0 none))], [.fix ts [.many 5 (.i .u64 [a, b, c, d, e])], .ro tr [.many 5 (.i .u64 [p, q, r, s, t])]], .t [], [.fix ts [.many 5 (.i .u64 (stp a b c d e p q r s t (readL n l)))], .dead], [0, 1], [l.length = n, n ≤ 16]⟩
noncomputable def FTake : FnE := ⟨mkEv Tryd.prog [] [cRead, cPlus, cTimes] 2, [0, 1, 2], fun _ _ => .rounds 0⟩
def mTake : List AV → (Nat → Option MB) → Option (List Nat × (Nat × (List Int) × Nat × Nat × Int × Int × Int × Int × Int × Int × Int × Int × Int × Int))
  | [.o (.c x), .o (.c (.ptr i 0 none)), .o (.c (.ptr j 0 none))], lk => match slI lk x with
    | some (n, l) => match lk i with
      | some (.fix ts [.many 5 (.i .u64 [a, b, c, d, e])]) => match lk j with
        | some (.fix tr [.many 5 (.i .u64 [p, q, r, s, t])]) => some ([i, j], n, l, ts, tr, a, b, c, d, e, p, q, r, s, t)
        | some (.ro tr [.many 5 (.i .u64 [p, q, r, s, t])]) => some ([i, j], n, l, ts, tr, a, b, c, d, e, p, q, r, s, t)
        | _ => none
      | _ => none
    | none => none
  | _, _ => none
noncomputable def cTake : Spec := callG 42 Tryd.f42.ntmps mTake kTake
theorem vcTake (n : Nat) (l : List Int) (ts tr : Nat) (a b c d e p q r s t : Int) : (wpE FTake (Tryd.f42.body.getD .skip) ⟨Tryd.f42.ntmps, slotsOf 0 (kTake (n, l, ts, tr, a, b, c, d, e, p, q, r, s, t)).avs, (kTake (n, l, ts, tr, a, b, c, d, e, p, q, r, s, t)).mem⟩ (finK Tryd.prog Tryd.f42.results.toList (postN (kTake (n, l, ts, tr, a, b, c, d, e, p, q, r, s, t))))) = (let x1 := [a, b, c, d, e]; let x2 := List.getD (readL n l) (0 : Nat) (0 : Int); let x3 := List.getD (readL n l) (1 : Nat) (0 : Int); let x4 := List.getD (readL n l) (2 : Nat) (0 : Int); let x5 := List.getD (readL n l) (3 : Nat) (0 : Int); let x6 := List.getD (readL n l) (4 : Nat) (0 : Int); let x7 := w6 (a + x2); let x8 := w6 (b + x3); let x9 := w6 (c + x4); let x10 := w6 (d + x5); let x11 := w6 (e + x6); let x12 := [x7, x8, x9, x10, x11]; let x13 := [p, q, r, s, t]; true = true ∧ true = true ∧ n = n ∧ l = l ∧ List.length l = n ∧ n ≤ (16 : Nat) ∧ true = true ∧ (5 : Nat) = (5 : Nat) ∧ x1 = x1 ∧ (5 : Nat) = (5 : Nat) ∧ ex5 (readL n l) = [x2, x3, x4, x5, x6] ∧ true = true ∧ (5 : Nat) = (5 : Nat) ∧ x12 = x12 ∧ (5 : Nat) = (5 : Nat) ∧ x13 = x13 ∧ true = true ∧ true = true ∧ (10 : Nat) = (10 : Nat) ∧ ts = ts ∧ (5 : Nat) = (5 : Nat) ∧ timesL x7 x8 x9 x10 x11 p q r s t = stp a b c d e p q r s t (readL n l)) := by kernel_rfl

set_option maxHeartbeats 8000000 in
theorem wpTake (n : Nat) (l : List Int) (ts tr : Nat) (a b c d e p q r s t : Int) (h1 : l.length = n) (h2 : n ≤ 16) : wpE FTake (Tryd.f42.body.getD .skip) ⟨Tryd.f42.ntmps, slotsOf 0 (kTake (n, l, ts, tr, a, b, c, d, e, p, q, r, s, t)).avs, (kTake (n, l, ts, tr, a, b, c, d, e, p, q, r, s, t)).mem⟩ (finK Tryd.prog Tryd.f42.results.toList (postN (kTake (n, l, ts, tr, a, b, c, d, e, p, q, r, s, t)))) := by
  with_reducible refine Eq.mpr (vcTake n l ts tr a b c d e p q r s t) ?_
  intros
  and_intros <;> first | omega | exact True.intro | kernel_rfl
set_option maxHeartbeats 8000000 in
theorem cTake_ok : SpecOK Tryd.prog cTake := by
  refine callG_ok (c := Tryd.f42.body.getD .skip) mixed Tryd.func42 (by kernel_rfl) rfl (fun x hob => ?_)
  obtain ⟨n, l, ts, tr, a, b, c, d, e, p, q, r, s, t⟩ := x
  have hob : (l.length = n) ∧ (n ≤ 16) := hob
  obtain ⟨h1, h2⟩ := hob
  exact ⟨FTake, rfl, evOKs ⟨.inl ⟨cRead_ok, by kernel_rfl, gl_nil rfl⟩, ⟨.inl ⟨cPlus_ok, by kernel_rfl, gl_nil rfl⟩, ⟨.inl ⟨cTimes_ok, by kernel_rfl, gl_nil rfl⟩, trivial⟩⟩⟩, rfl, rfl, by with_reducible exact wpTake n l ts tr a b c d e p q r s t h1 h2⟩

end Go.Proofs.YthhjcpiaoempfaaDoor
namespace Go.Proofs.YthhjcpiaoempfaaDoor
open Go.RowKit
set_option maxRecDepth 100000

/-- The digits after k whole blocks. -/
def fold5 (z r t : List Int) : Nat → List Int
  | 0 => z
  | k + 1 => stp ((fold5 z r t k).getD 0 0) ((fold5 z r t k).getD 1 0) ((fold5 z r t k).getD 2 0) ((fold5 z r t k).getD 3 0) ((fold5 z r t k).getD 4 0) (r.getD 0 0) (r.getD 1 0) (r.getD 2 0) (r.getD 3 0) (r.getD 4 0) (readL 16 ((t.drop (16 * k)).take 16))
/-- The digits of all. -/
def all5 (z r t : List Int) : List Int := if t.length % 16 = 0 then fold5 z r t (t.length / 16) else
  stp ((fold5 z r t (t.length / 16)).getD 0 0) ((fold5 z r t (t.length / 16)).getD 1 0) ((fold5 z r t (t.length / 16)).getD 2 0) ((fold5 z r t (t.length / 16)).getD 3 0) ((fold5 z r t (t.length / 16)).getD 4 0) (r.getD 0 0) (r.getD 1 0) (r.getD 2 0) (r.getD 3 0) (r.getD 4 0) (readL (t.length % 16) (t.drop (16 * (t.length / 16))))
/-- Where the loops stand: so many bytes are taken, the last ones of them lie in the block; the digits. -/
structure InN (z r t : List Int) where
  c : Nat
  B : List Int
  a0 : Int
  a1 : Int
  a2 : Int
  a3 : Int
  a4 : Int
  hB : B.length = 16
  hc : c ≤ t.length
  ha : [a0, a1, a2, a3, a4] = fold5 z r t (c / 16)
  hT : B.take (c % 16) = (t.drop (16 * (c / 16))).take (c % 16)
theorem lay_take {B x : List Int} {f : Nat} (h : f + x.length ≤ B.length) : (lay B f x).take (f + x.length) = B.take f ++ x := by
  unfold lay
  exact List.take_left' (by simp; omega)
theorem flat_at {ls : List (List Int)} {i : Nat} (h : i < ls.length) : ls.flatten = (ls.take i).flatten ++ (ls.getD i [] ++ (ls.drop (i + 1)).flatten) ∧ (ls.take (i + 1)).flatten = (ls.take i).flatten ++ ls.getD i [] := by
  have e : ls.getD i [] = ls[i] := by rw [List.getD_eq_getElem?_getD, List.getElem?_eq_getElem h]; rfl
  rw [e]
  constructor
  · rw [← List.flatten_cons, ← List.drop_eq_getElem_cons h, ← List.flatten_append, List.take_append_drop]
  · rw [List.take_add_one, List.getElem?_eq_getElem h, List.flatten_append]
    simp
theorem flat_drop {ls : List (List Int)} {i j : Nat} (h : i < ls.length) (hj : j ≤ (ls.getD i []).length) : (ls.flatten.drop ((ls.take i).flatten.length + j)).take ((ls.getD i []).length - j) = (ls.getD i []).drop j ∧ (ls.take i).flatten.length + (ls.getD i []).length ≤ ls.flatten.length := by
  obtain ⟨h1, _⟩ := flat_at h
  rw [h1]
  constructor
  · rw [List.drop_append, List.drop_of_length_le (by omega), List.nil_append, Nat.add_sub_cancel_left, List.drop_append_of_le_length hj]
    exact List.take_left' (by simp)
  · simp only [List.length_append]; omega
/-- The next bytes are laid into the block. -/
theorem inn_step {z r t : List Int} (x : InN z r t) {l : List Int} {j m : Nat} (hl : (t.drop x.c).take (l.length - j) = l.drop j) (hm : m = Nat.min (l.length - j) (16 - x.c % 16)) :
    ((l.drop j).take m).length = m ∧ (lay x.B (x.c % 16) ((l.drop j).take m)).length = 16 ∧ (lay x.B (x.c % 16) ((l.drop j).take m)).take (x.c % 16 + m) = (t.drop (16 * (x.c / 16))).take (x.c % 16 + m) := by
  have h1 : m ≤ l.length - j := by rw [hm]; exact Nat.min_le_left _ _
  have h2 : m ≤ 16 - x.c % 16 := by rw [hm]; exact Nat.min_le_right _ _
  have h3 : x.c % 16 < 16 := Nat.mod_lt _ (by decide)
  have e1 : ((l.drop j).take m).length = m := by rw [List.length_take, List.length_drop]; omega
  have hB := x.hB
  refine ⟨e1, by rw [lay_length _ _ _ (by rw [e1]; omega), hB], ?_⟩
  have e2 := lay_take (B := x.B) (x := (l.drop j).take m) (f := x.c % 16) (by rw [e1]; omega)
  rw [e1] at e2
  rw [e2, List.take_add, x.hT, List.drop_drop, show 16 * (x.c / 16) + x.c % 16 = x.c by omega]
  congr 1
  rw [← hl, List.take_take, Nat.min_eq_left h1]
theorem five_eq {z r t : List Int} (x : InN z r t) : ex5 (fold5 z r t (x.c / 16)) = [x.a0, x.a1, x.a2, x.a3, x.a4] := by rw [← x.ha]; rfl
theorem fold_next {z : List Int} {p q r s u : Int} {t : List Int} (x : InN z [p, q, r, s, u] t) : fold5 z [p, q, r, s, u] t (x.c / 16 + 1) = stp x.a0 x.a1 x.a2 x.a3 x.a4 p q r s u (readL 16 ((t.drop (16 * (x.c / 16))).take 16)) := by
  rw [fold5, ← x.ha]; rfl
noncomputable def stOut (ts tr tb : Nat) (p q r s u : Int) (ls : List (List Int)) (z : List Int) (x : InN z [p, q, r, s, u] ls.flatten) (i : Nat) : St := ⟨Tryd.f41.ntmps, [(1, .o (.c (.fn 42 [(0, 0), (1, 0)]))), (4, .o (.c (.ptr 2 0 none))), (5, vv (.int .i64 ((x.c % 16 : Nat) : Int))), (9, .o (.c (.rss ls))), (10, vv (.int .i64 (ls.length : Int))), (11, vv (.int .i64 (i : Int)))], [.fix ts [.many 5 (.i .u64 [x.a0, x.a1, x.a2, x.a3, x.a4])], .ro tr [.many 5 (.i .u64 [p, q, r, s, u])], .fix tb [.many 16 (.i .u8 x.B)]]⟩
noncomputable def stInn (ts tr tb : Nat) (p q r s u : Int) (ls : List (List Int)) (z : List Int) (i : Nat) (x : InN z [p, q, r, s, u] ls.flatten) (j : Nat) : St := ⟨Tryd.f41.ntmps, [(1, .o (.c (.fn 42 [(0, 0), (1, 0)]))), (4, .o (.c (.ptr 2 0 none))), (5, vv (.int .i64 ((x.c % 16 : Nat) : Int))), (7, .o (.c (.rs 1 ((ls.getD i []).length - j) (.i .u8 ((ls.getD i []).drop j))))), (9, .o (.c (.rss ls))), (10, vv (.int .i64 (ls.length : Int))), (11, vv (.int .i64 (i : Int)))], [.fix ts [.many 5 (.i .u64 [x.a0, x.a1, x.a2, x.a3, x.a4])], .ro tr [.many 5 (.i .u64 [p, q, r, s, u])], .fix tb [.many 16 (.i .u8 x.B)]]⟩
def kInBn : Nat × Nat × (List (List Int)) × Int × Int × Int × Int × Int × Int × Int × Int × Int × Int → ClN := fun (ts, tr, ls, a, b, c, d, e, p, q, r, s, u) => ⟨[.o (.c (.rss ls)), .o (.c (.fn 42 [(0, 0), (1, 0)]))], [.fix ts [.many 5 (.i .u64 [a, b, c, d, e])], .ro tr [.many 5 (.i .u64 [p, q, r, s, u])]], .t [], [.fix ts [.many 5 (.i .u64 (ex5 (all5 [a, b, c, d, e] [p, q, r, s, u] ls.flatten)))], .dead], [0, 1], [ls.length ≤ 140737488355328]⟩
noncomputable def FInBn (ts tr : Nat) (ls : List (List Int)) (a b c d e p q r s u : Int) : FnE := ⟨mkEv Tryd.prog [] [cTake] 2, [0, 1, 4, 5, 7, 8, 9, 10, 11, 12, 17, 29, 35], fun g σ => cond (Nat.beq g 3) (.inv { x : InN [a, b, c, d, e] [p, q, r, s, u] ls.flatten × Nat // x.2 ≤ ls.length ∧ x.1.c = (ls.take x.2).flatten.length } (fun x => stOut ts tr 59 p q r s u ls [a, b, c, d, e] x.1.1 x.1.2) (fun x => ls.length - x.1.2) [0, 1, 2] [0, 1, 2]) (.inv { x : InN [a, b, c, d, e] [p, q, r, s, u] ls.flatten × Nat // x.2 ≤ (ls.getD (iOf 11 σ) []).length ∧ iOf 11 σ < ls.length ∧ x.1.c = (ls.take (iOf 11 σ)).flatten.length + x.2 } (fun x => stInn ts tr 59 p q r s u ls [a, b, c, d, e] (iOf 11 σ) x.1.1 x.1.2) (fun x => (ls.getD (iOf 11 σ) []).length - x.1.2) [0, 1, 2] [0, 1, 2])⟩
def mInBn : List AV → (Nat → Option MB) → Option (List Nat × (Nat × Nat × (List (List Int)) × Int × Int × Int × Int × Int × Int × Int × Int × Int × Int))
  | [.o (.c x), .o (.c (.fn 42 [(j, 0), (k, 0)]))], lk => match slS lk x with
    | some ls => match lk j with
        | some (.fix ts [.many 5 (.i .u64 [a, b, c, d, e])]) => match lk k with
          | some (.fix tr [.many 5 (.i .u64 [p, q, r, s, u])]) => some ([j, k], ts, tr, ls, a, b, c, d, e, p, q, r, s, u)
          | _ => none
        | _ => none
    | none => none
  | _, _ => none
noncomputable def cInBn : Spec := callG 41 Tryd.f41.ntmps mInBn kInBn
theorem vcInBn (ts tr : Nat) (ls : List (List Int)) (a b c d e p q r s u : Int) : (wpE (FInBn ts tr ls a b c d e p q r s u) (Tryd.f41.body.getD .skip) ⟨Tryd.f41.ntmps, slotsOf 0 (kInBn (ts, tr, ls, a, b, c, d, e, p, q, r, s, u)).avs, (kInBn (ts, tr, ls, a, b, c, d, e, p, q, r, s, u)).mem⟩ (finK Tryd.prog Tryd.f41.results.toList (postN (kInBn (ts, tr, ls, a, b, c, d, e, p, q, r, s, u))))) = (let x1 := [a, b, c, d, e]; let x2 := [p, q, r, s, u]; let x3 := ex5 (all5 x1 x2 (List.flatten ls)); (∃ (x : { x : InN x1 x2 (List.flatten ls) × Nat // Prod.snd x ≤ List.length ls ∧ InN.c (Prod.fst x) = List.length (List.flatten (List.take (Prod.snd x) ls)) }), true = true ∧ true = true ∧ (40 : Nat) = (40 : Nat) ∧ (42 : Nat) = (42 : Nat) ∧ getL [(0 : Nat), (1 : Nat), (2 : Nat)] (0 : Nat) = some (0 : Nat) ∧ (0 : Nat) = (0 : Nat) ∧ getL [(0 : Nat), (1 : Nat), (2 : Nat)] (1 : Nat) = some (1 : Nat) ∧ (0 : Nat) = (0 : Nat) ∧ getL [(0 : Nat), (1 : Nat), (2 : Nat)] (2 : Nat) = some (2 : Nat) ∧ (0 : Nat) = (0 : Nat) ∧ Value.int IntKind.i64 (0 : Int) = Value.int IntKind.i64 (↑(InN.c (Prod.fst (Subtype.val x)) % (16 : Nat)) : Int) ∧ ls = ls ∧ Value.int IntKind.i64 (↑(List.length ls) : Int) = Value.int IntKind.i64 (↑(List.length ls) : Int) ∧ Value.int IntKind.i64 (0 : Int) = Value.int IntKind.i64 (↑(Prod.snd (Subtype.val x)) : Int) ∧ ts = ts ∧ (5 : Nat) = (5 : Nat) ∧ x1 = [InN.a0 (Prod.fst (Subtype.val x)), InN.a1 (Prod.fst (Subtype.val x)), InN.a2 (Prod.fst (Subtype.val x)), InN.a3 (Prod.fst (Subtype.val x)), InN.a4 (Prod.fst (Subtype.val x))] ∧ tr = tr ∧ (5 : Nat) = (5 : Nat) ∧ x2 = x2 ∧ (59 : Nat) = (59 : Nat) ∧ (16 : Nat) = (16 : Nat) ∧ List.replicate (16 : Nat) (0 : Int) = InN.B (Prod.fst (Subtype.val x))) ∧ ∀ (x : { x : InN x1 x2 (List.flatten ls) × Nat // Prod.snd x ≤ List.length ls ∧ InN.c (Prod.fst x) = List.length (List.flatten (List.take (Prod.snd x) ls)) }), bif decide ((↑(Prod.snd (Subtype.val x)) : Int) < (↑(List.length ls) : Int)) then (0 : Int) ≤ (↑(Prod.snd (Subtype.val x)) : Int) ∧ (↑(Prod.snd (Subtype.val x)) : Int) < (↑(List.length ls) : Int) ∧ (∃ (x_1 : { x_1 : InN x1 x2 (List.flatten ls) × Nat // Prod.snd x_1 ≤ List.length (List.getD ls (Subtype.val x).2 []) ∧ (Subtype.val x).2 < List.length ls ∧ InN.c (Prod.fst x_1) = List.length (List.flatten (List.take (Subtype.val x).2 ls)) + Prod.snd x_1 }), true = true ∧ true = true ∧ (40 : Nat) = (40 : Nat) ∧ (42 : Nat) = (42 : Nat) ∧ getL [(0 : Nat), (1 : Nat), (2 : Nat)] (0 : Nat) = some (0 : Nat) ∧ (0 : Nat) = (0 : Nat) ∧ getL [(0 : Nat), (1 : Nat), (2 : Nat)] (1 : Nat) = some (1 : Nat) ∧ (0 : Nat) = (0 : Nat) ∧ getL [(0 : Nat), (1 : Nat), (2 : Nat)] (2 : Nat) = some (2 : Nat) ∧ (0 : Nat) = (0 : Nat) ∧ Value.int IntKind.i64 (↑(InN.c (Prod.fst (Subtype.val x)) % (16 : Nat)) : Int) = Value.int IntKind.i64 (↑(InN.c (Prod.fst (Subtype.val x_1)) % (16 : Nat)) : Int) ∧ (1 : Nat) = (1 : Nat) ∧ List.length (List.getD ls (Int.toNat (↑(Prod.snd (Subtype.val x)) : Int)) []) = List.length (List.getD ls (Subtype.val x).2 []) - Prod.snd (Subtype.val x_1) ∧ List.getD ls (Int.toNat (↑(Prod.snd (Subtype.val x)) : Int)) [] = List.drop (Prod.snd (Subtype.val x_1)) (List.getD ls (Subtype.val x).2 []) ∧ ls = ls ∧ Value.int IntKind.i64 (↑(List.length ls) : Int) = Value.int IntKind.i64 (↑(List.length ls) : Int) ∧ Value.int IntKind.i64 (↑(Prod.snd (Subtype.val x)) : Int) = Value.int IntKind.i64 (↑(Subtype.val x).2 : Int) ∧ ts = ts ∧ (5 : Nat) = (5 : Nat) ∧ [InN.a0 (Prod.fst (Subtype.val x)), InN.a1 (Prod.fst (Subtype.val x)), InN.a2 (Prod.fst (Subtype.val x)), InN.a3 (Prod.fst (Subtype.val x)), InN.a4 (Prod.fst (Subtype.val x))] = [InN.a0 (Prod.fst (Subtype.val x_1)), InN.a1 (Prod.fst (Subtype.val x_1)), InN.a2 (Prod.fst (Subtype.val x_1)), InN.a3 (Prod.fst (Subtype.val x_1)), InN.a4 (Prod.fst (Subtype.val x_1))] ∧ tr = tr ∧ (5 : Nat) = (5 : Nat) ∧ x2 = x2 ∧ (59 : Nat) = (59 : Nat) ∧ (16 : Nat) = (16 : Nat) ∧ InN.B (Prod.fst (Subtype.val x)) = InN.B (Prod.fst (Subtype.val x_1))) ∧ ∀ (x_1 : { x_1 : InN x1 x2 (List.flatten ls) × Nat // Prod.snd x_1 ≤ List.length (List.getD ls (Subtype.val x).2 []) ∧ (Subtype.val x).2 < List.length ls ∧ InN.c (Prod.fst x_1) = List.length (List.flatten (List.take (Subtype.val x).2 ls)) + Prod.snd x_1 }), bif decide ((0 : Int) < (↑(List.length (List.getD ls (Subtype.val x).2 []) - Prod.snd (Subtype.val x_1)) : Int)) then (0 : Int) ≤ (↑(InN.c (Prod.fst (Subtype.val x_1)) % (16 : Nat)) : Int) ∧ Int.toNat (↑(InN.c (Prod.fst (Subtype.val x_1)) % (16 : Nat)) : Int) ≤ (16 : Nat) ∧ (16 : Nat) ≤ (9223372036854775807 : Nat) ∧ (0 : Nat) + Int.toNat (↑(InN.c (Prod.fst (Subtype.val x_1)) % (16 : Nat)) : Int) + Nat.min (List.length (List.getD ls (Subtype.val x).2 []) - Prod.snd (Subtype.val x_1)) ((16 : Nat) - Int.toNat (↑(InN.c (Prod.fst (Subtype.val x_1)) % (16 : Nat)) : Int)) ≤ (16 : Nat) ∧ (0 : Int) ≤ (↑(Nat.min (List.length (List.getD ls (Subtype.val x).2 []) - Prod.snd (Subtype.val x_1)) ((16 : Nat) - Int.toNat (↑(InN.c (Prod.fst (Subtype.val x_1)) % (16 : Nat)) : Int))) : Int) ∧ Int.toNat (↑(Nat.min (List.length (List.getD ls (Subtype.val x).2 []) - Prod.snd (Subtype.val x_1)) ((16 : Nat) - Int.toNat (↑(InN.c (Prod.fst (Subtype.val x_1)) % (16 : Nat)) : Int))) : Int) ≤ List.length (List.getD ls (Subtype.val x).2 []) - Prod.snd (Subtype.val x_1) ∧ bif decide (IntKind.wrap IntKind.i64 ((↑(InN.c (Prod.fst (Subtype.val x_1)) % (16 : Nat)) : Int) + (↑(Nat.min (List.length (List.getD ls (Subtype.val x).2 []) - Prod.snd (Subtype.val x_1)) ((16 : Nat) - Int.toNat (↑(InN.c (Prod.fst (Subtype.val x_1)) % (16 : Nat)) : Int))) : Int)) = (16 : Int)) then (16 : Nat) ≤ (9223372036854775807 : Nat) ∧ true = true ∧ true = true ∧ (16 : Nat) = (16 : Nat) ∧ List.take (16 : Nat) (List.drop (0 : Nat) (lay (InN.B (Prod.fst (Subtype.val x_1))) ((0 : Nat) + Int.toNat (↑(InN.c (Prod.fst (Subtype.val x_1)) % (16 : Nat)) : Int)) (List.take (Nat.min (List.length (List.getD ls (Subtype.val x).2 []) - Prod.snd (Subtype.val x_1)) ((16 : Nat) - Int.toNat (↑(InN.c (Prod.fst (Subtype.val x_1)) % (16 : Nat)) : Int))) (List.drop (0 : Nat) (List.drop (Prod.snd (Subtype.val x_1)) (List.getD ls (Subtype.val x).2 [])))))) = List.take (16 : Nat) (List.drop (0 : Nat) (lay (InN.B (Prod.fst (Subtype.val x_1))) ((0 : Nat) + Int.toNat (↑(InN.c (Prod.fst (Subtype.val x_1)) % (16 : Nat)) : Int)) (List.take (Nat.min (List.length (List.getD ls (Subtype.val x).2 []) - Prod.snd (Subtype.val x_1)) ((16 : Nat) - Int.toNat (↑(InN.c (Prod.fst (Subtype.val x_1)) % (16 : Nat)) : Int))) (List.drop (0 : Nat) (List.drop (Prod.snd (Subtype.val x_1)) (List.getD ls (Subtype.val x).2 [])))))) ∧ (16 : Nat) ≤ (16 : Nat) ∧ getL [(0 : Nat), (1 : Nat)] (0 : Nat) = some (0 : Nat) ∧ (0 : Nat) = (0 : Nat) ∧ getL [(0 : Nat), (1 : Nat)] (1 : Nat) = some (1 : Nat) ∧ (0 : Nat) = (0 : Nat) ∧ ts = ts ∧ (5 : Nat) = (5 : Nat) ∧ [InN.a0 (Prod.fst (Subtype.val x_1)), InN.a1 (Prod.fst (Subtype.val x_1)), InN.a2 (Prod.fst (Subtype.val x_1)), InN.a3 (Prod.fst (Subtype.val x_1)), InN.a4 (Prod.fst (Subtype.val x_1))] = [InN.a0 (Prod.fst (Subtype.val x_1)), InN.a1 (Prod.fst (Subtype.val x_1)), InN.a2 (Prod.fst (Subtype.val x_1)), InN.a3 (Prod.fst (Subtype.val x_1)), InN.a4 (Prod.fst (Subtype.val x_1))] ∧ tr = tr ∧ (5 : Nat) = (5 : Nat) ∧ x2 = x2 ∧ List.length (List.take (16 : Nat) (List.drop (0 : Nat) (lay (InN.B (Prod.fst (Subtype.val x_1))) ((0 : Nat) + Int.toNat (↑(InN.c (Prod.fst (Subtype.val x_1)) % (16 : Nat)) : Int)) (List.take (Nat.min (List.length (List.getD ls (Subtype.val x).2 []) - Prod.snd (Subtype.val x_1)) ((16 : Nat) - Int.toNat (↑(InN.c (Prod.fst (Subtype.val x_1)) % (16 : Nat)) : Int))) (List.drop (0 : Nat) (List.drop (Prod.snd (Subtype.val x_1)) (List.getD ls (Subtype.val x).2 []))))))) = (16 : Nat) ∧ (16 : Nat) ≤ (16 : Nat) ∧ ∃ (y : { x_2 : InN x1 x2 (List.flatten ls) × Nat // Prod.snd x_2 ≤ List.length (List.getD ls (Subtype.val x).2 []) ∧ (Subtype.val x).2 < List.length ls ∧ InN.c (Prod.fst x_2) = List.length (List.flatten (List.take (Subtype.val x).2 ls)) + Prod.snd x_2 }), (true = true ∧ true = true ∧ (40 : Nat) = (40 : Nat) ∧ (42 : Nat) = (42 : Nat) ∧ getL [(0 : Nat), (1 : Nat), (2 : Nat)] (0 : Nat) = some (0 : Nat) ∧ (0 : Nat) = (0 : Nat) ∧ getL [(0 : Nat), (1 : Nat), (2 : Nat)] (1 : Nat) = some (1 : Nat) ∧ (0 : Nat) = (0 : Nat) ∧ getL [(0 : Nat), (1 : Nat), (2 : Nat)] (2 : Nat) = some (2 : Nat) ∧ (0 : Nat) = (0 : Nat) ∧ Value.int IntKind.i64 (0 : Int) = Value.int IntKind.i64 (↑(InN.c (Prod.fst (Subtype.val y)) % (16 : Nat)) : Int) ∧ (1 : Nat) = (1 : Nat) ∧ List.length (List.getD ls (Subtype.val x).2 []) - Prod.snd (Subtype.val x_1) - Int.toNat (↑(Nat.min (List.length (List.getD ls (Subtype.val x).2 []) - Prod.snd (Subtype.val x_1)) ((16 : Nat) - Int.toNat (↑(InN.c (Prod.fst (Subtype.val x_1)) % (16 : Nat)) : Int))) : Int) = List.length (List.getD ls (Subtype.val x).2 []) - Prod.snd (Subtype.val y) ∧ List.take (List.length (List.getD ls (Subtype.val x).2 []) - Prod.snd (Subtype.val x_1) - Int.toNat (↑(Nat.min (List.length (List.getD ls (Subtype.val x).2 []) - Prod.snd (Subtype.val x_1)) ((16 : Nat) - Int.toNat (↑(InN.c (Prod.fst (Subtype.val x_1)) % (16 : Nat)) : Int))) : Int)) (List.drop (Int.toNat (↑(Nat.min (List.length (List.getD ls (Subtype.val x).2 []) - Prod.snd (Subtype.val x_1)) ((16 : Nat) - Int.toNat (↑(InN.c (Prod.fst (Subtype.val x_1)) % (16 : Nat)) : Int))) : Int)) (List.drop (Prod.snd (Subtype.val x_1)) (List.getD ls (Subtype.val x).2 []))) = List.drop (Prod.snd (Subtype.val y)) (List.getD ls (Subtype.val x).2 []) ∧ ls = ls ∧ Value.int IntKind.i64 (↑(List.length ls) : Int) = Value.int IntKind.i64 (↑(List.length ls) : Int) ∧ Value.int IntKind.i64 (↑(Subtype.val x).2 : Int) = Value.int IntKind.i64 (↑(Subtype.val x).2 : Int) ∧ ts = ts ∧ (5 : Nat) = (5 : Nat) ∧ stp (InN.a0 (Prod.fst (Subtype.val x_1))) (InN.a1 (Prod.fst (Subtype.val x_1))) (InN.a2 (Prod.fst (Subtype.val x_1))) (InN.a3 (Prod.fst (Subtype.val x_1))) (InN.a4 (Prod.fst (Subtype.val x_1))) p q r s u (readL (16 : Nat) (List.take (16 : Nat) (List.drop (0 : Nat) (lay (InN.B (Prod.fst (Subtype.val x_1))) ((0 : Nat) + Int.toNat (↑(InN.c (Prod.fst (Subtype.val x_1)) % (16 : Nat)) : Int)) (List.take (Nat.min (List.length (List.getD ls (Subtype.val x).2 []) - Prod.snd (Subtype.val x_1)) ((16 : Nat) - Int.toNat (↑(InN.c (Prod.fst (Subtype.val x_1)) % (16 : Nat)) : Int))) (List.drop (0 : Nat) (List.drop (Prod.snd (Subtype.val x_1)) (List.getD ls (Subtype.val x).2 [])))))))) = [InN.a0 (Prod.fst (Subtype.val y)), InN.a1 (Prod.fst (Subtype.val y)), InN.a2 (Prod.fst (Subtype.val y)), InN.a3 (Prod.fst (Subtype.val y)), InN.a4 (Prod.fst (Subtype.val y))] ∧ tr = tr ∧ (5 : Nat) = (5 : Nat) ∧ x2 = x2 ∧ (59 : Nat) = (59 : Nat) ∧ (16 : Nat) = (16 : Nat) ∧ lay (InN.B (Prod.fst (Subtype.val x_1))) ((0 : Nat) + Int.toNat (↑(InN.c (Prod.fst (Subtype.val x_1)) % (16 : Nat)) : Int)) (List.take (Nat.min (List.length (List.getD ls (Subtype.val x).2 []) - Prod.snd (Subtype.val x_1)) ((16 : Nat) - Int.toNat (↑(InN.c (Prod.fst (Subtype.val x_1)) % (16 : Nat)) : Int))) (List.drop (0 : Nat) (List.drop (Prod.snd (Subtype.val x_1)) (List.getD ls (Subtype.val x).2 [])))) = InN.B (Prod.fst (Subtype.val y))) ∧ List.length (List.getD ls (Subtype.val x).2 []) - Prod.snd (Subtype.val y) < List.length (List.getD ls (Subtype.val x).2 []) - Prod.snd (Subtype.val x_1) else ∃ (y : { x_2 : InN x1 x2 (List.flatten ls) × Nat // Prod.snd x_2 ≤ List.length (List.getD ls (Subtype.val x).2 []) ∧ (Subtype.val x).2 < List.length ls ∧ InN.c (Prod.fst x_2) = List.length (List.flatten (List.take (Subtype.val x).2 ls)) + Prod.snd x_2 }), (true = true ∧ true = true ∧ (40 : Nat) = (40 : Nat) ∧ (42 : Nat) = (42 : Nat) ∧ getL [(0 : Nat), (1 : Nat), (2 : Nat)] (0 : Nat) = some (0 : Nat) ∧ (0 : Nat) = (0 : Nat) ∧ getL [(0 : Nat), (1 : Nat), (2 : Nat)] (1 : Nat) = some (1 : Nat) ∧ (0 : Nat) = (0 : Nat) ∧ getL [(0 : Nat), (1 : Nat), (2 : Nat)] (2 : Nat) = some (2 : Nat) ∧ (0 : Nat) = (0 : Nat) ∧ Value.int IntKind.i64 (IntKind.wrap IntKind.i64 ((↑(InN.c (Prod.fst (Subtype.val x_1)) % (16 : Nat)) : Int) + (↑(Nat.min (List.length (List.getD ls (Subtype.val x).2 []) - Prod.snd (Subtype.val x_1)) ((16 : Nat) - Int.toNat (↑(InN.c (Prod.fst (Subtype.val x_1)) % (16 : Nat)) : Int))) : Int))) = Value.int IntKind.i64 (↑(InN.c (Prod.fst (Subtype.val y)) % (16 : Nat)) : Int) ∧ (1 : Nat) = (1 : Nat) ∧ List.length (List.getD ls (Subtype.val x).2 []) - Prod.snd (Subtype.val x_1) - Int.toNat (↑(Nat.min (List.length (List.getD ls (Subtype.val x).2 []) - Prod.snd (Subtype.val x_1)) ((16 : Nat) - Int.toNat (↑(InN.c (Prod.fst (Subtype.val x_1)) % (16 : Nat)) : Int))) : Int) = List.length (List.getD ls (Subtype.val x).2 []) - Prod.snd (Subtype.val y) ∧ List.take (List.length (List.getD ls (Subtype.val x).2 []) - Prod.snd (Subtype.val x_1) - Int.toNat (↑(Nat.min (List.length (List.getD ls (Subtype.val x).2 []) - Prod.snd (Subtype.val x_1)) ((16 : Nat) - Int.toNat (↑(InN.c (Prod.fst (Subtype.val x_1)) % (16 : Nat)) : Int))) : Int)) (List.drop (Int.toNat (↑(Nat.min (List.length (List.getD ls (Subtype.val x).2 []) - Prod.snd (Subtype.val x_1)) ((16 : Nat) - Int.toNat (↑(InN.c (Prod.fst (Subtype.val x_1)) % (16 : Nat)) : Int))) : Int)) (List.drop (Prod.snd (Subtype.val x_1)) (List.getD ls (Subtype.val x).2 []))) = List.drop (Prod.snd (Subtype.val y)) (List.getD ls (Subtype.val x).2 []) ∧ ls = ls ∧ Value.int IntKind.i64 (↑(List.length ls) : Int) = Value.int IntKind.i64 (↑(List.length ls) : Int) ∧ Value.int IntKind.i64 (↑(Subtype.val x).2 : Int) = Value.int IntKind.i64 (↑(Subtype.val x).2 : Int) ∧ ts = ts ∧ (5 : Nat) = (5 : Nat) ∧ [InN.a0 (Prod.fst (Subtype.val x_1)), InN.a1 (Prod.fst (Subtype.val x_1)), InN.a2 (Prod.fst (Subtype.val x_1)), InN.a3 (Prod.fst (Subtype.val x_1)), InN.a4 (Prod.fst (Subtype.val x_1))] = [InN.a0 (Prod.fst (Subtype.val y)), InN.a1 (Prod.fst (Subtype.val y)), InN.a2 (Prod.fst (Subtype.val y)), InN.a3 (Prod.fst (Subtype.val y)), InN.a4 (Prod.fst (Subtype.val y))] ∧ tr = tr ∧ (5 : Nat) = (5 : Nat) ∧ x2 = x2 ∧ (59 : Nat) = (59 : Nat) ∧ (16 : Nat) = (16 : Nat) ∧ lay (InN.B (Prod.fst (Subtype.val x_1))) ((0 : Nat) + Int.toNat (↑(InN.c (Prod.fst (Subtype.val x_1)) % (16 : Nat)) : Int)) (List.take (Nat.min (List.length (List.getD ls (Subtype.val x).2 []) - Prod.snd (Subtype.val x_1)) ((16 : Nat) - Int.toNat (↑(InN.c (Prod.fst (Subtype.val x_1)) % (16 : Nat)) : Int))) (List.drop (0 : Nat) (List.drop (Prod.snd (Subtype.val x_1)) (List.getD ls (Subtype.val x).2 [])))) = InN.B (Prod.fst (Subtype.val y))) ∧ List.length (List.getD ls (Subtype.val x).2 []) - Prod.snd (Subtype.val y) < List.length (List.getD ls (Subtype.val x).2 []) - Prod.snd (Subtype.val x_1) else ∃ (y : { x : InN x1 x2 (List.flatten ls) × Nat // Prod.snd x ≤ List.length ls ∧ InN.c (Prod.fst x) = List.length (List.flatten (List.take (Prod.snd x) ls)) }), (true = true ∧ true = true ∧ (40 : Nat) = (40 : Nat) ∧ (42 : Nat) = (42 : Nat) ∧ getL [(0 : Nat), (1 : Nat), (2 : Nat)] (0 : Nat) = some (0 : Nat) ∧ (0 : Nat) = (0 : Nat) ∧ getL [(0 : Nat), (1 : Nat), (2 : Nat)] (1 : Nat) = some (1 : Nat) ∧ (0 : Nat) = (0 : Nat) ∧ getL [(0 : Nat), (1 : Nat), (2 : Nat)] (2 : Nat) = some (2 : Nat) ∧ (0 : Nat) = (0 : Nat) ∧ Value.int IntKind.i64 (↑(InN.c (Prod.fst (Subtype.val x_1)) % (16 : Nat)) : Int) = Value.int IntKind.i64 (↑(InN.c (Prod.fst (Subtype.val y)) % (16 : Nat)) : Int) ∧ ls = ls ∧ Value.int IntKind.i64 (↑(List.length ls) : Int) = Value.int IntKind.i64 (↑(List.length ls) : Int) ∧ Value.int IntKind.i64 (IntKind.wrap IntKind.i64 ((↑(Subtype.val x).2 : Int) + (1 : Int))) = Value.int IntKind.i64 (↑(Prod.snd (Subtype.val y)) : Int) ∧ ts = ts ∧ (5 : Nat) = (5 : Nat) ∧ [InN.a0 (Prod.fst (Subtype.val x_1)), InN.a1 (Prod.fst (Subtype.val x_1)), InN.a2 (Prod.fst (Subtype.val x_1)), InN.a3 (Prod.fst (Subtype.val x_1)), InN.a4 (Prod.fst (Subtype.val x_1))] = [InN.a0 (Prod.fst (Subtype.val y)), InN.a1 (Prod.fst (Subtype.val y)), InN.a2 (Prod.fst (Subtype.val y)), InN.a3 (Prod.fst (Subtype.val y)), InN.a4 (Prod.fst (Subtype.val y))] ∧ tr = tr ∧ (5 : Nat) = (5 : Nat) ∧ x2 = x2 ∧ (59 : Nat) = (59 : Nat) ∧ (16 : Nat) = (16 : Nat) ∧ InN.B (Prod.fst (Subtype.val x_1)) = InN.B (Prod.fst (Subtype.val y))) ∧ List.length ls - Prod.snd (Subtype.val y) < List.length ls - Prod.snd (Subtype.val x) else bif decide ((0 : Int) < (↑(InN.c (Prod.fst (Subtype.val x)) % (16 : Nat)) : Int)) then (0 : Int) ≤ (↑(InN.c (Prod.fst (Subtype.val x)) % (16 : Nat)) : Int) ∧ Int.toNat (↑(InN.c (Prod.fst (Subtype.val x)) % (16 : Nat)) : Int) ≤ (16 : Nat) ∧ (16 : Nat) ≤ (9223372036854775807 : Nat) ∧ true = true ∧ true = true ∧ Int.toNat (↑(InN.c (Prod.fst (Subtype.val x)) % (16 : Nat)) : Int) = Int.toNat (↑(InN.c (Prod.fst (Subtype.val x)) % (16 : Nat)) : Int) ∧ List.take (Int.toNat (↑(InN.c (Prod.fst (Subtype.val x)) % (16 : Nat)) : Int)) (List.drop (0 : Nat) (InN.B (Prod.fst (Subtype.val x)))) = List.take (Int.toNat (↑(InN.c (Prod.fst (Subtype.val x)) % (16 : Nat)) : Int)) (List.drop (0 : Nat) (InN.B (Prod.fst (Subtype.val x)))) ∧ (0 : Nat) + Int.toNat (↑(InN.c (Prod.fst (Subtype.val x)) % (16 : Nat)) : Int) ≤ (16 : Nat) ∧ getL [(0 : Nat), (1 : Nat)] (0 : Nat) = some (0 : Nat) ∧ (0 : Nat) = (0 : Nat) ∧ getL [(0 : Nat), (1 : Nat)] (1 : Nat) = some (1 : Nat) ∧ (0 : Nat) = (0 : Nat) ∧ ts = ts ∧ (5 : Nat) = (5 : Nat) ∧ [InN.a0 (Prod.fst (Subtype.val x)), InN.a1 (Prod.fst (Subtype.val x)), InN.a2 (Prod.fst (Subtype.val x)), InN.a3 (Prod.fst (Subtype.val x)), InN.a4 (Prod.fst (Subtype.val x))] = [InN.a0 (Prod.fst (Subtype.val x)), InN.a1 (Prod.fst (Subtype.val x)), InN.a2 (Prod.fst (Subtype.val x)), InN.a3 (Prod.fst (Subtype.val x)), InN.a4 (Prod.fst (Subtype.val x))] ∧ tr = tr ∧ (5 : Nat) = (5 : Nat) ∧ x2 = x2 ∧ List.length (List.take (Int.toNat (↑(InN.c (Prod.fst (Subtype.val x)) % (16 : Nat)) : Int)) (List.drop (0 : Nat) (InN.B (Prod.fst (Subtype.val x))))) = Int.toNat (↑(InN.c (Prod.fst (Subtype.val x)) % (16 : Nat)) : Int) ∧ Int.toNat (↑(InN.c (Prod.fst (Subtype.val x)) % (16 : Nat)) : Int) ≤ (16 : Nat) ∧ true = true ∧ true = true ∧ (40 : Nat) = (40 : Nat) ∧ ts = ts ∧ (5 : Nat) = (5 : Nat) ∧ stp (InN.a0 (Prod.fst (Subtype.val x))) (InN.a1 (Prod.fst (Subtype.val x))) (InN.a2 (Prod.fst (Subtype.val x))) (InN.a3 (Prod.fst (Subtype.val x))) (InN.a4 (Prod.fst (Subtype.val x))) p q r s u (readL (Int.toNat (↑(InN.c (Prod.fst (Subtype.val x)) % (16 : Nat)) : Int)) (List.take (Int.toNat (↑(InN.c (Prod.fst (Subtype.val x)) % (16 : Nat)) : Int)) (List.drop (0 : Nat) (InN.B (Prod.fst (Subtype.val x)))))) = x3 else true = true ∧ true = true ∧ (40 : Nat) = (40 : Nat) ∧ ts = ts ∧ (5 : Nat) = (5 : Nat) ∧ [InN.a0 (Prod.fst (Subtype.val x)), InN.a1 (Prod.fst (Subtype.val x)), InN.a2 (Prod.fst (Subtype.val x)), InN.a3 (Prod.fst (Subtype.val x)), InN.a4 (Prod.fst (Subtype.val x))] = x3) := by kernel_rfl

set_option maxHeartbeats 8000000 in
theorem wpInBn (ts tr : Nat) (ls : List (List Int)) (a b c d e p q r s u : Int) (h1 : ls.length ≤ 140737488355328) : wpE (FInBn ts tr ls a b c d e p q r s u) (Tryd.f41.body.getD .skip) ⟨Tryd.f41.ntmps, slotsOf 0 (kInBn (ts, tr, ls, a, b, c, d, e, p, q, r, s, u)).avs, (kInBn (ts, tr, ls, a, b, c, d, e, p, q, r, s, u)).mem⟩ (finK Tryd.prog Tryd.f41.results.toList (postN (kInBn (ts, tr, ls, a, b, c, d, e, p, q, r, s, u)))) := by
  with_reducible refine Eq.mpr (vcInBn ts tr ls a b c d e p q r s u) ?_
  have key : ∀ l : List Int, all5 [a, b, c, d, e] [p, q, r, s, u] ls.flatten = l → l.length = 5 → l = ex5 (all5 [a, b, c, d, e] [p, q, r, s, u] ls.flatten) := fun l hl h5 => by
    rw [hl]
    match l, h5 with
    | [_, _, _, _, _], _ => rfl
  have stp5 : ∀ a b c d e p q r s u g, (stp a b c d e p q r s u g).length = 5 := fun _ _ _ _ _ _ _ _ _ _ _ => rfl
  simp only [Int.toNat_natCast, Nat.zero_add, List.drop_zero, Bool.cond_decide]
  refine ⟨⟨⟨⟨⟨0, List.replicate 16 0, a, b, c, d, e, by simp, Nat.zero_le _, rfl, by simp⟩, 0⟩, Nat.zero_le _, by simp⟩, ?_⟩, ?_⟩
  · and_intros <;> first | omega | exact True.intro | rfl
  · rintro ⟨⟨X, i⟩, hi, hc⟩
    dsimp only at hi hc ⊢
    have hlt := Nat.mod_lt X.c (show 0 < 16 by decide)
    split
    · rename_i hil
      have hil' : i < ls.length := by omega
      refine ⟨by omega, by omega, ⟨⟨⟨X, 0⟩, Nat.zero_le _, hil', by rw [hc]; rfl⟩, ?_⟩, ?_⟩
      · and_intros <;> first | omega | exact True.intro | rfl
      · rintro ⟨⟨Y, j⟩, hj, _, hcY⟩
        dsimp only at hj hcY ⊢
        have hltY := Nat.mod_lt Y.c (show 0 < 16 by decide)
        obtain ⟨f1, f2⟩ := flat_drop hil' hj
        rw [← hcY] at f1
        generalize hl : ls.getD i [] = l at *
        split
        · rename_i hjl
          have hjl' : j < l.length := by omega
          obtain ⟨m, hm⟩ : ∃ m, Nat.min (l.length - j) (16 - Y.c % 16) = m := ⟨_, rfl⟩
          simp only [hm]
          have hm1 : m ≤ l.length - j := by rw [← hm]; exact Nat.min_le_left _ _
          have hm2 : m ≤ 16 - Y.c % 16 := by rw [← hm]; exact Nat.min_le_right _ _
          have hm3 : m = l.length - j ∨ m = 16 - Y.c % 16 := by
            rw [← hm]
            rcases Nat.le_total (l.length - j) (16 - Y.c % 16) with h | h
            · exact .inl (Nat.min_eq_left h)
            · exact .inr (Nat.min_eq_right h)
          obtain ⟨g1, g2, g3⟩ := inn_step Y f1 hm.symm
          have hw : IntKind.wrap .i64 (((Y.c % 16 : Nat) : Int) + (m : Int)) = ((Y.c % 16 + m : Nat) : Int) := by rw [IntKind.wrap_i64]; omega
          have hdr : List.take (l.length - j - m) (List.drop m (List.drop j l)) = List.drop (j + m) l := by
            rw [List.drop_drop, List.take_of_length_le (by rw [List.length_drop]; omega)]
          have hcm : (ls.take i).flatten.length + (j + m) ≤ ls.flatten.length := by omega
          rw [hw]
          refine ⟨by omega, by omega, by omega, by omega, by omega, hm1, ?_⟩
          split
          · rename_i h16
            have h16' : Y.c % 16 + m = 16 := by omega
            rw [h16'] at g3
            have hY1 : (Y.c + m) / 16 = Y.c / 16 + 1 := by omega
            have hY2 : (Y.c + m) % 16 = 0 := by omega
            have hE := fold_next Y
            rw [← g3] at hE
            have g4 : (List.take 16 (lay Y.B (Y.c % 16) (List.take m (List.drop j l)))).length = 16 := by rw [List.length_take, g2]; rfl
            and_intros
            all_goals first | omega | exact True.intro | rfl | exact g4 | skip
            refine ⟨⟨⟨⟨Y.c + m, lay Y.B (Y.c % 16) (List.take m (List.drop j l)), (fold5 [a, b, c, d, e] [p, q, r, s, u] ls.flatten ((Y.c + m) / 16)).getD 0 0, (fold5 [a, b, c, d, e] [p, q, r, s, u] ls.flatten ((Y.c + m) / 16)).getD 1 0, (fold5 [a, b, c, d, e] [p, q, r, s, u] ls.flatten ((Y.c + m) / 16)).getD 2 0, (fold5 [a, b, c, d, e] [p, q, r, s, u] ls.flatten ((Y.c + m) / 16)).getD 3 0, (fold5 [a, b, c, d, e] [p, q, r, s, u] ls.flatten ((Y.c + m) / 16)).getD 4 0, g2, by omega, by rw [hY1, hE]; rfl, by rw [hY2]; rfl⟩, j + m⟩, by show j + m ≤ l.length; omega, hil', by show Y.c + m = _ + (j + m); omega⟩, ?_, by show l.length - (j + m) < l.length - j; omega⟩
            dsimp only
            rw [hY1, hE, hY2, hdr]
            and_intros <;> first | omega | exact True.intro | rfl
          · rename_i h16
            have h16' : Y.c % 16 + m < 16 := by omega
            have hY1 : (Y.c + m) / 16 = Y.c / 16 := by omega
            have hY2 : (Y.c + m) % 16 = Y.c % 16 + m := by omega
            refine ⟨⟨⟨⟨Y.c + m, lay Y.B (Y.c % 16) (List.take m (List.drop j l)), Y.a0, Y.a1, Y.a2, Y.a3, Y.a4, g2, by omega, by rw [hY1]; exact Y.ha, by rw [hY1, hY2]; exact g3⟩, j + m⟩, by show j + m ≤ l.length; omega, hil', by show Y.c + m = _ + (j + m); omega⟩, ?_, by show l.length - (j + m) < l.length - j; omega⟩
            dsimp only
            rw [hY2, hdr]
            and_intros <;> first | omega | exact True.intro | rfl
        · rename_i hjl
          have hjl' : j = l.length := by omega
          have hw : IntKind.wrap .i64 ((i : Int) + 1) = ((i + 1 : Nat) : Int) := by rw [IntKind.wrap_i64]; omega
          refine ⟨⟨⟨Y, i + 1⟩, by show i + 1 ≤ ls.length; omega, by show Y.c = _; rw [(flat_at hil').2, List.length_append, hcY, hl, hjl']⟩, ?_, by show ls.length - (i + 1) < ls.length - i; omega⟩
          rw [hw]
          and_intros <;> first | omega | exact True.intro | rfl
    · rename_i hil
      have hil' : i = ls.length := by omega
      have hcl : X.c = ls.flatten.length := by rw [hc, hil', List.take_length]
      split
      · rename_i hf
        and_intros
        all_goals first | omega | exact True.intro | rfl | (rw [List.length_take, X.hB]; omega) | skip
        refine key _ ?_ (stp5 ..)
        unfold all5
        rw [if_neg (by omega), ← hcl, ← X.ha, X.hT, List.take_of_length_le (by rw [List.length_drop]; omega)]
        rfl
      · rename_i hf
        and_intros
        all_goals first | exact True.intro | rfl | skip
        refine key _ ?_ rfl
        unfold all5
        rw [if_pos (by omega), ← hcl, X.ha]
set_option maxHeartbeats 8000000 in
theorem cInBn_ok : SpecOK Tryd.prog cInBn := by
  refine callG_ok (c := Tryd.f41.body.getD .skip) mixed Tryd.func41 (by kernel_rfl) rfl (fun x hob => ?_)
  obtain ⟨ts, tr, ls, a, b, c, d, e, p, q, r, s, u⟩ := x
  have hob : (ls.length ≤ 140737488355328) := hob
  have h1 := hob
  exact ⟨FInBn ts tr ls a b c d e p q r s u, rfl, evOKs ⟨.inl ⟨cTake_ok, by kernel_rfl, gl_nil rfl⟩, trivial⟩, rfl, rfl, by with_reducible exact wpInBn ts tr ls a b c d e p q r s u h1⟩
end Go.Proofs.YthhjcpiaoempfaaDoor
namespace Go.Proofs.YthhjcpiaoempfaaDoor
open Go.RowKit
set_option maxRecDepth 100000

/-- The tag of all parts' bytes. -/
def sumS (k : List Int) (s : List Int) : List Int := tagL ((k.drop 16).take 16) (s.getD 0 0) (s.getD 1 0) (s.getD 2 0) (s.getD 3 0) (s.getD 4 0)
def sumL (k t : List Int) : List Int := sumS k (all5 [0, 0, 0, 0, 0] (digL (facL k) 0) t)
def kSum : (List Int) × (List (List Int)) → ClN := fun (k, ls) => ⟨[.o (.g [.many 32 (.i .u8 k)]), .o (.c (.rss ls))], [], .o (.g [.many 16 (.i .u8 (sumL k ls.flatten))]), [], [], [k.length = 32, ls.length ≤ 140737488355328]⟩
noncomputable def FSum : FnE := ⟨mkEv Tryd.prog [] [cFactor, cInBn, cTag] 0, [0, 1, 2, 4, 5, 6], fun _ _ => .rounds 0⟩
def mSum : List AV → (Nat → Option MB) → Option (List Nat × ((List Int) × (List (List Int))))
  | [.o (.g [.many 32 (.i .u8 k)]), .o (.c x)], lk => match slS lk x with
    | some ls => some ([], k, ls)
    | none => none
  | _, _ => none
noncomputable def cSum : Spec := callG 22 Tryd.f22.ntmps mSum kSum
theorem vcSum (k : List Int) (ls : List (List Int)) : (wpE FSum (Tryd.f22.body.getD .skip) ⟨Tryd.f22.ntmps, slotsOf 0 (kSum (k, ls)).avs, (kSum (k, ls)).mem⟩ (finK Tryd.prog Tryd.f22.results.toList (postN (kSum (k, ls))))) = (let x1 := [bits BinOp.and IntKind.u64 (w8 (facL k)) (67108863 : Int), bits BinOp.and IntKind.u64 (sShr IntKind.u64 (w8 (facL k)) (26 : Int)) (67108863 : Int), bits BinOp.and IntKind.u64 (bits BinOp.or IntKind.u64 (sShr IntKind.u64 (w8 (facL k)) (52 : Int)) (sShl IntKind.u64 (w8 (List.drop (8 : Nat) (facL k))) (12 : Int))) (67108863 : Int), bits BinOp.and IntKind.u64 (sShr IntKind.u64 (w8 (List.drop (8 : Nat) (facL k))) (14 : Int)) (67108863 : Int), bits BinOp.or IntKind.u64 (sShr IntKind.u64 (w8 (List.drop (8 : Nat) (facL k))) (40 : Int)) (0 : Int)]; let x2 := all5 [(0 : Int), (0 : Int), (0 : Int), (0 : Int), (0 : Int)] x1 (List.flatten ls); let x3 := List.getD x2 (0 : Nat) (0 : Int); let x4 := List.getD x2 (1 : Nat) (0 : Int); let x5 := List.getD x2 (2 : Nat) (0 : Int); let x6 := List.getD x2 (3 : Nat) (0 : Int); let x7 := List.getD x2 (4 : Nat) (0 : Int); let x8 := List.take (16 : Nat) (List.drop (16 : Nat) k); true = true ∧ (32 : Nat) = (32 : Nat) ∧ k = k ∧ List.length k = (32 : Nat) ∧ true = true ∧ true = true ∧ ls = ls ∧ (42 : Nat) = (42 : Nat) ∧ getL [(3 : Nat), Nat.add (Nat.add (2 : Nat) (0 : Nat)) (0 : Nat)] (0 : Nat) = some (3 : Nat) ∧ (0 : Nat) = (0 : Nat) ∧ getL [(3 : Nat), Nat.add (Nat.add (2 : Nat) (0 : Nat)) (0 : Nat)] (1 : Nat) = some (Nat.add (Nat.add (2 : Nat) (0 : Nat)) (0 : Nat)) ∧ (0 : Nat) = (0 : Nat) ∧ (88 : Nat) = (88 : Nat) ∧ (5 : Nat) = (5 : Nat) ∧ List.replicate (5 : Nat) (0 : Int) = [(0 : Int), (0 : Int), (0 : Int), (0 : Int), (0 : Int)] ∧ (88 : Nat) = (88 : Nat) ∧ (5 : Nat) = (5 : Nat) ∧ digL (facL k) (0 : Int) = x1 ∧ List.length ls ≤ (140737488355328 : Nat) ∧ (0 : Int) ≤ (16 : Int) ∧ (16 : Nat) ≤ (32 : Nat) ∧ (32 : Nat) ≤ (9223372036854775807 : Nat) ∧ true = true ∧ (5 : Nat) = (5 : Nat) ∧ ex5 x2 = [x3, x4, x5, x6, x7] ∧ true = true ∧ (16 : Nat) = (16 : Nat) ∧ x8 = x8 ∧ (32 : Nat) ≤ (32 : Nat) ∧ (16 : Nat) ≤ (16 : Nat) ∧ List.length x8 = (16 : Nat) ∧ true = true ∧ true = true ∧ (15 : Nat) = (15 : Nat) ∧ (16 : Nat) = (16 : Nat) ∧ tagL x8 x3 x4 x5 x6 x7 = sumL k (List.flatten ls)) := by kernel_rfl

set_option maxHeartbeats 8000000 in
theorem wpSum (k : List Int) (ls : List (List Int)) (h1 : k.length = 32) (h2 : ls.length ≤ 140737488355328) : wpE FSum (Tryd.f22.body.getD .skip) ⟨Tryd.f22.ntmps, slotsOf 0 (kSum (k, ls)).avs, (kSum (k, ls)).mem⟩ (finK Tryd.prog Tryd.f22.results.toList (postN (kSum (k, ls)))) := by
  with_reducible refine Eq.mpr (vcSum k ls) ?_
  intro x1 x2 x3 x4 x5 x6 x7 x8
  have l8 : x8.length = 16 := by show (List.take 16 (List.drop 16 k)).length = 16; rw [List.length_take, List.length_drop, h1]; rfl
  have e1 : digL (facL k) 0 = x1 := by kernel_rfl
  have e9 : tagL x8 x3 x4 x5 x6 x7 = sumL k ls.flatten := by unfold sumL; rw [e1]; rfl
  clear_value x1
  and_intros <;> first | omega | exact True.intro | exact e1 | exact e9 | exact l8 | rfl
set_option maxHeartbeats 8000000 in
theorem cSum_ok : SpecOK Tryd.prog cSum := by
  refine callG_ok (c := Tryd.f22.body.getD .skip) mixed Tryd.func22 (by kernel_rfl) rfl (fun x hob => ?_)
  obtain ⟨k, ls⟩ := x
  have hob : (k.length = 32) ∧ (ls.length ≤ 140737488355328) := hob
  obtain ⟨h1, h2⟩ := hob
  exact ⟨FSum, rfl, evOKs ⟨.inl ⟨cFactor_ok, by kernel_rfl, gl_nil rfl⟩, ⟨.inl ⟨cInBn_ok, by kernel_rfl, gl_nil rfl⟩, ⟨.inl ⟨cTag_ok, by kernel_rfl, gl_nil rfl⟩, trivial⟩⟩⟩, rfl, rfl, by with_reducible exact wpSum k ls h1 h2⟩

end Go.Proofs.YthhjcpiaoempfaaDoor
