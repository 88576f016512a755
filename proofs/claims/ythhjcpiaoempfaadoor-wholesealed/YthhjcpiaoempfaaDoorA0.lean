/-
  aead: slices put together.
-/
import Derived.Test.YthhjcpiaoempfaaDoorC3n
import Derived.Test.YthhjcpiaoempfaaDoorSyq
namespace Go.Proofs.YthhjcpiaoempfaaDoor
open Go.RowKit
set_option maxRecDepth 100000

def fcGrow (d : Nat) : Option Bool := bif Nat.beq d 6 then some false else bif Nat.beq d 16 || Nat.beq d 25 then some true else none
def kGrow : Int → ClN := fun n => ⟨[.o (.c (.v (.slice none 0 0))), vv (.int .i64 n)], [], .o (.c (.os 0 1 0)), [.grow 22 1 (.v [])], [1], [0 < n, n ≤ 5000000000000]⟩
noncomputable def FGrow : FnE := ⟨mkEv Tryd.prog [] [] 0 fcGrow, [0, 1, 4, 6, 16], fun _ _ => .rounds 0⟩
def mGrow : List AV → (Nat → Option MB) → Option (List Nat × Int)
  | [.o (.c (.v (.slice none 0 0))), .o (.c (.v (.int .i64 n)))], _ => some ([], n)
  | _, _ => none
noncomputable def cGrow : Spec := callG 72 Tryd.f72.ntmps mGrow kGrow
theorem vcGrow (n : Int) : (wpE FGrow (Tryd.f72.body.getD .skip) ⟨Tryd.f72.ntmps, slotsOf 0 (kGrow n).avs, (kGrow n).mem⟩ (finK Tryd.prog Tryd.f72.results.toList (postN (kGrow n)))) = (let x1 := IntKind.wrap IntKind.i64 (n - (0 : Int)); let x2 := List.replicate (Int.toNat x1) (Value.slice none (0 : Nat) (0 : Nat)); decide (n < (0 : Int)) = false ∧ decide ((0 : Int) < x1) = true ∧ Value.int IntKind.i64 (0 : Int) = Value.int IntKind.i64 (0 : Int) ∧ (0 : Int) < x1 ∧ x1 * (24 : Int) ≤ (281474976710656 : Int) ∧ x1 ≤ (9223372036854775807 : Int) ∧ Value.cells (Value.slice none (0 : Nat) (0 : Nat)) = #[Value.slice none (0 : Nat) (0 : Nat)] ∧ true = true ∧ (0 : Int) ≤ (0 : Int) ∧ (0 : Int) ≤ (↑(Int.toNat x1) : Int) ∧ List.length x2 = Int.toNat x1 ∧ true = true ∧ true = true ∧ (27 : Nat) = (27 : Nat) ∧ (22 : Nat) = (22 : Nat) ∧ (1 : Nat) = (1 : Nat) ∧ List.take (0 : Nat) (List.drop (0 : Nat) x2) = [] ∧ getL (ClN.ren (kGrow n)) (0 : Nat) = some (Nat.add (Nat.add (Nat.add (Nat.add (Nat.add (Nat.add (Nat.add (Nat.add (0 : Nat) (0 : Nat)) (0 : Nat)) (0 : Nat)) (0 : Nat)) (0 : Nat)) (1 : Nat)) (0 : Nat)) (0 : Nat)) ∧ (1 : Nat) = (1 : Nat) ∧ (0 : Nat) = (0 : Nat)) := by kernel_rfl

set_option maxHeartbeats 8000000 in
theorem wpGrow (n : Int) (h1 : 0 < n) (h2 : n ≤ 5000000000000) : wpE FGrow (Tryd.f72.body.getD .skip) ⟨Tryd.f72.ntmps, slotsOf 0 (kGrow n).avs, (kGrow n).mem⟩ (finK Tryd.prog Tryd.f72.results.toList (postN (kGrow n))) := by
  with_reducible refine Eq.mpr (vcGrow n) ?_
  have e : IntKind.wrap .i64 (n - 0) = n := by rw [IntKind.wrap_i64]; omega
  intro x1 x2
  have hx1 : x1 = n := e
  have hl : x2.length = x1.toNat := List.length_replicate
  clear_value x2 x1
  subst hx1
  and_intros <;> first | omega | exact decide_eq_false (by omega) | exact decide_eq_true (by omega) | exact hl | exact True.intro | rfl | kernel_rfl
set_option maxHeartbeats 8000000 in
theorem cGrow_ok : SpecOK Tryd.prog cGrow := by
  refine callG_ok (c := Tryd.f72.body.getD .skip) mixed Tryd.func72 (by kernel_rfl) rfl (fun n hob => ?_)
  have hob : (0 < n) ∧ (n ≤ 5000000000000) := hob
  obtain ⟨h1, h2⟩ := hob
  exact ⟨FGrow, rfl, evOKs trivial, rfl, rfl, by with_reducible exact wpGrow n h1 h2⟩

def fcCat (d : Nat) : Option Bool := bif Nat.beq d 20 then some false else none
def kCatW : Nat × Nat × Nat × (List Value) × (List Value) → ClN := fun (ty, n, m, x, y) => ⟨[.o (.c (.os 0 1 2))], [.gs ty [.one (.rs 1 n (.v x)), .one (.rs 1 m (.v y))]], .o (.c (.os 1 1 (n + m))), [.dead, .grow 22 1 (.v (x ++ y))], [0, 3], [x.length = n, y.length = m, 0 < n + m, n + m ≤ 5000000000000]⟩
noncomputable def FCatW : FnE := ⟨mkEv Tryd.prog [] [cGrow] 1 fcCat, [0, 2, 3, 5, 6, 8, 9, 10, 11, 12, 20, 25, 26, 27, 28], fun _ _ => .rounds 3⟩
def mCatW : List AV → (Nat → Option MB) → Option (List Nat × (Nat × Nat × Nat × (List Value) × (List Value)))
  | [.o (.c (.os i 1 2))], lk => match lk i with
    | some (.gs ty [.one (.rs 1 n (.v x)), .one (.rs 1 m (.v y))]) => some ([i], ty, n, m, x, y)
    | _ => none
  | _, _ => none
noncomputable def cCatW : Spec := callG 55 Tryd.f55.ntmps mCatW kCatW
theorem vcCatW (ty n m : Nat) (x y : List Value) : (wpE FCatW (Tryd.f55.body.getD .skip) ⟨Tryd.f55.ntmps, slotsOf 0 (kCatW (ty, n, m, x, y)).avs, (kCatW (ty, n, m, x, y)).mem⟩ (finK Tryd.prog Tryd.f55.results.toList (postN (kCatW (ty, n, m, x, y))))) = (let x1 := IntKind.wrap IntKind.i64 ((0 : Int) + (↑n : Int)); let x2 := IntKind.wrap IntKind.i64 (x1 + (↑m : Int)); let x3 := [] ++ x; (0 : Int) ≤ (0 : Int) ∧ (0 : Int) < (2 : Int) ∧ decide (x1 < (0 : Int)) = false ∧ (0 : Int) ≤ (1 : Int) ∧ (1 : Int) < (2 : Int) ∧ decide (x2 < (0 : Int)) = false ∧ true = true ∧ Value.slice none (0 : Nat) (0 : Nat) = Value.slice none (0 : Nat) (0 : Nat) ∧ Value.int IntKind.i64 x2 = Value.int IntKind.i64 x2 ∧ (0 : Int) < x2 ∧ x2 ≤ (5000000000000 : Int) ∧ (0 : Int) ≤ (0 : Int) ∧ (0 : Int) < (2 : Int) ∧ (0 : Nat) = (0 : Nat) ∧ ((0 : Nat) + n) * (24 : Nat) ≤ (140737488355328 : Nat) ∧ (0 : Nat) + n ≤ (9223372036854775807 : Nat) ∧ (0 : Int) ≤ (1 : Int) ∧ (1 : Int) < (2 : Int) ∧ List.length x3 = (0 : Nat) + n ∧ ((0 : Nat) + n + m) * (24 : Nat) ≤ (140737488355328 : Nat) ∧ (0 : Nat) + n + m ≤ (9223372036854775807 : Nat) ∧ true = true ∧ true = true ∧ (36 : Nat) = (36 : Nat) ∧ (22 : Nat) = (22 : Nat) ∧ (1 : Nat) = (1 : Nat) ∧ x3 ++ y = x ++ y ∧ getL (ClN.ren (kCatW (ty, n, m, x, y))) (1 : Nat) = some (Nat.add (Nat.add (3 : Nat) (0 : Nat)) (0 : Nat)) ∧ (1 : Nat) = (1 : Nat) ∧ (0 : Nat) + n + m = n + m) := by kernel_rfl

set_option maxHeartbeats 8000000 in
theorem wpCatW (ty n m : Nat) (x y : List Value) (h1 : x.length = n) (h2 : y.length = m) (h3 : 0 < n + m) (h4 : n + m ≤ 5000000000000) : wpE FCatW (Tryd.f55.body.getD .skip) ⟨Tryd.f55.ntmps, slotsOf 0 (kCatW (ty, n, m, x, y)).avs, (kCatW (ty, n, m, x, y)).mem⟩ (finK Tryd.prog Tryd.f55.results.toList (postN (kCatW (ty, n, m, x, y)))) := by
  with_reducible refine Eq.mpr (vcCatW ty n m x y) ?_
  have e1 : IntKind.wrap .i64 ((0 : Int) + (n : Int)) = (n : Int) := by rw [IntKind.wrap_i64]; omega
  have e2 : IntKind.wrap .i64 ((n : Int) + (m : Int)) = ((n + m : Nat) : Int) := by rw [IntKind.wrap_i64]; omega
  intro x1 x2 x3
  have hx1 : x1 = (n : Int) := e1
  have hx2 : x2 = ((n + m : Nat) : Int) := by
    show IntKind.wrap .i64 (x1 + _) = _
    rw [hx1]; exact e2
  have hl : x3.length = 0 + n := by show x.length = _; omega
  have hx : x3 ++ y = x ++ y := rfl
  clear_value x3 x2 x1
  subst hx1 hx2
  and_intros <;> first | omega | exact decide_eq_false (by omega) | exact hl | exact hx | exact True.intro | rfl | kernel_rfl
set_option maxHeartbeats 8000000 in
theorem cCatW_ok : SpecOK Tryd.prog cCatW := by
  refine callG_ok (c := Tryd.f55.body.getD .skip) mixed Tryd.func55 (by kernel_rfl) rfl (fun x hob => ?_)
  obtain ⟨ty, n, m, x, y⟩ := x
  have hob : (x.length = n) ∧ (y.length = m) ∧ (0 < n + m) ∧ (n + m ≤ 5000000000000) := hob
  obtain ⟨h1, h2, h3, h4⟩ := hob
  exact ⟨FCatW, rfl, evOKs ⟨.inl ⟨cGrow_ok, by kernel_rfl, gl_nil rfl⟩, trivial⟩, rfl, rfl, by with_reducible exact wpCatW ty n m x y h1 h2 h3 h4⟩

theorem cCatV_ok : SpecOK Tryd.prog (callG 55 Tryd.f55.ntmps mCatV (kCatV 22)) := cCatW_ok
noncomputable def cCat : Spec := catS 55 22
theorem cCat_ok : SpecOK Tryd.prog cCat := catS_ok cCatV_ok (by kernel_rfl)
end Go.Proofs.YthhjcpiaoempfaaDoor
