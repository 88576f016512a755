/-
  aead: slices put together.
-/
/-
  aead: what its functions do.
-/
/-
  aead: sealed and opened.
-/
/-
  Contracts of some calls alone.
-/
/-
  aead: Open of what is a part, or not.
-/
import Derived.Test.YthlleheeghiljaaC3n
import Derived.Test.YthlleheeghiljaaSyq
import Derived.Test.YthlleheeghiljaaP4m
import Derived.Test.YthlleheeghiljaaSyk
namespace Go.Proofs.Ythlleheeghiljaa
open Go.RowKit
set_option maxRecDepth 100000

def fcGrow (d : Nat) : Option Bool := bif Nat.beq d 6 then some false else bif Nat.beq d 16 || Nat.beq d 25 then some true else none
def kGrow : Int → ClN := fun n => ⟨[.o (.c (.v (.slice none 0 0))), vv (.int .i64 n)], [], .o (.c (.os 0 1 0)), [.grow 34 1 (.v [])], [1], [0 < n, n ≤ 5000000000000]⟩
noncomputable def FGrow : FnE := ⟨mkEv Try.prog [] [] 0 fcGrow, [0, 1, 4, 6, 16], fun _ _ => .rounds 0⟩
def mGrow : List AV → (Nat → Option MB) → Option (List Nat × Int)
  | [.o (.c (.v (.slice none 0 0))), .o (.c (.v (.int .i64 n)))], _ => some ([], n)
  | _, _ => none
noncomputable def cGrow : Spec := callG 56 Try.f56.ntmps mGrow kGrow
theorem vcGrow (n : Int) : (wpE FGrow (Try.f56.body.getD .skip) ⟨Try.f56.ntmps, slotsOf 0 (kGrow n).avs, (kGrow n).mem⟩ (finK Try.prog Try.f56.results.toList (postN (kGrow n)))) = (let x1 := IntKind.wrap IntKind.i64 (n - (0 : Int)); let x2 := List.replicate (Int.toNat x1) (Value.slice none (0 : Nat) (0 : Nat)); decide (n < (0 : Int)) = false ∧ decide ((0 : Int) < x1) = true ∧ Value.int IntKind.i64 (0 : Int) = Value.int IntKind.i64 (0 : Int) ∧ (0 : Int) < x1 ∧ x1 * (24 : Int) ≤ (281474976710656 : Int) ∧ x1 ≤ (9223372036854775807 : Int) ∧ Value.cells (Value.slice none (0 : Nat) (0 : Nat)) = #[Value.slice none (0 : Nat) (0 : Nat)] ∧ true = true ∧ (0 : Int) ≤ (0 : Int) ∧ (0 : Int) ≤ (↑(Int.toNat x1) : Int) ∧ List.length x2 = Int.toNat x1 ∧ true = true ∧ true = true ∧ (27 : Nat) = (27 : Nat) ∧ (34 : Nat) = (34 : Nat) ∧ (1 : Nat) = (1 : Nat) ∧ List.take (0 : Nat) (List.drop (0 : Nat) x2) = [] ∧ getL [(1 : Nat)] (0 : Nat) = some (Nat.add (Nat.add (Nat.add (Nat.add (Nat.add (Nat.add (Nat.add (Nat.add (0 : Nat) (0 : Nat)) (0 : Nat)) (0 : Nat)) (0 : Nat)) (0 : Nat)) (1 : Nat)) (0 : Nat)) (0 : Nat)) ∧ (1 : Nat) = (1 : Nat) ∧ (0 : Nat) = (0 : Nat)) := by kernel_rfl

set_option maxHeartbeats 8000000 in
theorem wpGrow (n : Int) (h1 : 0 < n) (h2 : n ≤ 5000000000000) : wpE FGrow (Try.f56.body.getD .skip) ⟨Try.f56.ntmps, slotsOf 0 (kGrow n).avs, (kGrow n).mem⟩ (finK Try.prog Try.f56.results.toList (postN (kGrow n))) := by
  with_reducible refine Eq.mpr (vcGrow n) ?_
  have e : IntKind.wrap .i64 (n - 0) = n := by rw [IntKind.wrap_i64]; omega
  intro x1 x2
  have hx1 : x1 = n := e
  have hl : x2.length = x1.toNat := List.length_replicate
  clear_value x2 x1
  subst hx1
  and_intros <;> first | omega | exact decide_eq_false (by omega) | exact decide_eq_true (by omega) | exact hl | exact True.intro | rfl | kernel_rfl
set_option maxHeartbeats 8000000 in
theorem cGrow_ok : SpecOK Try.prog cGrow := by
  refine callG_ok (c := Try.f56.body.getD .skip) mixed Try.func56 (by kernel_rfl) rfl (fun n hob => ?_)
  have hob : (0 < n) ∧ (n ≤ 5000000000000) := hob
  obtain ⟨h1, h2⟩ := hob
  exact ⟨FGrow, rfl, evOKs trivial, rfl, rfl, by with_reducible exact wpGrow n h1 h2⟩

def fcCat (d : Nat) : Option Bool := bif Nat.beq d 20 then some false else none
def kCatW : Nat × Nat × Nat × (List Value) × (List Value) → ClN := fun (ty, n, m, x, y) => ⟨[.o (.c (.os 0 1 2))], [.gs ty [.one (.rs 1 n (.v x)), .one (.rs 1 m (.v y))]], .o (.c (.os 1 1 (n + m))), [.dead, .grow 34 1 (.v (x ++ y))], [0, 3], [x.length = n, y.length = m, 0 < n + m, n + m ≤ 5000000000000]⟩
noncomputable def FCatW : FnE := ⟨mkEv Try.prog [] [cGrow] 1 fcCat, [0, 2, 3, 5, 6, 8, 9, 10, 11, 12, 20, 25, 26, 27, 28], fun _ _ => .rounds 3⟩
def mCatW : List AV → (Nat → Option MB) → Option (List Nat × (Nat × Nat × Nat × (List Value) × (List Value)))
  | [.o (.c (.os i 1 2))], lk => match lk i with
    | some (.gs ty [.one (.rs 1 n (.v x)), .one (.rs 1 m (.v y))]) => some ([i], ty, n, m, x, y)
    | _ => none
  | _, _ => none
noncomputable def cCatW : Spec := callG 52 Try.f52.ntmps mCatW kCatW
theorem vcCatW (ty n m : Nat) (x y : List Value) : (wpE FCatW (Try.f52.body.getD .skip) ⟨Try.f52.ntmps, slotsOf 0 (kCatW (ty, n, m, x, y)).avs, (kCatW (ty, n, m, x, y)).mem⟩ (finK Try.prog Try.f52.results.toList (postN (kCatW (ty, n, m, x, y))))) = (let x1 := IntKind.wrap IntKind.i64 ((0 : Int) + (↑n : Int)); let x2 := IntKind.wrap IntKind.i64 (x1 + (↑m : Int)); let x3 := [] ++ x; (0 : Int) ≤ (0 : Int) ∧ (0 : Int) < (2 : Int) ∧ decide (x1 < (0 : Int)) = false ∧ (0 : Int) ≤ (1 : Int) ∧ (1 : Int) < (2 : Int) ∧ decide (x2 < (0 : Int)) = false ∧ true = true ∧ Value.slice none (0 : Nat) (0 : Nat) = Value.slice none (0 : Nat) (0 : Nat) ∧ Value.int IntKind.i64 x2 = Value.int IntKind.i64 x2 ∧ (0 : Int) < x2 ∧ x2 ≤ (5000000000000 : Int) ∧ (0 : Int) ≤ (0 : Int) ∧ (0 : Int) < (2 : Int) ∧ (0 : Nat) = (0 : Nat) ∧ ((0 : Nat) + n) * (24 : Nat) ≤ (140737488355328 : Nat) ∧ (0 : Nat) + n ≤ (9223372036854775807 : Nat) ∧ (0 : Int) ≤ (1 : Int) ∧ (1 : Int) < (2 : Int) ∧ List.length x3 = (0 : Nat) + n ∧ ((0 : Nat) + n + m) * (24 : Nat) ≤ (140737488355328 : Nat) ∧ (0 : Nat) + n + m ≤ (9223372036854775807 : Nat) ∧ true = true ∧ true = true ∧ (36 : Nat) = (36 : Nat) ∧ (34 : Nat) = (34 : Nat) ∧ (1 : Nat) = (1 : Nat) ∧ x3 ++ y = x ++ y ∧ getL [(0 : Nat), (3 : Nat)] (1 : Nat) = some (Nat.add (Nat.add (3 : Nat) (0 : Nat)) (0 : Nat)) ∧ (1 : Nat) = (1 : Nat) ∧ (0 : Nat) + n + m = n + m) := by kernel_rfl

set_option maxHeartbeats 8000000 in
theorem wpCatW (ty n m : Nat) (x y : List Value) (h1 : x.length = n) (h2 : y.length = m) (h3 : 0 < n + m) (h4 : n + m ≤ 5000000000000) : wpE FCatW (Try.f52.body.getD .skip) ⟨Try.f52.ntmps, slotsOf 0 (kCatW (ty, n, m, x, y)).avs, (kCatW (ty, n, m, x, y)).mem⟩ (finK Try.prog Try.f52.results.toList (postN (kCatW (ty, n, m, x, y)))) := by
  with_reducible refine Eq.mpr (vcCatW ty n m x y) ?_
  have e1 : IntKind.wrap .i64 ((0 : Int) + (n : Int)) = (n : Int) := by rw [IntKind.wrap_i64]; omega
  have e2 : IntKind.wrap .i64 ((n : Int) + (m : Int)) = ((n + m : Nat) : Int) := by rw [IntKind.wrap_i64]; omega
  intro x1 x2 x3
  have hx1 : x1 = (n : Int) := e1
  have hx2 : x2 = ((n + m : Nat) : Int) := by
    show IntKind.wrap .i64 (x1 + _) = _
    rw [hx1]; exact e2
  have hl : x3.length = 0 + n := by show x.length = _; omega
  have hx : x3 ++ y = x ++ y := rfl
  clear_value x3 x2 x1
  subst hx1 hx2
  and_intros <;> first | omega | exact decide_eq_false (by omega) | exact hl | exact hx | exact True.intro | rfl | kernel_rfl
set_option maxHeartbeats 8000000 in
theorem cCatW_ok : SpecOK Try.prog cCatW := by
  refine callG_ok (c := Try.f52.body.getD .skip) mixed Try.func52 (by kernel_rfl) rfl (fun x hob => ?_)
  obtain ⟨ty, n, m, x, y⟩ := x
  have hob : (x.length = n) ∧ (y.length = m) ∧ (0 < n + m) ∧ (n + m ≤ 5000000000000) := hob
  obtain ⟨h1, h2, h3, h4⟩ := hob
  exact ⟨FCatW, rfl, evOKs ⟨.inl ⟨cGrow_ok, by kernel_rfl, gl_nil rfl⟩, trivial⟩, rfl, rfl, by with_reducible exact wpCatW ty n m x y h1 h2 h3 h4⟩

theorem cCatV_ok : SpecOK Try.prog (callG 52 Try.f52.ntmps mCatV (kCatV 34)) := cCatW_ok
noncomputable def cCat : Spec := catS 52 34
theorem cCat_ok : SpecOK Try.prog cCat := catS_ok cCatV_ok (by kernel_rfl)
end Go.Proofs.Ythlleheeghiljaa
namespace Go.Proofs.Ythlleheeghiljaa
open Go.RowKit
set_option maxRecDepth 100000

theorem byE_in (x : Int) (i : Nat) : 0 ≤ byE x i ∧ byE x i < 256 := wrapU8_in _
theorem bys16_bys (x y : Int) : Bys (bys16 x y) := by
  intro z hz
  simp only [bys16, List.mem_cons, List.not_mem_nil, or_false] at hz
  rcases hz with rfl | rfl | rfl | rfl | rfl | rfl | rfl | rfl | rfl | rfl | rfl | rfl | rfl | rfl | rfl | rfl <;> exact byE_in _ _
theorem least_five (a b c d e : Int) : ∃ p q r s u, leastL a b c d e = [p, q, r, s, u] := by
  have h1 : ∀ a b c d e, ∃ p q r s u, upL a b c d e = [p, q, r, s, u] := fun a b c d e => by unfold upL; exact ⟨_, _, _, _, _, rfl⟩
  have h2 : ∀ a b c d e, ∃ p q r s u, least1 a b c d e = [p, q, r, s, u] := fun a b c d e => by unfold least1; exact ⟨_, _, _, _, _, rfl⟩
  obtain ⟨p, q, r, s, u, h⟩ := h1 a b c d e
  obtain ⟨p', q', r', s', u', h'⟩ := h1 p q r s u
  unfold leastL
  rw [h]
  show ∃ p q r s u, lst5 least1 (upL _ _ _ _ _) = _
  rw [h']
  exact h2 _ _ _ _ _
theorem tagL_bys (k : List Int) (a b c d e : Int) : Bys (tagL k a b c d e) ∧ (tagL k a b c d e).length = 16 := by
  obtain ⟨p, q, r, s, u, h⟩ := least_five a b c d e
  unfold tagL
  rw [h]
  exact ⟨bys16_bys _ _, rfl⟩
theorem sumL_bys (k t : List Int) : Bys (sumL k t) ∧ (sumL k t).length = 16 := tagL_bys _ _ _ _ _ _

/-- As many noughts as so many bytes need. -/
def padL (n : Nat) : List Int := List.replicate ((16 - n % 16) % 16) 0
def kNoughts : Nat → ClN := fun n => ⟨[vv (.int .i64 (n : Int))], [], .o (.c (.os 0 1 ((16 - n % 16) % 16))), [.grow 5 1 (.i .u8 (padL n))], [0], [n ≤ 140737488355328]⟩
noncomputable def FNoughts : FnE := ⟨mkEv Try.prog [] [] 0, [0, 2], fun _ _ => .rounds 0⟩
def mNoughts : List AV → (Nat → Option MB) → Option (List Nat × Nat)
  | [.o (.c (.v (.int .i64 n)))], _ => some ([], n.toNat)
  | _, _ => none
noncomputable def cNoughts : Spec := callG 50 Try.f50.ntmps mNoughts kNoughts
theorem vcNoughts (n : Nat) : (wpE FNoughts (Try.f50.body.getD .skip) ⟨Try.f50.ntmps, slotsOf 0 (kNoughts n).avs, (kNoughts n).mem⟩ (finK Try.prog Try.f50.results.toList (postN (kNoughts n)))) = (let x1 := Int.tmod (IntKind.wrap IntKind.i64 ((16 : Int) - Int.tmod (↑n : Int) (16 : Int))) (16 : Int); (16 : Int) ≠ (0 : Int) ∧ (16 : Int) ≠ (0 : Int) ∧ (0 : Int) ≤ x1 ∧ x1 ≤ x1 ∧ (1 : Int) * x1 ≤ (281474976710656 : Int) ∧ x1 ≤ (9223372036854775807 : Int) ∧ true = true ∧ true = true ∧ (8 : Nat) = (8 : Nat) ∧ (5 : Nat) = (5 : Nat) ∧ (1 : Nat) = (1 : Nat) ∧ List.replicate (Int.toNat x1) (0 : Int) = padL n ∧ getL [(0 : Nat)] (0 : Nat) = some (Nat.add (Nat.add (Nat.add (Nat.add (0 : Nat) (0 : Nat)) (0 : Nat)) (0 : Nat)) (0 : Nat)) ∧ (1 : Nat) = (1 : Nat) ∧ Int.toNat x1 = ((16 : Nat) - n % (16 : Nat)) % (16 : Nat)) := by kernel_rfl

set_option maxHeartbeats 8000000 in
theorem wpNoughts (n : Nat) (h1 : n ≤ 140737488355328) : wpE FNoughts (Try.f50.body.getD .skip) ⟨Try.f50.ntmps, slotsOf 0 (kNoughts n).avs, (kNoughts n).mem⟩ (finK Try.prog Try.f50.results.toList (postN (kNoughts n))) := by
  with_reducible refine Eq.mpr (vcNoughts n) ?_
  have e0 : (n : Int).tmod 16 = ((n % 16 : Nat) : Int) := by rw [Int.tmod_eq_emod_of_nonneg (by omega)]; omega
  have e1 : IntKind.wrap .i64 (16 - ((n % 16 : Nat) : Int)) = ((16 - n % 16 : Nat) : Int) := by rw [IntKind.wrap_i64]; omega
  have e2 : Int.tmod ((16 - n % 16 : Nat) : Int) 16 = (((16 - n % 16) % 16 : Nat) : Int) := by rw [Int.tmod_eq_emod_of_nonneg (by omega)]; omega
  rw [e0, e1]
  intro x1
  have hx : x1 = (((16 - n % 16) % 16 : Nat) : Int) := e2
  clear_value x1
  subst hx
  simp only [Int.toNat_natCast]
  and_intros <;> first | omega | exact True.intro | rfl | kernel_rfl
set_option maxHeartbeats 8000000 in
theorem cNoughts_ok : SpecOK Try.prog cNoughts := by
  refine callG_ok (c := Try.f50.body.getD .skip) mixed Try.func50 (by kernel_rfl) rfl (fun n hob => ?_)
  have hob : (n ≤ 140737488355328) := hob
  have h1 := hob
  exact ⟨FNoughts, rfl, evOKs trivial, rfl, rfl, by with_reducible exact wpNoughts n h1⟩

/-- A number's eight bytes. -/
def lenL (n : Nat) : List Int := [IntKind.wrap .u8 (sShr .i64 (n : Int) 0), IntKind.wrap .u8 (sShr .i64 (n : Int) 8), IntKind.wrap .u8 (sShr .i64 (n : Int) 16), IntKind.wrap .u8 (sShr .i64 (n : Int) 24), IntKind.wrap .u8 (sShr .i64 (n : Int) 32), IntKind.wrap .u8 (sShr .i64 (n : Int) 40), IntKind.wrap .u8 (sShr .i64 (n : Int) 48), IntKind.wrap .u8 (sShr .i64 (n : Int) 56)]
def kLength : Nat → ClN := fun n => ⟨[vv (.int .i64 (n : Int))], [], .o (.c (.os 0 1 8)), [.grow 5 1 (.i .u8 (lenL n))], [0], []⟩
noncomputable def FLength : FnE := ⟨mkEv Try.prog [] [] 0, [0, 2, 3, 4, 7, 8, 9], fun _ _ => .rounds 9⟩
def mLength : List AV → (Nat → Option MB) → Option (List Nat × Nat)
  | [.o (.c (.v (.int .i64 n)))], _ => some ([], n.toNat)
  | _, _ => none
noncomputable def cLength : Spec := callG 51 Try.f51.ntmps mLength kLength
theorem vcLength (n : Nat) : (wpE FLength (Try.f51.body.getD .skip) ⟨Try.f51.ntmps, slotsOf 0 (kLength n).avs, (kLength n).mem⟩ (finK Try.prog Try.f51.results.toList (postN (kLength n)))) = ((0 : Int) ≤ (8 : Int) ∧ (8 : Int) ≤ (8 : Int) ∧ (8 : Int) ≤ (281474976710656 : Int) ∧ (8 : Int) ≤ (9223372036854775807 : Int) ∧ (0 : Int) ≤ (0 : Int) ∧ (0 : Int) ≤ (0 : Int) ∧ (0 : Int) < (8 : Int) ∧ (0 : Nat) < (8 : Nat) ∧ (0 : Int) ≤ (8 : Int) ∧ (0 : Int) ≤ (1 : Int) ∧ (1 : Int) < (8 : Int) ∧ (1 : Nat) < (8 : Nat) ∧ (0 : Int) ≤ (16 : Int) ∧ (0 : Int) ≤ (2 : Int) ∧ (2 : Int) < (8 : Int) ∧ (2 : Nat) < (8 : Nat) ∧ (0 : Int) ≤ (24 : Int) ∧ (0 : Int) ≤ (3 : Int) ∧ (3 : Int) < (8 : Int) ∧ (3 : Nat) < (8 : Nat) ∧ (0 : Int) ≤ (32 : Int) ∧ (0 : Int) ≤ (4 : Int) ∧ (4 : Int) < (8 : Int) ∧ (4 : Nat) < (8 : Nat) ∧ (0 : Int) ≤ (40 : Int) ∧ (0 : Int) ≤ (5 : Int) ∧ (5 : Int) < (8 : Int) ∧ (5 : Nat) < (8 : Nat) ∧ (0 : Int) ≤ (48 : Int) ∧ (0 : Int) ≤ (6 : Int) ∧ (6 : Int) < (8 : Int) ∧ (6 : Nat) < (8 : Nat) ∧ (0 : Int) ≤ (56 : Int) ∧ (0 : Int) ≤ (7 : Int) ∧ (7 : Int) < (8 : Int) ∧ (7 : Nat) < (8 : Nat) ∧ true = true ∧ true = true ∧ (21 : Nat) = (21 : Nat) ∧ (5 : Nat) = (5 : Nat) ∧ (1 : Nat) = (1 : Nat) ∧ [IntKind.wrap IntKind.u8 (sShr IntKind.i64 (↑n : Int) (0 : Int)), IntKind.wrap IntKind.u8 (sShr IntKind.i64 (↑n : Int) (8 : Int)), IntKind.wrap IntKind.u8 (sShr IntKind.i64 (↑n : Int) (16 : Int)), IntKind.wrap IntKind.u8 (sShr IntKind.i64 (↑n : Int) (24 : Int)), IntKind.wrap IntKind.u8 (sShr IntKind.i64 (↑n : Int) (32 : Int)), IntKind.wrap IntKind.u8 (sShr IntKind.i64 (↑n : Int) (40 : Int)), IntKind.wrap IntKind.u8 (sShr IntKind.i64 (↑n : Int) (48 : Int)), IntKind.wrap IntKind.u8 (sShr IntKind.i64 (↑n : Int) (56 : Int))] = lenL n ∧ getL [(0 : Nat)] (0 : Nat) = some (0 : Nat) ∧ (1 : Nat) = (1 : Nat) ∧ (8 : Nat) = (8 : Nat)) := by kernel_rfl

set_option maxHeartbeats 8000000 in
theorem wpLength (n : Nat) : wpE FLength (Try.f51.body.getD .skip) ⟨Try.f51.ntmps, slotsOf 0 (kLength n).avs, (kLength n).mem⟩ (finK Try.prog Try.f51.results.toList (postN (kLength n))) := by
  with_reducible refine Eq.mpr (vcLength n) ?_
  intros
  and_intros <;> first | omega | exact True.intro | kernel_rfl
set_option maxHeartbeats 8000000 in
theorem cLength_ok : SpecOK Try.prog cLength := by
  refine callG_ok (c := Try.f51.body.getD .skip) mixed Try.func51 (by kernel_rfl) rfl (fun n hob => ?_)
  exact ⟨FLength, rfl, evOKs trivial, rfl, rfl, by with_reducible exact wpLength n ⟩

def kATotal : (List (List Int)) → ClN := fun ls => ⟨[.o (.c (.rss ls))], [], vv (.int .i64 (totA 1048576 0 ls : Int)), [], [], [∀ l ∈ ls, l.length ≤ 140737488355328, ls.length ≤ 9223372036854775807]⟩
noncomputable def FATotal (ls : List (List Int)) : FnE := ⟨mkEv Try.prog [] [] 0, [0, 2, 3, 5, 6, 7, 8, 9, 17], fun _ _ => .inv { x : Nat × Nat // x.2 ≤ ls.length ∧ x.1 ≤ 1048576 ∧ totA 1048576 x.1 (ls.drop x.2) = totA 1048576 0 ls } (fun x => stTot Try.f36.ntmps ls x.1.1 x.1.2) (fun x => ls.length - x.1.2) [] []⟩
def mATotal : List AV → (Nat → Option MB) → Option (List Nat × (List (List Int)))
  | [.o (.c c)], lk => match slS lk c with
    | some ls => some ([], ls)
    | none => none
  | _, _ => none
noncomputable def cATotal : Spec := callG 36 Try.f36.ntmps mATotal kATotal
theorem vcATotal (ls : List (List Int)) : (wpE (FATotal ls) (Try.f36.body.getD .skip) ⟨Try.f36.ntmps, slotsOf 0 (kATotal ls).avs, (kATotal ls).mem⟩ (finK Try.prog Try.f36.results.toList (postN (kATotal ls)))) = ((∃ (x : { x : Nat × Nat // Prod.snd x ≤ List.length ls ∧ Prod.fst x ≤ (1048576 : Nat) ∧ totA (1048576 : Nat) (Prod.fst x) (List.drop (Prod.snd x) ls) = totA (1048576 : Nat) (0 : Nat) ls }), true = true ∧ true = true ∧ (20 : Nat) = (20 : Nat) ∧ Value.int IntKind.i64 (0 : Int) = Value.int IntKind.i64 (↑(Prod.fst (Subtype.val x)) : Int) ∧ ls = ls ∧ Value.int IntKind.i64 (↑(List.length ls) : Int) = Value.int IntKind.i64 (↑(List.length ls) : Int) ∧ Value.int IntKind.i64 (0 : Int) = Value.int IntKind.i64 (↑(Prod.snd (Subtype.val x)) : Int)) ∧ ∀ (x : { x : Nat × Nat // Prod.snd x ≤ List.length ls ∧ Prod.fst x ≤ (1048576 : Nat) ∧ totA (1048576 : Nat) (Prod.fst x) (List.drop (Prod.snd x) ls) = totA (1048576 : Nat) (0 : Nat) ls }), bif decide ((↑(Prod.snd (Subtype.val x)) : Int) < (↑(List.length ls) : Int)) then (0 : Int) ≤ (↑(Prod.snd (Subtype.val x)) : Int) ∧ (↑(Prod.snd (Subtype.val x)) : Int) < (↑(List.length ls) : Int) ∧ bif decide ((1048576 : Int) < IntKind.wrap IntKind.i64 ((↑(Prod.fst (Subtype.val x)) : Int) + (↑(List.length (List.getD ls (Int.toNat (↑(Prod.snd (Subtype.val x)) : Int)) [])) : Int))) then true = true ∧ true = true ∧ (20 : Nat) = (20 : Nat) ∧ Value.int IntKind.i64 (IntKind.wrap IntKind.i64 ((↑(Prod.fst (Subtype.val x)) : Int) + (↑(List.length (List.getD ls (Int.toNat (↑(Prod.snd (Subtype.val x)) : Int)) [])) : Int))) = Value.int IntKind.i64 (↑(totA (1048576 : Nat) (0 : Nat) ls) : Int) else ∃ (y : { x : Nat × Nat // Prod.snd x ≤ List.length ls ∧ Prod.fst x ≤ (1048576 : Nat) ∧ totA (1048576 : Nat) (Prod.fst x) (List.drop (Prod.snd x) ls) = totA (1048576 : Nat) (0 : Nat) ls }), (true = true ∧ true = true ∧ (20 : Nat) = (20 : Nat) ∧ Value.int IntKind.i64 (IntKind.wrap IntKind.i64 ((↑(Prod.fst (Subtype.val x)) : Int) + (↑(List.length (List.getD ls (Int.toNat (↑(Prod.snd (Subtype.val x)) : Int)) [])) : Int))) = Value.int IntKind.i64 (↑(Prod.fst (Subtype.val y)) : Int) ∧ ls = ls ∧ Value.int IntKind.i64 (↑(List.length ls) : Int) = Value.int IntKind.i64 (↑(List.length ls) : Int) ∧ Value.int IntKind.i64 (IntKind.wrap IntKind.i64 ((↑(Prod.snd (Subtype.val x)) : Int) + (1 : Int))) = Value.int IntKind.i64 (↑(Prod.snd (Subtype.val y)) : Int)) ∧ List.length ls - Prod.snd (Subtype.val y) < List.length ls - Prod.snd (Subtype.val x) else true = true ∧ true = true ∧ (20 : Nat) = (20 : Nat) ∧ Value.int IntKind.i64 (↑(Prod.fst (Subtype.val x)) : Int) = Value.int IntKind.i64 (↑(totA (1048576 : Nat) (0 : Nat) ls) : Int)) := by kernel_rfl

set_option maxHeartbeats 8000000 in
theorem wpATotal (ls : List (List Int)) (h1 : ∀ l ∈ ls, l.length ≤ 140737488355328) (h2 : ls.length ≤ 9223372036854775807) : wpE (FATotal ls) (Try.f36.body.getD .skip) ⟨Try.f36.ntmps, slotsOf 0 (kATotal ls).avs, (kATotal ls).mem⟩ (finK Try.prog Try.f36.results.toList (postN (kATotal ls))) := by
  with_reducible refine Eq.mpr (vcATotal ls) ?_
  simp only [Int.toNat_natCast, Bool.cond_decide]
  refine ⟨⟨⟨⟨0, 0⟩, Nat.zero_le _, Nat.zero_le _, rfl⟩, by and_intros <;> first | exact True.intro | rfl⟩, ?_⟩
  rintro ⟨⟨s, i⟩, hi, hs, ht⟩
  dsimp only at hi hs ht ⊢
  split
  · rename_i hil
    have hil' : i < ls.length := by omega
    have hl : (ls.getD i []).length ≤ 140737488355328 := h1 _ (by rw [getD_at hil']; exact List.getElem_mem hil')
    rw [totA_step hil'] at ht
    simp only [add64 (a := s) (b := (ls.getD i []).length) (by omega), wrapS (i := i) (by omega)]
    refine ⟨by omega, by omega, ?_⟩
    split
    · rename_i hM
      rw [if_pos (by omega)] at ht
      and_intros <;> first | exact True.intro | rfl | (rw [ht])
    · rename_i hM
      rw [if_neg (by omega)] at ht
      exact ⟨⟨⟨s + (ls.getD i []).length, i + 1⟩, by show i + 1 ≤ ls.length; omega, by show s + _ ≤ _; omega, ht⟩, by and_intros <;> first | exact True.intro | rfl, by show ls.length - (i + 1) < ls.length - i; omega⟩
  · rename_i hil
    have hil' : i = ls.length := by omega
    subst hil'
    rw [List.drop_length] at ht
    have ht' : s = totA 1048576 0 ls := ht
    and_intros <;> first | exact True.intro | rfl | (rw [ht'])
set_option maxHeartbeats 8000000 in
theorem cATotal_ok : SpecOK Try.prog cATotal := by
  refine callG_ok (c := Try.f36.body.getD .skip) mixed Try.func36 (by kernel_rfl) rfl (fun ls hob => ?_)
  have hob : (∀ l ∈ ls, l.length ≤ 140737488355328) ∧ (ls.length ≤ 9223372036854775807) := hob
  obtain ⟨h1, h2⟩ := hob
  exact ⟨FATotal ls, rfl, evOKs trivial, rfl, rfl, by with_reducible exact wpATotal ls h1 h2⟩

def kAMix : (List Int) × (List Int) × Nat × (List Int) → ClN := fun (key, nonce, n, t) => ⟨[.o (.g [.many 32 (.i .u8 key), .many 12 (.i .u8 nonce)]), .o (.c (.rs 1 n (.i .u8 t)))], [], .o (.c (.os 0 1 t.length)), [.grow 5 1 (.i .u8 (mixA key nonce 1 t))], [2], [t.length = n, n ≤ 16777216, key.length = 32, nonce.length = 12]⟩
noncomputable def FAMix : FnE := ⟨mkEv Try.prog [] [cMix] 0, [0, 1, 2, 4, 5], fun _ _ => .rounds 0⟩
def mAMix : List AV → (Nat → Option MB) → Option (List Nat × ((List Int) × (List Int) × Nat × (List Int)))
  | [.o (.g [.many 32 (.i .u8 key), .many 12 (.i .u8 nonce)]), .o (.c c)], lk => match slI lk c with
    | some (n, t) => some ([], key, nonce, n, t)
    | none => none
  | _, _ => none
noncomputable def cAMix : Spec := callG 37 Try.f37.ntmps mAMix kAMix
theorem vcAMix (key nonce : List Int) (n : Nat) (t : List Int) : (wpE FAMix (Try.f37.body.getD .skip) ⟨Try.f37.ntmps, slotsOf 0 (kAMix (key, nonce, n, t)).avs, (kAMix (key, nonce, n, t)).mem⟩ (finK Try.prog Try.f37.results.toList (postN (kAMix (key, nonce, n, t))))) = (true = true ∧ (32 : Nat) = (32 : Nat) ∧ key = key ∧ (12 : Nat) = (12 : Nat) ∧ nonce = nonce ∧ Value.int IntKind.u32 (1 : Int) = Value.int IntKind.u32 (1 : Int) ∧ true = true ∧ [t] = [t] ∧ (1 : Nat) = (1 : Nat) ∧ List.length (List.flatten [t]) ≤ (16777216 : Nat) ∧ (1 : Nat) ≤ (140737488355328 : Nat) ∧ List.length key = (32 : Nat) ∧ List.length nonce = (12 : Nat) ∧ true = true ∧ true = true ∧ (18 : Nat) = (18 : Nat) ∧ (5 : Nat) = (5 : Nat) ∧ (1 : Nat) = (1 : Nat) ∧ mixA key nonce (1 : Int) (List.flatten [t]) = mixA key nonce (1 : Int) t ∧ getL [(2 : Nat)] (0 : Nat) = some (nameN [] (Nat.add (Nat.add (Nat.add (Nat.add (Nat.add (Nat.add (1 : Nat) (0 : Nat)) (0 : Nat)) (0 : Nat)) (0 : Nat)) (0 : Nat)) (1 : Nat)) (0 : Nat)) ∧ (1 : Nat) = (1 : Nat) ∧ List.length (List.flatten [t]) = List.length t) := by kernel_rfl

set_option maxHeartbeats 8000000 in
theorem wpAMix (key nonce : List Int) (n : Nat) (t : List Int) (h1 : t.length = n) (h2 : n ≤ 16777216) (h3 : key.length = 32) (h4 : nonce.length = 12) : wpE FAMix (Try.f37.body.getD .skip) ⟨Try.f37.ntmps, slotsOf 0 (kAMix (key, nonce, n, t)).avs, (kAMix (key, nonce, n, t)).mem⟩ (finK Try.prog Try.f37.results.toList (postN (kAMix (key, nonce, n, t)))) := by
  with_reducible refine Eq.mpr (vcAMix key nonce n t) ?_
  have e : [t].flatten = t := by simp
  simp only [e]
  and_intros <;> first | omega | exact True.intro | with_reducible assumption | with_reducible rfl | kernel_rfl
set_option maxHeartbeats 8000000 in
theorem cAMix_ok : SpecOK Try.prog cAMix := by
  refine callG_ok (c := Try.f37.body.getD .skip) mixed Try.func37 (by kernel_rfl) rfl (fun x hob => ?_)
  obtain ⟨key, nonce, n, t⟩ := x
  have hob : (t.length = n) ∧ (n ≤ 16777216) ∧ (key.length = 32) ∧ (nonce.length = 12) := hob
  obtain ⟨h1, h2, h3, h4⟩ := hob
  exact ⟨FAMix, rfl, evOKs ⟨.inl ⟨cMix_ok, by kernel_rfl, gl_nil rfl⟩, trivial⟩, rfl, rfl, by with_reducible exact wpAMix key nonce n t h1 h2 h3 h4⟩

/-- The tag of what a text was mixed to, and of what it is bound to. -/
def tagS (key nonce : List Int) (ls : List (List Int)) (m : List Int) (size : Nat) : List Int := sumL ((chachaL key nonce 0).take 32) (ls ++ [padL size, m, padL m.length, lenL size, lenL m.length]).flatten
def kATag : (List Int) × (List Int) × Nat × (List Int) × (List (List Int)) × Nat → ClN := fun (key, nonce, n, m, ls, size) => ⟨[.o (.g [.many 32 (.i .u8 key), .many 12 (.i .u8 nonce)]), .o (.c (.rs 1 n (.i .u8 m))), .o (.c (.rss ls)), vv (.int .i64 (size : Int))], [], .o (.g [.many 16 (.i .u8 (tagS key nonce ls m size))]), [], [], [m.length = n, n ≤ 16777216, key.length = 32, nonce.length = 12, size ≤ 16777216, ls.length ≤ 16777216]⟩
noncomputable def FATag : FnE := ⟨mkEv Try.prog [] [cBlock, cNoughts, cLength, cCat, cSum] 0, [0, 1, 2, 3, 4, 8, 9, 10], fun _ _ => .rounds 0⟩
def mATag : List AV → (Nat → Option MB) → Option (List Nat × ((List Int) × (List Int) × Nat × (List Int) × (List (List Int)) × Nat))
  | [.o (.g [.many 32 (.i .u8 key), .many 12 (.i .u8 nonce)]), .o (.c c), .o (.c d), .o (.c (.v (.int .i64 size)))], lk => match slI lk c with
    | some (n, t) => match slS lk d with
      | some ls => some ([], key, nonce, n, t, ls, size.toNat)
      | none => none
    | none => none
  | _, _ => none
noncomputable def cATag : Spec := callG 38 Try.f38.ntmps mATag kATag
theorem vcATag (key nonce : List Int) (n : Nat) (m : List Int) (ls : List (List Int)) (size : Nat) : (wpE FATag (Try.f38.body.getD .skip) ⟨Try.f38.ntmps, slotsOf 0 (kATag (key, nonce, n, m, ls, size)).avs, (kATag (key, nonce, n, m, ls, size)).mem⟩ (finK Try.prog Try.f38.results.toList (postN (kATag (key, nonce, n, m, ls, size))))) = (let x1 := List.take (32 : Nat) (List.drop (0 : Nat) (chachaL key nonce (0 : Int))); let x2 := ls ++ [padL (Int.toNat (↑size : Int)), m, padL (Int.toNat (↑n : Int)), lenL (Int.toNat (↑size : Int)), lenL (Int.toNat (↑n : Int))]; true = true ∧ (32 : Nat) = (32 : Nat) ∧ key = key ∧ (12 : Nat) = (12 : Nat) ∧ nonce = nonce ∧ Value.int IntKind.u32 (0 : Int) = Value.int IntKind.u32 (0 : Int) ∧ List.length key = (32 : Nat) ∧ List.length nonce = (12 : Nat) ∧ true = true ∧ Value.int IntKind.i64 (↑size : Int) = Value.int IntKind.i64 (↑(Int.toNat (↑size : Int)) : Int) ∧ Int.toNat (↑size : Int) ≤ (140737488355328 : Nat) ∧ true = true ∧ Value.int IntKind.i64 (↑n : Int) = Value.int IntKind.i64 (↑(Int.toNat (↑n : Int)) : Int) ∧ Int.toNat (↑n : Int) ≤ (140737488355328 : Nat) ∧ true = true ∧ Value.int IntKind.i64 (↑size : Int) = Value.int IntKind.i64 (↑(Int.toNat (↑size : Int)) : Int) ∧ true = true ∧ Value.int IntKind.i64 (↑n : Int) = Value.int IntKind.i64 (↑(Int.toNat (↑n : Int)) : Int) ∧ (0 : Int) ≤ (32 : Int) ∧ (32 : Nat) ≤ (64 : Nat) ∧ (64 : Nat) ≤ (9223372036854775807 : Nat) ∧ (32 : Nat) ≤ (32 : Nat) ∧ (32 : Nat) ≤ (64 : Nat) ∧ (5 : Nat) = segsLen (onesC [C.map (nameN [] (Nat.add (3 : Nat) (0 : Nat))) (C.os (0 : Nat) (1 : Nat) (((16 : Nat) - Int.toNat (↑size : Int) % (16 : Nat)) % (16 : Nat))), C.rs (1 : Nat) n (L.i IntKind.u8 m), C.map (nameN [] (Nat.add (Nat.add (Nat.add (Nat.add (Nat.add (3 : Nat) (0 : Nat)) (1 : Nat)) (0 : Nat)) (0 : Nat)) (0 : Nat))) (C.os (0 : Nat) (1 : Nat) (((16 : Nat) - Int.toNat (↑n : Int) % (16 : Nat)) % (16 : Nat))), C.map (nameN [] (Nat.add (Nat.add (Nat.add (Nat.add (Nat.add (Nat.add (Nat.add (3 : Nat) (0 : Nat)) (1 : Nat)) (0 : Nat)) (0 : Nat)) (0 : Nat)) (1 : Nat)) (0 : Nat))) (C.os (0 : Nat) (1 : Nat) (8 : Nat)), C.map (nameN [] (Nat.add (Nat.add (Nat.add (Nat.add (Nat.add (Nat.add (Nat.add (Nat.add (Nat.add (Nat.add (3 : Nat) (0 : Nat)) (1 : Nat)) (0 : Nat)) (0 : Nat)) (0 : Nat)) (1 : Nat)) (0 : Nat)) (1 : Nat)) (0 : Nat)) (0 : Nat))) (C.os (0 : Nat) (1 : Nat) (8 : Nat))]) ∧ (0 : Nat) < List.length ls + (5 : Nat) ∧ List.length ls + (5 : Nat) ≤ (5000000000000 : Nat) ∧ true = true ∧ (32 : Nat) = (32 : Nat) ∧ x1 = x1 ∧ true = true ∧ x2 = x2 ∧ List.length ls + (5 : Nat) = List.length x2 ∧ List.length (padL (Int.toNat (↑size : Int))) = ((16 : Nat) - Int.toNat (↑size : Int) % (16 : Nat)) % (16 : Nat) ∧ List.length (padL (Int.toNat (↑n : Int))) = ((16 : Nat) - Int.toNat (↑n : Int) % (16 : Nat)) % (16 : Nat) ∧ (8 : Nat) = (8 : Nat) ∧ (8 : Nat) = (8 : Nat) ∧ (32 : Nat) = (32 : Nat) ∧ List.length x2 ≤ (140737488355328 : Nat) ∧ true = true ∧ true = true ∧ (36 : Nat) = (36 : Nat) ∧ (16 : Nat) = (16 : Nat) ∧ sumL x1 (List.flatten x2) = tagS key nonce ls m size) := by kernel_rfl

set_option maxHeartbeats 8000000 in
theorem wpATag (key nonce : List Int) (n : Nat) (m : List Int) (ls : List (List Int)) (size : Nat) (h1 : m.length = n) (h2 : n ≤ 16777216) (h3 : key.length = 32) (h4 : nonce.length = 12) (h5 : size ≤ 16777216) (h6 : ls.length ≤ 16777216) : wpE FATag (Try.f38.body.getD .skip) ⟨Try.f38.ntmps, slotsOf 0 (kATag (key, nonce, n, m, ls, size)).avs, (kATag (key, nonce, n, m, ls, size)).mem⟩ (finK Try.prog Try.f38.results.toList (postN (kATag (key, nonce, n, m, ls, size)))) := by
  with_reducible refine Eq.mpr (vcATag key nonce n m ls size) ?_
  have p1 : ∀ k, (padL k).length = (16 - k % 16) % 16 := fun k => by simp [padL]
  have hl : (chachaL key nonce 0).length = 64 := chachaL_len _ _ _
  have p2 : (List.take 32 (List.drop 0 (chachaL key nonce 0))).length = 32 := by rw [List.length_take, List.drop_zero, hl]; rfl
  clear hl
  have e9 : sumL (List.take 32 (List.drop 0 (chachaL key nonce 0))) (ls ++ [padL size, m, padL n, lenL size, lenL n]).flatten = tagS key nonce ls m size := by unfold tagS; rw [h1]; rfl
  simp only [Int.toNat_natCast]
  and_intros <;> first | omega | exact True.intro | with_reducible assumption | with_reducible exact p1 _ | (simp only [List.length_append, List.length_cons, List.length_nil] <;> omega) | with_reducible rfl | kernel_rfl
set_option maxHeartbeats 8000000 in
theorem cATag_ok : SpecOK Try.prog cATag := by
  refine callG_ok (c := Try.f38.body.getD .skip) mixed Try.func38 (by kernel_rfl) rfl (fun x hob => ?_)
  obtain ⟨key, nonce, n, m, ls, size⟩ := x
  have hob : (m.length = n) ∧ (n ≤ 16777216) ∧ (key.length = 32) ∧ (nonce.length = 12) ∧ (size ≤ 16777216) ∧ (ls.length ≤ 16777216) := hob
  obtain ⟨h1, h2, h3, h4, h5, h6⟩ := hob
  exact ⟨FATag, rfl, evOKs ⟨.inl ⟨cBlock_ok, by kernel_rfl, gl_nil rfl⟩, ⟨.inl ⟨cNoughts_ok, by kernel_rfl, gl_nil rfl⟩, ⟨.inl ⟨cLength_ok, by kernel_rfl, gl_nil rfl⟩, ⟨.inl ⟨cCat_ok, by kernel_rfl, gl_nil rfl⟩, ⟨.inl ⟨cSum_ok, by kernel_rfl, gl_nil rfl⟩, trivial⟩⟩⟩⟩⟩, rfl, rfl, by with_reducible exact wpATag key nonce n m ls size h1 h2 h3 h4 h5 h6⟩
end Go.Proofs.Ythlleheeghiljaa
namespace Go.Proofs.Ythlleheeghiljaa
open Go.RowKit
set_option maxRecDepth 100000

theorem or8_nat (a b : Nat) (ha : a < 256) (hb : b < 256) : bits .or .u8 (a : Int) (b : Int) = ((a ||| b : Nat) : Int) := by
  have ha' : a % 2 ^ IntKind.bits .u8 = a := Nat.mod_eq_of_lt ha
  have hb' : b % 2 ^ IntKind.bits .u8 = b := Nat.mod_eq_of_lt hb
  have hx : a ||| b < 256 := Nat.or_lt_two_pow (n := 8) ha hb
  simp only [bits, BitVec.ofInt_natCast, BitVec.toNat_or, BitVec.toNat_ofNat, ha', hb']
  rw [wrapU8]; omega
theorem or8_zero (a b : Int) (ha : 0 ≤ a ∧ a < 256) (hb : 0 ≤ b ∧ b < 256) : 0 ≤ bits .or .u8 a b ∧ bits .or .u8 a b < 256 ∧ (bits .or .u8 a b = 0 ↔ a = 0 ∧ b = 0) := by
  obtain ⟨m, rfl⟩ := Int.eq_ofNat_of_zero_le ha.1
  obtain ⟨n, rfl⟩ := Int.eq_ofNat_of_zero_le hb.1
  rw [or8_nat m n (by omega) (by omega)]
  have h1 : m ||| n < 2 ^ 8 := Nat.or_lt_two_pow (by omega) (by omega)
  have h2 : m ||| n = 0 ↔ m = 0 ∧ n = 0 := Nat.or_eq_zero_iff
  refine ⟨by omega, by omega, fun h => ?_, fun h => ?_⟩
  · have := h2.1 (by omega)
    omega
  · have := h2.2 (by omega)
    omega
theorem xorB_eq {a b : Int} (ha : 0 ≤ a ∧ a < 256) (hb : 0 ≤ b ∧ b < 256) : xorB a b = 0 ↔ a = b := by
  constructor
  · intro h
    have := xorB_back ha hb
    rw [h, xorB_zero hb] at this
    exact this.symm
  · rintro rfl
    obtain ⟨m, rfl⟩ := Int.eq_ofNat_of_zero_le ha.1
    rw [xorB_nat m m (by omega) (by omega), Nat.xor_self]; rfl
/-- What two lists of bytes differ in, up to there. -/
def dz (p q : List Int) : Nat → Int
  | 0 => 0
  | k + 1 => bits .or .u8 (dz p q k) (bits .xor .u8 (p.getD k 0) (q.getD k 0))
theorem dz_spec (p q : List Int) (hp : Bys p) (hq : Bys q) : ∀ k, 0 ≤ dz p q k ∧ dz p q k < 256 ∧ (dz p q k = 0 ↔ ∀ j, j < k → p.getD j 0 = q.getD j 0)
  | 0 => ⟨by simp [dz], by simp [dz], by simp [dz]⟩
  | k + 1 => by
    have ih := dz_spec p q hp hq k
    obtain ⟨o0, o1, o2⟩ := or8_zero (dz p q k) _ ⟨ih.1, ih.2.1⟩ (xorB_in (p.getD k 0) (q.getD k 0))
    refine ⟨o0, o1, ?_⟩
    show bits .or .u8 (dz p q k) (xorB _ _) = 0 ↔ _
    rw [o2, ih.2.2, xorB_eq (hp.at k) (hq.at k)]
    constructor
    · intro h j hj
      by_cases e : j = k
      · rw [e]; exact h.2
      · exact h.1 j (by omega)
    · intro h
      exact ⟨fun j hj => h j (by omega), h k (by omega)⟩
theorem dz_eq {p q : List Int} (hp : Bys p) (hq : Bys q) (hl : p.length = q.length) : dz p q p.length = 0 ↔ p = q := by
  rw [(dz_spec p q hp hq _).2.2]
  exact ⟨fun h => ext_getD hl h, fun h j _ => by rw [h]⟩
noncomputable def stEq (n m : Nat) (a b : List Int) (i : Nat) : St := ⟨Try.f40.ntmps, [(1, .o (.c (.rs 1 m (.i .u8 b)))), (5, vv (.int .u8 (dz a b i))), (13, .o (.c (.rs 1 n (.i .u8 a)))), (14, vv (.int .i64 (n : Int))), (15, vv (.int .i64 (i : Int)))], []⟩
def fcEq (d : Nat) : Option Bool := bif Nat.beq d 12 then some false else none
def kEqual : Nat × Nat × (List Int) × (List Int) → ClN := fun (n, m, a, b) => ⟨[.o (.c (.rs 1 n (.i .u8 a))), .o (.c (.rs 1 m (.i .u8 b)))], [], vv (.bool (decide (a = b))), [], [], [a.length = n, b.length = m, n = m, n ≤ 140737488355328, Bys a, Bys b]⟩
noncomputable def FEqual (n m : Nat) (a b : List Int) : FnE := ⟨mkEv Try.prog [] [] 0 fcEq, [0, 1, 4, 5, 6, 7, 12, 13, 14, 15, 16], fun _ _ => .inv { i : Nat // i ≤ n } (fun i => stEq n m a b i.val) (fun i => n - i.val) [] []⟩
def mEqual : List AV → (Nat → Option MB) → Option (List Nat × (Nat × Nat × (List Int) × (List Int)))
  | [.o (.c x), .o (.c y)], lk => match slI lk x with
    | some (n, a) => match slI lk y with
      | some (m, b) => some ([], n, m, a, b)
      | none => none
    | none => none
  | _, _ => none
noncomputable def cEqual : Spec := callG 40 Try.f40.ntmps mEqual kEqual
theorem vcEqual (n m : Nat) (a b : List Int) : (wpE (FEqual n m a b) (Try.f40.body.getD .skip) ⟨Try.f40.ntmps, slotsOf 0 (kEqual (n, m, a, b)).avs, (kEqual (n, m, a, b)).mem⟩ (finK Try.prog Try.f40.results.toList (postN (kEqual (n, m, a, b))))) = ((!decide ((↑n : Int) = (↑m : Int))) = false ∧ (∃ (x : { i : Nat // i ≤ n }), true = true ∧ true = true ∧ (31 : Nat) = (31 : Nat) ∧ (1 : Nat) = (1 : Nat) ∧ m = m ∧ b = b ∧ Value.int IntKind.u8 (0 : Int) = Value.int IntKind.u8 (dz a b (Subtype.val x)) ∧ (1 : Nat) = (1 : Nat) ∧ n = n ∧ a = a ∧ Value.int IntKind.i64 (↑n : Int) = Value.int IntKind.i64 (↑n : Int) ∧ Value.int IntKind.i64 (0 : Int) = Value.int IntKind.i64 (↑(Subtype.val x) : Int)) ∧ ∀ (x : { i : Nat // i ≤ n }), bif decide ((↑(Subtype.val x) : Int) < (↑n : Int)) then (0 : Int) ≤ (↑(Subtype.val x) : Int) ∧ (↑(Subtype.val x) : Int) < (↑n : Int) ∧ Int.toNat (↑(Subtype.val x) : Int) < List.length a ∧ (0 : Int) ≤ (↑(Subtype.val x) : Int) ∧ (↑(Subtype.val x) : Int) < (↑m : Int) ∧ Int.toNat (↑(Subtype.val x) : Int) < List.length b ∧ ∃ (y : { i : Nat // i ≤ n }), (true = true ∧ true = true ∧ (31 : Nat) = (31 : Nat) ∧ (1 : Nat) = (1 : Nat) ∧ m = m ∧ b = b ∧ Value.int IntKind.u8 (bits BinOp.or IntKind.u8 (dz a b (Subtype.val x)) (bits BinOp.xor IntKind.u8 (List.getD a (Int.toNat (↑(Subtype.val x) : Int)) (0 : Int)) (List.getD b (Int.toNat (↑(Subtype.val x) : Int)) (0 : Int)))) = Value.int IntKind.u8 (dz a b (Subtype.val y)) ∧ (1 : Nat) = (1 : Nat) ∧ n = n ∧ a = a ∧ Value.int IntKind.i64 (↑n : Int) = Value.int IntKind.i64 (↑n : Int) ∧ Value.int IntKind.i64 (IntKind.wrap IntKind.i64 ((↑(Subtype.val x) : Int) + (1 : Int))) = Value.int IntKind.i64 (↑(Subtype.val y) : Int)) ∧ n - Subtype.val y < n - Subtype.val x else true = true ∧ true = true ∧ (31 : Nat) = (31 : Nat) ∧ Value.bool (decide (dz a b (Subtype.val x) = (0 : Int))) = Value.bool (decide (a = b))) := by kernel_rfl

set_option maxHeartbeats 8000000 in
theorem wpEqual (n m : Nat) (a b : List Int) (h1 : a.length = n) (h2 : b.length = m) (h3 : n = m) (h4 : n ≤ 140737488355328) (h5 : Bys a) (h6 : Bys b) : wpE (FEqual n m a b) (Try.f40.body.getD .skip) ⟨Try.f40.ntmps, slotsOf 0 (kEqual (n, m, a, b)).avs, (kEqual (n, m, a, b)).mem⟩ (finK Try.prog Try.f40.results.toList (postN (kEqual (n, m, a, b)))) := by
  with_reducible refine Eq.mpr (vcEqual n m a b) ?_
  have hd : decide (dz a b n = 0) = decide (a = b) := by
    have := dz_eq h5 h6 (by omega)
    rw [h1] at this
    simp only [this]
  simp only [Bool.cond_decide, Int.toNat_natCast]
  refine ⟨by rw [decide_eq_true (by omega)]; rfl, ⟨⟨0, Nat.zero_le _⟩, by and_intros <;> first | exact True.intro | rfl⟩, ?_⟩
  rintro ⟨i, hi⟩
  dsimp only at hi ⊢
  split
  · rename_i hin
    have hin' : i < n := by omega
    simp only [wrapS (i := i) (by omega)]
    and_intros
    all_goals first | omega | exact True.intro | skip
    exact ⟨⟨i + 1, hin'⟩, by and_intros <;> first | exact True.intro | rfl, by show n - (i + 1) < n - i; omega⟩
  · rename_i hin
    obtain rfl : i = n := by omega
    and_intros <;> first | exact True.intro | rfl | exact congrArg Value.bool hd
set_option maxHeartbeats 8000000 in
theorem cEqual_ok : SpecOK Try.prog cEqual := by
  refine callG_ok (c := Try.f40.body.getD .skip) mixed Try.func40 (by kernel_rfl) rfl (fun x hob => ?_)
  obtain ⟨n, m, a, b⟩ := x
  have hob : (a.length = n) ∧ (b.length = m) ∧ (n = m) ∧ (n ≤ 140737488355328) ∧ (Bys a) ∧ (Bys b) := hob
  obtain ⟨h1, h2, h3, h4, h5, h6⟩ := hob
  exact ⟨FEqual n m a b, rfl, evOKs trivial, rfl, rfl, by with_reducible exact wpEqual n m a b h1 h2 h3 h4 h5 h6⟩

theorem tagS_bys (key nonce : List Int) (ls : List (List Int)) (m : List Int) (k : Nat) : Bys (tagS key nonce ls m k) ∧ (tagS key nonce ls m k).length = 16 := sumL_bys _ _
theorem take16 {l : List Int} (h : l.length = 16) : List.take 16 l = l := List.take_of_length_le (by omega)
def sealT (key nonce : List Int) (ls : List (List Int)) (t : List Int) : List Int := mixA key nonce 1 t ++ tagS key nonce ls (mixA key nonce 1 t) ls.flatten.length
def fcSeal (d : Nat) : Option Bool := bif Nat.beq d 15 || Nat.beq d 18 then some false else none
def kASeal : (List Int) × (List Int) × Nat × (List Int) × (List (List Int)) → ClN := fun (key, nonce, n, t, ls) => ⟨[.o (.g [.many 32 (.i .u8 key), .many 12 (.i .u8 nonce)]), .o (.c (.rs 1 n (.i .u8 t))), .o (.c (.rss ls))], [], .t [.c (.os 0 1 (n + 16)), .c (.v (.int .i64 0))], [.grow 5 1 (.i .u8 (sealT key nonce ls t))], [3], [t.length = n, n ≤ 1048576, ls.flatten.length ≤ 1048576, ls.length ≤ 16777216, key.length = 32, nonce.length = 12]⟩
noncomputable def FASeal : FnE := ⟨mkEv Try.prog [] [cATotal, cAMix, cATag] 0 fcSeal, [0, 1, 2, 3, 6, 7, 8, 9, 10, 19], fun _ _ => .rounds 0⟩
def mASeal : List AV → (Nat → Option MB) → Option (List Nat × ((List Int) × (List Int) × Nat × (List Int) × (List (List Int))))
  | [.o (.g [.many 32 (.i .u8 key), .many 12 (.i .u8 nonce)]), .o (.c c), .o (.c d)], lk => match slI lk c with
    | some (n, t) => match slS lk d with
      | some ls => some ([], key, nonce, n, t, ls)
      | none => none
    | none => none
  | _, _ => none
noncomputable def cASeal : Spec := callG 19 Try.f19.ntmps mASeal kASeal
theorem vcASeal (key nonce : List Int) (n : Nat) (t : List Int) (ls : List (List Int)) : (wpE FASeal (Try.f19.body.getD .skip) ⟨Try.f19.ntmps, slotsOf 0 (kASeal (key, nonce, n, t, ls)).avs, (kASeal (key, nonce, n, t, ls)).mem⟩ (finK Try.prog Try.f19.results.toList (postN (kASeal (key, nonce, n, t, ls))))) = (true = true ∧ true = true ∧ ls = ls ∧ (∀ (l : List Int), l ∈ ls → List.length l ≤ (140737488355328 : Nat)) ∧ List.length ls ≤ (9223372036854775807 : Nat) ∧ decide ((1048576 : Int) < (↑n : Int)) = false ∧ decide ((1048576 : Int) < (↑(totA (1048576 : Nat) (0 : Nat) ls) : Int)) = false ∧ true = true ∧ (32 : Nat) = (32 : Nat) ∧ key = key ∧ (12 : Nat) = (12 : Nat) ∧ nonce = nonce ∧ true = true ∧ n = n ∧ t = t ∧ List.length t = n ∧ n ≤ (16777216 : Nat) ∧ List.length key = (32 : Nat) ∧ List.length nonce = (12 : Nat) ∧ true = true ∧ (32 : Nat) = (32 : Nat) ∧ key = key ∧ (12 : Nat) = (12 : Nat) ∧ nonce = nonce ∧ true = true ∧ List.length t = List.length t ∧ mixA key nonce (1 : Int) t = mixA key nonce (1 : Int) t ∧ List.length (mixA key nonce (1 : Int) t) = List.length t ∧ true = true ∧ ls = ls ∧ Value.int IntKind.i64 (↑(totA (1048576 : Nat) (0 : Nat) ls) : Int) = Value.int IntKind.i64 (↑(Int.toNat (↑(totA (1048576 : Nat) (0 : Nat) ls) : Int)) : Int) ∧ List.length (mixA key nonce (1 : Int) t) = List.length t ∧ List.length t ≤ (16777216 : Nat) ∧ List.length key = (32 : Nat) ∧ List.length nonce = (12 : Nat) ∧ Int.toNat (↑(totA (1048576 : Nat) (0 : Nat) ls) : Int) ≤ (16777216 : Nat) ∧ List.length ls ≤ (16777216 : Nat) ∧ (16 : Nat) ≤ (9223372036854775807 : Nat) ∧ (16 : Nat) ≤ (16 : Nat) ∧ List.length (mixA key nonce (1 : Int) t) = List.length t ∧ (List.length t + (16 : Nat)) * (1 : Nat) ≤ (140737488355328 : Nat) ∧ List.length t + (16 : Nat) ≤ (9223372036854775807 : Nat) ∧ true = true ∧ true = true ∧ (31 : Nat) = (31 : Nat) ∧ (5 : Nat) = (5 : Nat) ∧ (1 : Nat) = (1 : Nat) ∧ mixA key nonce (1 : Int) t ++ List.take (16 : Nat) (List.drop (0 : Nat) (tagS key nonce ls (mixA key nonce (1 : Int) t) (Int.toNat (↑(totA (1048576 : Nat) (0 : Nat) ls) : Int)))) = sealT key nonce ls t ∧ getL [(3 : Nat)] (0 : Nat) = some (Nat.add (Nat.add (3 : Nat) (0 : Nat)) (0 : Nat)) ∧ (1 : Nat) = (1 : Nat) ∧ List.length t + (16 : Nat) = n + (16 : Nat) ∧ Value.int IntKind.i64 (0 : Int) = Value.int IntKind.i64 (0 : Int)) := by kernel_rfl

set_option maxHeartbeats 8000000 in
theorem wpASeal (key nonce : List Int) (n : Nat) (t : List Int) (ls : List (List Int)) (h1 : t.length = n) (h2 : n ≤ 1048576) (h3 : ls.flatten.length ≤ 1048576) (h4 : ls.length ≤ 16777216) (h5 : key.length = 32) (h6 : nonce.length = 12) : wpE FASeal (Try.f19.body.getD .skip) ⟨Try.f19.ntmps, slotsOf 0 (kASeal (key, nonce, n, t, ls)).avs, (kASeal (key, nonce, n, t, ls)).mem⟩ (finK Try.prog Try.f19.results.toList (postN (kASeal (key, nonce, n, t, ls)))) := by
  with_reducible refine Eq.mpr (vcASeal key nonce n t ls) ?_
  have ht : totA 1048576 0 ls = ls.flatten.length := by rw [totA_le (by omega)]; omega
  have l1 := mixA_len key nonce 1 t
  simp only [ht, Int.toNat_natCast, List.drop_zero]
  have e9 : mixA key nonce 1 t ++ List.take 16 (tagS key nonce ls (mixA key nonce 1 t) ls.flatten.length) = sealT key nonce ls t := by rw [take16 (tagS_bys ..).2]; rfl
  and_intros <;> first | omega | exact True.intro | exact decide_eq_false (by omega) | (intro l hl; have := mem_flat l hl; omega) | with_reducible assumption | with_reducible rfl | kernel_rfl
set_option maxHeartbeats 8000000 in
theorem cASeal_ok : SpecOK Try.prog cASeal := by
  refine callG_ok (c := Try.f19.body.getD .skip) mixed Try.func19 (by kernel_rfl) rfl (fun x hob => ?_)
  obtain ⟨key, nonce, n, t, ls⟩ := x
  have hob : (t.length = n) ∧ (n ≤ 1048576) ∧ (ls.flatten.length ≤ 1048576) ∧ (ls.length ≤ 16777216) ∧ (key.length = 32) ∧ (nonce.length = 12) := hob
  obtain ⟨h1, h2, h3, h4, h5, h6⟩ := hob
  exact ⟨FASeal, rfl, evOKs ⟨.inl ⟨cATotal_ok, by kernel_rfl, gl_nil rfl⟩, ⟨.inl ⟨cAMix_ok, by kernel_rfl, gl_nil rfl⟩, ⟨.inl ⟨cATag_ok, by kernel_rfl, gl_nil rfl⟩, trivial⟩⟩⟩, rfl, rfl, by with_reducible exact wpASeal key nonce n t ls h1 h2 h3 h4 h5 h6⟩

def fcOpen (d : Nat) : Option Bool := bif Nat.beq d 16 || Nat.beq d 19 || Nat.beq d 23 then some false else bif Nat.beq d 41 then some true else none
def kAOpen : (List Int) × (List Int) × Nat × (List Int) × (List (List Int)) → ClN := fun (key, nonce, n, s, ls) => ⟨[.o (.g [.many 32 (.i .u8 key), .many 12 (.i .u8 nonce)]), .o (.c (.rs 1 n (.i .u8 s))), .o (.c (.rss ls))], [], .t [.c (.os 0 1 (n - 16)), .c (.v (.int .i64 0))], [.grow 5 1 (.i .u8 (mixA key nonce 1 (s.take (n - 16))))], [2], [s.length = n, n ≤ 1048592, ls.flatten.length ≤ 1048576, ls.length ≤ 16777216, key.length = 32, nonce.length = 12, 16 ≤ n, Bys s, tagS key nonce ls (s.take (n - 16)) ls.flatten.length = s.drop (n - 16)]⟩
noncomputable def FAOpen : FnE := ⟨mkEv Try.prog [] [cATotal, cAMix, cATag, cEqual] 0 fcOpen, [0, 1, 2, 3, 6, 7, 8, 9, 10, 11, 20, 23, 42], fun _ _ => .rounds 0⟩
def mAOpen : List AV → (Nat → Option MB) → Option (List Nat × ((List Int) × (List Int) × Nat × (List Int) × (List (List Int))))
  | [.o (.g [.many 32 (.i .u8 key), .many 12 (.i .u8 nonce)]), .o (.c c), .o (.c d)], lk => match slI lk c with
    | some (n, t) => match slS lk d with
      | some ls => some ([], key, nonce, n, t, ls)
      | none => none
    | none => none
  | _, _ => none
noncomputable def cAOpen : Spec := callG 21 Try.f21.ntmps mAOpen kAOpen
theorem vcAOpen (key nonce : List Int) (n : Nat) (s : List Int) (ls : List (List Int)) : (wpE FAOpen (Try.f21.body.getD .skip) ⟨Try.f21.ntmps, slotsOf 0 (kAOpen (key, nonce, n, s, ls)).avs, (kAOpen (key, nonce, n, s, ls)).mem⟩ (finK Try.prog Try.f21.results.toList (postN (kAOpen (key, nonce, n, s, ls))))) = (let x1 := IntKind.wrap IntKind.i64 ((↑n : Int) - (16 : Int)); let x2 := List.take (Int.toNat x1) (List.drop (0 : Nat) s); let x3 := List.take (16 : Nat) (List.drop (0 : Nat) (tagS key nonce ls x2 (Int.toNat (↑(totA (1048576 : Nat) (0 : Nat) ls) : Int)))); let x4 := List.take (n - Int.toNat x1) (List.drop (Int.toNat x1) s); true = true ∧ true = true ∧ ls = ls ∧ (∀ (l : List Int), l ∈ ls → List.length l ≤ (140737488355328 : Nat)) ∧ List.length ls ≤ (9223372036854775807 : Nat) ∧ decide ((1048592 : Int) < (↑n : Int)) = false ∧ decide ((1048576 : Int) < (↑(totA (1048576 : Nat) (0 : Nat) ls) : Int)) = false ∧ decide ((↑n : Int) < (16 : Int)) = false ∧ (0 : Int) ≤ x1 ∧ Int.toNat x1 ≤ n ∧ (0 : Int) ≤ x1 ∧ Int.toNat x1 ≤ n ∧ true = true ∧ (32 : Nat) = (32 : Nat) ∧ key = key ∧ (12 : Nat) = (12 : Nat) ∧ nonce = nonce ∧ true = true ∧ Int.toNat x1 = Int.toNat x1 ∧ x2 = x2 ∧ true = true ∧ ls = ls ∧ Value.int IntKind.i64 (↑(totA (1048576 : Nat) (0 : Nat) ls) : Int) = Value.int IntKind.i64 (↑(Int.toNat (↑(totA (1048576 : Nat) (0 : Nat) ls) : Int)) : Int) ∧ List.length x2 = Int.toNat x1 ∧ Int.toNat x1 ≤ (16777216 : Nat) ∧ List.length key = (32 : Nat) ∧ List.length nonce = (12 : Nat) ∧ Int.toNat (↑(totA (1048576 : Nat) (0 : Nat) ls) : Int) ≤ (16777216 : Nat) ∧ List.length ls ≤ (16777216 : Nat) ∧ (16 : Nat) ≤ (9223372036854775807 : Nat) ∧ decide (x3 = x4) = true ∧ true = true ∧ true = true ∧ (16 : Nat) = (16 : Nat) ∧ x3 = x3 ∧ (16 : Nat) ≤ (16 : Nat) ∧ true = true ∧ n - Int.toNat x1 = n - Int.toNat x1 ∧ x4 = x4 ∧ (16 : Nat) = (16 : Nat) ∧ List.length x4 = n - Int.toNat x1 ∧ (16 : Nat) = n - Int.toNat x1 ∧ (16 : Nat) ≤ (140737488355328 : Nat) ∧ Bys x3 ∧ Bys x4 ∧ true = true ∧ (32 : Nat) = (32 : Nat) ∧ key = key ∧ (12 : Nat) = (12 : Nat) ∧ nonce = nonce ∧ true = true ∧ Int.toNat x1 = Int.toNat x1 ∧ x2 = x2 ∧ List.length x2 = Int.toNat x1 ∧ Int.toNat x1 ≤ (16777216 : Nat) ∧ List.length key = (32 : Nat) ∧ List.length nonce = (12 : Nat) ∧ true = true ∧ true = true ∧ (46 : Nat) = (46 : Nat) ∧ (5 : Nat) = (5 : Nat) ∧ (1 : Nat) = (1 : Nat) ∧ mixA key nonce (1 : Int) x2 = mixA key nonce (1 : Int) (List.take (n - (16 : Nat)) s) ∧ getL [(2 : Nat)] (0 : Nat) = some (nameN [] (Nat.add (Nat.add (2 : Nat) (0 : Nat)) (0 : Nat)) (0 : Nat)) ∧ (1 : Nat) = (1 : Nat) ∧ List.length x2 = n - (16 : Nat) ∧ Value.int IntKind.i64 (0 : Int) = Value.int IntKind.i64 (0 : Int)) := by kernel_rfl

set_option maxHeartbeats 8000000 in
theorem wpAOpen (key nonce : List Int) (n : Nat) (s : List Int) (ls : List (List Int)) (h1 : s.length = n) (h2 : n ≤ 1048592) (h3 : ls.flatten.length ≤ 1048576) (h4 : ls.length ≤ 16777216) (h5 : key.length = 32) (h6 : nonce.length = 12) (h7 : 16 ≤ n) (h8 : Bys s) (h9 : tagS key nonce ls (s.take (n - 16)) ls.flatten.length = s.drop (n - 16)) : wpE FAOpen (Try.f21.body.getD .skip) ⟨Try.f21.ntmps, slotsOf 0 (kAOpen (key, nonce, n, s, ls)).avs, (kAOpen (key, nonce, n, s, ls)).mem⟩ (finK Try.prog Try.f21.results.toList (postN (kAOpen (key, nonce, n, s, ls)))) := by
  with_reducible refine Eq.mpr (vcAOpen key nonce n s ls) ?_
  have ht : totA 1048576 0 ls = ls.flatten.length := by rw [totA_le (by omega)]; omega
  have hx : IntKind.wrap .i64 ((n : Int) - 16) = ((n - 16 : Nat) : Int) := by rw [IntKind.wrap_i64]; omega
  have l4 : List.take (n - (n - 16)) (List.drop (n - 16) s) = List.drop (n - 16) s := List.take_of_length_le (by rw [List.length_drop]; omega)
  simp only [ht, hx, Int.toNat_natCast, List.drop_zero, l4, take16 (tagS_bys ..).2]
  have l2 : (List.take (n - 16) s).length = n - 16 := by rw [List.length_take]; omega
  have l3 : (List.drop (n - 16) s).length = n - (n - 16) := by rw [List.length_drop]; omega
  have b3 : Bys (List.drop (n - 16) s) := h8.drop _
  have b4 := (tagS_bys key nonce ls (List.take (n - 16) s) ls.flatten.length).1
  have d9 : decide (tagS key nonce ls (List.take (n - 16) s) ls.flatten.length = List.drop (n - 16) s) = true := decide_eq_true h9
  and_intros <;> first | omega | exact True.intro | with_reducible assumption | exact decide_eq_false (by omega) | (intro l hl; have := mem_flat l hl; omega) | with_reducible rfl | kernel_rfl
set_option maxHeartbeats 8000000 in
theorem cAOpen_ok : SpecOK Try.prog cAOpen := by
  refine callG_ok (c := Try.f21.body.getD .skip) mixed Try.func21 (by kernel_rfl) rfl (fun x hob => ?_)
  obtain ⟨key, nonce, n, s, ls⟩ := x
  have hob : (s.length = n) ∧ (n ≤ 1048592) ∧ (ls.flatten.length ≤ 1048576) ∧ (ls.length ≤ 16777216) ∧ (key.length = 32) ∧ (nonce.length = 12) ∧ (16 ≤ n) ∧ (Bys s) ∧ (tagS key nonce ls (s.take (n - 16)) ls.flatten.length = s.drop (n - 16)) := hob
  obtain ⟨h1, h2, h3, h4, h5, h6, h7, h8, h9⟩ := hob
  exact ⟨FAOpen, rfl, evOKs ⟨.inl ⟨cATotal_ok, by kernel_rfl, gl_nil rfl⟩, ⟨.inl ⟨cAMix_ok, by kernel_rfl, gl_nil rfl⟩, ⟨.inl ⟨cATag_ok, by kernel_rfl, gl_nil rfl⟩, ⟨.inl ⟨cEqual_ok, by kernel_rfl, gl_nil rfl⟩, trivial⟩⟩⟩⟩, rfl, rfl, by with_reducible exact wpAOpen key nonce n s ls h1 h2 h3 h4 h5 h6 h7 h8 h9⟩

def fcOpenT (d : Nat) : Option Bool := bif Nat.beq d 16 || Nat.beq d 19 || Nat.beq d 23 || Nat.beq d 41 then some false else none
def kAOpenT : (List Int) × (List Int) × Nat × (List Int) × (List (List Int)) → ClN := fun (key, nonce, n, s, ls) => ⟨[.o (.g [.many 32 (.i .u8 key), .many 12 (.i .u8 nonce)]), .o (.c (.rs 1 n (.i .u8 s))), .o (.c (.rss ls))], [], .t [.c (.v (.slice none 0 0)), .c (.v (.int .i64 100))], [], [], [s.length = n, n ≤ 1048592, ls.flatten.length ≤ 1048576, ls.length ≤ 16777216, key.length = 32, nonce.length = 12, 16 ≤ n, Bys s, tagS key nonce ls (s.take (n - 16)) ls.flatten.length ≠ s.drop (n - 16)]⟩
noncomputable def FAOpenT : FnE := ⟨mkEv Try.prog [] [cATotal, cAMix, cATag, cEqual] 0 fcOpenT, [0, 1, 2, 3, 6, 7, 8, 9, 10, 11, 20, 23, 42], fun _ _ => .rounds 0⟩
def mAOpenT : List AV → (Nat → Option MB) → Option (List Nat × ((List Int) × (List Int) × Nat × (List Int) × (List (List Int))))
  | [.o (.g [.many 32 (.i .u8 key), .many 12 (.i .u8 nonce)]), .o (.c c), .o (.c d)], lk => match slI lk c with
    | some (n, t) => match slS lk d with
      | some ls => some ([], key, nonce, n, t, ls)
      | none => none
    | none => none
  | _, _ => none
noncomputable def cAOpenT : Spec := callG 21 Try.f21.ntmps mAOpenT kAOpenT
theorem vcAOpenT (key nonce : List Int) (n : Nat) (s : List Int) (ls : List (List Int)) : (wpE FAOpenT (Try.f21.body.getD .skip) ⟨Try.f21.ntmps, slotsOf 0 (kAOpenT (key, nonce, n, s, ls)).avs, (kAOpenT (key, nonce, n, s, ls)).mem⟩ (finK Try.prog Try.f21.results.toList (postN (kAOpenT (key, nonce, n, s, ls))))) = (let x1 := IntKind.wrap IntKind.i64 ((↑n : Int) - (16 : Int)); let x2 := List.take (Int.toNat x1) (List.drop (0 : Nat) s); let x3 := List.take (16 : Nat) (List.drop (0 : Nat) (tagS key nonce ls x2 (Int.toNat (↑(totA (1048576 : Nat) (0 : Nat) ls) : Int)))); let x4 := List.take (n - Int.toNat x1) (List.drop (Int.toNat x1) s); true = true ∧ true = true ∧ ls = ls ∧ (∀ (l : List Int), l ∈ ls → List.length l ≤ (140737488355328 : Nat)) ∧ List.length ls ≤ (9223372036854775807 : Nat) ∧ decide ((1048592 : Int) < (↑n : Int)) = false ∧ decide ((1048576 : Int) < (↑(totA (1048576 : Nat) (0 : Nat) ls) : Int)) = false ∧ decide ((↑n : Int) < (16 : Int)) = false ∧ (0 : Int) ≤ x1 ∧ Int.toNat x1 ≤ n ∧ (0 : Int) ≤ x1 ∧ Int.toNat x1 ≤ n ∧ true = true ∧ (32 : Nat) = (32 : Nat) ∧ key = key ∧ (12 : Nat) = (12 : Nat) ∧ nonce = nonce ∧ true = true ∧ Int.toNat x1 = Int.toNat x1 ∧ x2 = x2 ∧ true = true ∧ ls = ls ∧ Value.int IntKind.i64 (↑(totA (1048576 : Nat) (0 : Nat) ls) : Int) = Value.int IntKind.i64 (↑(Int.toNat (↑(totA (1048576 : Nat) (0 : Nat) ls) : Int)) : Int) ∧ List.length x2 = Int.toNat x1 ∧ Int.toNat x1 ≤ (16777216 : Nat) ∧ List.length key = (32 : Nat) ∧ List.length nonce = (12 : Nat) ∧ Int.toNat (↑(totA (1048576 : Nat) (0 : Nat) ls) : Int) ≤ (16777216 : Nat) ∧ List.length ls ≤ (16777216 : Nat) ∧ (16 : Nat) ≤ (9223372036854775807 : Nat) ∧ decide (x3 = x4) = false ∧ true = true ∧ true = true ∧ (16 : Nat) = (16 : Nat) ∧ x3 = x3 ∧ (16 : Nat) ≤ (16 : Nat) ∧ true = true ∧ n - Int.toNat x1 = n - Int.toNat x1 ∧ x4 = x4 ∧ (16 : Nat) = (16 : Nat) ∧ List.length x4 = n - Int.toNat x1 ∧ (16 : Nat) = n - Int.toNat x1 ∧ (16 : Nat) ≤ (140737488355328 : Nat) ∧ Bys x3 ∧ Bys x4 ∧ true = true ∧ true = true ∧ (46 : Nat) = (46 : Nat) ∧ Value.slice none (0 : Nat) (0 : Nat) = Value.slice none (0 : Nat) (0 : Nat) ∧ Value.int IntKind.i64 (100 : Int) = Value.int IntKind.i64 (100 : Int)) := by kernel_rfl

set_option maxHeartbeats 8000000 in
theorem wpAOpenT (key nonce : List Int) (n : Nat) (s : List Int) (ls : List (List Int)) (h1 : s.length = n) (h2 : n ≤ 1048592) (h3 : ls.flatten.length ≤ 1048576) (h4 : ls.length ≤ 16777216) (h5 : key.length = 32) (h6 : nonce.length = 12) (h7 : 16 ≤ n) (h8 : Bys s) (h9 : tagS key nonce ls (s.take (n - 16)) ls.flatten.length ≠ s.drop (n - 16)) : wpE FAOpenT (Try.f21.body.getD .skip) ⟨Try.f21.ntmps, slotsOf 0 (kAOpenT (key, nonce, n, s, ls)).avs, (kAOpenT (key, nonce, n, s, ls)).mem⟩ (finK Try.prog Try.f21.results.toList (postN (kAOpenT (key, nonce, n, s, ls)))) := by
  with_reducible refine Eq.mpr (vcAOpenT key nonce n s ls) ?_
  have ht : totA 1048576 0 ls = ls.flatten.length := by rw [totA_le (by omega)]; omega
  have hx : IntKind.wrap .i64 ((n : Int) - 16) = ((n - 16 : Nat) : Int) := by rw [IntKind.wrap_i64]; omega
  have l4 : List.take (n - (n - 16)) (List.drop (n - 16) s) = List.drop (n - 16) s := List.take_of_length_le (by rw [List.length_drop]; omega)
  simp only [ht, hx, Int.toNat_natCast, List.drop_zero, l4, take16 (tagS_bys ..).2]
  have l2 : (List.take (n - 16) s).length = n - 16 := by rw [List.length_take]; omega
  have l3 : (List.drop (n - 16) s).length = n - (n - 16) := by rw [List.length_drop]; omega
  have b3 : Bys (List.drop (n - 16) s) := h8.drop _
  have b4 := (tagS_bys key nonce ls (List.take (n - 16) s) ls.flatten.length).1
  have d9 : decide (tagS key nonce ls (List.take (n - 16) s) ls.flatten.length = List.drop (n - 16) s) = false := decide_eq_false h9
  and_intros <;> first | omega | exact True.intro | with_reducible assumption | exact decide_eq_false (by omega) | (intro l hl; have := mem_flat l hl; omega) | with_reducible rfl | kernel_rfl
set_option maxHeartbeats 8000000 in
theorem cAOpenT_ok : SpecOK Try.prog cAOpenT := by
  refine callG_ok (c := Try.f21.body.getD .skip) mixed Try.func21 (by kernel_rfl) rfl (fun x hob => ?_)
  obtain ⟨key, nonce, n, s, ls⟩ := x
  have hob : (s.length = n) ∧ (n ≤ 1048592) ∧ (ls.flatten.length ≤ 1048576) ∧ (ls.length ≤ 16777216) ∧ (key.length = 32) ∧ (nonce.length = 12) ∧ (16 ≤ n) ∧ (Bys s) ∧ (tagS key nonce ls (s.take (n - 16)) ls.flatten.length ≠ s.drop (n - 16)) := hob
  obtain ⟨h1, h2, h3, h4, h5, h6, h7, h8, h9⟩ := hob
  exact ⟨FAOpenT, rfl, evOKs ⟨.inl ⟨cATotal_ok, by kernel_rfl, gl_nil rfl⟩, ⟨.inl ⟨cAMix_ok, by kernel_rfl, gl_nil rfl⟩, ⟨.inl ⟨cATag_ok, by kernel_rfl, gl_nil rfl⟩, ⟨.inl ⟨cEqual_ok, by kernel_rfl, gl_nil rfl⟩, trivial⟩⟩⟩⟩, rfl, rfl, by with_reducible exact wpAOpenT key nonce n s ls h1 h2 h3 h4 h5 h6 h7 h8 h9⟩

def fcOpenS (d : Nat) : Option Bool := bif Nat.beq d 16 || Nat.beq d 19 then some false else bif Nat.beq d 23 then some true else none
def kAOpenS : (List Int) × (List Int) × Nat × (List Int) × (List (List Int)) → ClN := fun (key, nonce, n, s, ls) => ⟨[.o (.g [.many 32 (.i .u8 key), .many 12 (.i .u8 nonce)]), .o (.c (.rs 1 n (.i .u8 s))), .o (.c (.rss ls))], [], .t [.c (.v (.slice none 0 0)), .c (.v (.int .i64 111))], [], [], [s.length = n, n < 16, ls.flatten.length ≤ 1048576, ls.length ≤ 16777216]⟩
noncomputable def FAOpenS : FnE := ⟨mkEv Try.prog [] [cATotal] 0 fcOpenS, [0, 1, 2, 3, 6, 7, 8, 9, 10, 11, 20, 23, 42], fun _ _ => .rounds 0⟩
def mAOpenS : List AV → (Nat → Option MB) → Option (List Nat × ((List Int) × (List Int) × Nat × (List Int) × (List (List Int))))
  | [.o (.g [.many 32 (.i .u8 key), .many 12 (.i .u8 nonce)]), .o (.c c), .o (.c d)], lk => match slI lk c with
    | some (n, t) => match slS lk d with
      | some ls => some ([], key, nonce, n, t, ls)
      | none => none
    | none => none
  | _, _ => none
noncomputable def cAOpenS : Spec := callG 21 Try.f21.ntmps mAOpenS kAOpenS
theorem vcAOpenS (key nonce : List Int) (n : Nat) (s : List Int) (ls : List (List Int)) : (wpE FAOpenS (Try.f21.body.getD .skip) ⟨Try.f21.ntmps, slotsOf 0 (kAOpenS (key, nonce, n, s, ls)).avs, (kAOpenS (key, nonce, n, s, ls)).mem⟩ (finK Try.prog Try.f21.results.toList (postN (kAOpenS (key, nonce, n, s, ls))))) = (true = true ∧ true = true ∧ ls = ls ∧ (∀ (l : List Int), l ∈ ls → List.length l ≤ (140737488355328 : Nat)) ∧ List.length ls ≤ (9223372036854775807 : Nat) ∧ decide ((1048592 : Int) < (↑n : Int)) = false ∧ decide ((1048576 : Int) < (↑(totA (1048576 : Nat) (0 : Nat) ls) : Int)) = false ∧ decide ((↑n : Int) < (16 : Int)) = true ∧ true = true ∧ true = true ∧ (46 : Nat) = (46 : Nat) ∧ Value.slice none (0 : Nat) (0 : Nat) = Value.slice none (0 : Nat) (0 : Nat) ∧ Value.int IntKind.i64 (111 : Int) = Value.int IntKind.i64 (111 : Int)) := by kernel_rfl

set_option maxHeartbeats 8000000 in
theorem wpAOpenS (key nonce : List Int) (n : Nat) (s : List Int) (ls : List (List Int)) (h1 : s.length = n) (h2 : n < 16) (h3 : ls.flatten.length ≤ 1048576) (h4 : ls.length ≤ 16777216) : wpE FAOpenS (Try.f21.body.getD .skip) ⟨Try.f21.ntmps, slotsOf 0 (kAOpenS (key, nonce, n, s, ls)).avs, (kAOpenS (key, nonce, n, s, ls)).mem⟩ (finK Try.prog Try.f21.results.toList (postN (kAOpenS (key, nonce, n, s, ls)))) := by
  with_reducible refine Eq.mpr (vcAOpenS key nonce n s ls) ?_
  have ht : totA 1048576 0 ls = ls.flatten.length := by rw [totA_le (by omega)]; omega
  simp only [ht]
  and_intros <;> first | omega | exact True.intro | exact decide_eq_false (by omega) | exact decide_eq_true (by omega) | (intro l hl; have := mem_flat l hl; omega) | with_reducible rfl | kernel_rfl
set_option maxHeartbeats 8000000 in
theorem cAOpenS_ok : SpecOK Try.prog cAOpenS := by
  refine callG_ok (c := Try.f21.body.getD .skip) mixed Try.func21 (by kernel_rfl) rfl (fun x hob => ?_)
  obtain ⟨key, nonce, n, s, ls⟩ := x
  have hob : (s.length = n) ∧ (n < 16) ∧ (ls.flatten.length ≤ 1048576) ∧ (ls.length ≤ 16777216) := hob
  obtain ⟨h1, h2, h3, h4⟩ := hob
  exact ⟨FAOpenS, rfl, evOKs ⟨.inl ⟨cATotal_ok, by kernel_rfl, gl_nil rfl⟩, trivial⟩, rfl, rfl, by with_reducible exact wpAOpenS key nonce n s ls h1 h2 h3 h4⟩
end Go.Proofs.Ythlleheeghiljaa
namespace Go.Proofs.Ythlleheeghiljaa
open Go.RowKit
/-- Of some calls alone. -/
def restr (p : List AV → Bool) (s : Spec) : Spec := ⟨s.f, s.tg, fun avs cts base => bif p avs then s.app avs cts base else none, s.gl⟩
theorem restr_ok {P : Program} {p : List AV → Bool} {s : Spec} (h : SpecOK P s) : SpecOK P (restr p s) := by
  intro avs gm base r hr ho
  unfold restr at hr ⊢
  simp only [] at hr ⊢
  cases hp : p avs with
  | false => rw [hp] at hr; cases hr
  | true => rw [hp] at hr; exact h avs gm base r hr ho
end Go.Proofs.Ythlleheeghiljaa
namespace Go.Proofs.Ythlleheeghiljaa
open Go.RowKit
set_option maxRecDepth 100000

theorem tagS_cong {key nonce m : List Int} {ls ls' : List (List Int)} {k : Nat} (h : ls.flatten = ls'.flatten) : tagS key nonce ls m k = tagS key nonce ls' m k := by
  unfold tagS; rw [List.flatten_append, List.flatten_append, h]
theorem mixA_bys {key nonce t : List Int} {x : Int} : Bys (mixA key nonce x t) := by
  intro y hy
  obtain ⟨p, hp, rfl⟩ := List.getElem_of_mem hy
  have hp' : p < t.length := by rw [mixA_len] at hp; exact hp
  have e : (mixA key nonce x t)[p] = (mixA key nonce x t).getD p 0 := by rw [List.getD_eq_getElem?_getD, List.getElem?_eq_getElem hp]; rfl
  rw [e, mixA_at _ _ _ _ _ hp']
  exact xorB_in _ _
theorem strEq_refl (s : ByteArray) : strEq s s = true := by unfold strEq; simp
def pSub : List AV → Bool
  | [_, .o (.c (.sub _ _ _ _)), _] => true
  | _ => false
noncomputable def cOpenB : Spec := orS (restr pSub cAOpenS) cAOpen
theorem cOpenB_ok : SpecOK Try.prog cOpenB := orS_ok (restr_ok cAOpenS_ok) cAOpen_ok rfl rfl rfl
end Go.Proofs.Ythlleheeghiljaa
