/-
  frame: Encode.
-/
import Derived.Test.YtcbnbhadanldpabDoorD1
namespace Go.Proofs.YtcbnbhadanldpabDoor
open Go.RowKit
set_option maxRecDepth 100000

/-- A slice's numbers, where its elements have es cells. -/
def slE (lk : Nat → Option MB) (es : Nat) : C → Option (Nat × List Int)
  | .v (.slice none 0 0) => some (0, [])
  | c => match rsV lk es c with
    | some (n, .i _ l, _) => some (n, l)
    | _ => none
def be4 (x : Int) : List Int := [IntKind.wrap .u8 (sShr .u32 x 24), IntKind.wrap .u8 (sShr .u32 x 16), IntKind.wrap .u8 (sShr .u32 x 8), IntKind.wrap .u8 x]
def kAppN : Nat × (List Int) × Int → ClN := fun (n, l, x) => ⟨[.o (.c (.os 0 1 n)), vv (.int .u32 x)], [.grow 5 1 (.i .u8 l)], .o (.c (.os 1 1 (n + 4))), [.dead, .grow 5 1 (.i .u8 (l ++ be4 x))], [0, 2], [l.length = n, n ≤ 1000000]⟩
noncomputable def FAppN : FnE := ⟨mkEv Tryd.prog [] [] 1, [0, 1, 4], fun _ _ => .rounds 0⟩
def mAppN : List AV → (Nat → Option MB) → Option (List Nat × (Nat × (List Int) × Int))
  | [.o (.c (.os i 1 n)), .o (.c (.v (.int .u32 x)))], lk => match lk i with
    | some (.grow 5 1 (.i .u8 l)) => some ([i], n, l, x)
    | _ => none
  | _, _ => none
noncomputable def cAppN : Spec := callG 29 Tryd.f29.ntmps mAppN kAppN
theorem vcAppN (n : Nat) (l : List Int) (x : Int) : (wpE FAppN (Tryd.f29.body.getD .skip) ⟨Tryd.f29.ntmps, slotsOf 0 (kAppN (n, l, x)).avs, (kAppN (n, l, x)).mem⟩ (finK Tryd.prog Tryd.f29.results.toList (postN (kAppN (n, l, x))))) = ((0 : Int) ≤ (24 : Int) ∧ (0 : Int) ≤ (16 : Int) ∧ (0 : Int) ≤ (8 : Int) ∧ (4 : Nat) = (4 : Nat) ∧ List.length l = n ∧ (n + (4 : Nat)) * (1 : Nat) ≤ (140737488355328 : Nat) ∧ n + (4 : Nat) ≤ (9223372036854775807 : Nat) ∧ true = true ∧ true = true ∧ (19 : Nat) = (19 : Nat) ∧ (5 : Nat) = (5 : Nat) ∧ (1 : Nat) = (1 : Nat) ∧ l ++ [IntKind.wrap IntKind.u8 (sShr IntKind.u32 x (24 : Int)), IntKind.wrap IntKind.u8 (sShr IntKind.u32 x (16 : Int)), IntKind.wrap IntKind.u8 (sShr IntKind.u32 x (8 : Int)), IntKind.wrap IntKind.u8 x] = l ++ be4 x ∧ getL (ClN.ren (kAppN (n, l, x))) (1 : Nat) = some (Nat.add (Nat.add (Nat.add (Nat.add (Nat.add (Nat.add (Nat.add (Nat.add (Nat.add (Nat.add (Nat.add (Nat.add (Nat.add (1 : Nat) (0 : Nat)) (0 : Nat)) (0 : Nat)) (0 : Nat)) (0 : Nat)) (0 : Nat)) (0 : Nat)) (0 : Nat)) (0 : Nat)) (0 : Nat)) (0 : Nat)) (0 : Nat)) (1 : Nat)) ∧ (1 : Nat) = (1 : Nat) ∧ n + (4 : Nat) = n + (4 : Nat)) := by kernel_rfl

set_option maxHeartbeats 8000000 in
theorem wpAppN (n : Nat) (l : List Int) (x : Int) (h1 : l.length = n) (h2 : n ≤ 1000000) : wpE FAppN (Tryd.f29.body.getD .skip) ⟨Tryd.f29.ntmps, slotsOf 0 (kAppN (n, l, x)).avs, (kAppN (n, l, x)).mem⟩ (finK Tryd.prog Tryd.f29.results.toList (postN (kAppN (n, l, x)))) := by
  with_reducible refine Eq.mpr (vcAppN n l x) ?_
  and_intros <;> first | omega | exact True.intro | kernel_rfl
set_option maxHeartbeats 8000000 in
theorem cAppN_ok : SpecOK Tryd.prog cAppN := by
  refine callG_ok (c := Tryd.f29.body.getD .skip) mixed Tryd.func29 (by kernel_rfl) rfl (fun x hob => ?_)
  obtain ⟨n, l, x⟩ := x
  have hob : (l.length = n) ∧ (n ≤ 1000000) := hob
  obtain ⟨h1, h2⟩ := hob
  exact ⟨FAppN, rfl, evOKs trivial, rfl, rfl, by with_reducible exact wpAppN n l x h1 h2⟩

def frA (K : Int) (kn : Nat) (lk : List Int) (nn : Nat) (ln : List Int) (sn : Nat) (ls : List Int) (dn : Nat) (ld : List Int) : AV := .o (.g [.one (.v (.int .i64 K)), .one (.rs 32 kn (.i .u8 lk)), .one (.rs 1 nn (.i .u32 ln)), .one (.rs 64 sn (.i .u8 ls)), .one (.rs 1 dn (.i .u8 ld))])
def fcFit (d : Nat) : Option Bool := bif Nat.beq d 10 || Nat.beq d 17 || Nat.beq d 25 || Nat.beq d 34 then some true else none
def mFr (lk : Nat → Option MB) (c1 c2 c3 c4 : C) : Option (Nat × List Int × Nat × List Int × Nat × List Int × Nat × List Int) := match slE lk 32 c1 with
  | some (kn, lk') => match slE lk 1 c2 with
    | some (nn, ln) => match slE lk 64 c3 with
      | some (sn, ls) => match slE lk 1 c4 with
        | some (dn, ld) => some (kn, lk', nn, ln, sn, ls, dn, ld)
        | none => none
      | none => none
    | none => none
  | none => none
theorem dec_self (n : Nat) : decide ((n : Int) = (n : Int)) = true := decide_eq_true rfl
def kFitsT : Int × Nat × (List Int) × Nat × (List Int) × Nat × (List Int) × Nat × (List Int) → ClN := fun (K, kn, lk, nn, ln, sn, ls, dn, ld) => ⟨[.o (.g [.many 4 (.v (sh kn nn sn true))]), frA K kn lk nn ln sn ls dn ld], [], vv (.bool true), [], [], []⟩
noncomputable def FFitsT : FnE := ⟨mkEv Tryd.prog [] [] 0 fcFit, [0, 1, 2, 3, 4], fun _ _ => .rounds 0⟩
def mFitsT : List AV → (Nat → Option MB) → Option (List Nat × (Int × Nat × (List Int) × Nat × (List Int) × Nat × (List Int) × Nat × (List Int)))
  | [.o (.g [.many 4 (.v [_, _, _, .bool true])]), .o (.g [.one (.v (.int .i64 K)), .one c1, .one c2, .one c3, .one c4])], lk => match mFr lk c1 c2 c3 c4 with
    | some x => some ([], K, x)
    | none => none
  | _, _ => none
noncomputable def cFitsT : Spec := callG 27 Tryd.f27.ntmps mFitsT kFitsT
theorem vcFitsT (K : Int) (kn : Nat) (lk : List Int) (nn : Nat) (ln : List Int) (sn : Nat) (ls : List Int) (dn : Nat) (ld : List Int) : (wpE FFitsT (Tryd.f27.body.getD .skip) ⟨Tryd.f27.ntmps, slotsOf 0 (kFitsT (K, kn, lk, nn, ln, sn, ls, dn, ld)).avs, (kFitsT (K, kn, lk, nn, ln, sn, ls, dn, ld)).mem⟩ (finK Tryd.prog Tryd.f27.results.toList (postN (kFitsT (K, kn, lk, nn, ln, sn, ls, dn, ld))))) = ((0 : Nat) < (4 : Nat) ∧ decide ((↑kn : Int) = (↑kn : Int)) = true ∧ (1 : Nat) < (4 : Nat) ∧ decide ((↑nn : Int) = (↑nn : Int)) = true ∧ (2 : Nat) < (4 : Nat) ∧ decide ((↑sn : Int) = (↑sn : Int)) = true ∧ (3 : Nat) < (4 : Nat) ∧ true = true ∧ true = true ∧ (37 : Nat) = (37 : Nat) ∧ (bif true then bif true then Value.bool true else undef else Value.bool false) = Value.bool true) := by kernel_rfl

set_option maxHeartbeats 8000000 in
theorem wpFitsT (K : Int) (kn : Nat) (lk : List Int) (nn : Nat) (ln : List Int) (sn : Nat) (ls : List Int) (dn : Nat) (ld : List Int) : wpE FFitsT (Tryd.f27.body.getD .skip) ⟨Tryd.f27.ntmps, slotsOf 0 (kFitsT (K, kn, lk, nn, ln, sn, ls, dn, ld)).avs, (kFitsT (K, kn, lk, nn, ln, sn, ls, dn, ld)).mem⟩ (finK Tryd.prog Tryd.f27.results.toList (postN (kFitsT (K, kn, lk, nn, ln, sn, ls, dn, ld)))) := by
  with_reducible refine Eq.mpr (vcFitsT K kn lk nn ln sn ls dn ld) ?_
  and_intros <;> first | omega | exact True.intro | exact dec_self _ | kernel_rfl
set_option maxHeartbeats 8000000 in
theorem cFitsT_ok : SpecOK Tryd.prog cFitsT := by
  refine callG_ok (c := Tryd.f27.body.getD .skip) mixed Tryd.func27 (by kernel_rfl) rfl (fun x hob => ?_)
  obtain ⟨K, kn, lk, nn, ln, sn, ls, dn, ld⟩ := x
  exact ⟨FFitsT, rfl, evOKs trivial, rfl, rfl, by with_reducible exact wpFitsT K kn lk nn ln sn ls dn ld ⟩

def kFitsF : Int × Nat × (List Int) × Nat × (List Int) × Nat × (List Int) × Nat × (List Int) → ClN := fun (K, kn, lk, nn, ln, sn, ls, dn, ld) => ⟨[.o (.g [.many 4 (.v (sh kn nn sn false))]), frA K kn lk nn ln sn ls dn ld], [], vv (.bool true), [], [], [dn = 0]⟩
noncomputable def FFitsF : FnE := ⟨mkEv Tryd.prog [] [] 0 fcFit, [0, 1, 2, 3, 4], fun _ _ => .rounds 0⟩
def mFitsF : List AV → (Nat → Option MB) → Option (List Nat × (Int × Nat × (List Int) × Nat × (List Int) × Nat × (List Int) × Nat × (List Int)))
  | [.o (.g [.many 4 (.v [_, _, _, .bool false])]), .o (.g [.one (.v (.int .i64 K)), .one c1, .one c2, .one c3, .one c4])], lk => match mFr lk c1 c2 c3 c4 with
    | some x => some ([], K, x)
    | none => none
  | _, _ => none
noncomputable def cFitsF : Spec := callG 27 Tryd.f27.ntmps mFitsF kFitsF
theorem vcFitsF (K : Int) (kn : Nat) (lk : List Int) (nn : Nat) (ln : List Int) (sn : Nat) (ls : List Int) (dn : Nat) (ld : List Int) : (wpE FFitsF (Tryd.f27.body.getD .skip) ⟨Tryd.f27.ntmps, slotsOf 0 (kFitsF (K, kn, lk, nn, ln, sn, ls, dn, ld)).avs, (kFitsF (K, kn, lk, nn, ln, sn, ls, dn, ld)).mem⟩ (finK Tryd.prog Tryd.f27.results.toList (postN (kFitsF (K, kn, lk, nn, ln, sn, ls, dn, ld))))) = ((0 : Nat) < (4 : Nat) ∧ decide ((↑kn : Int) = (↑kn : Int)) = true ∧ (1 : Nat) < (4 : Nat) ∧ decide ((↑nn : Int) = (↑nn : Int)) = true ∧ (2 : Nat) < (4 : Nat) ∧ decide ((↑sn : Int) = (↑sn : Int)) = true ∧ (3 : Nat) < (4 : Nat) ∧ decide ((↑dn : Int) = (0 : Int)) = true ∧ true = true ∧ true = true ∧ (37 : Nat) = (37 : Nat) ∧ (bif true then bif false then Value.bool true else Value.bool true else Value.bool false) = Value.bool true) := by kernel_rfl

set_option maxHeartbeats 8000000 in
theorem wpFitsF (K : Int) (kn : Nat) (lk : List Int) (nn : Nat) (ln : List Int) (sn : Nat) (ls : List Int) (dn : Nat) (ld : List Int) (h1 : dn = 0) : wpE FFitsF (Tryd.f27.body.getD .skip) ⟨Tryd.f27.ntmps, slotsOf 0 (kFitsF (K, kn, lk, nn, ln, sn, ls, dn, ld)).avs, (kFitsF (K, kn, lk, nn, ln, sn, ls, dn, ld)).mem⟩ (finK Tryd.prog Tryd.f27.results.toList (postN (kFitsF (K, kn, lk, nn, ln, sn, ls, dn, ld)))) := by
  with_reducible refine Eq.mpr (vcFitsF K kn lk nn ln sn ls dn ld) ?_
  have hd : decide ((dn : Int) = 0) = true := decide_eq_true (by omega)
  and_intros <;> first | omega | exact True.intro | exact dec_self _ | exact hd | kernel_rfl
set_option maxHeartbeats 8000000 in
theorem cFitsF_ok : SpecOK Tryd.prog cFitsF := by
  refine callG_ok (c := Tryd.f27.body.getD .skip) mixed Tryd.func27 (by kernel_rfl) rfl (fun x hob => ?_)
  obtain ⟨K, kn, lk, nn, ln, sn, ls, dn, ld⟩ := x
  have hob : (dn = 0) := hob
  have h1 := hob
  exact ⟨FFitsF, rfl, evOKs trivial, rfl, rfl, by with_reducible exact wpFitsF K kn lk nn ln sn ls dn ld h1⟩

def catK (l : List Int) (es : Nat) : Nat → List Int → List Int
  | 0, b => b
  | n + 1, b => catK l es n b ++ (((l.drop (n * es)).take es).drop 0).take es
def catN (l : List Int) : Nat → List Int → List Int
  | 0, b => b
  | n + 1, b => catN l n b ++ be4 (l.getD n 0)
theorem catK_len (l : List Int) (es : Nat) (b : List Int) : ∀ n, n * es ≤ l.length → (catK l es n b).length = b.length + n * es
  | 0, _ => by simp [catK]
  | n + 1, h => by
    have e : (n + 1) * es = n * es + es := by rw [Nat.add_mul, Nat.one_mul]
    rw [catK, List.length_append, catK_len l es b n (by omega), List.length_take, List.length_drop, List.length_take, List.length_drop]
    omega
theorem catN_len (l b : List Int) : ∀ n, (catN l n b).length = b.length + 4 * n
  | 0 => by simp [catN]
  | n + 1 => by rw [catN, List.length_append, catN_len l b n]; simp [be4]; omega
/-- A frame's bytes: of a kind, with so many of each. -/
def encL (K : Int) (kn : Nat) (lk : List Int) (nn : Nat) (ln : List Int) (sn : Nat) (ls : List Int) (d : Bool) (dn : Nat) (ld : List Int) : List Int :=
  (cond d (catK ls 64 sn (catN ln nn (catK lk 32 kn (List.replicate 0 0 ++ [IntKind.wrap .u8 K]))) ++ be4 (IntKind.wrap .u32 (dn : Int))) (catK ls 64 sn (catN ln nn (catK lk 32 kn (List.replicate 0 0 ++ [IntKind.wrap .u8 K]))))) ++ ld
def encN (kn nn sn : Nat) (d : Bool) : Nat := 1 + 32 * kn + 4 * nn + 64 * sn + (cond d 4 0)
end Go.Proofs.YtcbnbhadanldpabDoor
