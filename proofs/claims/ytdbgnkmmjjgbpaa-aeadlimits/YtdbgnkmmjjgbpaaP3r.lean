/-
  poly: a block read and taken.
-/
import Derived.Test.YtdbgnkmmjjgbpaaP2
namespace Go.Proofs.Ytdbgnkmmjjgbpaa
open Go.RowKit
set_option maxRecDepth 100000

def ex5 (l : List Int) : List Int := [l.getD 0 0, l.getD 1 0, l.getD 2 0, l.getD 3 0, l.getD 4 0]
/-- What a block of at most sixteen bytes is read as. -/
def readL (n : Nat) (l : List Int) : List Int := cond (decide ((n : Int) = 16)) (digL (rdF l) 1) (digL (rdP n l) 0)
def kRead : Nat × (List Int) → ClN := fun (n, l) => ⟨[.o (.c (.rs 1 n (.i .u8 l)))], [], .o (.g [.many 5 (.i .u64 (ex5 (readL n l)))]), [], [], [l.length = n, n ≤ 16]⟩
noncomputable def FRead : FnE := ⟨mkEv Try.prog [] [cDigits] 0, [0, 2, 3, 9], fun _ _ => .rounds 0⟩
def mRead : List AV → (Nat → Option MB) → Option (List Nat × (Nat × (List Int)))
  | [.o (.c c)], lk => match slI lk c with
    | some (n, l) => some ([], n, l)
    | none => none
  | _, _ => none
noncomputable def cRead : Spec := callG 36 Try.f36.ntmps mRead kRead
theorem vcRead (n : Nat) (l : List Int) : (wpE FRead (Try.f36.body.getD .skip) ⟨Try.f36.ntmps, slotsOf 0 (kRead (n, l)).avs, (kRead (n, l)).mem⟩ (finK Try.prog Try.f36.results.toList (postN (kRead (n, l))))) = (let x1 := lay (List.replicate (16 : Nat) (0 : Int)) (0 : Nat) (List.take (Nat.min n (16 : Nat)) (List.drop (0 : Nat) l)); let x2 := List.take (16 : Nat) (List.drop (0 : Nat) x1); let x3 := List.take (16 : Nat) (List.drop (0 : Nat) (List.set x1 (Int.toNat (↑n : Int)) (1 : Int))); (16 : Nat) ≤ (9223372036854775807 : Nat) ∧ (0 : Nat) + Nat.min n (16 : Nat) ≤ (16 : Nat) ∧ bif decide ((↑n : Int) = (16 : Int)) then (16 : Nat) ≤ (9223372036854775807 : Nat) ∧ true = true ∧ true = true ∧ (16 : Nat) = (16 : Nat) ∧ x2 = x2 ∧ (16 : Nat) ≤ (16 : Nat) ∧ Value.int IntKind.u64 (1 : Int) = Value.int IntKind.u64 (1 : Int) ∧ (16 : Nat) ≤ (16 : Nat) ∧ List.length x2 = (16 : Nat) ∧ true = true ∧ true = true ∧ (17 : Nat) = (17 : Nat) ∧ (5 : Nat) = (5 : Nat) ∧ digL x2 (1 : Int) = ex5 (readL n l) else (0 : Int) ≤ (↑n : Int) ∧ (↑n : Int) < (16 : Int) ∧ Int.toNat (↑n : Int) < (16 : Nat) ∧ (16 : Nat) ≤ (9223372036854775807 : Nat) ∧ true = true ∧ true = true ∧ (16 : Nat) = (16 : Nat) ∧ x3 = x3 ∧ (16 : Nat) ≤ (16 : Nat) ∧ Value.int IntKind.u64 (0 : Int) = Value.int IntKind.u64 (0 : Int) ∧ (16 : Nat) ≤ (16 : Nat) ∧ List.length x3 = (16 : Nat) ∧ true = true ∧ true = true ∧ (17 : Nat) = (17 : Nat) ∧ (5 : Nat) = (5 : Nat) ∧ digL x3 (0 : Int) = ex5 (readL n l)) := by kernel_rfl

set_option maxHeartbeats 8000000 in
theorem wpRead (n : Nat) (l : List Int) (h1 : l.length = n) (h2 : n ≤ 16) : wpE FRead (Try.f36.body.getD .skip) ⟨Try.f36.ntmps, slotsOf 0 (kRead (n, l)).avs, (kRead (n, l)).mem⟩ (finK Try.prog Try.f36.results.toList (postN (kRead (n, l)))) := by
  with_reducible refine Eq.mpr (vcRead n l) ?_
  by_cases hn : n = 16
  · subst hn
    have hl := rdF_len h1
    have hd : decide (((16 : Nat) : Int) = 16) = true := rfl
    have e : ex5 (readL 16 l) = digL (rdF l) 1 := rfl
    rw [e, hd]
    intros
    rw [cond_true]
    and_intros <;> first | omega | exact True.intro | exact hl | exact (by decide : 0 + Nat.min 16 16 ≤ 16) | kernel_rfl
  · have hl := rdP_len h1 (by omega)
    have hd : decide ((n : Int) = 16) = false := decide_eq_false (by omega)
    have hm : Nat.min n 16 = n := Nat.min_eq_left h2
    have e : ex5 (readL n l) = digL (rdP n l) 0 := by unfold readL; rw [hd]; rfl
    simp only [Int.toNat_natCast]
    rw [e, hd, cond_false]
    and_intros <;> first | omega | exact True.intro | exact hl | (rw [hm]; omega) | kernel_rfl
set_option maxHeartbeats 8000000 in
theorem cRead_ok : SpecOK Try.prog cRead := by
  refine callG_ok (c := Try.f36.body.getD .skip) mixed Try.func36 (by kernel_rfl) rfl (fun x hob => ?_)
  obtain ⟨n, l⟩ := x
  have hob : (l.length = n) ∧ (n ≤ 16) := hob
  obtain ⟨h1, h2⟩ := hob
  exact ⟨FRead, rfl, evOKs ⟨.inl ⟨cDigits_ok, by kernel_rfl, gl_nil rfl⟩, trivial⟩, rfl, rfl, by with_reducible exact wpRead n l h1 h2⟩

def stp (a b c d e p q r s t : Int) (g : List Int) : List Int := timesL (w6 (a + g.getD 0 0)) (w6 (b + g.getD 1 0)) (w6 (c + g.getD 2 0)) (w6 (d + g.getD 3 0)) (w6 (e + g.getD 4 0)) p q r s t
def kTake : Nat × (List Int) × Nat × Nat × Int × Int × Int × Int × Int × Int × Int × Int × Int × Int → ClN := fun (n, l, ts, tr, a, b, c, d, e, p, q, r, s, t) => ⟨[.o (.c (.rs 1 n (.i .u8 l))), .o (.c (.ptr 0 0 none)), .o (.c (.ptr 1 0 none))], [.fix ts [.many 5 (.i .u64 [a, b, c, d, e])], .ro tr [.many 5 (.i .u64 [p, q, r, s, t])]], .t [], [.fix ts [.many 5 (.i .u64 (stp a b c d e p q r s t (readL n l)))], .dead], [0, 1], [l.length = n, n ≤ 16]⟩
noncomputable def FTake : FnE := ⟨mkEv Try.prog [] [cRead, cPlus, cTimes] 2, [0, 1, 2], fun _ _ => .rounds 0⟩
def mTake : List AV → (Nat → Option MB) → Option (List Nat × (Nat × (List Int) × Nat × Nat × Int × Int × Int × Int × Int × Int × Int × Int × Int × Int))
  | [.o (.c x), .o (.c (.ptr i 0 none)), .o (.c (.ptr j 0 none))], lk => match slI lk x with
    | some (n, l) => match lk i with
      | some (.fix ts [.many 5 (.i .u64 [a, b, c, d, e])]) => match lk j with
        | some (.fix tr [.many 5 (.i .u64 [p, q, r, s, t])]) => some ([i, j], n, l, ts, tr, a, b, c, d, e, p, q, r, s, t)
        | some (.ro tr [.many 5 (.i .u64 [p, q, r, s, t])]) => some ([i, j], n, l, ts, tr, a, b, c, d, e, p, q, r, s, t)
        | _ => none
      | _ => none
    | none => none
  | _, _ => none
noncomputable def cTake : Spec := callG 34 Try.f34.ntmps mTake kTake
theorem vcTake (n : Nat) (l : List Int) (ts tr : Nat) (a b c d e p q r s t : Int) : (wpE FTake (Try.f34.body.getD .skip) ⟨Try.f34.ntmps, slotsOf 0 (kTake (n, l, ts, tr, a, b, c, d, e, p, q, r, s, t)).avs, (kTake (n, l, ts, tr, a, b, c, d, e, p, q, r, s, t)).mem⟩ (finK Try.prog Try.f34.results.toList (postN (kTake (n, l, ts, tr, a, b, c, d, e, p, q, r, s, t))))) = (let x1 := [a, b, c, d, e]; let x2 := List.getD (readL n l) (0 : Nat) (0 : Int); let x3 := List.getD (readL n l) (1 : Nat) (0 : Int); let x4 := List.getD (readL n l) (2 : Nat) (0 : Int); let x5 := List.getD (readL n l) (3 : Nat) (0 : Int); let x6 := List.getD (readL n l) (4 : Nat) (0 : Int); let x7 := w6 (a + x2); let x8 := w6 (b + x3); let x9 := w6 (c + x4); let x10 := w6 (d + x5); let x11 := w6 (e + x6); let x12 := [x7, x8, x9, x10, x11]; let x13 := [p, q, r, s, t]; true = true ∧ true = true ∧ n = n ∧ l = l ∧ List.length l = n ∧ n ≤ (16 : Nat) ∧ true = true ∧ (5 : Nat) = (5 : Nat) ∧ x1 = x1 ∧ (5 : Nat) = (5 : Nat) ∧ ex5 (readL n l) = [x2, x3, x4, x5, x6] ∧ true = true ∧ (5 : Nat) = (5 : Nat) ∧ x12 = x12 ∧ (5 : Nat) = (5 : Nat) ∧ x13 = x13 ∧ true = true ∧ true = true ∧ (10 : Nat) = (10 : Nat) ∧ ts = ts ∧ (5 : Nat) = (5 : Nat) ∧ timesL x7 x8 x9 x10 x11 p q r s t = stp a b c d e p q r s t (readL n l)) := by kernel_rfl

set_option maxHeartbeats 8000000 in
theorem wpTake (n : Nat) (l : List Int) (ts tr : Nat) (a b c d e p q r s t : Int) (h1 : l.length = n) (h2 : n ≤ 16) : wpE FTake (Try.f34.body.getD .skip) ⟨Try.f34.ntmps, slotsOf 0 (kTake (n, l, ts, tr, a, b, c, d, e, p, q, r, s, t)).avs, (kTake (n, l, ts, tr, a, b, c, d, e, p, q, r, s, t)).mem⟩ (finK Try.prog Try.f34.results.toList (postN (kTake (n, l, ts, tr, a, b, c, d, e, p, q, r, s, t)))) := by
  with_reducible refine Eq.mpr (vcTake n l ts tr a b c d e p q r s t) ?_
  intros
  and_intros <;> first | omega | exact True.intro | kernel_rfl
set_option maxHeartbeats 8000000 in
theorem cTake_ok : SpecOK Try.prog cTake := by
  refine callG_ok (c := Try.f34.body.getD .skip) mixed Try.func34 (by kernel_rfl) rfl (fun x hob => ?_)
  obtain ⟨n, l, ts, tr, a, b, c, d, e, p, q, r, s, t⟩ := x
  have hob : (l.length = n) ∧ (n ≤ 16) := hob
  obtain ⟨h1, h2⟩ := hob
  exact ⟨FTake, rfl, evOKs ⟨.inl ⟨cRead_ok, by kernel_rfl, gl_nil rfl⟩, ⟨.inl ⟨cPlus_ok, by kernel_rfl, gl_nil rfl⟩, ⟨.inl ⟨cTimes_ok, by kernel_rfl, gl_nil rfl⟩, trivial⟩⟩⟩, rfl, rfl, by with_reducible exact wpTake n l ts tr a b c d e p q r s t h1 h2⟩

end Go.Proofs.Ytdbgnkmmjjgbpaa
