/-
  poly: the sum of one part.
-/
import Derived.Test.YtcbnbhadanldpaaP2
namespace Go.Proofs.Ytcbnbhadanldpaa
open Go.RowKit
set_option maxRecDepth 100000

def ex5 (l : List Int) : List Int := [l.getD 0 0, l.getD 1 0, l.getD 2 0, l.getD 3 0, l.getD 4 0]
/-- What a block of at most sixteen bytes is read as. -/
def readL (n : Nat) (l : List Int) : List Int := cond (decide ((n : Int) = 16)) (digL (rdF l) 1) (digL (rdP n l) 0)
def kRead : Nat × (List Int) → ClN := fun (n, l) => ⟨[.o (.c (.rs 1 n (.i .u8 l)))], [], .o (.g [.many 5 (.i .u64 (ex5 (readL n l)))]), [], [], [l.length = n, n ≤ 16]⟩
noncomputable def FRead : FnE := ⟨mkEv Try.prog [] [cDigits] 0, [0, 2, 3, 9], fun _ _ => .rounds 0⟩
def mRead : List AV → (Nat → Option MB) → Option (List Nat × (Nat × (List Int)))
  | [.o (.c c)], lk => match slI lk c with
    | some (n, l) => some ([], n, l)
    | none => none
  | _, _ => none
noncomputable def cRead : Spec := callG 37 Try.f37.ntmps mRead kRead
theorem vcRead (n : Nat) (l : List Int) : (wpE FRead (Try.f37.body.getD .skip) ⟨Try.f37.ntmps, slotsOf 0 (kRead (n, l)).avs, (kRead (n, l)).mem⟩ (finK Try.prog Try.f37.results.toList (postN (kRead (n, l))))) = (let x1 := lay (List.replicate (16 : Nat) (0 : Int)) (0 : Nat) (List.take (Nat.min n (16 : Nat)) (List.drop (0 : Nat) l)); let x2 := List.take (16 : Nat) (List.drop (0 : Nat) x1); let x3 := List.take (16 : Nat) (List.drop (0 : Nat) (List.set x1 (Int.toNat (↑n : Int)) (1 : Int))); (16 : Nat) ≤ (9223372036854775807 : Nat) ∧ (0 : Nat) + Nat.min n (16 : Nat) ≤ (16 : Nat) ∧ bif decide ((↑n : Int) = (16 : Int)) then (16 : Nat) ≤ (9223372036854775807 : Nat) ∧ true = true ∧ true = true ∧ (16 : Nat) = (16 : Nat) ∧ x2 = x2 ∧ (16 : Nat) ≤ (16 : Nat) ∧ Value.int IntKind.u64 (1 : Int) = Value.int IntKind.u64 (1 : Int) ∧ (16 : Nat) ≤ (16 : Nat) ∧ List.length x2 = (16 : Nat) ∧ true = true ∧ true = true ∧ (17 : Nat) = (17 : Nat) ∧ (5 : Nat) = (5 : Nat) ∧ digL x2 (1 : Int) = ex5 (readL n l) else (0 : Int) ≤ (↑n : Int) ∧ (↑n : Int) < (16 : Int) ∧ Int.toNat (↑n : Int) < (16 : Nat) ∧ (16 : Nat) ≤ (9223372036854775807 : Nat) ∧ true = true ∧ true = true ∧ (16 : Nat) = (16 : Nat) ∧ x3 = x3 ∧ (16 : Nat) ≤ (16 : Nat) ∧ Value.int IntKind.u64 (0 : Int) = Value.int IntKind.u64 (0 : Int) ∧ (16 : Nat) ≤ (16 : Nat) ∧ List.length x3 = (16 : Nat) ∧ true = true ∧ true = true ∧ (17 : Nat) = (17 : Nat) ∧ (5 : Nat) = (5 : Nat) ∧ digL x3 (0 : Int) = ex5 (readL n l)) := by kernel_rfl

set_option maxHeartbeats 8000000 in
theorem wpRead (n : Nat) (l : List Int) (h1 : l.length = n) (h2 : n ≤ 16) : wpE FRead (Try.f37.body.getD .skip) ⟨Try.f37.ntmps, slotsOf 0 (kRead (n, l)).avs, (kRead (n, l)).mem⟩ (finK Try.prog Try.f37.results.toList (postN (kRead (n, l)))) := by
  with_reducible refine Eq.mpr (vcRead n l) ?_
  by_cases hn : n = 16
  · subst hn
    have hl := rdF_len h1
    have hd : decide (((16 : Nat) : Int) = 16) = true := rfl
    have e : ex5 (readL 16 l) = digL (rdF l) 1 := rfl
    rw [e, hd]
    intros
    rw [cond_true]
    and_intros <;> first | omega | exact True.intro | exact hl | exact (by decide : 0 + Nat.min 16 16 ≤ 16) | kernel_rfl
  · have hl := rdP_len h1 (by omega)
    have hd : decide ((n : Int) = 16) = false := decide_eq_false (by omega)
    have hm : Nat.min n 16 = n := Nat.min_eq_left h2
    have e : ex5 (readL n l) = digL (rdP n l) 0 := by unfold readL; rw [hd]; rfl
    simp only [Int.toNat_natCast]
    rw [e, hd, cond_false]
    and_intros <;> first | omega | exact True.intro | exact hl | (rw [hm]; omega) | kernel_rfl
set_option maxHeartbeats 8000000 in
theorem cRead_ok : SpecOK Try.prog cRead := by
  refine callG_ok (c := Try.f37.body.getD .skip) mixed Try.func37 (by kernel_rfl) rfl (fun x hob => ?_)
  obtain ⟨n, l⟩ := x
  have hob : (l.length = n) ∧ (n ≤ 16) := hob
  obtain ⟨h1, h2⟩ := hob
  exact ⟨FRead, rfl, evOKs ⟨.inl ⟨cDigits_ok, by kernel_rfl, gl_nil rfl⟩, trivial⟩, rfl, rfl, by with_reducible exact wpRead n l h1 h2⟩

def stp (a b c d e p q r s t : Int) (g : List Int) : List Int := timesL (w6 (a + g.getD 0 0)) (w6 (b + g.getD 1 0)) (w6 (c + g.getD 2 0)) (w6 (d + g.getD 3 0)) (w6 (e + g.getD 4 0)) p q r s t
def kTake : Nat × (List Int) × Nat × Nat × Int × Int × Int × Int × Int × Int × Int × Int × Int × Int → ClN := fun (n, l, ts, tr, a, b, c, d, e, p, q, r, s, t) => ⟨[.o (.c (.rs 1 n (.i .u8 l))), .o (.c (.ptr 0 0 none)), .o (.c (.ptr 1 0 none))], [.fix ts [.many 5 (.i .u64 [a, b, c, d, e])], .ro tr [.many 5 (.i .u64 [p, q, r, s, t])]], .t [], [.fix ts [.many 5 (.i .u64 (stp a b c d e p q r s t (readL n l)))], .dead], [0, 1], [l.length = n, n ≤ 16]⟩
noncomputable def FTake : FnE := ⟨mkEv Try.prog [] [cRead, cPlus, cTimes] 2, [0, 1, 2], fun _ _ => .rounds 0⟩
def mTake : List AV → (Nat → Option MB) → Option (List Nat × (Nat × (List Int) × Nat × Nat × Int × Int × Int × Int × Int × Int × Int × Int × Int × Int))
  | [.o (.c x), .o (.c (.ptr i 0 none)), .o (.c (.ptr j 0 none))], lk => match slI lk x with
    | some (n, l) => match lk i with
      | some (.fix ts [.many 5 (.i .u64 [a, b, c, d, e])]) => match lk j with
        | some (.fix tr [.many 5 (.i .u64 [p, q, r, s, t])]) => some ([i, j], n, l, ts, tr, a, b, c, d, e, p, q, r, s, t)
        | some (.ro tr [.many 5 (.i .u64 [p, q, r, s, t])]) => some ([i, j], n, l, ts, tr, a, b, c, d, e, p, q, r, s, t)
        | _ => none
      | _ => none
    | none => none
  | _, _ => none
noncomputable def cTake : Spec := callG 35 Try.f35.ntmps mTake kTake
theorem vcTake (n : Nat) (l : List Int) (ts tr : Nat) (a b c d e p q r s t : Int) : (wpE FTake (Try.f35.body.getD .skip) ⟨Try.f35.ntmps, slotsOf 0 (kTake (n, l, ts, tr, a, b, c, d, e, p, q, r, s, t)).avs, (kTake (n, l, ts, tr, a, b, c, d, e, p, q, r, s, t)).mem⟩ (finK Try.prog Try.f35.results.toList (postN (kTake (n, l, ts, tr, a, b, c, d, e, p, q, r, s, t))))) = (let x1 := [a, b, c, d, e]; let x2 := List.getD (readL n l) (0 : Nat) (0 : Int); let x3 := List.getD (readL n l) (1 : Nat) (0 : Int); let x4 := List.getD (readL n l) (2 : Nat) (0 : Int); let x5 := List.getD (readL n l) (3 : Nat) (0 : Int); let x6 := List.getD (readL n l) (4 : Nat) (0 : Int); let x7 := w6 (a + x2); let x8 := w6 (b + x3); let x9 := w6 (c + x4); let x10 := w6 (d + x5); let x11 := w6 (e + x6); let x12 := [x7, x8, x9, x10, x11]; let x13 := [p, q, r, s, t]; true = true ∧ true = true ∧ n = n ∧ l = l ∧ List.length l = n ∧ n ≤ (16 : Nat) ∧ true = true ∧ (5 : Nat) = (5 : Nat) ∧ x1 = x1 ∧ (5 : Nat) = (5 : Nat) ∧ ex5 (readL n l) = [x2, x3, x4, x5, x6] ∧ true = true ∧ (5 : Nat) = (5 : Nat) ∧ x12 = x12 ∧ (5 : Nat) = (5 : Nat) ∧ x13 = x13 ∧ true = true ∧ true = true ∧ (10 : Nat) = (10 : Nat) ∧ ts = ts ∧ (5 : Nat) = (5 : Nat) ∧ timesL x7 x8 x9 x10 x11 p q r s t = stp a b c d e p q r s t (readL n l)) := by kernel_rfl

set_option maxHeartbeats 8000000 in
theorem wpTake (n : Nat) (l : List Int) (ts tr : Nat) (a b c d e p q r s t : Int) (h1 : l.length = n) (h2 : n ≤ 16) : wpE FTake (Try.f35.body.getD .skip) ⟨Try.f35.ntmps, slotsOf 0 (kTake (n, l, ts, tr, a, b, c, d, e, p, q, r, s, t)).avs, (kTake (n, l, ts, tr, a, b, c, d, e, p, q, r, s, t)).mem⟩ (finK Try.prog Try.f35.results.toList (postN (kTake (n, l, ts, tr, a, b, c, d, e, p, q, r, s, t)))) := by
  with_reducible refine Eq.mpr (vcTake n l ts tr a b c d e p q r s t) ?_
  intros
  and_intros <;> first | omega | exact True.intro | kernel_rfl
set_option maxHeartbeats 8000000 in
theorem cTake_ok : SpecOK Try.prog cTake := by
  refine callG_ok (c := Try.f35.body.getD .skip) mixed Try.func35 (by kernel_rfl) rfl (fun x hob => ?_)
  obtain ⟨n, l, ts, tr, a, b, c, d, e, p, q, r, s, t⟩ := x
  have hob : (l.length = n) ∧ (n ≤ 16) := hob
  obtain ⟨h1, h2⟩ := hob
  exact ⟨FTake, rfl, evOKs ⟨.inl ⟨cRead_ok, by kernel_rfl, gl_nil rfl⟩, ⟨.inl ⟨cPlus_ok, by kernel_rfl, gl_nil rfl⟩, ⟨.inl ⟨cTimes_ok, by kernel_rfl, gl_nil rfl⟩, trivial⟩⟩⟩, rfl, rfl, by with_reducible exact wpTake n l ts tr a b c d e p q r s t h1 h2⟩

/-- The digits after k whole blocks. -/
def fold5 (z r t : List Int) : Nat → List Int
  | 0 => z
  | k + 1 => stp ((fold5 z r t k).getD 0 0) ((fold5 z r t k).getD 1 0) ((fold5 z r t k).getD 2 0) ((fold5 z r t k).getD 3 0) ((fold5 z r t k).getD 4 0) (r.getD 0 0) (r.getD 1 0) (r.getD 2 0) (r.getD 3 0) (r.getD 4 0) (readL 16 ((t.drop (16 * k)).take 16))
/-- The digits of all. -/
def all5 (z r t : List Int) : List Int := if t.length % 16 = 0 then fold5 z r t (t.length / 16) else
  stp ((fold5 z r t (t.length / 16)).getD 0 0) ((fold5 z r t (t.length / 16)).getD 1 0) ((fold5 z r t (t.length / 16)).getD 2 0) ((fold5 z r t (t.length / 16)).getD 3 0) ((fold5 z r t (t.length / 16)).getD 4 0) (r.getD 0 0) (r.getD 1 0) (r.getD 2 0) (r.getD 3 0) (r.getD 4 0) (readL (t.length % 16) (t.drop (16 * (t.length / 16))))
/-- Where the inner loop stands: so many bytes are taken, so many lie in the block, which holds B; the digits. -/
structure InB (z r t : List Int) where
  c : Nat
  f : Nat
  B : List Int
  a0 : Int
  a1 : Int
  a2 : Int
  a3 : Int
  a4 : Int
  hB : B.length = 16
  ok : (∃ k, c = 16 * k ∧ f = 0 ∧ c ≤ t.length ∧ [a0, a1, a2, a3, a4] = fold5 z r t k) ∨ (c = t.length ∧ f = t.length % 16 ∧ f ≠ 0 ∧ [a0, a1, a2, a3, a4] = fold5 z r t (t.length / 16) ∧ B.take f = t.drop (16 * (t.length / 16)))
noncomputable def stIn (typ ts tr tb n : Nat) (p q r s u : Int) (t z : List Int) (x : InB z [p, q, r, s, u] t) : St := ⟨Try.f34.ntmps, [(1, .o (.c (.fn 35 [(1, 0), (2, 0)]))), (4, .o (.c (.ptr 3 0 none))), (5, vv (.int .i64 (x.f : Int))), (7, .o (.c (.rs 1 (n - x.c) (.i .u8 (t.drop x.c))))), (9, .o (.c (.sub 0 0 0 1))), (10, vv (.int .i64 1)), (11, vv (.int .i64 0))], [.ro typ [.one (.rs 1 n (.i .u8 t))], .fix ts [.many 5 (.i .u64 [x.a0, x.a1, x.a2, x.a3, x.a4])], .ro tr [.many 5 (.i .u64 [p, q, r, s, u])], .fix tb [.many 16 (.i .u8 x.B)]]⟩
/-- One part. -/
def one1 (lk : Nat → Option MB) (i : Nat) : Option (Nat × Nat × List Int) := match lk i with
  | some (.fix typ [.one x]) => match slI lk x with
    | some (n, t) => some (typ, n, t)
    | none => none
  | some (.ro typ [.one x]) => match slI lk x with
    | some (n, t) => some (typ, n, t)
    | none => none
  | _ => none
def kInB1 : Nat × Nat × Nat × Nat × (List Int) × Int × Int × Int × Int × Int × Int × Int × Int × Int × Int → ClN := fun (typ, ts, tr, n, t, a, b, c, d, e, p, q, r, s, u) => ⟨[.o (.c (.sub 0 0 0 1)), .o (.c (.fn 35 [(1, 0), (2, 0)]))], [.ro typ [.one (.rs 1 n (.i .u8 t))], .fix ts [.many 5 (.i .u64 [a, b, c, d, e])], .ro tr [.many 5 (.i .u64 [p, q, r, s, u])]], .t [], [.dead, .fix ts [.many 5 (.i .u64 (ex5 (all5 [a, b, c, d, e] [p, q, r, s, u] t)))], .dead], [0, 1, 2], [t.length = n, n ≤ 140737488355328]⟩
noncomputable def FInB1 (typ ts tr n : Nat) (t : List Int) (a b c d e p q r s u : Int) : FnE := ⟨mkEv Try.prog [] [cTake] 3, [0, 1, 4, 5, 7, 8, 9, 10, 11, 12, 17, 29, 35], fun g _ => cond (Nat.beq g 3) (.rounds 2) (.inv (InB [a, b, c, d, e] [p, q, r, s, u] t) (stIn typ ts tr 44 n p q r s u t [a, b, c, d, e]) (fun x => n - x.c) [0, 1, 2, 3] [0, 1, 2, 3])⟩
def mInB1 : List AV → (Nat → Option MB) → Option (List Nat × (Nat × Nat × Nat × Nat × (List Int) × Int × Int × Int × Int × Int × Int × Int × Int × Int × Int))
  | [.o (.c (.sub i 0 0 1)), .o (.c (.fn 35 [(j, 0), (k, 0)]))], lk => match one1 lk i with
    | some (typ, n, t) => match lk j with
        | some (.fix ts [.many 5 (.i .u64 [a, b, c, d, e])]) => match lk k with
          | some (.fix tr [.many 5 (.i .u64 [p, q, r, s, u])]) => some ([i, j, k], typ, ts, tr, n, t, a, b, c, d, e, p, q, r, s, u)
          | _ => none
        | _ => none
    | none => none
  | _, _ => none
noncomputable def cInB1 : Spec := callG 34 Try.f34.ntmps mInB1 kInB1
theorem vcInB1 (typ ts tr n : Nat) (t : List Int) (a b c d e p q r s u : Int) : (wpE (FInB1 typ ts tr n t a b c d e p q r s u) (Try.f34.body.getD .skip) ⟨Try.f34.ntmps, slotsOf 0 (kInB1 (typ, ts, tr, n, t, a, b, c, d, e, p, q, r, s, u)).avs, (kInB1 (typ, ts, tr, n, t, a, b, c, d, e, p, q, r, s, u)).mem⟩ (finK Try.prog Try.f34.results.toList (postN (kInB1 (typ, ts, tr, n, t, a, b, c, d, e, p, q, r, s, u))))) = (let x1 := [a, b, c, d, e]; let x2 := [p, q, r, s, u]; let x3 := ex5 (all5 x1 x2 t); (0 : Int) ≤ (0 : Int) ∧ (0 : Int) < (1 : Int) ∧ (∃ (x : InB x1 x2 t), true = true ∧ true = true ∧ (40 : Nat) = (40 : Nat) ∧ (35 : Nat) = (35 : Nat) ∧ getL [(0 : Nat), (1 : Nat), (2 : Nat), (3 : Nat)] (1 : Nat) = some (1 : Nat) ∧ (0 : Nat) = (0 : Nat) ∧ getL [(0 : Nat), (1 : Nat), (2 : Nat), (3 : Nat)] (2 : Nat) = some (2 : Nat) ∧ (0 : Nat) = (0 : Nat) ∧ getL [(0 : Nat), (1 : Nat), (2 : Nat), (3 : Nat)] (3 : Nat) = some (3 : Nat) ∧ (0 : Nat) = (0 : Nat) ∧ Value.int IntKind.i64 (0 : Int) = Value.int IntKind.i64 (↑(InB.f x) : Int) ∧ (1 : Nat) = (1 : Nat) ∧ n = n - InB.c x ∧ t = List.drop (InB.c x) t ∧ getL [(0 : Nat), (1 : Nat), (2 : Nat), (3 : Nat)] (0 : Nat) = some (0 : Nat) ∧ (0 : Nat) = (0 : Nat) ∧ (1 : Nat) = (1 : Nat) ∧ Value.int IntKind.i64 (1 : Int) = Value.int IntKind.i64 (1 : Int) ∧ Value.int IntKind.i64 (0 : Int) = Value.int IntKind.i64 (0 : Int) ∧ typ = typ ∧ (1 : Nat) = (1 : Nat) ∧ n = n ∧ t = t ∧ ts = ts ∧ (5 : Nat) = (5 : Nat) ∧ x1 = [InB.a0 x, InB.a1 x, InB.a2 x, InB.a3 x, InB.a4 x] ∧ tr = tr ∧ (5 : Nat) = (5 : Nat) ∧ x2 = x2 ∧ (44 : Nat) = (44 : Nat) ∧ (16 : Nat) = (16 : Nat) ∧ List.replicate (16 : Nat) (0 : Int) = InB.B x) ∧ ∀ (x : InB x1 x2 t), bif decide ((0 : Int) < (↑(n - InB.c x) : Int)) then (0 : Int) ≤ (↑(InB.f x) : Int) ∧ Int.toNat (↑(InB.f x) : Int) ≤ (16 : Nat) ∧ (16 : Nat) ≤ (9223372036854775807 : Nat) ∧ (0 : Nat) + Int.toNat (↑(InB.f x) : Int) + Nat.min (n - InB.c x) ((16 : Nat) - Int.toNat (↑(InB.f x) : Int)) ≤ (16 : Nat) ∧ (0 : Int) ≤ (↑(Nat.min (n - InB.c x) ((16 : Nat) - Int.toNat (↑(InB.f x) : Int))) : Int) ∧ Int.toNat (↑(Nat.min (n - InB.c x) ((16 : Nat) - Int.toNat (↑(InB.f x) : Int))) : Int) ≤ n - InB.c x ∧ bif decide (IntKind.wrap IntKind.i64 ((↑(InB.f x) : Int) + (↑(Nat.min (n - InB.c x) ((16 : Nat) - Int.toNat (↑(InB.f x) : Int))) : Int)) = (16 : Int)) then (16 : Nat) ≤ (9223372036854775807 : Nat) ∧ true = true ∧ true = true ∧ (16 : Nat) = (16 : Nat) ∧ List.take (16 : Nat) (List.drop (0 : Nat) (lay (InB.B x) ((0 : Nat) + Int.toNat (↑(InB.f x) : Int)) (List.take (Nat.min (n - InB.c x) ((16 : Nat) - Int.toNat (↑(InB.f x) : Int))) (List.drop (0 : Nat) (List.drop (InB.c x) t))))) = List.take (16 : Nat) (List.drop (0 : Nat) (lay (InB.B x) ((0 : Nat) + Int.toNat (↑(InB.f x) : Int)) (List.take (Nat.min (n - InB.c x) ((16 : Nat) - Int.toNat (↑(InB.f x) : Int))) (List.drop (0 : Nat) (List.drop (InB.c x) t))))) ∧ (16 : Nat) ≤ (16 : Nat) ∧ getL [(1 : Nat), (2 : Nat)] (0 : Nat) = some (1 : Nat) ∧ (0 : Nat) = (0 : Nat) ∧ getL [(1 : Nat), (2 : Nat)] (1 : Nat) = some (2 : Nat) ∧ (0 : Nat) = (0 : Nat) ∧ ts = ts ∧ (5 : Nat) = (5 : Nat) ∧ [InB.a0 x, InB.a1 x, InB.a2 x, InB.a3 x, InB.a4 x] = [InB.a0 x, InB.a1 x, InB.a2 x, InB.a3 x, InB.a4 x] ∧ tr = tr ∧ (5 : Nat) = (5 : Nat) ∧ x2 = x2 ∧ List.length (List.take (16 : Nat) (List.drop (0 : Nat) (lay (InB.B x) ((0 : Nat) + Int.toNat (↑(InB.f x) : Int)) (List.take (Nat.min (n - InB.c x) ((16 : Nat) - Int.toNat (↑(InB.f x) : Int))) (List.drop (0 : Nat) (List.drop (InB.c x) t)))))) = (16 : Nat) ∧ (16 : Nat) ≤ (16 : Nat) ∧ ∃ (y : InB x1 x2 t), (true = true ∧ true = true ∧ (40 : Nat) = (40 : Nat) ∧ (35 : Nat) = (35 : Nat) ∧ getL [(0 : Nat), (1 : Nat), (2 : Nat), (3 : Nat)] (1 : Nat) = some (1 : Nat) ∧ (0 : Nat) = (0 : Nat) ∧ getL [(0 : Nat), (1 : Nat), (2 : Nat), (3 : Nat)] (2 : Nat) = some (2 : Nat) ∧ (0 : Nat) = (0 : Nat) ∧ getL [(0 : Nat), (1 : Nat), (2 : Nat), (3 : Nat)] (3 : Nat) = some (3 : Nat) ∧ (0 : Nat) = (0 : Nat) ∧ Value.int IntKind.i64 (0 : Int) = Value.int IntKind.i64 (↑(InB.f y) : Int) ∧ (1 : Nat) = (1 : Nat) ∧ n - InB.c x - Int.toNat (↑(Nat.min (n - InB.c x) ((16 : Nat) - Int.toNat (↑(InB.f x) : Int))) : Int) = n - InB.c y ∧ List.take (n - InB.c x - Int.toNat (↑(Nat.min (n - InB.c x) ((16 : Nat) - Int.toNat (↑(InB.f x) : Int))) : Int)) (List.drop (Int.toNat (↑(Nat.min (n - InB.c x) ((16 : Nat) - Int.toNat (↑(InB.f x) : Int))) : Int)) (List.drop (InB.c x) t)) = List.drop (InB.c y) t ∧ getL [(0 : Nat), (1 : Nat), (2 : Nat), (3 : Nat)] (0 : Nat) = some (0 : Nat) ∧ (0 : Nat) = (0 : Nat) ∧ (1 : Nat) = (1 : Nat) ∧ Value.int IntKind.i64 (1 : Int) = Value.int IntKind.i64 (1 : Int) ∧ Value.int IntKind.i64 (0 : Int) = Value.int IntKind.i64 (0 : Int) ∧ typ = typ ∧ (1 : Nat) = (1 : Nat) ∧ n = n ∧ t = t ∧ ts = ts ∧ (5 : Nat) = (5 : Nat) ∧ stp (InB.a0 x) (InB.a1 x) (InB.a2 x) (InB.a3 x) (InB.a4 x) p q r s u (readL (16 : Nat) (List.take (16 : Nat) (List.drop (0 : Nat) (lay (InB.B x) ((0 : Nat) + Int.toNat (↑(InB.f x) : Int)) (List.take (Nat.min (n - InB.c x) ((16 : Nat) - Int.toNat (↑(InB.f x) : Int))) (List.drop (0 : Nat) (List.drop (InB.c x) t))))))) = [InB.a0 y, InB.a1 y, InB.a2 y, InB.a3 y, InB.a4 y] ∧ tr = tr ∧ (5 : Nat) = (5 : Nat) ∧ x2 = x2 ∧ (44 : Nat) = (44 : Nat) ∧ (16 : Nat) = (16 : Nat) ∧ lay (InB.B x) ((0 : Nat) + Int.toNat (↑(InB.f x) : Int)) (List.take (Nat.min (n - InB.c x) ((16 : Nat) - Int.toNat (↑(InB.f x) : Int))) (List.drop (0 : Nat) (List.drop (InB.c x) t))) = InB.B y) ∧ n - InB.c y < n - InB.c x else ∃ (y : InB x1 x2 t), (true = true ∧ true = true ∧ (40 : Nat) = (40 : Nat) ∧ (35 : Nat) = (35 : Nat) ∧ getL [(0 : Nat), (1 : Nat), (2 : Nat), (3 : Nat)] (1 : Nat) = some (1 : Nat) ∧ (0 : Nat) = (0 : Nat) ∧ getL [(0 : Nat), (1 : Nat), (2 : Nat), (3 : Nat)] (2 : Nat) = some (2 : Nat) ∧ (0 : Nat) = (0 : Nat) ∧ getL [(0 : Nat), (1 : Nat), (2 : Nat), (3 : Nat)] (3 : Nat) = some (3 : Nat) ∧ (0 : Nat) = (0 : Nat) ∧ Value.int IntKind.i64 (IntKind.wrap IntKind.i64 ((↑(InB.f x) : Int) + (↑(Nat.min (n - InB.c x) ((16 : Nat) - Int.toNat (↑(InB.f x) : Int))) : Int))) = Value.int IntKind.i64 (↑(InB.f y) : Int) ∧ (1 : Nat) = (1 : Nat) ∧ n - InB.c x - Int.toNat (↑(Nat.min (n - InB.c x) ((16 : Nat) - Int.toNat (↑(InB.f x) : Int))) : Int) = n - InB.c y ∧ List.take (n - InB.c x - Int.toNat (↑(Nat.min (n - InB.c x) ((16 : Nat) - Int.toNat (↑(InB.f x) : Int))) : Int)) (List.drop (Int.toNat (↑(Nat.min (n - InB.c x) ((16 : Nat) - Int.toNat (↑(InB.f x) : Int))) : Int)) (List.drop (InB.c x) t)) = List.drop (InB.c y) t ∧ getL [(0 : Nat), (1 : Nat), (2 : Nat), (3 : Nat)] (0 : Nat) = some (0 : Nat) ∧ (0 : Nat) = (0 : Nat) ∧ (1 : Nat) = (1 : Nat) ∧ Value.int IntKind.i64 (1 : Int) = Value.int IntKind.i64 (1 : Int) ∧ Value.int IntKind.i64 (0 : Int) = Value.int IntKind.i64 (0 : Int) ∧ typ = typ ∧ (1 : Nat) = (1 : Nat) ∧ n = n ∧ t = t ∧ ts = ts ∧ (5 : Nat) = (5 : Nat) ∧ [InB.a0 x, InB.a1 x, InB.a2 x, InB.a3 x, InB.a4 x] = [InB.a0 y, InB.a1 y, InB.a2 y, InB.a3 y, InB.a4 y] ∧ tr = tr ∧ (5 : Nat) = (5 : Nat) ∧ x2 = x2 ∧ (44 : Nat) = (44 : Nat) ∧ (16 : Nat) = (16 : Nat) ∧ lay (InB.B x) ((0 : Nat) + Int.toNat (↑(InB.f x) : Int)) (List.take (Nat.min (n - InB.c x) ((16 : Nat) - Int.toNat (↑(InB.f x) : Int))) (List.drop (0 : Nat) (List.drop (InB.c x) t))) = InB.B y) ∧ n - InB.c y < n - InB.c x else bif decide ((0 : Int) < (↑(InB.f x) : Int)) then (0 : Int) ≤ (↑(InB.f x) : Int) ∧ Int.toNat (↑(InB.f x) : Int) ≤ (16 : Nat) ∧ (16 : Nat) ≤ (9223372036854775807 : Nat) ∧ true = true ∧ true = true ∧ Int.toNat (↑(InB.f x) : Int) = Int.toNat (↑(InB.f x) : Int) ∧ List.take (Int.toNat (↑(InB.f x) : Int)) (List.drop (0 : Nat) (InB.B x)) = List.take (Int.toNat (↑(InB.f x) : Int)) (List.drop (0 : Nat) (InB.B x)) ∧ (0 : Nat) + Int.toNat (↑(InB.f x) : Int) ≤ (16 : Nat) ∧ getL [(1 : Nat), (2 : Nat)] (0 : Nat) = some (1 : Nat) ∧ (0 : Nat) = (0 : Nat) ∧ getL [(1 : Nat), (2 : Nat)] (1 : Nat) = some (2 : Nat) ∧ (0 : Nat) = (0 : Nat) ∧ ts = ts ∧ (5 : Nat) = (5 : Nat) ∧ [InB.a0 x, InB.a1 x, InB.a2 x, InB.a3 x, InB.a4 x] = [InB.a0 x, InB.a1 x, InB.a2 x, InB.a3 x, InB.a4 x] ∧ tr = tr ∧ (5 : Nat) = (5 : Nat) ∧ x2 = x2 ∧ List.length (List.take (Int.toNat (↑(InB.f x) : Int)) (List.drop (0 : Nat) (InB.B x))) = Int.toNat (↑(InB.f x) : Int) ∧ Int.toNat (↑(InB.f x) : Int) ≤ (16 : Nat) ∧ true = true ∧ true = true ∧ (40 : Nat) = (40 : Nat) ∧ ts = ts ∧ (5 : Nat) = (5 : Nat) ∧ stp (InB.a0 x) (InB.a1 x) (InB.a2 x) (InB.a3 x) (InB.a4 x) p q r s u (readL (Int.toNat (↑(InB.f x) : Int)) (List.take (Int.toNat (↑(InB.f x) : Int)) (List.drop (0 : Nat) (InB.B x)))) = x3 else true = true ∧ true = true ∧ (40 : Nat) = (40 : Nat) ∧ ts = ts ∧ (5 : Nat) = (5 : Nat) ∧ [InB.a0 x, InB.a1 x, InB.a2 x, InB.a3 x, InB.a4 x] = x3) := by kernel_rfl

set_option maxHeartbeats 8000000 in
theorem wpInB1 (typ ts tr n : Nat) (t : List Int) (a b c d e p q r s u : Int) (h1 : t.length = n) (h2 : n ≤ 140737488355328) : wpE (FInB1 typ ts tr n t a b c d e p q r s u) (Try.f34.body.getD .skip) ⟨Try.f34.ntmps, slotsOf 0 (kInB1 (typ, ts, tr, n, t, a, b, c, d, e, p, q, r, s, u)).avs, (kInB1 (typ, ts, tr, n, t, a, b, c, d, e, p, q, r, s, u)).mem⟩ (finK Try.prog Try.f34.results.toList (postN (kInB1 (typ, ts, tr, n, t, a, b, c, d, e, p, q, r, s, u)))) := by
  with_reducible refine Eq.mpr (vcInB1 typ ts tr n t a b c d e p q r s u) ?_
  have _ := h2
  have key : ∀ l : List Int, all5 [a, b, c, d, e] [p, q, r, s, u] t = l → l.length = 5 → ex5 (all5 [a, b, c, d, e] [p, q, r, s, u] t) = l := fun l hl h5 => by
    rw [hl]
    match l, h5 with
    | [_, _, _, _, _], _ => rfl
  simp only [Int.toNat_natCast, Nat.zero_add, List.drop_zero, true_and, Bool.cond_decide]
  refine ⟨by omega, by omega, ⟨⟨0, 0, List.replicate 16 0, a, b, c, d, e, by simp, .inl ⟨0, rfl, rfl, Nat.zero_le _, rfl⟩⟩, ?_⟩, ?_⟩
  · and_intros <;> first | omega | exact True.intro | rfl
  · intro x
    obtain ⟨cc, f, B, a0, a1, a2, a3, a4, hB, ok⟩ := x
    dsimp only
    rcases ok with ⟨k, rfl, rfl, hle, hf⟩ | ⟨rfl, rfl, hf0, hf, hBt⟩
    · by_cases hc : 16 * k < n
      · rw [if_pos (show (0 : Int) < ((n - 16 * k : Nat) : Int) by omega)]
        by_cases h16 : 16 * k + 16 ≤ n
        · have hm : Nat.min (n - 16 * k) (16 - 0) = 16 := Nat.min_eq_right (by omega)
          have hq : IntKind.wrap .i64 (((0 : Nat) : Int) + ((Nat.min (n - 16 * k) (16 - 0) : Nat) : Int)) = 16 := by rw [hm]; rfl
          have hx : ((t.drop (16 * k)).take 16).length = 16 := by rw [List.length_take, List.length_drop]; omega
          have hL : List.take 16 (lay B 0 ((t.drop (16 * k)).take 16)) = (t.drop (16 * k)).take 16 := by
            unfold lay
            rw [List.take_zero, List.nil_append, List.take_left' hx]
          have hE : fold5 [a, b, c, d, e] [p, q, r, s, u] t (k + 1) = stp a0 a1 a2 a3 a4 p q r s u (readL 16 ((t.drop (16 * k)).take 16)) := by rw [fold5, ← hf]; rfl
          rw [if_pos hq, hm, hL]
          refine ⟨by omega, by omega, by omega, by omega, by omega, by omega, by omega, by omega, rfl, rfl, hx, by omega, ⟨16 * k + 16, 0, lay B 0 ((t.drop (16 * k)).take 16), (fold5 [a, b, c, d, e] [p, q, r, s, u] t (k + 1)).getD 0 0, (fold5 [a, b, c, d, e] [p, q, r, s, u] t (k + 1)).getD 1 0, (fold5 [a, b, c, d, e] [p, q, r, s, u] t (k + 1)).getD 2 0, (fold5 [a, b, c, d, e] [p, q, r, s, u] t (k + 1)).getD 3 0, (fold5 [a, b, c, d, e] [p, q, r, s, u] t (k + 1)).getD 4 0, by rw [lay_length _ _ _ (by rw [hx]; omega), hB], .inl ⟨k + 1, by omega, rfl, by omega, by rw [hE]; rfl⟩⟩, ?_, by show n - (16 * k + 16) < n - 16 * k; omega⟩
          refine ⟨rfl, rfl, rfl, rfl, by show n - 16 * k - 16 = n - (16 * k + 16); omega, ?_, rfl, ?_, rfl⟩
          rotate_left
          · dsimp only
            rw [hE]
            rfl
          show List.take (n - 16 * k - 16) (List.drop 16 (List.drop (16 * k) t)) = List.drop (16 * k + 16) t
          rw [List.drop_drop, List.take_of_length_le (by rw [List.length_drop]; omega)]
        · have hm : Nat.min (n - 16 * k) (16 - 0) = n - 16 * k := Nat.min_eq_left (by omega)
          have hq : ¬ IntKind.wrap .i64 (((0 : Nat) : Int) + ((Nat.min (n - 16 * k) (16 - 0) : Nat) : Int)) = 16 := by rw [hm, IntKind.wrap_i64]; omega
          have hdiv : t.length / 16 = k := by omega
          have hx : ((t.drop (16 * k)).take (n - 16 * k)).length = n - 16 * k := by rw [List.length_take, List.length_drop]; omega
          rw [if_neg hq, hm]
          refine ⟨by omega, by omega, by omega, by omega, by omega, by omega, ⟨t.length, t.length % 16, lay B 0 ((t.drop (16 * k)).take (n - 16 * k)), a0, a1, a2, a3, a4, by rw [lay_length _ _ _ (by rw [hx]; omega), hB], .inr ⟨rfl, rfl, by omega, by rw [hdiv]; exact hf, ?_⟩⟩, ?_, by show n - t.length < n - 16 * k; omega⟩
          · rw [hdiv]
            unfold lay
            rw [List.take_zero, List.nil_append, show t.length % 16 = n - 16 * k by omega, List.take_left' hx, List.take_of_length_le (by rw [List.length_drop]; omega)]
          · refine ⟨rfl, rfl, rfl, ?_, by show n - 16 * k - (n - 16 * k) = n - t.length; omega, ?_, rfl, rfl, rfl⟩
            · congr 1
              show IntKind.wrap .i64 _ = ((t.length % 16 : Nat) : Int)
              rw [IntKind.wrap_i64]; omega
            · show List.take (n - 16 * k - (n - 16 * k)) _ = List.drop t.length t
              rw [Nat.sub_self, List.take_zero, List.drop_length]
      · rw [if_neg (show ¬ (0 : Int) < ((n - 16 * k : Nat) : Int) by omega), if_neg (show ¬ (0 : Int) < ((0 : Nat) : Int) by omega)]
        refine (key _ ?_ rfl).symm
        unfold all5
        rw [if_pos (by omega), show t.length / 16 = k by omega, ← hf]
    · rw [if_neg (show ¬ (0 : Int) < ((n - t.length : Nat) : Int) by omega), if_pos (show (0 : Int) < ((t.length % 16 : Nat) : Int) by omega)]
      refine ⟨by omega, by omega, by omega, by omega, rfl, rfl, by rw [List.length_take]; omega, by omega, ?_⟩
      refine (key _ ?_ rfl).symm
      unfold all5
      rw [if_neg hf0, ← hf, ← hBt]
      rfl
set_option maxHeartbeats 8000000 in
theorem cInB1_ok : SpecOK Try.prog cInB1 := by
  refine callG_ok (c := Try.f34.body.getD .skip) mixed Try.func34 (by kernel_rfl) rfl (fun x hob => ?_)
  obtain ⟨typ, ts, tr, n, t, a, b, c, d, e, p, q, r, s, u⟩ := x
  have hob : (t.length = n) ∧ (n ≤ 140737488355328) := hob
  obtain ⟨h1, h2⟩ := hob
  exact ⟨FInB1 typ ts tr n t a b c d e p q r s u, rfl, evOKs ⟨.inl ⟨cTake_ok, by kernel_rfl, gl_nil rfl⟩, trivial⟩, rfl, rfl, by with_reducible exact wpInB1 typ ts tr n t a b c d e p q r s u h1 h2⟩
end Go.Proofs.Ytcbnbhadanldpaa
