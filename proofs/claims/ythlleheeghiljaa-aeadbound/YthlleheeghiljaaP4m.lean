/-
  poly: a block read and taken.
-/
/-
  poly: the sum of parts.
-/
/-
  poly: Sum.
-/
import Derived.Test.YthlleheeghiljaaP2
namespace Go.Proofs.Ythlleheeghiljaa
open Go.RowKit
set_option maxRecDepth 100000

def ex5 (l : List Int) : List Int := [l.getD 0 0, l.getD 1 0, l.getD 2 0, l.getD 3 0, l.getD 4 0]
/-- What a block of at most sixteen bytes is read as. -/
def readL (n : Nat) (l : List Int) : List Int := cond (decide ((n : Int) = 16)) (digL (rdF l) 1) (digL (rdP n l) 0)
def kRead : Nat × (List Int) → ClN := fun (n, l) => ⟨[.o (.c (.rs 1 n (.i .u8 l)))], [], .o (.g [.many 5 (.i .u64 (ex5 (readL n l)))]), [], [], [l.length = n, n ≤ 16]⟩
noncomputable def FRead : FnE := ⟨mkEv Try.prog [] [cDigits] 0, [0, 2, 3, 9], fun _ _ => .rounds 0⟩
def mRead : List AV → (Nat → Option MB) → Option (List Nat × (Nat × (List Int)))
  | [.o (.c c)], lk => match slI lk c with
    | some (n, l) => some ([], n, l)
    | none => none
  | _, _ => none
noncomputable def cRead : Spec := callG 32 Try.f32.ntmps mRead kRead
theorem vcRead (n : Nat) (l : List Int) : (wpE FRead (Try.f32.body.getD .skip) ⟨Try.f32.ntmps, slotsOf 0 (kRead (n, l)).avs, (kRead (n, l)).mem⟩ (finK Try.prog Try.f32.results.toList (postN (kRead (n, l))))) = (let x1 := lay (List.replicate (16 : Nat) (0 : Int)) (0 : Nat) (List.take (Nat.min n (16 : Nat)) (List.drop (0 : Nat) l)); let x2 := List.take (16 : Nat) (List.drop (0 : Nat) x1); let x3 := List.take (16 : Nat) (List.drop (0 : Nat) (List.set x1 (Int.toNat (↑n : Int)) (1 : Int))); (16 : Nat) ≤ (9223372036854775807 : Nat) ∧ (0 : Nat) + Nat.min n (16 : Nat) ≤ (16 : Nat) ∧ bif decide ((↑n : Int) = (16 : Int)) then (16 : Nat) ≤ (9223372036854775807 : Nat) ∧ true = true ∧ true = true ∧ (16 : Nat) = (16 : Nat) ∧ x2 = x2 ∧ (16 : Nat) ≤ (16 : Nat) ∧ Value.int IntKind.u64 (1 : Int) = Value.int IntKind.u64 (1 : Int) ∧ (16 : Nat) ≤ (16 : Nat) ∧ List.length x2 = (16 : Nat) ∧ true = true ∧ true = true ∧ (17 : Nat) = (17 : Nat) ∧ (5 : Nat) = (5 : Nat) ∧ digL x2 (1 : Int) = ex5 (readL n l) else (0 : Int) ≤ (↑n : Int) ∧ (↑n : Int) < (16 : Int) ∧ Int.toNat (↑n : Int) < (16 : Nat) ∧ (16 : Nat) ≤ (9223372036854775807 : Nat) ∧ true = true ∧ true = true ∧ (16 : Nat) = (16 : Nat) ∧ x3 = x3 ∧ (16 : Nat) ≤ (16 : Nat) ∧ Value.int IntKind.u64 (0 : Int) = Value.int IntKind.u64 (0 : Int) ∧ (16 : Nat) ≤ (16 : Nat) ∧ List.length x3 = (16 : Nat) ∧ true = true ∧ true = true ∧ (17 : Nat) = (17 : Nat) ∧ (5 : Nat) = (5 : Nat) ∧ digL x3 (0 : Int) = ex5 (readL n l)) := by kernel_rfl

set_option maxHeartbeats 8000000 in
theorem wpRead (n : Nat) (l : List Int) (h1 : l.length = n) (h2 : n ≤ 16) : wpE FRead (Try.f32.body.getD .skip) ⟨Try.f32.ntmps, slotsOf 0 (kRead (n, l)).avs, (kRead (n, l)).mem⟩ (finK Try.prog Try.f32.results.toList (postN (kRead (n, l)))) := by
  with_reducible refine Eq.mpr (vcRead n l) ?_
  by_cases hn : n = 16
  · subst hn
    have hl := rdF_len h1
    have hd : decide (((16 : Nat) : Int) = 16) = true := rfl
    have e : ex5 (readL 16 l) = digL (rdF l) 1 := rfl
    rw [e, hd]
    intros
    rw [cond_true]
    and_intros <;> first | omega | exact True.intro | exact hl | exact (by decide : 0 + Nat.min 16 16 ≤ 16) | kernel_rfl
  · have hl := rdP_len h1 (by omega)
    have hd : decide ((n : Int) = 16) = false := decide_eq_false (by omega)
    have hm : Nat.min n 16 = n := Nat.min_eq_left h2
    have e : ex5 (readL n l) = digL (rdP n l) 0 := by unfold readL; rw [hd]; rfl
    simp only [Int.toNat_natCast]
    rw [e, hd, cond_false]
    and_intros <;> first | omega | exact True.intro | exact hl | (rw [hm]; omega) | kernel_rfl
set_option maxHeartbeats 8000000 in
theorem cRead_ok : SpecOK Try.prog cRead := by
  refine callG_ok (c := Try.f32.body.getD .skip) mixed Try.func32 (by kernel_rfl) rfl (fun x hob => ?_)
  obtain ⟨n, l⟩ := x
  have hob : (l.length = n) ∧ (n ≤ 16) := hob
  obtain ⟨h1, h2⟩ := hob
  exact ⟨FRead, rfl, evOKs ⟨.inl ⟨cDigits_ok, by kernel_rfl, gl_nil rfl⟩, trivial⟩, rfl, rfl, by with_reducible exact wpRead n l h1 h2⟩

def stp (a b c d e p q r s t : Int) (g : List Int) : List Int := timesL (w6 (a + g.getD 0 0)) (w6 (b + g.getD 1 0)) (w6 (c + g.getD 2 0)) (w6 (d + g.getD 3 0)) (w6 (e + g.getD 4 0)) p q r s t
def kTake : Nat × (List Int) × Nat × Nat × Int × Int × Int × Int × Int × Int × Int × Int × Int × Int → ClN := fun (n, l, ts, tr, a, b, c, d, e, p, q, r, s, t) => ⟨[.o (.c (.rs 1 n (.i .u8 l))), .o (.c (.ptr 0 0 none)), .o (.c (.ptr 1 0 none))], [.fix ts [.many 5 (.i .u64 [a, b, c, d, e])], .ro tr [.many 5 (.i .u64 [p, q, r, s, t])]], .t [], [.fix ts [.many 5 (.i .u64 (stp a b c d e p q r s t (readL n l)))], .dead], [0, 1], [l.length = n, n ≤ 16]⟩
noncomputable def FTake : FnE := ⟨mkEv Try.prog [] [cRead, cPlus, cTimes] 2, [0, 1, 2], fun _ _ => .rounds 0⟩
def mTake : List AV → (Nat → Option MB) → Option (List Nat × (Nat × (List Int) × Nat × Nat × Int × Int × Int × Int × Int × Int × Int × Int × Int × Int))
  | [.o (.c x), .o (.c (.ptr i 0 none)), .o (.c (.ptr j 0 none))], lk => match slI lk x with
    | some (n, l) => match lk i with
      | some (.fix ts [.many 5 (.i .u64 [a, b, c, d, e])]) => match lk j with
        | some (.fix tr [.many 5 (.i .u64 [p, q, r, s, t])]) => some ([i, j], n, l, ts, tr, a, b, c, d, e, p, q, r, s, t)
        | some (.ro tr [.many 5 (.i .u64 [p, q, r, s, t])]) => some ([i, j], n, l, ts, tr, a, b, c, d, e, p, q, r, s, t)
        | _ => none
      | _ => none
    | none => none
  | _, _ => none
noncomputable def cTake : Spec := callG 30 Try.f30.ntmps mTake kTake
theorem vcTake (n : Nat) (l : List Int) (ts tr : Nat) (a b c d e p q r s t : Int) : (wpE FTake (Try.f30.body.getD .skip) ⟨Try.f30.ntmps, slotsOf 0 (kTake (n, l, ts, tr, a, b, c, d, e, p, q, r, s, t)).avs, (kTake (n, l, ts, tr, a, b, c, d, e, p, q, r, s, t)).mem⟩ (finK Try.prog Try.f30.results.toList (postN (kTake (n, l, ts, tr, a, b, c, d, e, p, q, r, s, t))))) = (let x1 := [a, b, c, d, e]; let x2 := List.getD (readL n l) (0 : Nat) (0 : Int); let x3 := List.getD (readL n l) (1 : Nat) (0 : Int); let x4 := List.getD (readL n l) (2 : Nat) (0 : Int); let x5 := List.getD (readL n l) (3 : Nat) (0 : Int); let x6 := List.getD (readL n l) (4 : Nat) (0 : Int); let x7 := w6 (a + x2); let x8 := w6 (b + x3); let x9 := w6 (c + x4); let x10 := w6 (d + x5); let x11 := w6 (e + x6); let x12 := [x7, x8, x9, x10, x11]; let x13 := [p, q, r, s, t]; true = true ∧ true = true ∧ n = n ∧ l = l ∧ List.length l = n ∧ n ≤ (16 : Nat) ∧ true = true ∧ (5 : Nat) = (5 : Nat) ∧ x1 = x1 ∧ (5 : Nat) = (5 : Nat) ∧ ex5 (readL n l) = [x2, x3, x4, x5, x6] ∧ true = true ∧ (5 : Nat) = (5 : Nat) ∧ x12 = x12 ∧ (5 : Nat) = (5 : Nat) ∧ x13 = x13 ∧ true = true ∧ true = true ∧ (10 : Nat) = (10 : Nat) ∧ ts = ts ∧ (5 : Nat) = (5 : Nat) ∧ timesL x7 x8 x9 x10 x11 p q r s t = stp a b c d e p q r s t (readL n l)) := by kernel_rfl

set_option maxHeartbeats 8000000 in
theorem wpTake (n : Nat) (l : List Int) (ts tr : Nat) (a b c d e p q r s t : Int) (h1 : l.length = n) (h2 : n ≤ 16) : wpE FTake (Try.f30.body.getD .skip) ⟨Try.f30.ntmps, slotsOf 0 (kTake (n, l, ts, tr, a, b, c, d, e, p, q, r, s, t)).avs, (kTake (n, l, ts, tr, a, b, c, d, e, p, q, r, s, t)).mem⟩ (finK Try.prog Try.f30.results.toList (postN (kTake (n, l, ts, tr, a, b, c, d, e, p, q, r, s, t)))) := by
  with_reducible refine Eq.mpr (vcTake n l ts tr a b c d e p q r s t) ?_
  intros
  and_intros <;> first | omega | exact True.intro | kernel_rfl
set_option maxHeartbeats 8000000 in
theorem cTake_ok : SpecOK Try.prog cTake := by
  refine callG_ok (c := Try.f30.body.getD .skip) mixed Try.func30 (by kernel_rfl) rfl (fun x hob => ?_)
  obtain ⟨n, l, ts, tr, a, b, c, d, e, p, q, r, s, t⟩ := x
  have hob : (l.length = n) ∧ (n ≤ 16) := hob
  obtain ⟨h1, h2⟩ := hob
  exact ⟨FTake, rfl, evOKs ⟨.inl ⟨cRead_ok, by kernel_rfl, gl_nil rfl⟩, ⟨.inl ⟨cPlus_ok, by kernel_rfl, gl_nil rfl⟩, ⟨.inl ⟨cTimes_ok, by kernel_rfl, gl_nil rfl⟩, trivial⟩⟩⟩, rfl, rfl, by with_reducible exact wpTake n l ts tr a b c d e p q r s t h1 h2⟩

end Go.Proofs.Ythlleheeghiljaa
namespace Go.Proofs.Ythlleheeghiljaa
open Go.RowKit
set_option maxRecDepth 100000

/-- The digits after k whole blocks. -/
def fold5 (z r t : List Int) : Nat → List Int
  | 0 => z
  | k + 1 => stp ((fold5 z r t k).getD 0 0) ((fold5 z r t k).getD 1 0) ((fold5 z r t k).getD 2 0) ((fold5 z r t k).getD 3 0) ((fold5 z r t k).getD 4 0) (r.getD 0 0) (r.getD 1 0) (r.getD 2 0) (r.getD 3 0) (r.getD 4 0) (readL 16 ((t.drop (16 * k)).take 16))
/-- The digits of all. -/
def all5 (z r t : List Int) : List Int := if t.length % 16 = 0 then fold5 z r t (t.length / 16) else
  stp ((fold5 z r t (t.length / 16)).getD 0 0) ((fold5 z r t (t.length / 16)).getD 1 0) ((fold5 z r t (t.length / 16)).getD 2 0) ((fold5 z r t (t.length / 16)).getD 3 0) ((fold5 z r t (t.length / 16)).getD 4 0) (r.getD 0 0) (r.getD 1 0) (r.getD 2 0) (r.getD 3 0) (r.getD 4 0) (readL (t.length % 16) (t.drop (16 * (t.length / 16))))
/-- Where the loops stand: so many bytes are taken, the last ones of them lie in the block; the digits. -/
structure InN (z r t : List Int) where
  c : Nat
  B : List Int
  a0 : Int
  a1 : Int
  a2 : Int
  a3 : Int
  a4 : Int
  hB : B.length = 16
  hc : c ≤ t.length
  ha : [a0, a1, a2, a3, a4] = fold5 z r t (c / 16)
  hT : B.take (c % 16) = (t.drop (16 * (c / 16))).take (c % 16)
theorem lay_take {B x : List Int} {f : Nat} (h : f + x.length ≤ B.length) : (lay B f x).take (f + x.length) = B.take f ++ x := by
  unfold lay
  exact List.take_left' (by simp; omega)
theorem flat_at {ls : List (List Int)} {i : Nat} (h : i < ls.length) : ls.flatten = (ls.take i).flatten ++ (ls.getD i [] ++ (ls.drop (i + 1)).flatten) ∧ (ls.take (i + 1)).flatten = (ls.take i).flatten ++ ls.getD i [] := by
  have e : ls.getD i [] = ls[i] := by rw [List.getD_eq_getElem?_getD, List.getElem?_eq_getElem h]; rfl
  rw [e]
  constructor
  · rw [← List.flatten_cons, ← List.drop_eq_getElem_cons h, ← List.flatten_append, List.take_append_drop]
  · rw [List.take_add_one, List.getElem?_eq_getElem h, List.flatten_append]
    simp
theorem flat_drop {ls : List (List Int)} {i j : Nat} (h : i < ls.length) (hj : j ≤ (ls.getD i []).length) : (ls.flatten.drop ((ls.take i).flatten.length + j)).take ((ls.getD i []).length - j) = (ls.getD i []).drop j ∧ (ls.take i).flatten.length + (ls.getD i []).length ≤ ls.flatten.length := by
  obtain ⟨h1, _⟩ := flat_at h
  rw [h1]
  constructor
  · rw [List.drop_append, List.drop_of_length_le (by omega), List.nil_append, Nat.add_sub_cancel_left, List.drop_append_of_le_length hj]
    exact List.take_left' (by simp)
  · simp only [List.length_append]; omega
/-- The next bytes are laid into the block. -/
theorem inn_step {z r t : List Int} (x : InN z r t) {l : List Int} {j m : Nat} (hl : (t.drop x.c).take (l.length - j) = l.drop j) (hm : m = Nat.min (l.length - j) (16 - x.c % 16)) :
    ((l.drop j).take m).length = m ∧ (lay x.B (x.c % 16) ((l.drop j).take m)).length = 16 ∧ (lay x.B (x.c % 16) ((l.drop j).take m)).take (x.c % 16 + m) = (t.drop (16 * (x.c / 16))).take (x.c % 16 + m) := by
  have h1 : m ≤ l.length - j := by rw [hm]; exact Nat.min_le_left _ _
  have h2 : m ≤ 16 - x.c % 16 := by rw [hm]; exact Nat.min_le_right _ _
  have h3 : x.c % 16 < 16 := Nat.mod_lt _ (by decide)
  have e1 : ((l.drop j).take m).length = m := by rw [List.length_take, List.length_drop]; omega
  have hB := x.hB
  refine ⟨e1, by rw [lay_length _ _ _ (by rw [e1]; omega), hB], ?_⟩
  have e2 := lay_take (B := x.B) (x := (l.drop j).take m) (f := x.c % 16) (by rw [e1]; omega)
  rw [e1] at e2
  rw [e2, List.take_add, x.hT, List.drop_drop, show 16 * (x.c / 16) + x.c % 16 = x.c by omega]
  congr 1
  rw [← hl, List.take_take, Nat.min_eq_left h1]
theorem five_eq {z r t : List Int} (x : InN z r t) : ex5 (fold5 z r t (x.c / 16)) = [x.a0, x.a1, x.a2, x.a3, x.a4] := by rw [← x.ha]; rfl
theorem fold_next {z : List Int} {p q r s u : Int} {t : List Int} (x : InN z [p, q, r, s, u] t) : fold5 z [p, q, r, s, u] t (x.c / 16 + 1) = stp x.a0 x.a1 x.a2 x.a3 x.a4 p q r s u (readL 16 ((t.drop (16 * (x.c / 16))).take 16)) := by
  rw [fold5, ← x.ha]; rfl
noncomputable def stOut (ts tr tb : Nat) (p q r s u : Int) (ls : List (List Int)) (z : List Int) (x : InN z [p, q, r, s, u] ls.flatten) (i : Nat) : St := ⟨Try.f29.ntmps, [(1, .o (.c (.fn 30 [(0, 0), (1, 0)]))), (4, .o (.c (.ptr 2 0 none))), (5, vv (.int .i64 ((x.c % 16 : Nat) : Int))), (9, .o (.c (.rss ls))), (10, vv (.int .i64 (ls.length : Int))), (11, vv (.int .i64 (i : Int)))], [.fix ts [.many 5 (.i .u64 [x.a0, x.a1, x.a2, x.a3, x.a4])], .ro tr [.many 5 (.i .u64 [p, q, r, s, u])], .fix tb [.many 16 (.i .u8 x.B)]]⟩
noncomputable def stInn (ts tr tb : Nat) (p q r s u : Int) (ls : List (List Int)) (z : List Int) (i : Nat) (x : InN z [p, q, r, s, u] ls.flatten) (j : Nat) : St := ⟨Try.f29.ntmps, [(1, .o (.c (.fn 30 [(0, 0), (1, 0)]))), (4, .o (.c (.ptr 2 0 none))), (5, vv (.int .i64 ((x.c % 16 : Nat) : Int))), (7, .o (.c (.rs 1 ((ls.getD i []).length - j) (.i .u8 ((ls.getD i []).drop j))))), (9, .o (.c (.rss ls))), (10, vv (.int .i64 (ls.length : Int))), (11, vv (.int .i64 (i : Int)))], [.fix ts [.many 5 (.i .u64 [x.a0, x.a1, x.a2, x.a3, x.a4])], .ro tr [.many 5 (.i .u64 [p, q, r, s, u])], .fix tb [.many 16 (.i .u8 x.B)]]⟩
def kInBn : Nat × Nat × (List (List Int)) × Int × Int × Int × Int × Int × Int × Int × Int × Int × Int → ClN := fun (ts, tr, ls, a, b, c, d, e, p, q, r, s, u) => ⟨[.o (.c (.rss ls)), .o (.c (.fn 30 [(0, 0), (1, 0)]))], [.fix ts [.many 5 (.i .u64 [a, b, c, d, e])], .ro tr [.many 5 (.i .u64 [p, q, r, s, u])]], .t [], [.fix ts [.many 5 (.i .u64 (ex5 (all5 [a, b, c, d, e] [p, q, r, s, u] ls.flatten)))], .dead], [0, 1], [ls.length ≤ 140737488355328]⟩
noncomputable def FInBn (ts tr : Nat) (ls : List (List Int)) (a b c d e p q r s u : Int) : FnE := ⟨mkEv Try.prog [] [cTake] 2, [0, 1, 4, 5, 7, 8, 9, 10, 11, 12, 17, 29, 35], fun g σ => cond (Nat.beq g 3) (.inv { x : InN [a, b, c, d, e] [p, q, r, s, u] ls.flatten × Nat // x.2 ≤ ls.length ∧ x.1.c = (ls.take x.2).flatten.length } (fun x => stOut ts tr 41 p q r s u ls [a, b, c, d, e] x.1.1 x.1.2) (fun x => ls.length - x.1.2) [0, 1, 2] [0, 1, 2]) (.inv { x : InN [a, b, c, d, e] [p, q, r, s, u] ls.flatten × Nat // x.2 ≤ (ls.getD (iOf 11 σ) []).length ∧ iOf 11 σ < ls.length ∧ x.1.c = (ls.take (iOf 11 σ)).flatten.length + x.2 } (fun x => stInn ts tr 41 p q r s u ls [a, b, c, d, e] (iOf 11 σ) x.1.1 x.1.2) (fun x => (ls.getD (iOf 11 σ) []).length - x.1.2) [0, 1, 2] [0, 1, 2])⟩
def mInBn : List AV → (Nat → Option MB) → Option (List Nat × (Nat × Nat × (List (List Int)) × Int × Int × Int × Int × Int × Int × Int × Int × Int × Int))
  | [.o (.c x), .o (.c (.fn 30 [(j, 0), (k, 0)]))], lk => match slS lk x with
    | some ls => match lk j with
        | some (.fix ts [.many 5 (.i .u64 [a, b, c, d, e])]) => match lk k with
          | some (.fix tr [.many 5 (.i .u64 [p, q, r, s, u])]) => some ([j, k], ts, tr, ls, a, b, c, d, e, p, q, r, s, u)
          | _ => none
        | _ => none
    | none => none
  | _, _ => none
noncomputable def cInBn : Spec := callG 29 Try.f29.ntmps mInBn kInBn
theorem vcInBn (ts tr : Nat) (ls : List (List Int)) (a b c d e p q r s u : Int) : (wpE (FInBn ts tr ls a b c d e p q r s u) (Try.f29.body.getD .skip) ⟨Try.f29.ntmps, slotsOf 0 (kInBn (ts, tr, ls, a, b, c, d, e, p, q, r, s, u)).avs, (kInBn (ts, tr, ls, a, b, c, d, e, p, q, r, s, u)).mem⟩ (finK Try.prog Try.f29.results.toList (postN (kInBn (ts, tr, ls, a, b, c, d, e, p, q, r, s, u))))) = (let x1 := [a, b, c, d, e]; let x2 := [p, q, r, s, u]; let x3 := ex5 (all5 x1 x2 (List.flatten ls)); (∃ (x : { x : InN x1 x2 (List.flatten ls) × Nat // Prod.snd x ≤ List.length ls ∧ InN.c (Prod.fst x) = List.length (List.flatten (List.take (Prod.snd x) ls)) }), true = true ∧ true = true ∧ (40 : Nat) = (40 : Nat) ∧ (30 : Nat) = (30 : Nat) ∧ getL [(0 : Nat), (1 : Nat), (2 : Nat)] (0 : Nat) = some (0 : Nat) ∧ (0 : Nat) = (0 : Nat) ∧ getL [(0 : Nat), (1 : Nat), (2 : Nat)] (1 : Nat) = some (1 : Nat) ∧ (0 : Nat) = (0 : Nat) ∧ getL [(0 : Nat), (1 : Nat), (2 : Nat)] (2 : Nat) = some (2 : Nat) ∧ (0 : Nat) = (0 : Nat) ∧ Value.int IntKind.i64 (0 : Int) = Value.int IntKind.i64 (↑(InN.c (Prod.fst (Subtype.val x)) % (16 : Nat)) : Int) ∧ ls = ls ∧ Value.int IntKind.i64 (↑(List.length ls) : Int) = Value.int IntKind.i64 (↑(List.length ls) : Int) ∧ Value.int IntKind.i64 (0 : Int) = Value.int IntKind.i64 (↑(Prod.snd (Subtype.val x)) : Int) ∧ ts = ts ∧ (5 : Nat) = (5 : Nat) ∧ x1 = [InN.a0 (Prod.fst (Subtype.val x)), InN.a1 (Prod.fst (Subtype.val x)), InN.a2 (Prod.fst (Subtype.val x)), InN.a3 (Prod.fst (Subtype.val x)), InN.a4 (Prod.fst (Subtype.val x))] ∧ tr = tr ∧ (5 : Nat) = (5 : Nat) ∧ x2 = x2 ∧ (41 : Nat) = (41 : Nat) ∧ (16 : Nat) = (16 : Nat) ∧ List.replicate (16 : Nat) (0 : Int) = InN.B (Prod.fst (Subtype.val x))) ∧ ∀ (x : { x : InN x1 x2 (List.flatten ls) × Nat // Prod.snd x ≤ List.length ls ∧ InN.c (Prod.fst x) = List.length (List.flatten (List.take (Prod.snd x) ls)) }), bif decide ((↑(Prod.snd (Subtype.val x)) : Int) < (↑(List.length ls) : Int)) then (0 : Int) ≤ (↑(Prod.snd (Subtype.val x)) : Int) ∧ (↑(Prod.snd (Subtype.val x)) : Int) < (↑(List.length ls) : Int) ∧ (∃ (x_1 : { x_1 : InN x1 x2 (List.flatten ls) × Nat // Prod.snd x_1 ≤ List.length (List.getD ls (Subtype.val x).2 []) ∧ (Subtype.val x).2 < List.length ls ∧ InN.c (Prod.fst x_1) = List.length (List.flatten (List.take (Subtype.val x).2 ls)) + Prod.snd x_1 }), true = true ∧ true = true ∧ (40 : Nat) = (40 : Nat) ∧ (30 : Nat) = (30 : Nat) ∧ getL [(0 : Nat), (1 : Nat), (2 : Nat)] (0 : Nat) = some (0 : Nat) ∧ (0 : Nat) = (0 : Nat) ∧ getL [(0 : Nat), (1 : Nat), (2 : Nat)] (1 : Nat) = some (1 : Nat) ∧ (0 : Nat) = (0 : Nat) ∧ getL [(0 : Nat), (1 : Nat), (2 : Nat)] (2 : Nat) = some (2 : Nat) ∧ (0 : Nat) = (0 : Nat) ∧ Value.int IntKind.i64 (↑(InN.c (Prod.fst (Subtype.val x)) % (16 : Nat)) : Int) = Value.int IntKind.i64 (↑(InN.c (Prod.fst (Subtype.val x_1)) % (16 : Nat)) : Int) ∧ (1 : Nat) = (1 : Nat) ∧ List.length (List.getD ls (Int.toNat (↑(Prod.snd (Subtype.val x)) : Int)) []) = List.length (List.getD ls (Subtype.val x).2 []) - Prod.snd (Subtype.val x_1) ∧ List.getD ls (Int.toNat (↑(Prod.snd (Subtype.val x)) : Int)) [] = List.drop (Prod.snd (Subtype.val x_1)) (List.getD ls (Subtype.val x).2 []) ∧ ls = ls ∧ Value.int IntKind.i64 (↑(List.length ls) : Int) = Value.int IntKind.i64 (↑(List.length ls) : Int) ∧ Value.int IntKind.i64 (↑(Prod.snd (Subtype.val x)) : Int) = Value.int IntKind.i64 (↑(Subtype.val x).2 : Int) ∧ ts = ts ∧ (5 : Nat) = (5 : Nat) ∧ [InN.a0 (Prod.fst (Subtype.val x)), InN.a1 (Prod.fst (Subtype.val x)), InN.a2 (Prod.fst (Subtype.val x)), InN.a3 (Prod.fst (Subtype.val x)), InN.a4 (Prod.fst (Subtype.val x))] = [InN.a0 (Prod.fst (Subtype.val x_1)), InN.a1 (Prod.fst (Subtype.val x_1)), InN.a2 (Prod.fst (Subtype.val x_1)), InN.a3 (Prod.fst (Subtype.val x_1)), InN.a4 (Prod.fst (Subtype.val x_1))] ∧ tr = tr ∧ (5 : Nat) = (5 : Nat) ∧ x2 = x2 ∧ (41 : Nat) = (41 : Nat) ∧ (16 : Nat) = (16 : Nat) ∧ InN.B (Prod.fst (Subtype.val x)) = InN.B (Prod.fst (Subtype.val x_1))) ∧ ∀ (x_1 : { x_1 : InN x1 x2 (List.flatten ls) × Nat // Prod.snd x_1 ≤ List.length (List.getD ls (Subtype.val x).2 []) ∧ (Subtype.val x).2 < List.length ls ∧ InN.c (Prod.fst x_1) = List.length (List.flatten (List.take (Subtype.val x).2 ls)) + Prod.snd x_1 }), bif decide ((0 : Int) < (↑(List.length (List.getD ls (Subtype.val x).2 []) - Prod.snd (Subtype.val x_1)) : Int)) then (0 : Int) ≤ (↑(InN.c (Prod.fst (Subtype.val x_1)) % (16 : Nat)) : Int) ∧ Int.toNat (↑(InN.c (Prod.fst (Subtype.val x_1)) % (16 : Nat)) : Int) ≤ (16 : Nat) ∧ (16 : Nat) ≤ (9223372036854775807 : Nat) ∧ (0 : Nat) + Int.toNat (↑(InN.c (Prod.fst (Subtype.val x_1)) % (16 : Nat)) : Int) + Nat.min (List.length (List.getD ls (Subtype.val x).2 []) - Prod.snd (Subtype.val x_1)) ((16 : Nat) - Int.toNat (↑(InN.c (Prod.fst (Subtype.val x_1)) % (16 : Nat)) : Int)) ≤ (16 : Nat) ∧ (0 : Int) ≤ (↑(Nat.min (List.length (List.getD ls (Subtype.val x).2 []) - Prod.snd (Subtype.val x_1)) ((16 : Nat) - Int.toNat (↑(InN.c (Prod.fst (Subtype.val x_1)) % (16 : Nat)) : Int))) : Int) ∧ Int.toNat (↑(Nat.min (List.length (List.getD ls (Subtype.val x).2 []) - Prod.snd (Subtype.val x_1)) ((16 : Nat) - Int.toNat (↑(InN.c (Prod.fst (Subtype.val x_1)) % (16 : Nat)) : Int))) : Int) ≤ List.length (List.getD ls (Subtype.val x).2 []) - Prod.snd (Subtype.val x_1) ∧ bif decide (IntKind.wrap IntKind.i64 ((↑(InN.c (Prod.fst (Subtype.val x_1)) % (16 : Nat)) : Int) + (↑(Nat.min (List.length (List.getD ls (Subtype.val x).2 []) - Prod.snd (Subtype.val x_1)) ((16 : Nat) - Int.toNat (↑(InN.c (Prod.fst (Subtype.val x_1)) % (16 : Nat)) : Int))) : Int)) = (16 : Int)) then (16 : Nat) ≤ (9223372036854775807 : Nat) ∧ true = true ∧ true = true ∧ (16 : Nat) = (16 : Nat) ∧ List.take (16 : Nat) (List.drop (0 : Nat) (lay (InN.B (Prod.fst (Subtype.val x_1))) ((0 : Nat) + Int.toNat (↑(InN.c (Prod.fst (Subtype.val x_1)) % (16 : Nat)) : Int)) (List.take (Nat.min (List.length (List.getD ls (Subtype.val x).2 []) - Prod.snd (Subtype.val x_1)) ((16 : Nat) - Int.toNat (↑(InN.c (Prod.fst (Subtype.val x_1)) % (16 : Nat)) : Int))) (List.drop (0 : Nat) (List.drop (Prod.snd (Subtype.val x_1)) (List.getD ls (Subtype.val x).2 [])))))) = List.take (16 : Nat) (List.drop (0 : Nat) (lay (InN.B (Prod.fst (Subtype.val x_1))) ((0 : Nat) + Int.toNat (↑(InN.c (Prod.fst (Subtype.val x_1)) % (16 : Nat)) : Int)) (List.take (Nat.min (List.length (List.getD ls (Subtype.val x).2 []) - Prod.snd (Subtype.val x_1)) ((16 : Nat) - Int.toNat (↑(InN.c (Prod.fst (Subtype.val x_1)) % (16 : Nat)) : Int))) (List.drop (0 : Nat) (List.drop (Prod.snd (Subtype.val x_1)) (List.getD ls (Subtype.val x).2 [])))))) ∧ (16 : Nat) ≤ (16 : Nat) ∧ getL [(0 : Nat), (1 : Nat)] (0 : Nat) = some (0 : Nat) ∧ (0 : Nat) = (0 : Nat) ∧ getL [(0 : Nat), (1 : Nat)] (1 : Nat) = some (1 : Nat) ∧ (0 : Nat) = (0 : Nat) ∧ ts = ts ∧ (5 : Nat) = (5 : Nat) ∧ [InN.a0 (Prod.fst (Subtype.val x_1)), InN.a1 (Prod.fst (Subtype.val x_1)), InN.a2 (Prod.fst (Subtype.val x_1)), InN.a3 (Prod.fst (Subtype.val x_1)), InN.a4 (Prod.fst (Subtype.val x_1))] = [InN.a0 (Prod.fst (Subtype.val x_1)), InN.a1 (Prod.fst (Subtype.val x_1)), InN.a2 (Prod.fst (Subtype.val x_1)), InN.a3 (Prod.fst (Subtype.val x_1)), InN.a4 (Prod.fst (Subtype.val x_1))] ∧ tr = tr ∧ (5 : Nat) = (5 : Nat) ∧ x2 = x2 ∧ List.length (List.take (16 : Nat) (List.drop (0 : Nat) (lay (InN.B (Prod.fst (Subtype.val x_1))) ((0 : Nat) + Int.toNat (↑(InN.c (Prod.fst (Subtype.val x_1)) % (16 : Nat)) : Int)) (List.take (Nat.min (List.length (List.getD ls (Subtype.val x).2 []) - Prod.snd (Subtype.val x_1)) ((16 : Nat) - Int.toNat (↑(InN.c (Prod.fst (Subtype.val x_1)) % (16 : Nat)) : Int))) (List.drop (0 : Nat) (List.drop (Prod.snd (Subtype.val x_1)) (List.getD ls (Subtype.val x).2 []))))))) = (16 : Nat) ∧ (16 : Nat) ≤ (16 : Nat) ∧ ∃ (y : { x_2 : InN x1 x2 (List.flatten ls) × Nat // Prod.snd x_2 ≤ List.length (List.getD ls (Subtype.val x).2 []) ∧ (Subtype.val x).2 < List.length ls ∧ InN.c (Prod.fst x_2) = List.length (List.flatten (List.take (Subtype.val x).2 ls)) + Prod.snd x_2 }), (true = true ∧ true = true ∧ (40 : Nat) = (40 : Nat) ∧ (30 : Nat) = (30 : Nat) ∧ getL [(0 : Nat), (1 : Nat), (2 : Nat)] (0 : Nat) = some (0 : Nat) ∧ (0 : Nat) = (0 : Nat) ∧ getL [(0 : Nat), (1 : Nat), (2 : Nat)] (1 : Nat) = some (1 : Nat) ∧ (0 : Nat) = (0 : Nat) ∧ getL [(0 : Nat), (1 : Nat), (2 : Nat)] (2 : Nat) = some (2 : Nat) ∧ (0 : Nat) = (0 : Nat) ∧ Value.int IntKind.i64 (0 : Int) = Value.int IntKind.i64 (↑(InN.c (Prod.fst (Subtype.val y)) % (16 : Nat)) : Int) ∧ (1 : Nat) = (1 : Nat) ∧ List.length (List.getD ls (Subtype.val x).2 []) - Prod.snd (Subtype.val x_1) - Int.toNat (↑(Nat.min (List.length (List.getD ls (Subtype.val x).2 []) - Prod.snd (Subtype.val x_1)) ((16 : Nat) - Int.toNat (↑(InN.c (Prod.fst (Subtype.val x_1)) % (16 : Nat)) : Int))) : Int) = List.length (List.getD ls (Subtype.val x).2 []) - Prod.snd (Subtype.val y) ∧ List.take (List.length (List.getD ls (Subtype.val x).2 []) - Prod.snd (Subtype.val x_1) - Int.toNat (↑(Nat.min (List.length (List.getD ls (Subtype.val x).2 []) - Prod.snd (Subtype.val x_1)) ((16 : Nat) - Int.toNat (↑(InN.c (Prod.fst (Subtype.val x_1)) % (16 : Nat)) : Int))) : Int)) (List.drop (Int.toNat (↑(Nat.min (List.length (List.getD ls (Subtype.val x).2 []) - Prod.snd (Subtype.val x_1)) ((16 : Nat) - Int.toNat (↑(InN.c (Prod.fst (Subtype.val x_1)) % (16 : Nat)) : Int))) : Int)) (List.drop (Prod.snd (Subtype.val x_1)) (List.getD ls (Subtype.val x).2 []))) = List.drop (Prod.snd (Subtype.val y)) (List.getD ls (Subtype.val x).2 []) ∧ ls = ls ∧ Value.int IntKind.i64 (↑(List.length ls) : Int) = Value.int IntKind.i64 (↑(List.length ls) : Int) ∧ Value.int IntKind.i64 (↑(Subtype.val x).2 : Int) = Value.int IntKind.i64 (↑(Subtype.val x).2 : Int) ∧ ts = ts ∧ (5 : Nat) = (5 : Nat) ∧ stp (InN.a0 (Prod.fst (Subtype.val x_1))) (InN.a1 (Prod.fst (Subtype.val x_1))) (InN.a2 (Prod.fst (Subtype.val x_1))) (InN.a3 (Prod.fst (Subtype.val x_1))) (InN.a4 (Prod.fst (Subtype.val x_1))) p q r s u (readL (16 : Nat) (List.take (16 : Nat) (List.drop (0 : Nat) (lay (InN.B (Prod.fst (Subtype.val x_1))) ((0 : Nat) + Int.toNat (↑(InN.c (Prod.fst (Subtype.val x_1)) % (16 : Nat)) : Int)) (List.take (Nat.min (List.length (List.getD ls (Subtype.val x).2 []) - Prod.snd (Subtype.val x_1)) ((16 : Nat) - Int.toNat (↑(InN.c (Prod.fst (Subtype.val x_1)) % (16 : Nat)) : Int))) (List.drop (0 : Nat) (List.drop (Prod.snd (Subtype.val x_1)) (List.getD ls (Subtype.val x).2 [])))))))) = [InN.a0 (Prod.fst (Subtype.val y)), InN.a1 (Prod.fst (Subtype.val y)), InN.a2 (Prod.fst (Subtype.val y)), InN.a3 (Prod.fst (Subtype.val y)), InN.a4 (Prod.fst (Subtype.val y))] ∧ tr = tr ∧ (5 : Nat) = (5 : Nat) ∧ x2 = x2 ∧ (41 : Nat) = (41 : Nat) ∧ (16 : Nat) = (16 : Nat) ∧ lay (InN.B (Prod.fst (Subtype.val x_1))) ((0 : Nat) + Int.toNat (↑(InN.c (Prod.fst (Subtype.val x_1)) % (16 : Nat)) : Int)) (List.take (Nat.min (List.length (List.getD ls (Subtype.val x).2 []) - Prod.snd (Subtype.val x_1)) ((16 : Nat) - Int.toNat (↑(InN.c (Prod.fst (Subtype.val x_1)) % (16 : Nat)) : Int))) (List.drop (0 : Nat) (List.drop (Prod.snd (Subtype.val x_1)) (List.getD ls (Subtype.val x).2 [])))) = InN.B (Prod.fst (Subtype.val y))) ∧ List.length (List.getD ls (Subtype.val x).2 []) - Prod.snd (Subtype.val y) < List.length (List.getD ls (Subtype.val x).2 []) - Prod.snd (Subtype.val x_1) else ∃ (y : { x_2 : InN x1 x2 (List.flatten ls) × Nat // Prod.snd x_2 ≤ List.length (List.getD ls (Subtype.val x).2 []) ∧ (Subtype.val x).2 < List.length ls ∧ InN.c (Prod.fst x_2) = List.length (List.flatten (List.take (Subtype.val x).2 ls)) + Prod.snd x_2 }), (true = true ∧ true = true ∧ (40 : Nat) = (40 : Nat) ∧ (30 : Nat) = (30 : Nat) ∧ getL [(0 : Nat), (1 : Nat), (2 : Nat)] (0 : Nat) = some (0 : Nat) ∧ (0 : Nat) = (0 : Nat) ∧ getL [(0 : Nat), (1 : Nat), (2 : Nat)] (1 : Nat) = some (1 : Nat) ∧ (0 : Nat) = (0 : Nat) ∧ getL [(0 : Nat), (1 : Nat), (2 : Nat)] (2 : Nat) = some (2 : Nat) ∧ (0 : Nat) = (0 : Nat) ∧ Value.int IntKind.i64 (IntKind.wrap IntKind.i64 ((↑(InN.c (Prod.fst (Subtype.val x_1)) % (16 : Nat)) : Int) + (↑(Nat.min (List.length (List.getD ls (Subtype.val x).2 []) - Prod.snd (Subtype.val x_1)) ((16 : Nat) - Int.toNat (↑(InN.c (Prod.fst (Subtype.val x_1)) % (16 : Nat)) : Int))) : Int))) = Value.int IntKind.i64 (↑(InN.c (Prod.fst (Subtype.val y)) % (16 : Nat)) : Int) ∧ (1 : Nat) = (1 : Nat) ∧ List.length (List.getD ls (Subtype.val x).2 []) - Prod.snd (Subtype.val x_1) - Int.toNat (↑(Nat.min (List.length (List.getD ls (Subtype.val x).2 []) - Prod.snd (Subtype.val x_1)) ((16 : Nat) - Int.toNat (↑(InN.c (Prod.fst (Subtype.val x_1)) % (16 : Nat)) : Int))) : Int) = List.length (List.getD ls (Subtype.val x).2 []) - Prod.snd (Subtype.val y) ∧ List.take (List.length (List.getD ls (Subtype.val x).2 []) - Prod.snd (Subtype.val x_1) - Int.toNat (↑(Nat.min (List.length (List.getD ls (Subtype.val x).2 []) - Prod.snd (Subtype.val x_1)) ((16 : Nat) - Int.toNat (↑(InN.c (Prod.fst (Subtype.val x_1)) % (16 : Nat)) : Int))) : Int)) (List.drop (Int.toNat (↑(Nat.min (List.length (List.getD ls (Subtype.val x).2 []) - Prod.snd (Subtype.val x_1)) ((16 : Nat) - Int.toNat (↑(InN.c (Prod.fst (Subtype.val x_1)) % (16 : Nat)) : Int))) : Int)) (List.drop (Prod.snd (Subtype.val x_1)) (List.getD ls (Subtype.val x).2 []))) = List.drop (Prod.snd (Subtype.val y)) (List.getD ls (Subtype.val x).2 []) ∧ ls = ls ∧ Value.int IntKind.i64 (↑(List.length ls) : Int) = Value.int IntKind.i64 (↑(List.length ls) : Int) ∧ Value.int IntKind.i64 (↑(Subtype.val x).2 : Int) = Value.int IntKind.i64 (↑(Subtype.val x).2 : Int) ∧ ts = ts ∧ (5 : Nat) = (5 : Nat) ∧ [InN.a0 (Prod.fst (Subtype.val x_1)), InN.a1 (Prod.fst (Subtype.val x_1)), InN.a2 (Prod.fst (Subtype.val x_1)), InN.a3 (Prod.fst (Subtype.val x_1)), InN.a4 (Prod.fst (Subtype.val x_1))] = [InN.a0 (Prod.fst (Subtype.val y)), InN.a1 (Prod.fst (Subtype.val y)), InN.a2 (Prod.fst (Subtype.val y)), InN.a3 (Prod.fst (Subtype.val y)), InN.a4 (Prod.fst (Subtype.val y))] ∧ tr = tr ∧ (5 : Nat) = (5 : Nat) ∧ x2 = x2 ∧ (41 : Nat) = (41 : Nat) ∧ (16 : Nat) = (16 : Nat) ∧ lay (InN.B (Prod.fst (Subtype.val x_1))) ((0 : Nat) + Int.toNat (↑(InN.c (Prod.fst (Subtype.val x_1)) % (16 : Nat)) : Int)) (List.take (Nat.min (List.length (List.getD ls (Subtype.val x).2 []) - Prod.snd (Subtype.val x_1)) ((16 : Nat) - Int.toNat (↑(InN.c (Prod.fst (Subtype.val x_1)) % (16 : Nat)) : Int))) (List.drop (0 : Nat) (List.drop (Prod.snd (Subtype.val x_1)) (List.getD ls (Subtype.val x).2 [])))) = InN.B (Prod.fst (Subtype.val y))) ∧ List.length (List.getD ls (Subtype.val x).2 []) - Prod.snd (Subtype.val y) < List.length (List.getD ls (Subtype.val x).2 []) - Prod.snd (Subtype.val x_1) else ∃ (y : { x : InN x1 x2 (List.flatten ls) × Nat // Prod.snd x ≤ List.length ls ∧ InN.c (Prod.fst x) = List.length (List.flatten (List.take (Prod.snd x) ls)) }), (true = true ∧ true = true ∧ (40 : Nat) = (40 : Nat) ∧ (30 : Nat) = (30 : Nat) ∧ getL [(0 : Nat), (1 : Nat), (2 : Nat)] (0 : Nat) = some (0 : Nat) ∧ (0 : Nat) = (0 : Nat) ∧ getL [(0 : Nat), (1 : Nat), (2 : Nat)] (1 : Nat) = some (1 : Nat) ∧ (0 : Nat) = (0 : Nat) ∧ getL [(0 : Nat), (1 : Nat), (2 : Nat)] (2 : Nat) = some (2 : Nat) ∧ (0 : Nat) = (0 : Nat) ∧ Value.int IntKind.i64 (↑(InN.c (Prod.fst (Subtype.val x_1)) % (16 : Nat)) : Int) = Value.int IntKind.i64 (↑(InN.c (Prod.fst (Subtype.val y)) % (16 : Nat)) : Int) ∧ ls = ls ∧ Value.int IntKind.i64 (↑(List.length ls) : Int) = Value.int IntKind.i64 (↑(List.length ls) : Int) ∧ Value.int IntKind.i64 (IntKind.wrap IntKind.i64 ((↑(Subtype.val x).2 : Int) + (1 : Int))) = Value.int IntKind.i64 (↑(Prod.snd (Subtype.val y)) : Int) ∧ ts = ts ∧ (5 : Nat) = (5 : Nat) ∧ [InN.a0 (Prod.fst (Subtype.val x_1)), InN.a1 (Prod.fst (Subtype.val x_1)), InN.a2 (Prod.fst (Subtype.val x_1)), InN.a3 (Prod.fst (Subtype.val x_1)), InN.a4 (Prod.fst (Subtype.val x_1))] = [InN.a0 (Prod.fst (Subtype.val y)), InN.a1 (Prod.fst (Subtype.val y)), InN.a2 (Prod.fst (Subtype.val y)), InN.a3 (Prod.fst (Subtype.val y)), InN.a4 (Prod.fst (Subtype.val y))] ∧ tr = tr ∧ (5 : Nat) = (5 : Nat) ∧ x2 = x2 ∧ (41 : Nat) = (41 : Nat) ∧ (16 : Nat) = (16 : Nat) ∧ InN.B (Prod.fst (Subtype.val x_1)) = InN.B (Prod.fst (Subtype.val y))) ∧ List.length ls - Prod.snd (Subtype.val y) < List.length ls - Prod.snd (Subtype.val x) else bif decide ((0 : Int) < (↑(InN.c (Prod.fst (Subtype.val x)) % (16 : Nat)) : Int)) then (0 : Int) ≤ (↑(InN.c (Prod.fst (Subtype.val x)) % (16 : Nat)) : Int) ∧ Int.toNat (↑(InN.c (Prod.fst (Subtype.val x)) % (16 : Nat)) : Int) ≤ (16 : Nat) ∧ (16 : Nat) ≤ (9223372036854775807 : Nat) ∧ true = true ∧ true = true ∧ Int.toNat (↑(InN.c (Prod.fst (Subtype.val x)) % (16 : Nat)) : Int) = Int.toNat (↑(InN.c (Prod.fst (Subtype.val x)) % (16 : Nat)) : Int) ∧ List.take (Int.toNat (↑(InN.c (Prod.fst (Subtype.val x)) % (16 : Nat)) : Int)) (List.drop (0 : Nat) (InN.B (Prod.fst (Subtype.val x)))) = List.take (Int.toNat (↑(InN.c (Prod.fst (Subtype.val x)) % (16 : Nat)) : Int)) (List.drop (0 : Nat) (InN.B (Prod.fst (Subtype.val x)))) ∧ (0 : Nat) + Int.toNat (↑(InN.c (Prod.fst (Subtype.val x)) % (16 : Nat)) : Int) ≤ (16 : Nat) ∧ getL [(0 : Nat), (1 : Nat)] (0 : Nat) = some (0 : Nat) ∧ (0 : Nat) = (0 : Nat) ∧ getL [(0 : Nat), (1 : Nat)] (1 : Nat) = some (1 : Nat) ∧ (0 : Nat) = (0 : Nat) ∧ ts = ts ∧ (5 : Nat) = (5 : Nat) ∧ [InN.a0 (Prod.fst (Subtype.val x)), InN.a1 (Prod.fst (Subtype.val x)), InN.a2 (Prod.fst (Subtype.val x)), InN.a3 (Prod.fst (Subtype.val x)), InN.a4 (Prod.fst (Subtype.val x))] = [InN.a0 (Prod.fst (Subtype.val x)), InN.a1 (Prod.fst (Subtype.val x)), InN.a2 (Prod.fst (Subtype.val x)), InN.a3 (Prod.fst (Subtype.val x)), InN.a4 (Prod.fst (Subtype.val x))] ∧ tr = tr ∧ (5 : Nat) = (5 : Nat) ∧ x2 = x2 ∧ List.length (List.take (Int.toNat (↑(InN.c (Prod.fst (Subtype.val x)) % (16 : Nat)) : Int)) (List.drop (0 : Nat) (InN.B (Prod.fst (Subtype.val x))))) = Int.toNat (↑(InN.c (Prod.fst (Subtype.val x)) % (16 : Nat)) : Int) ∧ Int.toNat (↑(InN.c (Prod.fst (Subtype.val x)) % (16 : Nat)) : Int) ≤ (16 : Nat) ∧ true = true ∧ true = true ∧ (40 : Nat) = (40 : Nat) ∧ ts = ts ∧ (5 : Nat) = (5 : Nat) ∧ stp (InN.a0 (Prod.fst (Subtype.val x))) (InN.a1 (Prod.fst (Subtype.val x))) (InN.a2 (Prod.fst (Subtype.val x))) (InN.a3 (Prod.fst (Subtype.val x))) (InN.a4 (Prod.fst (Subtype.val x))) p q r s u (readL (Int.toNat (↑(InN.c (Prod.fst (Subtype.val x)) % (16 : Nat)) : Int)) (List.take (Int.toNat (↑(InN.c (Prod.fst (Subtype.val x)) % (16 : Nat)) : Int)) (List.drop (0 : Nat) (InN.B (Prod.fst (Subtype.val x)))))) = x3 else true = true ∧ true = true ∧ (40 : Nat) = (40 : Nat) ∧ ts = ts ∧ (5 : Nat) = (5 : Nat) ∧ [InN.a0 (Prod.fst (Subtype.val x)), InN.a1 (Prod.fst (Subtype.val x)), InN.a2 (Prod.fst (Subtype.val x)), InN.a3 (Prod.fst (Subtype.val x)), InN.a4 (Prod.fst (Subtype.val x))] = x3) := by kernel_rfl

set_option maxHeartbeats 8000000 in
theorem wpInBn (ts tr : Nat) (ls : List (List Int)) (a b c d e p q r s u : Int) (h1 : ls.length ≤ 140737488355328) : wpE (FInBn ts tr ls a b c d e p q r s u) (Try.f29.body.getD .skip) ⟨Try.f29.ntmps, slotsOf 0 (kInBn (ts, tr, ls, a, b, c, d, e, p, q, r, s, u)).avs, (kInBn (ts, tr, ls, a, b, c, d, e, p, q, r, s, u)).mem⟩ (finK Try.prog Try.f29.results.toList (postN (kInBn (ts, tr, ls, a, b, c, d, e, p, q, r, s, u)))) := by
  with_reducible refine Eq.mpr (vcInBn ts tr ls a b c d e p q r s u) ?_
  have key : ∀ l : List Int, all5 [a, b, c, d, e] [p, q, r, s, u] ls.flatten = l → l.length = 5 → l = ex5 (all5 [a, b, c, d, e] [p, q, r, s, u] ls.flatten) := fun l hl h5 => by
    rw [hl]
    match l, h5 with
    | [_, _, _, _, _], _ => rfl
  have stp5 : ∀ a b c d e p q r s u g, (stp a b c d e p q r s u g).length = 5 := fun _ _ _ _ _ _ _ _ _ _ _ => rfl
  simp only [Int.toNat_natCast, Nat.zero_add, List.drop_zero, Bool.cond_decide]
  refine ⟨⟨⟨⟨⟨0, List.replicate 16 0, a, b, c, d, e, by simp, Nat.zero_le _, rfl, by simp⟩, 0⟩, Nat.zero_le _, by simp⟩, ?_⟩, ?_⟩
  · and_intros <;> first | omega | exact True.intro | rfl
  · rintro ⟨⟨X, i⟩, hi, hc⟩
    dsimp only at hi hc ⊢
    have hlt := Nat.mod_lt X.c (show 0 < 16 by decide)
    split
    · rename_i hil
      have hil' : i < ls.length := by omega
      refine ⟨by omega, by omega, ⟨⟨⟨X, 0⟩, Nat.zero_le _, hil', by rw [hc]; rfl⟩, ?_⟩, ?_⟩
      · and_intros <;> first | omega | exact True.intro | rfl
      · rintro ⟨⟨Y, j⟩, hj, _, hcY⟩
        dsimp only at hj hcY ⊢
        have hltY := Nat.mod_lt Y.c (show 0 < 16 by decide)
        obtain ⟨f1, f2⟩ := flat_drop hil' hj
        rw [← hcY] at f1
        generalize hl : ls.getD i [] = l at *
        split
        · rename_i hjl
          have hjl' : j < l.length := by omega
          obtain ⟨m, hm⟩ : ∃ m, Nat.min (l.length - j) (16 - Y.c % 16) = m := ⟨_, rfl⟩
          simp only [hm]
          have hm1 : m ≤ l.length - j := by rw [← hm]; exact Nat.min_le_left _ _
          have hm2 : m ≤ 16 - Y.c % 16 := by rw [← hm]; exact Nat.min_le_right _ _
          have hm3 : m = l.length - j ∨ m = 16 - Y.c % 16 := by
            rw [← hm]
            rcases Nat.le_total (l.length - j) (16 - Y.c % 16) with h | h
            · exact .inl (Nat.min_eq_left h)
            · exact .inr (Nat.min_eq_right h)
          obtain ⟨g1, g2, g3⟩ := inn_step Y f1 hm.symm
          have hw : IntKind.wrap .i64 (((Y.c % 16 : Nat) : Int) + (m : Int)) = ((Y.c % 16 + m : Nat) : Int) := by rw [IntKind.wrap_i64]; omega
          have hdr : List.take (l.length - j - m) (List.drop m (List.drop j l)) = List.drop (j + m) l := by
            rw [List.drop_drop, List.take_of_length_le (by rw [List.length_drop]; omega)]
          have hcm : (ls.take i).flatten.length + (j + m) ≤ ls.flatten.length := by omega
          rw [hw]
          refine ⟨by omega, by omega, by omega, by omega, by omega, hm1, ?_⟩
          split
          · rename_i h16
            have h16' : Y.c % 16 + m = 16 := by omega
            rw [h16'] at g3
            have hY1 : (Y.c + m) / 16 = Y.c / 16 + 1 := by omega
            have hY2 : (Y.c + m) % 16 = 0 := by omega
            have hE := fold_next Y
            rw [← g3] at hE
            have g4 : (List.take 16 (lay Y.B (Y.c % 16) (List.take m (List.drop j l)))).length = 16 := by rw [List.length_take, g2]; rfl
            and_intros
            all_goals first | omega | exact True.intro | rfl | exact g4 | skip
            refine ⟨⟨⟨⟨Y.c + m, lay Y.B (Y.c % 16) (List.take m (List.drop j l)), (fold5 [a, b, c, d, e] [p, q, r, s, u] ls.flatten ((Y.c + m) / 16)).getD 0 0, (fold5 [a, b, c, d, e] [p, q, r, s, u] ls.flatten ((Y.c + m) / 16)).getD 1 0, (fold5 [a, b, c, d, e] [p, q, r, s, u] ls.flatten ((Y.c + m) / 16)).getD 2 0, (fold5 [a, b, c, d, e] [p, q, r, s, u] ls.flatten ((Y.c + m) / 16)).getD 3 0, (fold5 [a, b, c, d, e] [p, q, r, s, u] ls.flatten ((Y.c + m) / 16)).getD 4 0, g2, by omega, by rw [hY1, hE]; rfl, by rw [hY2]; rfl⟩, j + m⟩, by show j + m ≤ l.length; omega, hil', by show Y.c + m = _ + (j + m); omega⟩, ?_, by show l.length - (j + m) < l.length - j; omega⟩
            dsimp only
            rw [hY1, hE, hY2, hdr]
            and_intros <;> first | omega | exact True.intro | rfl
          · rename_i h16
            have h16' : Y.c % 16 + m < 16 := by omega
            have hY1 : (Y.c + m) / 16 = Y.c / 16 := by omega
            have hY2 : (Y.c + m) % 16 = Y.c % 16 + m := by omega
            refine ⟨⟨⟨⟨Y.c + m, lay Y.B (Y.c % 16) (List.take m (List.drop j l)), Y.a0, Y.a1, Y.a2, Y.a3, Y.a4, g2, by omega, by rw [hY1]; exact Y.ha, by rw [hY1, hY2]; exact g3⟩, j + m⟩, by show j + m ≤ l.length; omega, hil', by show Y.c + m = _ + (j + m); omega⟩, ?_, by show l.length - (j + m) < l.length - j; omega⟩
            dsimp only
            rw [hY2, hdr]
            and_intros <;> first | omega | exact True.intro | rfl
        · rename_i hjl
          have hjl' : j = l.length := by omega
          have hw : IntKind.wrap .i64 ((i : Int) + 1) = ((i + 1 : Nat) : Int) := by rw [IntKind.wrap_i64]; omega
          refine ⟨⟨⟨Y, i + 1⟩, by show i + 1 ≤ ls.length; omega, by show Y.c = _; rw [(flat_at hil').2, List.length_append, hcY, hl, hjl']⟩, ?_, by show ls.length - (i + 1) < ls.length - i; omega⟩
          rw [hw]
          and_intros <;> first | omega | exact True.intro | rfl
    · rename_i hil
      have hil' : i = ls.length := by omega
      have hcl : X.c = ls.flatten.length := by rw [hc, hil', List.take_length]
      split
      · rename_i hf
        and_intros
        all_goals first | omega | exact True.intro | rfl | (rw [List.length_take, X.hB]; omega) | skip
        refine key _ ?_ (stp5 ..)
        unfold all5
        rw [if_neg (by omega), ← hcl, ← X.ha, X.hT, List.take_of_length_le (by rw [List.length_drop]; omega)]
        rfl
      · rename_i hf
        and_intros
        all_goals first | exact True.intro | rfl | skip
        refine key _ ?_ rfl
        unfold all5
        rw [if_pos (by omega), ← hcl, X.ha]
set_option maxHeartbeats 8000000 in
theorem cInBn_ok : SpecOK Try.prog cInBn := by
  refine callG_ok (c := Try.f29.body.getD .skip) mixed Try.func29 (by kernel_rfl) rfl (fun x hob => ?_)
  obtain ⟨ts, tr, ls, a, b, c, d, e, p, q, r, s, u⟩ := x
  have hob : (ls.length ≤ 140737488355328) := hob
  have h1 := hob
  exact ⟨FInBn ts tr ls a b c d e p q r s u, rfl, evOKs ⟨.inl ⟨cTake_ok, by kernel_rfl, gl_nil rfl⟩, trivial⟩, rfl, rfl, by with_reducible exact wpInBn ts tr ls a b c d e p q r s u h1⟩
end Go.Proofs.Ythlleheeghiljaa
namespace Go.Proofs.Ythlleheeghiljaa
open Go.RowKit
set_option maxRecDepth 100000

/-- The tag of all parts' bytes. -/
def sumS (k : List Int) (s : List Int) : List Int := tagL ((k.drop 16).take 16) (s.getD 0 0) (s.getD 1 0) (s.getD 2 0) (s.getD 3 0) (s.getD 4 0)
def sumL (k t : List Int) : List Int := sumS k (all5 [0, 0, 0, 0, 0] (digL (facL k) 0) t)
def kSum : (List Int) × (List (List Int)) → ClN := fun (k, ls) => ⟨[.o (.g [.many 32 (.i .u8 k)]), .o (.c (.rss ls))], [], .o (.g [.many 16 (.i .u8 (sumL k ls.flatten))]), [], [], [k.length = 32, ls.length ≤ 140737488355328]⟩
noncomputable def FSum : FnE := ⟨mkEv Try.prog [] [cFactor, cInBn, cTag] 0, [0, 1, 2, 4, 5, 6], fun _ _ => .rounds 0⟩
def mSum : List AV → (Nat → Option MB) → Option (List Nat × ((List Int) × (List (List Int))))
  | [.o (.g [.many 32 (.i .u8 k)]), .o (.c x)], lk => match slS lk x with
    | some ls => some ([], k, ls)
    | none => none
  | _, _ => none
noncomputable def cSum : Spec := callG 16 Try.f16.ntmps mSum kSum
theorem vcSum (k : List Int) (ls : List (List Int)) : (wpE FSum (Try.f16.body.getD .skip) ⟨Try.f16.ntmps, slotsOf 0 (kSum (k, ls)).avs, (kSum (k, ls)).mem⟩ (finK Try.prog Try.f16.results.toList (postN (kSum (k, ls))))) = (let x1 := [bits BinOp.and IntKind.u64 (w8 (facL k)) (67108863 : Int), bits BinOp.and IntKind.u64 (sShr IntKind.u64 (w8 (facL k)) (26 : Int)) (67108863 : Int), bits BinOp.and IntKind.u64 (bits BinOp.or IntKind.u64 (sShr IntKind.u64 (w8 (facL k)) (52 : Int)) (sShl IntKind.u64 (w8 (List.drop (8 : Nat) (facL k))) (12 : Int))) (67108863 : Int), bits BinOp.and IntKind.u64 (sShr IntKind.u64 (w8 (List.drop (8 : Nat) (facL k))) (14 : Int)) (67108863 : Int), bits BinOp.or IntKind.u64 (sShr IntKind.u64 (w8 (List.drop (8 : Nat) (facL k))) (40 : Int)) (0 : Int)]; let x2 := all5 [(0 : Int), (0 : Int), (0 : Int), (0 : Int), (0 : Int)] x1 (List.flatten ls); let x3 := List.getD x2 (0 : Nat) (0 : Int); let x4 := List.getD x2 (1 : Nat) (0 : Int); let x5 := List.getD x2 (2 : Nat) (0 : Int); let x6 := List.getD x2 (3 : Nat) (0 : Int); let x7 := List.getD x2 (4 : Nat) (0 : Int); let x8 := List.take (16 : Nat) (List.drop (16 : Nat) k); true = true ∧ (32 : Nat) = (32 : Nat) ∧ k = k ∧ List.length k = (32 : Nat) ∧ true = true ∧ true = true ∧ ls = ls ∧ (30 : Nat) = (30 : Nat) ∧ getL [(3 : Nat), Nat.add (Nat.add (2 : Nat) (0 : Nat)) (0 : Nat)] (0 : Nat) = some (3 : Nat) ∧ (0 : Nat) = (0 : Nat) ∧ getL [(3 : Nat), Nat.add (Nat.add (2 : Nat) (0 : Nat)) (0 : Nat)] (1 : Nat) = some (Nat.add (Nat.add (2 : Nat) (0 : Nat)) (0 : Nat)) ∧ (0 : Nat) = (0 : Nat) ∧ (63 : Nat) = (63 : Nat) ∧ (5 : Nat) = (5 : Nat) ∧ List.replicate (5 : Nat) (0 : Int) = [(0 : Int), (0 : Int), (0 : Int), (0 : Int), (0 : Int)] ∧ (63 : Nat) = (63 : Nat) ∧ (5 : Nat) = (5 : Nat) ∧ digL (facL k) (0 : Int) = x1 ∧ List.length ls ≤ (140737488355328 : Nat) ∧ (0 : Int) ≤ (16 : Int) ∧ (16 : Nat) ≤ (32 : Nat) ∧ (32 : Nat) ≤ (9223372036854775807 : Nat) ∧ true = true ∧ (5 : Nat) = (5 : Nat) ∧ ex5 x2 = [x3, x4, x5, x6, x7] ∧ true = true ∧ (16 : Nat) = (16 : Nat) ∧ x8 = x8 ∧ (32 : Nat) ≤ (32 : Nat) ∧ (16 : Nat) ≤ (16 : Nat) ∧ List.length x8 = (16 : Nat) ∧ true = true ∧ true = true ∧ (15 : Nat) = (15 : Nat) ∧ (16 : Nat) = (16 : Nat) ∧ tagL x8 x3 x4 x5 x6 x7 = sumL k (List.flatten ls)) := by kernel_rfl

set_option maxHeartbeats 8000000 in
theorem wpSum (k : List Int) (ls : List (List Int)) (h1 : k.length = 32) (h2 : ls.length ≤ 140737488355328) : wpE FSum (Try.f16.body.getD .skip) ⟨Try.f16.ntmps, slotsOf 0 (kSum (k, ls)).avs, (kSum (k, ls)).mem⟩ (finK Try.prog Try.f16.results.toList (postN (kSum (k, ls)))) := by
  with_reducible refine Eq.mpr (vcSum k ls) ?_
  intro x1 x2 x3 x4 x5 x6 x7 x8
  have l8 : x8.length = 16 := by show (List.take 16 (List.drop 16 k)).length = 16; rw [List.length_take, List.length_drop, h1]; rfl
  have e1 : digL (facL k) 0 = x1 := by kernel_rfl
  have e9 : tagL x8 x3 x4 x5 x6 x7 = sumL k ls.flatten := by unfold sumL; rw [e1]; rfl
  clear_value x1
  and_intros <;> first | omega | exact True.intro | exact e1 | exact e9 | exact l8 | rfl
set_option maxHeartbeats 8000000 in
theorem cSum_ok : SpecOK Try.prog cSum := by
  refine callG_ok (c := Try.f16.body.getD .skip) mixed Try.func16 (by kernel_rfl) rfl (fun x hob => ?_)
  obtain ⟨k, ls⟩ := x
  have hob : (k.length = 32) ∧ (ls.length ≤ 140737488355328) := hob
  obtain ⟨h1, h2⟩ := hob
  exact ⟨FSum, rfl, evOKs ⟨.inl ⟨cFactor_ok, by kernel_rfl, gl_nil rfl⟩, ⟨.inl ⟨cInBn_ok, by kernel_rfl, gl_nil rfl⟩, ⟨.inl ⟨cTag_ok, by kernel_rfl, gl_nil rfl⟩, trivial⟩⟩⟩, rfl, rfl, by with_reducible exact wpSum k ls h1 h2⟩

end Go.Proofs.Ythlleheeghiljaa
