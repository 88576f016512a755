/-
  The reference of layer 8 (chacha): turns, quarters, blocks.
-/
import Derived.Test.YthlleheeghiljaaE8
import Derived.Test.YthlleheeghiljaaBst
namespace Go.Proofs.Ythlleheeghiljaa
open Go.RowKit
set_option maxRecDepth 100000

theorem P2_succ (n : Nat) (hn : n ≤ 62) : IntKind.wrap .u64 (P2 n * 2) = P2 (n + 1) := by
  have h1 : (2 : Nat) ^ (n + 1) ≤ 2 ^ 63 := Nat.pow_le_pow_right (by omega) (by omega)
  rw [wU64]
  unfold P2
  rw [Nat.pow_succ] at h1 ⊢
  omega
theorem P2_pos (n : Nat) : 0 < P2 n := by unfold P2; have := Nat.pow_pos (a := 2) (n := n) (by omega); omega
theorem P2_quo (n : Nat) (hn : n ≤ 31) : IntKind.wrap .u64 (Int.tdiv 4294967296 (P2 n)) ≠ 0 := by
  have hsplit : 2 ^ (32 - n) * 2 ^ n = 2 ^ 32 := by rw [← Nat.pow_add]; congr 1; omega
  have hq : 2 ^ 32 / 2 ^ n = 2 ^ (32 - n) := Nat.div_eq_of_eq_mul_left (Nat.pow_pos (by omega)) hsplit.symm
  have hp2 : 2 ^ (32 - n) ≤ 2 ^ 32 := Nat.pow_le_pow_right (by omega) (by omega)
  have hpos2 : 0 < 2 ^ (32 - n) := Nat.pow_pos (by omega)
  unfold P2
  rw [show (4294967296 : Int) = ((2 ^ 32 : Nat) : Int) by decide, ← Int.ofNat_tdiv, hq, wU64]
  omega
noncomputable def stTurn (x : Int) (n i : Nat) : St := ⟨Try.f44.ntmps, [(0, vv (.int .u64 x)), (1, vv (.int .i64 (n : Int))), (5, vv (.int .u64 (P2 i))), (6, vv (.int .i64 (i : Int)))], []⟩
def kSTurn : Int × Nat → ClN := fun (x, n) => ⟨[vv (.int .u64 x), vv (.int .i64 (n : Int))], [], vv (.int .u64 (turnR x n)), [], [], [n ≤ 31]⟩
noncomputable def FSTurn (x : Int) (n : Nat) : FnE := ⟨mkEv Try.prog [] [] 0, [0, 1, 4, 5, 6, 9], fun _ _ => .inv { i : Nat // i ≤ n } (fun i => stTurn x n i.val) (fun i => n - i.val) [] []⟩
def mSTurn : List AV → (Nat → Option MB) → Option (List Nat × (Int × Nat))
  | [.o (.c (.v (.int .u64 x))), .o (.c (.v (.int .i64 n)))], _ => some ([], x, n.toNat)
  | _, _ => none
noncomputable def cSTurn : Spec := callG 44 Try.f44.ntmps mSTurn kSTurn
theorem vcSTurn (x : Int) (n : Nat) : (wpE (FSTurn x n) (Try.f44.body.getD .skip) ⟨Try.f44.ntmps, slotsOf 0 (kSTurn (x, n)).avs, (kSTurn (x, n)).mem⟩ (finK Try.prog Try.f44.results.toList (postN (kSTurn (x, n))))) = ((∃ (x_1 : { i : Nat // i ≤ n }), true = true ∧ true = true ∧ (23 : Nat) = (23 : Nat) ∧ Value.int IntKind.u64 x = Value.int IntKind.u64 x ∧ Value.int IntKind.i64 (↑n : Int) = Value.int IntKind.i64 (↑n : Int) ∧ Value.int IntKind.u64 (1 : Int) = Value.int IntKind.u64 (P2 (Subtype.val x_1)) ∧ Value.int IntKind.i64 (0 : Int) = Value.int IntKind.i64 (↑(Subtype.val x_1) : Int)) ∧ ∀ (x_1 : { i : Nat // i ≤ n }), bif decide ((↑(Subtype.val x_1) : Int) < (↑n : Int)) then ∃ (y : { i : Nat // i ≤ n }), (true = true ∧ true = true ∧ (23 : Nat) = (23 : Nat) ∧ Value.int IntKind.u64 x = Value.int IntKind.u64 x ∧ Value.int IntKind.i64 (↑n : Int) = Value.int IntKind.i64 (↑n : Int) ∧ Value.int IntKind.u64 (IntKind.wrap IntKind.u64 (P2 (Subtype.val x_1) * (2 : Int))) = Value.int IntKind.u64 (P2 (Subtype.val y)) ∧ Value.int IntKind.i64 (IntKind.wrap IntKind.i64 ((↑(Subtype.val x_1) : Int) + (1 : Int))) = Value.int IntKind.i64 (↑(Subtype.val y) : Int)) ∧ n - Subtype.val y < n - Subtype.val x_1 else (4294967296 : Int) ≠ (0 : Int) ∧ P2 (Subtype.val x_1) ≠ (0 : Int) ∧ IntKind.wrap IntKind.u64 (Int.tdiv (4294967296 : Int) (P2 (Subtype.val x_1))) ≠ (0 : Int) ∧ true = true ∧ true = true ∧ (23 : Nat) = (23 : Nat) ∧ Value.int IntKind.u64 (IntKind.wrap IntKind.u64 (Int.tmod (IntKind.wrap IntKind.u64 (x * P2 (Subtype.val x_1))) (4294967296 : Int) + IntKind.wrap IntKind.u64 (Int.tdiv x (IntKind.wrap IntKind.u64 (Int.tdiv (4294967296 : Int) (P2 (Subtype.val x_1))))))) = Value.int IntKind.u64 (turnR x n)) := by kernel_rfl

set_option maxHeartbeats 8000000 in
theorem wpSTurn (x : Int) (n : Nat) (h1 : n ≤ 31) : wpE (FSTurn x n) (Try.f44.body.getD .skip) ⟨Try.f44.ntmps, slotsOf 0 (kSTurn (x, n)).avs, (kSTurn (x, n)).mem⟩ (finK Try.prog Try.f44.results.toList (postN (kSTurn (x, n)))) := by
  with_reducible refine Eq.mpr (vcSTurn x n) ?_
  and_intros
  all_goals try omega
  all_goals try exact True.intro
  · exact ⟨⟨0, Nat.zero_le _⟩, by and_intros <;> first | exact True.intro | rfl⟩
  · rintro ⟨i, hi⟩
    dsimp only
    by_cases hg : (i : Int) < (n : Int)
    · rw [decide_eq_true hg, cond_true]
      have e1 : IntKind.wrap .i64 ((i : Int) + 1) = ((i + 1 : Nat) : Int) := by rw [IntKind.wrap_i64]; omega
      rw [e1, P2_succ i (by omega)]
      refine ⟨⟨i + 1, by omega⟩, ?_⟩
      and_intros <;> first | exact True.intro | with_reducible rfl | (show n - (i + 1) < n - i; omega)
    · rw [decide_eq_false hg, cond_false]
      have e : i = n := by omega
      subst e
      have p1 := P2_pos i
      have p2 := P2_quo i h1
      and_intros <;> first | exact True.intro | with_reducible rfl | with_reducible assumption | omega | rfl
set_option maxHeartbeats 8000000 in
theorem cSTurn_ok : SpecOK Try.prog cSTurn := by
  refine callG_ok (c := Try.f44.body.getD .skip) mixed Try.func44 (by kernel_rfl) rfl (fun x hob => ?_)
  obtain ⟨x, n⟩ := x
  have hob : (n ≤ 31) := hob
  have h1 := hob
  exact ⟨FSTurn x n, rfl, evOKs trivial, rfl, rfl, by with_reducible exact wpSTurn x n h1⟩

def kSQuart : (List Int) × Nat × Nat × Nat × Nat → ClN := fun (l, a, b, c, d) => ⟨[.o (.c (.rs 1 16 (.i .u64 l))), vv (.int .i64 (a : Int)), vv (.int .i64 (b : Int)), vv (.int .i64 (c : Int)), vv (.int .i64 (d : Int))], [], .o (.c (.os 0 1 16)), [.grow 31 1 (.i .u64 (quartR l a b c d))], [1], [l.length = 16, a < 16, b < 16, c < 16, d < 16]⟩
noncomputable def FSQuart : FnE := ⟨mkEv Try.prog [] [cSTurn] 0, [0, 1, 2, 3, 4, 10, 11, 12], fun _ _ => .rounds 0⟩
def mSQuart : List AV → (Nat → Option MB) → Option (List Nat × ((List Int) × Nat × Nat × Nat × Nat))
  | [.o (.c x), .o (.c (.v (.int .i64 a))), .o (.c (.v (.int .i64 b))), .o (.c (.v (.int .i64 c))), .o (.c (.v (.int .i64 d)))], lk => match slI lk x with
    | some (_, l) => some ([], l, a.toNat, b.toNat, c.toNat, d.toNat)
    | _ => none
  | _, _ => none
noncomputable def cSQuart : Spec := callG 25 Try.f25.ntmps mSQuart kSQuart
theorem vcSQuart (l : List Int) (a b c d : Nat) : (wpE FSQuart (Try.f25.body.getD .skip) ⟨Try.f25.ntmps, slotsOf 0 (kSQuart (l, a, b, c, d)).avs, (kSQuart (l, a, b, c, d)).mem⟩ (finK Try.prog Try.f25.results.toList (postN (kSQuart (l, a, b, c, d))))) = (let x1 := [] ++ l; let x2 := List.set x1 (Int.toNat (↑a : Int)) (Int.tmod (IntKind.wrap IntKind.u64 (List.getD x1 (Int.toNat (↑a : Int)) (0 : Int) + List.getD x1 (Int.toNat (↑b : Int)) (0 : Int))) (4294967296 : Int)); let x3 := bits BinOp.xor IntKind.u64 (List.getD x2 (Int.toNat (↑d : Int)) (0 : Int)) (List.getD x2 (Int.toNat (↑a : Int)) (0 : Int)); let x4 := List.set x2 (Int.toNat (↑d : Int)) (turnR x3 (16 : Nat)); let x5 := List.set x4 (Int.toNat (↑c : Int)) (Int.tmod (IntKind.wrap IntKind.u64 (List.getD x4 (Int.toNat (↑c : Int)) (0 : Int) + List.getD x4 (Int.toNat (↑d : Int)) (0 : Int))) (4294967296 : Int)); let x6 := bits BinOp.xor IntKind.u64 (List.getD x5 (Int.toNat (↑b : Int)) (0 : Int)) (List.getD x5 (Int.toNat (↑c : Int)) (0 : Int)); let x7 := List.set x5 (Int.toNat (↑b : Int)) (turnR x6 (12 : Nat)); let x8 := List.set x7 (Int.toNat (↑a : Int)) (Int.tmod (IntKind.wrap IntKind.u64 (List.getD x7 (Int.toNat (↑a : Int)) (0 : Int) + List.getD x7 (Int.toNat (↑b : Int)) (0 : Int))) (4294967296 : Int)); let x9 := bits BinOp.xor IntKind.u64 (List.getD x8 (Int.toNat (↑d : Int)) (0 : Int)) (List.getD x8 (Int.toNat (↑a : Int)) (0 : Int)); let x10 := List.set x8 (Int.toNat (↑d : Int)) (turnR x9 (8 : Nat)); let x11 := List.set x10 (Int.toNat (↑c : Int)) (Int.tmod (IntKind.wrap IntKind.u64 (List.getD x10 (Int.toNat (↑c : Int)) (0 : Int) + List.getD x10 (Int.toNat (↑d : Int)) (0 : Int))) (4294967296 : Int)); let x12 := bits BinOp.xor IntKind.u64 (List.getD x11 (Int.toNat (↑b : Int)) (0 : Int)) (List.getD x11 (Int.toNat (↑c : Int)) (0 : Int)); (0 : Nat) = (0 : Nat) ∧ (128 : Nat) ≤ (140737488355328 : Nat) ∧ (16 : Nat) ≤ (9223372036854775807 : Nat) ∧ (0 : Int) ≤ (↑a : Int) ∧ (↑a : Int) < (16 : Int) ∧ Int.toNat (↑a : Int) < List.length x1 ∧ (0 : Int) ≤ (↑b : Int) ∧ (↑b : Int) < (16 : Int) ∧ Int.toNat (↑b : Int) < List.length x1 ∧ (4294967296 : Int) ≠ (0 : Int) ∧ (0 : Int) ≤ (↑a : Int) ∧ (↑a : Int) < (16 : Int) ∧ Int.toNat (↑a : Int) < List.length x1 ∧ (0 : Int) ≤ (↑d : Int) ∧ (↑d : Int) < (16 : Int) ∧ Int.toNat (↑d : Int) < List.length x2 ∧ (0 : Int) ≤ (↑a : Int) ∧ (↑a : Int) < (16 : Int) ∧ Int.toNat (↑a : Int) < List.length x2 ∧ true = true ∧ Value.int IntKind.u64 x3 = Value.int IntKind.u64 x3 ∧ Value.int IntKind.i64 (16 : Int) = Value.int IntKind.i64 (16 : Int) ∧ (16 : Nat) ≤ (31 : Nat) ∧ (0 : Int) ≤ (↑d : Int) ∧ (↑d : Int) < (16 : Int) ∧ Int.toNat (↑d : Int) < List.length x2 ∧ (0 : Int) ≤ (↑c : Int) ∧ (↑c : Int) < (16 : Int) ∧ Int.toNat (↑c : Int) < List.length x4 ∧ (0 : Int) ≤ (↑d : Int) ∧ (↑d : Int) < (16 : Int) ∧ Int.toNat (↑d : Int) < List.length x4 ∧ (4294967296 : Int) ≠ (0 : Int) ∧ (0 : Int) ≤ (↑c : Int) ∧ (↑c : Int) < (16 : Int) ∧ Int.toNat (↑c : Int) < List.length x4 ∧ (0 : Int) ≤ (↑b : Int) ∧ (↑b : Int) < (16 : Int) ∧ Int.toNat (↑b : Int) < List.length x5 ∧ (0 : Int) ≤ (↑c : Int) ∧ (↑c : Int) < (16 : Int) ∧ Int.toNat (↑c : Int) < List.length x5 ∧ true = true ∧ Value.int IntKind.u64 x6 = Value.int IntKind.u64 x6 ∧ Value.int IntKind.i64 (12 : Int) = Value.int IntKind.i64 (12 : Int) ∧ (12 : Nat) ≤ (31 : Nat) ∧ (0 : Int) ≤ (↑b : Int) ∧ (↑b : Int) < (16 : Int) ∧ Int.toNat (↑b : Int) < List.length x5 ∧ (0 : Int) ≤ (↑a : Int) ∧ (↑a : Int) < (16 : Int) ∧ Int.toNat (↑a : Int) < List.length x7 ∧ (0 : Int) ≤ (↑b : Int) ∧ (↑b : Int) < (16 : Int) ∧ Int.toNat (↑b : Int) < List.length x7 ∧ (4294967296 : Int) ≠ (0 : Int) ∧ (0 : Int) ≤ (↑a : Int) ∧ (↑a : Int) < (16 : Int) ∧ Int.toNat (↑a : Int) < List.length x7 ∧ (0 : Int) ≤ (↑d : Int) ∧ (↑d : Int) < (16 : Int) ∧ Int.toNat (↑d : Int) < List.length x8 ∧ (0 : Int) ≤ (↑a : Int) ∧ (↑a : Int) < (16 : Int) ∧ Int.toNat (↑a : Int) < List.length x8 ∧ true = true ∧ Value.int IntKind.u64 x9 = Value.int IntKind.u64 x9 ∧ Value.int IntKind.i64 (8 : Int) = Value.int IntKind.i64 (8 : Int) ∧ (8 : Nat) ≤ (31 : Nat) ∧ (0 : Int) ≤ (↑d : Int) ∧ (↑d : Int) < (16 : Int) ∧ Int.toNat (↑d : Int) < List.length x8 ∧ (0 : Int) ≤ (↑c : Int) ∧ (↑c : Int) < (16 : Int) ∧ Int.toNat (↑c : Int) < List.length x10 ∧ (0 : Int) ≤ (↑d : Int) ∧ (↑d : Int) < (16 : Int) ∧ Int.toNat (↑d : Int) < List.length x10 ∧ (4294967296 : Int) ≠ (0 : Int) ∧ (0 : Int) ≤ (↑c : Int) ∧ (↑c : Int) < (16 : Int) ∧ Int.toNat (↑c : Int) < List.length x10 ∧ (0 : Int) ≤ (↑b : Int) ∧ (↑b : Int) < (16 : Int) ∧ Int.toNat (↑b : Int) < List.length x11 ∧ (0 : Int) ≤ (↑c : Int) ∧ (↑c : Int) < (16 : Int) ∧ Int.toNat (↑c : Int) < List.length x11 ∧ true = true ∧ Value.int IntKind.u64 x12 = Value.int IntKind.u64 x12 ∧ Value.int IntKind.i64 (7 : Int) = Value.int IntKind.i64 (7 : Int) ∧ (7 : Nat) ≤ (31 : Nat) ∧ (0 : Int) ≤ (↑b : Int) ∧ (↑b : Int) < (16 : Int) ∧ Int.toNat (↑b : Int) < List.length x11 ∧ true = true ∧ true = true ∧ (125 : Nat) = (125 : Nat) ∧ (31 : Nat) = (31 : Nat) ∧ (1 : Nat) = (1 : Nat) ∧ List.set x11 (Int.toNat (↑b : Int)) (turnR x12 (7 : Nat)) = quartR l a b c d ∧ getL (ClN.ren (kSQuart (l, a, b, c, d))) (0 : Nat) = some (Nat.add (Nat.add (0 : Nat) (1 : Nat)) (0 : Nat)) ∧ (1 : Nat) = (1 : Nat) ∧ (16 : Nat) = (16 : Nat)) := by kernel_rfl

set_option maxHeartbeats 8000000 in
theorem wpSQuart (l : List Int) (a b c d : Nat) (h1 : l.length = 16) (h2 : a < 16) (h3 : b < 16) (h4 : c < 16) (h5 : d < 16) : wpE FSQuart (Try.f25.body.getD .skip) ⟨Try.f25.ntmps, slotsOf 0 (kSQuart (l, a, b, c, d)).avs, (kSQuart (l, a, b, c, d)).mem⟩ (finK Try.prog Try.f25.results.toList (postN (kSQuart (l, a, b, c, d)))) := by
  with_reducible refine Eq.mpr (vcSQuart l a b c d) ?_
  intros
  and_intros <;> first | omega | exact True.intro | (simp +zetaDelta only [List.length_set, List.nil_append, Int.toNat_natCast]; omega) | kernel_rfl
set_option maxHeartbeats 8000000 in
theorem cSQuart_ok : SpecOK Try.prog cSQuart := by
  refine callG_ok (c := Try.f25.body.getD .skip) mixed Try.func25 (by kernel_rfl) rfl (fun x hob => ?_)
  obtain ⟨l, a, b, c, d⟩ := x
  have hob : (l.length = 16) ∧ (a < 16) ∧ (b < 16) ∧ (c < 16) ∧ (d < 16) := hob
  obtain ⟨h1, h2, h3, h4, h5⟩ := hob
  exact ⟨FSQuart, rfl, evOKs ⟨.inl ⟨cSTurn_ok, by kernel_rfl, gl_nil rfl⟩, trivial⟩, rfl, rfl, by with_reducible exact wpSQuart l a b c d h1 h2 h3 h4 h5⟩
end Go.Proofs.Ythlleheeghiljaa
