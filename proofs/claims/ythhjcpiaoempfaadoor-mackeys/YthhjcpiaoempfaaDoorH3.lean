/-
  sha2: bytes fed in.
-/
import Derived.Test.YthhjcpiaoempfaaDoorH2
import Derived.Test.YthhjcpiaoempfaaDoorRs
namespace Go.Proofs.YthhjcpiaoempfaaDoor
open Go.RowKit
set_option maxRecDepth 100000

/-- The state behind k blocks of p. -/
def blkN (s p : List Int) : Nat → List Int
  | 0 => s
  | k + 1 => blockH (blkN s p k) ((p.drop (64 * k)).take 64)
def fdM (c : Nat) (p : List Int) : Nat := Nat.min p.length (64 - c % 64)
def fd1 (rest : List Int) (c : Nat) (p : List Int) : List Int := lay rest (c % 64) (p.take (fdM c p))
def fdP (c : Nat) (p : List Int) : List Int := if c % 64 = 0 then p else p.drop (fdM c p)
def fdR (rest : List Int) (c : Nat) (p : List Int) : List Int := if c % 64 = 0 then rest else fd1 rest c p
def fdS (rest : List Int) (c : Nat) (s p : List Int) : List Int := if c % 64 = 0 then s else blockH s ((fd1 rest c p).take 64)
/-- What lies in the block, and the state, behind c bytes and those of p. -/
def feedR (rest : List Int) (c : Nat) (p : List Int) : List Int := if 0 < c % 64 ∧ c % 64 + p.length < 64 then fd1 rest c p else lay (fdR rest c p) 0 ((fdP c p).drop (64 * ((fdP c p).length / 64)))
def feedS (rest : List Int) (c : Nat) (s p : List Int) : List Int := if 0 < c % 64 ∧ c % 64 + p.length < 64 then s else blkN (fdS rest c s p) (fdP c p) ((fdP c p).length / 64)
noncomputable def stFeed (ty : Nat) (rest : List Int) (c : Nat) (s p : List Int) (k : Nat) : St := ⟨Tryd.f28.ntmps, [(0, .o (.c (.ptr 0 0 none))), (1, .o (.c (.rs 1 ((fdP c p).length - 64 * k) (.i .u8 ((fdP c p).drop (64 * k)))))), (2, vv (.int .i64 64)), (3, .o (.c (.fm 29 0 0)))], [.fix ty [.many 128 (.i .u8 (fdR rest c p)), .one (.v (.int .i64 ((c + p.length : Nat) : Int))), .many 8 (.i .u32 (blkN (fdS rest c s p) (fdP c p) k))]]⟩
def pOwn : List AV → Bool
  | [.o (.c (.ptr i 0 none)), .o (.c (.sub j 0 0 64))] => Nat.beq i j
  | _ => false
noncomputable def cHBlockX : Spec := orS (restr pOwn cHBlockO) cHBlock
theorem cHBlockX_ok : SpecOK Tryd.prog cHBlockX := orS_ok (restr_ok cHBlockO_ok) cHBlock_ok rfl rfl rfl
def kHFeed : Nat × (List Int) × Nat × (List Int) × Nat × (List Int) → ClN := fun (ty, rest, c, s, n, p) => ⟨[.o (.c (.ptr 0 0 none)), .o (.c (.rs 1 n (.i .u8 p))), vv (.int .i64 64), .o (.c (.fm 29 0 0))], [.fix ty [.many 128 (.i .u8 rest), .one (.v (.int .i64 (c : Int))), .many 8 (.i .u32 s)]], .t [], [.fix ty [.many 128 (.i .u8 (feedR rest c p)), .one (.v (.int .i64 ((c + p.length : Nat) : Int))), .many 8 (.i .u32 (feedS rest c s p))]], [0], [p.length = n, n ≤ 140737488355328, c ≤ 4611686018427387904, rest.length = 128]⟩
noncomputable def FHFeed (ty : Nat) (rest : List Int) (c : Nat) (s : List Int) (_n : Nat) (p : List Int) : FnE := ⟨mkEv Tryd.prog tabH [cHBlockX] 1, [0, 1, 2, 3, 8, 9, 26, 39, 53], fun _ _ => .inv { k : Nat // 64 * k ≤ (fdP c p).length } (fun k => stFeed ty rest c s p k.val) (fun k => (fdP c p).length - 64 * k.val) [0] [0]⟩
def mHFeed : List AV → (Nat → Option MB) → Option (List Nat × (Nat × (List Int) × Nat × (List Int) × Nat × (List Int)))
  | [.o (.c (.ptr i 0 none)), .o (.c x), .o (.c (.v (.int .i64 64))), .o (.c (.fm 29 _ 0))], lk => match slI lk x with
    | some (n, p) => match lk i with
      | some (.fix ty [.many 128 (.i .u8 rest), .one (.v (.int .i64 c)), .many 8 (.i .u32 s)]) => some ([i], ty, rest, c.toNat, s, n, p)
      | _ => none
    | none => none
  | _, _ => none
noncomputable def cHFeed : Spec := callG 28 Tryd.f28.ntmps mHFeed kHFeed (tabH)
theorem vcHFeed (ty : Nat) (rest : List Int) (c : Nat) (s : List Int) (n : Nat) (p : List Int) : (wpE (FHFeed ty rest c s n p) (Tryd.f28.body.getD .skip) ⟨Tryd.f28.ntmps, slotsOf 0 (kHFeed (ty, rest, c, s, n, p)).avs, (kHFeed (ty, rest, c, s, n, p)).mem⟩ (finK Tryd.prog Tryd.f28.results.toList (postN (kHFeed (ty, rest, c, s, n, p))))) = (let x1 := lay rest ((0 : Nat) + Int.toNat (Int.tmod (↑c : Int) (64 : Int))) (List.take (Nat.min n ((64 : Nat) - Int.toNat (Int.tmod (↑c : Int) (64 : Int)))) (List.drop (0 : Nat) p)); (64 : Int) ≠ (0 : Int) ∧ bif decide ((0 : Int) < Int.tmod (↑c : Int) (64 : Int)) then (0 : Int) ≤ (64 : Int) ∧ (64 : Nat) ≤ (128 : Nat) ∧ (0 : Int) ≤ Int.tmod (↑c : Int) (64 : Int) ∧ Int.toNat (Int.tmod (↑c : Int) (64 : Int)) ≤ (64 : Nat) ∧ (128 : Nat) ≤ (9223372036854775807 : Nat) ∧ (0 : Nat) + Int.toNat (Int.tmod (↑c : Int) (64 : Int)) + Nat.min n ((64 : Nat) - Int.toNat (Int.tmod (↑c : Int) (64 : Int))) ≤ (128 : Nat) ∧ bif decide (IntKind.wrap IntKind.i64 (Int.tmod (↑c : Int) (64 : Int) + (↑(Nat.min n ((64 : Nat) - Int.toNat (Int.tmod (↑c : Int) (64 : Int)))) : Int)) < (64 : Int)) then true = true ∧ true = true ∧ (68 : Nat) = (68 : Nat) ∧ ty = ty ∧ (128 : Nat) = (128 : Nat) ∧ x1 = feedR rest c p ∧ Value.int IntKind.i64 (IntKind.wrap IntKind.i64 ((↑c : Int) + (↑n : Int))) = Value.int IntKind.i64 (↑(c + List.length p) : Int) ∧ (8 : Nat) = (8 : Nat) ∧ s = feedS rest c s p else (0 : Int) ≤ (64 : Int) ∧ (64 : Nat) ≤ (128 : Nat) ∧ (128 : Nat) ≤ (9223372036854775807 : Nat) ∧ true = true ∧ getL [(0 : Nat)] (0 : Nat) = some (0 : Nat) ∧ (0 : Nat) = (0 : Nat) ∧ getL [(0 : Nat)] (0 : Nat) = some (0 : Nat) ∧ (0 : Nat) = (0 : Nat) ∧ (64 : Nat) = (64 : Nat) ∧ ty = ty ∧ (128 : Nat) = (128 : Nat) ∧ x1 = x1 ∧ Value.int IntKind.i64 (IntKind.wrap IntKind.i64 ((↑c : Int) + (↑n : Int))) = Value.int IntKind.i64 (IntKind.wrap IntKind.i64 ((↑c : Int) + (↑n : Int))) ∧ (8 : Nat) = (8 : Nat) ∧ s = s ∧ List.length x1 = (128 : Nat) ∧ (0 : Int) ≤ (↑(Nat.min n ((64 : Nat) - Int.toNat (Int.tmod (↑c : Int) (64 : Int)))) : Int) ∧ Int.toNat (↑(Nat.min n ((64 : Nat) - Int.toNat (Int.tmod (↑c : Int) (64 : Int)))) : Int) ≤ n ∧ (∃ (x : { k : Nat // (64 : Nat) * k ≤ List.length (fdP c p) }), true = true ∧ true = true ∧ (68 : Nat) = (68 : Nat) ∧ getL [(0 : Nat)] (0 : Nat) = some (0 : Nat) ∧ (0 : Nat) = (0 : Nat) ∧ (1 : Nat) = (1 : Nat) ∧ n - Int.toNat (↑(Nat.min n ((64 : Nat) - Int.toNat (Int.tmod (↑c : Int) (64 : Int)))) : Int) = List.length (fdP c p) - (64 : Nat) * Subtype.val x ∧ List.take (n - Int.toNat (↑(Nat.min n ((64 : Nat) - Int.toNat (Int.tmod (↑c : Int) (64 : Int)))) : Int)) (List.drop (Int.toNat (↑(Nat.min n ((64 : Nat) - Int.toNat (Int.tmod (↑c : Int) (64 : Int)))) : Int)) p) = List.drop ((64 : Nat) * Subtype.val x) (fdP c p) ∧ Value.int IntKind.i64 (64 : Int) = Value.int IntKind.i64 (64 : Int) ∧ (29 : Nat) = (29 : Nat) ∧ getL [(0 : Nat)] (0 : Nat) = some (0 : Nat) ∧ (0 : Nat) = (0 : Nat) ∧ ty = ty ∧ (128 : Nat) = (128 : Nat) ∧ x1 = fdR rest c p ∧ Value.int IntKind.i64 (IntKind.wrap IntKind.i64 ((↑c : Int) + (↑n : Int))) = Value.int IntKind.i64 (↑(c + List.length p) : Int) ∧ (8 : Nat) = (8 : Nat) ∧ blockH s (List.take (64 : Nat) x1) = blkN (fdS rest c s p) (fdP c p) (Subtype.val x)) ∧ ∀ (x : { k : Nat // (64 : Nat) * k ≤ List.length (fdP c p) }), bif decide ((64 : Int) ≤ (↑(List.length (fdP c p) - (64 : Nat) * Subtype.val x) : Int)) then (0 : Int) ≤ (64 : Int) ∧ (64 : Nat) ≤ List.length (fdP c p) - (64 : Nat) * Subtype.val x ∧ true = true ∧ getL [(0 : Nat)] (0 : Nat) = some (0 : Nat) ∧ (0 : Nat) = (0 : Nat) ∧ true = true ∧ (64 : Nat) = (64 : Nat) ∧ List.take (64 : Nat) (List.drop (0 : Nat) (List.drop ((64 : Nat) * Subtype.val x) (fdP c p))) = List.take (64 : Nat) (List.drop (0 : Nat) (List.drop ((64 : Nat) * Subtype.val x) (fdP c p))) ∧ ty = ty ∧ (128 : Nat) = (128 : Nat) ∧ fdR rest c p = fdR rest c p ∧ Value.int IntKind.i64 (↑(c + List.length p) : Int) = Value.int IntKind.i64 (↑(c + List.length p) : Int) ∧ (8 : Nat) = (8 : Nat) ∧ blkN (fdS rest c s p) (fdP c p) (Subtype.val x) = blkN (fdS rest c s p) (fdP c p) (Subtype.val x) ∧ List.length (List.take (64 : Nat) (List.drop (0 : Nat) (List.drop ((64 : Nat) * Subtype.val x) (fdP c p)))) = (64 : Nat) ∧ (64 : Nat) ≤ (64 : Nat) ∧ (64 : Nat) ≤ (140737488355328 : Nat) ∧ (0 : Int) ≤ (64 : Int) ∧ (64 : Nat) ≤ List.length (fdP c p) - (64 : Nat) * Subtype.val x ∧ ∃ (y : { k : Nat // (64 : Nat) * k ≤ List.length (fdP c p) }), (true = true ∧ true = true ∧ (68 : Nat) = (68 : Nat) ∧ getL [(0 : Nat)] (0 : Nat) = some (0 : Nat) ∧ (0 : Nat) = (0 : Nat) ∧ (1 : Nat) = (1 : Nat) ∧ List.length (fdP c p) - (64 : Nat) * Subtype.val x - (64 : Nat) = List.length (fdP c p) - (64 : Nat) * Subtype.val y ∧ List.take (List.length (fdP c p) - (64 : Nat) * Subtype.val x - (64 : Nat)) (List.drop (64 : Nat) (List.drop ((64 : Nat) * Subtype.val x) (fdP c p))) = List.drop ((64 : Nat) * Subtype.val y) (fdP c p) ∧ Value.int IntKind.i64 (64 : Int) = Value.int IntKind.i64 (64 : Int) ∧ (29 : Nat) = (29 : Nat) ∧ getL [(0 : Nat)] (0 : Nat) = some (0 : Nat) ∧ (0 : Nat) = (0 : Nat) ∧ ty = ty ∧ (128 : Nat) = (128 : Nat) ∧ fdR rest c p = fdR rest c p ∧ Value.int IntKind.i64 (↑(c + List.length p) : Int) = Value.int IntKind.i64 (↑(c + List.length p) : Int) ∧ (8 : Nat) = (8 : Nat) ∧ blockH (blkN (fdS rest c s p) (fdP c p) (Subtype.val x)) (List.take (64 : Nat) (List.drop (0 : Nat) (List.drop ((64 : Nat) * Subtype.val x) (fdP c p)))) = blkN (fdS rest c s p) (fdP c p) (Subtype.val y)) ∧ List.length (fdP c p) - (64 : Nat) * Subtype.val y < List.length (fdP c p) - (64 : Nat) * Subtype.val x else (128 : Nat) ≤ (9223372036854775807 : Nat) ∧ (0 : Nat) + Nat.min (List.length (fdP c p) - (64 : Nat) * Subtype.val x) (128 : Nat) ≤ (128 : Nat) ∧ true = true ∧ true = true ∧ (68 : Nat) = (68 : Nat) ∧ ty = ty ∧ (128 : Nat) = (128 : Nat) ∧ lay (fdR rest c p) (0 : Nat) (List.take (Nat.min (List.length (fdP c p) - (64 : Nat) * Subtype.val x) (128 : Nat)) (List.drop (0 : Nat) (List.drop ((64 : Nat) * Subtype.val x) (fdP c p)))) = feedR rest c p ∧ Value.int IntKind.i64 (↑(c + List.length p) : Int) = Value.int IntKind.i64 (↑(c + List.length p) : Int) ∧ (8 : Nat) = (8 : Nat) ∧ blkN (fdS rest c s p) (fdP c p) (Subtype.val x) = feedS rest c s p else (∃ (x : { k : Nat // (64 : Nat) * k ≤ List.length (fdP c p) }), true = true ∧ true = true ∧ (68 : Nat) = (68 : Nat) ∧ getL [(0 : Nat)] (0 : Nat) = some (0 : Nat) ∧ (0 : Nat) = (0 : Nat) ∧ (1 : Nat) = (1 : Nat) ∧ n = List.length (fdP c p) - (64 : Nat) * Subtype.val x ∧ p = List.drop ((64 : Nat) * Subtype.val x) (fdP c p) ∧ Value.int IntKind.i64 (64 : Int) = Value.int IntKind.i64 (64 : Int) ∧ (29 : Nat) = (29 : Nat) ∧ getL [(0 : Nat)] (0 : Nat) = some (0 : Nat) ∧ (0 : Nat) = (0 : Nat) ∧ ty = ty ∧ (128 : Nat) = (128 : Nat) ∧ rest = fdR rest c p ∧ Value.int IntKind.i64 (IntKind.wrap IntKind.i64 ((↑c : Int) + (↑n : Int))) = Value.int IntKind.i64 (↑(c + List.length p) : Int) ∧ (8 : Nat) = (8 : Nat) ∧ s = blkN (fdS rest c s p) (fdP c p) (Subtype.val x)) ∧ ∀ (x : { k : Nat // (64 : Nat) * k ≤ List.length (fdP c p) }), bif decide ((64 : Int) ≤ (↑(List.length (fdP c p) - (64 : Nat) * Subtype.val x) : Int)) then (0 : Int) ≤ (64 : Int) ∧ (64 : Nat) ≤ List.length (fdP c p) - (64 : Nat) * Subtype.val x ∧ true = true ∧ getL [(0 : Nat)] (0 : Nat) = some (0 : Nat) ∧ (0 : Nat) = (0 : Nat) ∧ true = true ∧ (64 : Nat) = (64 : Nat) ∧ List.take (64 : Nat) (List.drop (0 : Nat) (List.drop ((64 : Nat) * Subtype.val x) (fdP c p))) = List.take (64 : Nat) (List.drop (0 : Nat) (List.drop ((64 : Nat) * Subtype.val x) (fdP c p))) ∧ ty = ty ∧ (128 : Nat) = (128 : Nat) ∧ fdR rest c p = fdR rest c p ∧ Value.int IntKind.i64 (↑(c + List.length p) : Int) = Value.int IntKind.i64 (↑(c + List.length p) : Int) ∧ (8 : Nat) = (8 : Nat) ∧ blkN (fdS rest c s p) (fdP c p) (Subtype.val x) = blkN (fdS rest c s p) (fdP c p) (Subtype.val x) ∧ List.length (List.take (64 : Nat) (List.drop (0 : Nat) (List.drop ((64 : Nat) * Subtype.val x) (fdP c p)))) = (64 : Nat) ∧ (64 : Nat) ≤ (64 : Nat) ∧ (64 : Nat) ≤ (140737488355328 : Nat) ∧ (0 : Int) ≤ (64 : Int) ∧ (64 : Nat) ≤ List.length (fdP c p) - (64 : Nat) * Subtype.val x ∧ ∃ (y : { k : Nat // (64 : Nat) * k ≤ List.length (fdP c p) }), (true = true ∧ true = true ∧ (68 : Nat) = (68 : Nat) ∧ getL [(0 : Nat)] (0 : Nat) = some (0 : Nat) ∧ (0 : Nat) = (0 : Nat) ∧ (1 : Nat) = (1 : Nat) ∧ List.length (fdP c p) - (64 : Nat) * Subtype.val x - (64 : Nat) = List.length (fdP c p) - (64 : Nat) * Subtype.val y ∧ List.take (List.length (fdP c p) - (64 : Nat) * Subtype.val x - (64 : Nat)) (List.drop (64 : Nat) (List.drop ((64 : Nat) * Subtype.val x) (fdP c p))) = List.drop ((64 : Nat) * Subtype.val y) (fdP c p) ∧ Value.int IntKind.i64 (64 : Int) = Value.int IntKind.i64 (64 : Int) ∧ (29 : Nat) = (29 : Nat) ∧ getL [(0 : Nat)] (0 : Nat) = some (0 : Nat) ∧ (0 : Nat) = (0 : Nat) ∧ ty = ty ∧ (128 : Nat) = (128 : Nat) ∧ fdR rest c p = fdR rest c p ∧ Value.int IntKind.i64 (↑(c + List.length p) : Int) = Value.int IntKind.i64 (↑(c + List.length p) : Int) ∧ (8 : Nat) = (8 : Nat) ∧ blockH (blkN (fdS rest c s p) (fdP c p) (Subtype.val x)) (List.take (64 : Nat) (List.drop (0 : Nat) (List.drop ((64 : Nat) * Subtype.val x) (fdP c p)))) = blkN (fdS rest c s p) (fdP c p) (Subtype.val y)) ∧ List.length (fdP c p) - (64 : Nat) * Subtype.val y < List.length (fdP c p) - (64 : Nat) * Subtype.val x else (128 : Nat) ≤ (9223372036854775807 : Nat) ∧ (0 : Nat) + Nat.min (List.length (fdP c p) - (64 : Nat) * Subtype.val x) (128 : Nat) ≤ (128 : Nat) ∧ true = true ∧ true = true ∧ (68 : Nat) = (68 : Nat) ∧ ty = ty ∧ (128 : Nat) = (128 : Nat) ∧ lay (fdR rest c p) (0 : Nat) (List.take (Nat.min (List.length (fdP c p) - (64 : Nat) * Subtype.val x) (128 : Nat)) (List.drop (0 : Nat) (List.drop ((64 : Nat) * Subtype.val x) (fdP c p)))) = feedR rest c p ∧ Value.int IntKind.i64 (↑(c + List.length p) : Int) = Value.int IntKind.i64 (↑(c + List.length p) : Int) ∧ (8 : Nat) = (8 : Nat) ∧ blkN (fdS rest c s p) (fdP c p) (Subtype.val x) = feedS rest c s p) := by kernel_rfl

set_option maxHeartbeats 8000000 in
theorem wpHFeed (ty : Nat) (rest : List Int) (c : Nat) (s : List Int) (n : Nat) (p : List Int) (h1 : p.length = n) (h2 : n ≤ 140737488355328) (h3 : c ≤ 4611686018427387904) (h4 : rest.length = 128) : wpE (FHFeed ty rest c s n p) (Tryd.f28.body.getD .skip) ⟨Tryd.f28.ntmps, slotsOf 0 (kHFeed (ty, rest, c, s, n, p)).avs, (kHFeed (ty, rest, c, s, n, p)).mem⟩ (finK Tryd.prog Tryd.f28.results.toList (postN (kHFeed (ty, rest, c, s, n, p)))) := by
  with_reducible refine Eq.mpr (vcHFeed ty rest c s n p) ?_
  have tm : Int.tmod (c : Int) 64 = ((c % 64 : Nat) : Int) := (Int.ofNat_tmod c 64).symm
  have lt := Nat.mod_lt c (show 0 < 64 by decide)
  subst h1
  have hw : IntKind.wrap .i64 ((c : Int) + (p.length : Int)) = ((c + p.length : Nat) : Int) := by rw [IntKind.wrap_i64]; omega
  have hm : Nat.min p.length (64 - c % 64) = fdM c p := rfl
  simp only [tm, Int.toNat_natCast, Nat.zero_add, hm, hw, List.drop_zero]
  by_cases r0 : c % 64 = 0
  · have hno : ¬ (0 < c % 64 ∧ c % 64 + p.length < 64) := by omega
    have eP : fdP c p = p := if_pos r0
    have eR : fdR rest c p = rest := if_pos r0
    have eS : fdS rest c s p = s := if_pos r0
    rw [decide_eq_false (show ¬ (0 : Int) < ((c % 64 : Nat) : Int) by omega), cond_false]
    refine ⟨by decide, ⟨⟨0, Nat.zero_le _⟩, ?_⟩, ?_⟩
    · dsimp only
      rw [eP, eR, eS]
      and_intros <;> first | exact True.intro | rfl
    · rintro ⟨k, hk⟩
      dsimp only
      by_cases hg : (64 : Int) ≤ (((fdP c p).length - 64 * k : Nat) : Int)
      · rw [decide_eq_true hg, cond_true]
        have e1 : List.take ((fdP c p).length - 64 * k - 64) (List.drop 64 (List.drop (64 * k) (fdP c p))) = List.drop (64 * (k + 1)) (fdP c p) := by
          rw [List.drop_drop, List.take_of_length_le (by rw [List.length_drop]; omega)]; rfl
        have e2 : (List.take 64 (List.drop (64 * k) (fdP c p))).length = 64 := by rw [List.length_take, List.length_drop]; omega
        rw [e1]
        and_intros
        all_goals first | omega | exact True.intro | exact e2 | rfl | skip
        refine ⟨⟨k + 1, by omega⟩, ?_⟩
        and_intros
        all_goals first | exact True.intro | rfl | (show (fdP c p).length - 64 * (k + 1) < (fdP c p).length - 64 * k; omega) | (show (fdP c p).length - 64 * k - 64 = (fdP c p).length - 64 * (k + 1); omega)
      · rw [decide_eq_false hg, cond_false]
        have ek : (fdP c p).length / 64 = k := by omega
        have em : Nat.min ((fdP c p).length - 64 * k) 128 = (fdP c p).length - 64 * k := Nat.min_eq_left (by omega)
        have hR : feedR rest c p = lay (fdR rest c p) 0 (List.drop (64 * k) (fdP c p)) := by unfold feedR; rw [if_neg hno, ek]
        have hS : feedS rest c s p = blkN (fdS rest c s p) (fdP c p) k := by unfold feedS; rw [if_neg hno, ek]
        rw [em, hR, hS, List.take_of_length_le (by rw [List.length_drop]; omega)]
        and_intros
        all_goals first | omega | exact True.intro | rfl
  · rw [decide_eq_true (show (0 : Int) < ((c % 64 : Nat) : Int) by omega), cond_true]
    have l1 : fdM c p ≤ p.length := Nat.min_le_left _ _
    have l2 : fdM c p ≤ 64 - c % 64 := Nat.min_le_right _ _
    have l3 : fdM c p = p.length ∨ fdM c p = 64 - c % 64 := by
      rcases Nat.le_total p.length (64 - c % 64) with h | h
      · exact .inl (Nat.min_eq_left h)
      · exact .inr (Nat.min_eq_right h)
    have e1 : lay rest (c % 64) (List.take (fdM c p) p) = fd1 rest c p := rfl
    have hw2 : IntKind.wrap .i64 (((c % 64 : Nat) : Int) + (fdM c p : Int)) = ((c % 64 + fdM c p : Nat) : Int) := by rw [IntKind.wrap_i64]; omega
    have htk : (List.take (fdM c p) p).length = fdM c p := by rw [List.length_take]; omega
    have l4 : (fd1 rest c p).length = 128 := by
      rw [← e1, lay_length _ _ _ (by rw [htk]; omega), h4]
    rw [e1, hw2]
    by_cases hno : 0 < c % 64 ∧ c % 64 + p.length < 64
    · rw [decide_eq_true (show ((c % 64 + fdM c p : Nat) : Int) < 64 by omega), cond_true]
      have hR : feedR rest c p = fd1 rest c p := if_pos hno
      have hS : feedS rest c s p = s := if_pos hno
      rw [hR, hS]
      and_intros
      all_goals first | omega | exact True.intro | rfl
    · rw [decide_eq_false (show ¬ ((c % 64 + fdM c p : Nat) : Int) < 64 by omega), cond_false]
      have eP : fdP c p = List.drop (fdM c p) p := if_neg r0
      have eR : fdR rest c p = fd1 rest c p := if_neg r0
      have eS : fdS rest c s p = blockH s ((fd1 rest c p).take 64) := if_neg r0
      and_intros
      all_goals first | omega | exact True.intro | exact l4 | rfl | skip
      · refine ⟨⟨0, Nat.zero_le _⟩, ?_⟩
        dsimp only
        rw [eR, eS, eP, List.take_of_length_le (l := List.drop (fdM c p) p) (by rw [List.length_drop]; omega)]
        and_intros
        all_goals first | exact True.intro | rfl | (rw [List.length_drop]; omega)
      · rintro ⟨k, hk⟩
        dsimp only
        by_cases hg : (64 : Int) ≤ (((fdP c p).length - 64 * k : Nat) : Int)
        · rw [decide_eq_true hg, cond_true]
          have e1 : List.take ((fdP c p).length - 64 * k - 64) (List.drop 64 (List.drop (64 * k) (fdP c p))) = List.drop (64 * (k + 1)) (fdP c p) := by
            rw [List.drop_drop, List.take_of_length_le (by rw [List.length_drop]; omega)]; rfl
          have e2 : (List.take 64 (List.drop (64 * k) (fdP c p))).length = 64 := by rw [List.length_take, List.length_drop]; omega
          rw [e1]
          and_intros
          all_goals first | omega | exact True.intro | exact e2 | rfl | skip
          refine ⟨⟨k + 1, by omega⟩, ?_⟩
          and_intros
          all_goals first | exact True.intro | rfl | (show (fdP c p).length - 64 * (k + 1) < (fdP c p).length - 64 * k; omega) | (show (fdP c p).length - 64 * k - 64 = (fdP c p).length - 64 * (k + 1); omega)
        · rw [decide_eq_false hg, cond_false]
          have ek : (fdP c p).length / 64 = k := by omega
          have em : Nat.min ((fdP c p).length - 64 * k) 128 = (fdP c p).length - 64 * k := Nat.min_eq_left (by omega)
          have hR : feedR rest c p = lay (fdR rest c p) 0 (List.drop (64 * k) (fdP c p)) := by unfold feedR; rw [if_neg hno, ek]
          have hS : feedS rest c s p = blkN (fdS rest c s p) (fdP c p) k := by unfold feedS; rw [if_neg hno, ek]
          rw [em, hR, hS, List.take_of_length_le (by rw [List.length_drop]; omega)]
          and_intros
          all_goals first | omega | exact True.intro | rfl
set_option maxHeartbeats 8000000 in
theorem cHFeed_ok : SpecOK Tryd.prog cHFeed := by
  refine callG_ok (c := Tryd.f28.body.getD .skip) mixed Tryd.func28 (by kernel_rfl) rfl (fun x hob => ?_)
  obtain ⟨ty, rest, c, s, n, p⟩ := x
  have hob : (p.length = n) ∧ (n ≤ 140737488355328) ∧ (c ≤ 4611686018427387904) ∧ (rest.length = 128) := hob
  obtain ⟨h1, h2, h3, h4⟩ := hob
  exact ⟨FHFeed ty rest c s n p, rfl, evOKs ⟨.inl ⟨cHBlockX_ok, by kernel_rfl, gl_sub (by first | exact .inl rfl | exact .inr rfl)⟩, trivial⟩, rfl, rfl, by with_reducible exact wpHFeed ty rest c s n p h1 h2 h3 h4⟩
end Go.Proofs.YthhjcpiaoempfaaDoor
