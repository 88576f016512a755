/-
  The reference of layer 10 (aead): filled up, counts.
-/
/-
  The reference of layer 10 (aead): tag, sealed, opened.
-/
import Derived.Test.YthlleheeghiljaaA3m
import Derived.Test.YthlleheeghiljaaS8c
import Derived.Test.YthlleheeghiljaaS9b
import Derived.Test.YthlleheeghiljaaE9e
namespace Go.Proofs.Ythlleheeghiljaa
open Go.RowKit
set_option maxRecDepth 100000

noncomputable def stFil (t : List Int) (j : Nat) : St := ⟨Try.f53.ntmps, [(0, vv (.string (bstr (t ++ List.replicate j 0))))], []⟩
def kSFill : (List Int) → ClN := fun t => ⟨[vv (.string (bstr t))], [], vv (.string (bstr (t ++ padL t.length))), [], [], [t.length ≤ 140737488355328]⟩
noncomputable def FSFill (t : List Int) : FnE := ⟨mkEv Try.prog [] [] 0, [0, 2, 6], fun _ _ => .inv { j : Nat // j ≤ (16 - t.length % 16) % 16 } (fun j => stFil t j.val) (fun j => (16 - t.length % 16) % 16 - j.val) [] []⟩
def mSFill : List AV → (Nat → Option MB) → Option (List Nat × (List Int))
  | [.o (.c (.v (.string s)))], _ => some ([], strL s)
  | _, _ => none
noncomputable def cSFill : Spec := callG 53 Try.f53.ntmps mSFill kSFill
theorem vcSFill (t : List Int) : (wpE (FSFill t) (Try.f53.body.getD .skip) ⟨Try.f53.ntmps, slotsOf 0 (kSFill t).avs, (kSFill t).mem⟩ (finK Try.prog Try.f53.results.toList (postN (kSFill t)))) = ((∃ (x : { j : Nat // j ≤ ((16 : Nat) - List.length t % (16 : Nat)) % (16 : Nat) }), true = true ∧ true = true ∧ (10 : Nat) = (10 : Nat) ∧ Value.string (bstr t) = Value.string (bstr (t ++ List.replicate (Subtype.val x) (0 : Int)))) ∧ ∀ (x : { j : Nat // j ≤ ((16 : Nat) - List.length t % (16 : Nat)) % (16 : Nat) }), (16 : Int) ≠ (0 : Int) ∧ bif !decide (Int.tmod (↑(ByteArray.size (bstr (t ++ List.replicate (Subtype.val x) (0 : Int)))) : Int) (16 : Int) = (0 : Int)) then ByteArray.size (bstr (t ++ List.replicate (Subtype.val x) (0 : Int))) + (1 : Nat) ≤ (9223372036854775807 : Nat) ∧ ∃ (y : { j : Nat // j ≤ ((16 : Nat) - List.length t % (16 : Nat)) % (16 : Nat) }), (true = true ∧ true = true ∧ (10 : Nat) = (10 : Nat) ∧ Value.string (strAdd (bstr (t ++ List.replicate (Subtype.val x) (0 : Int))) { data := #[OfNat.ofNat (0 : Nat)] }) = Value.string (bstr (t ++ List.replicate (Subtype.val y) (0 : Int)))) ∧ ((16 : Nat) - List.length t % (16 : Nat)) % (16 : Nat) - Subtype.val y < ((16 : Nat) - List.length t % (16 : Nat)) % (16 : Nat) - Subtype.val x else true = true ∧ true = true ∧ (10 : Nat) = (10 : Nat) ∧ Value.string (bstr (t ++ List.replicate (Subtype.val x) (0 : Int))) = Value.string (bstr (t ++ padL (List.length t)))) := by kernel_rfl

set_option maxHeartbeats 8000000 in
theorem wpSFill (t : List Int) (h1 : t.length ≤ 140737488355328) : wpE (FSFill t) (Try.f53.body.getD .skip) ⟨Try.f53.ntmps, slotsOf 0 (kSFill t).avs, (kSFill t).mem⟩ (finK Try.prog Try.f53.results.toList (postN (kSFill t))) := by
  with_reducible refine Eq.mpr (vcSFill t) ?_
  and_intros
  · refine ⟨⟨0, Nat.zero_le _⟩, ?_⟩
    have e : Value.string (bstr t) = Value.string (bstr (t ++ List.replicate 0 0)) := by rw [List.replicate_zero, List.append_nil]
    and_intros <;> first | exact True.intro | with_reducible rfl | exact e
  rintro ⟨j, hj⟩
  dsimp only
  have ls : (bstr (t ++ List.replicate j 0)).size = t.length + j := by rw [bstr_size, List.length_append, List.length_replicate]
  have tm : Int.tmod ((t.length + j : Nat) : Int) 16 = (((t.length + j) % 16 : Nat) : Int) := (Int.ofNat_tmod (t.length + j) 16).symm
  simp only [ls, tm]
  refine ⟨by decide, ?_⟩
  by_cases hg : (t.length + j) % 16 = 0
  · rw [decide_eq_true (show (((t.length + j) % 16 : Nat) : Int) = 0 by omega), Bool.not_true, cond_false]
    have ej : j = (16 - t.length % 16) % 16 := by omega
    subst ej
    and_intros <;> first | exact True.intro | with_reducible rfl | rfl
  · rw [decide_eq_false (show ¬ (((t.length + j) % 16 : Nat) : Int) = 0 by omega), Bool.not_false, cond_true]
    have e : strAdd (bstr (t ++ List.replicate j 0)) { data := #[0] } = bstr (t ++ List.replicate (j + 1) 0) := by
      have h := bstr_add (t ++ List.replicate j 0) [0]
      rw [List.append_assoc, ← List.replicate_succ'] at h
      rw [← h]; rfl
    and_intros
    all_goals try exact True.intro
    all_goals try (show _ + 1 ≤ _; omega)
    all_goals try omega
    refine ⟨⟨j + 1, by omega⟩, ?_⟩
    and_intros <;> first | exact True.intro | with_reducible rfl | exact congrArg Value.string e | (show (16 - t.length % 16) % 16 - (j + 1) < (16 - t.length % 16) % 16 - j; omega) | rfl
set_option maxHeartbeats 8000000 in
theorem cSFill_ok : SpecOK Try.prog cSFill := by
  refine callG_ok (c := Try.f53.body.getD .skip) mixed Try.func53 (by kernel_rfl) rfl (fun t hob => ?_)
  have hob : (t.length ≤ 140737488355328) := hob
  have h1 := hob
  exact ⟨FSFill t, rfl, evOKs trivial, rfl, rfl, by with_reducible exact wpSFill t h1⟩

def cq (n : Nat) : Nat → Int
  | 0 => (n : Int)
  | i + 1 => IntKind.wrap .i64 (Int.tdiv (cq n i) 256)
def cl8 (n : Nat) : Nat → List Int
  | 0 => []
  | i + 1 => cl8 n i ++ [IntKind.wrap .u8 (Int.tmod (cq n i) 256)]
theorem cl8_len (n : Nat) : ∀ i, (cl8 n i).length = i
  | 0 => rfl
  | i + 1 => by rw [cl8, List.length_append, cl8_len n i]; rfl
theorem cq_nat (n : Nat) (hn : n ≤ 140737488355328) : ∀ i, cq n i = ((n / 256 ^ i : Nat) : Int)
  | 0 => by rw [cq, Nat.pow_zero, Nat.div_one]
  | i + 1 => by
    have h := Nat.div_le_self n (256 ^ i)
    have h2 := Nat.div_le_self (n / 256 ^ i) 256
    rw [cq, cq_nat n hn i, Nat.pow_succ, ← Nat.div_div_eq_div_mul]
    have : Int.tdiv ((n / 256 ^ i : Nat) : Int) 256 = ((n / 256 ^ i / 256 : Nat) : Int) := (Int.ofNat_tdiv (n / 256 ^ i) 256).symm
    rw [this]
    clear this
    generalize n / 256 ^ i / 256 = D at *
    generalize n / 256 ^ i = C at *
    exact i64_in (by omega) (by omega)
theorem shr_i64 (n k : Nat) (hk : k ≤ 64) : IntKind.wrap .u8 (sShr .i64 (n : Int) (k : Int)) = ((n / 2 ^ k % 256 : Nat) : Int) := by
  unfold sShr
  rw [show min ((k : Int).toNat) (IntKind.bits .i64) = k by rw [Int.toNat_natCast]; exact Nat.min_eq_left hk, Int.fdiv_eq_ediv_of_nonneg _ (Int.pow_nonneg (by omega)), wrapU8, show (2 : Int) ^ k = ((2 ^ k : Nat) : Int) by simp, ← Int.natCast_ediv]
  omega
theorem cl8_eq {n : Nat} (hn : n ≤ 140737488355328) : cl8 n 8 = lenL n := by
  have b : ∀ i, IntKind.wrap .u8 (Int.tmod (cq n i) 256) = ((n / 256 ^ i % 256 : Nat) : Int) := fun i => by
    rw [cq_nat n hn i]
    have : Int.tmod ((n / 256 ^ i : Nat) : Int) 256 = ((n / 256 ^ i % 256 : Nat) : Int) := (Int.ofNat_tmod (n / 256 ^ i) 256).symm
    rw [this, wrapU8]; omega
  have s0 : IntKind.wrap .u8 (sShr .i64 (n : Int) 0) = ((n / 256 ^ 0 % 256 : Nat) : Int) := shr_i64 n 0 (by omega)
  have s1 : IntKind.wrap .u8 (sShr .i64 (n : Int) 8) = ((n / 256 ^ 1 % 256 : Nat) : Int) := shr_i64 n 8 (by omega)
  have s2 : IntKind.wrap .u8 (sShr .i64 (n : Int) 16) = ((n / 256 ^ 2 % 256 : Nat) : Int) := shr_i64 n 16 (by omega)
  have s3 : IntKind.wrap .u8 (sShr .i64 (n : Int) 24) = ((n / 256 ^ 3 % 256 : Nat) : Int) := shr_i64 n 24 (by omega)
  have s4 : IntKind.wrap .u8 (sShr .i64 (n : Int) 32) = ((n / 256 ^ 4 % 256 : Nat) : Int) := shr_i64 n 32 (by omega)
  have s5 : IntKind.wrap .u8 (sShr .i64 (n : Int) 40) = ((n / 256 ^ 5 % 256 : Nat) : Int) := shr_i64 n 40 (by omega)
  have s6 : IntKind.wrap .u8 (sShr .i64 (n : Int) 48) = ((n / 256 ^ 6 % 256 : Nat) : Int) := shr_i64 n 48 (by omega)
  have s7 : IntKind.wrap .u8 (sShr .i64 (n : Int) 56) = ((n / 256 ^ 7 % 256 : Nat) : Int) := shr_i64 n 56 (by omega)
  unfold lenL
  rw [s0, s1, s2, s3, s4, s5, s6, s7, ← b 0, ← b 1, ← b 2, ← b 3, ← b 4, ← b 5, ← b 6, ← b 7]
  rfl
noncomputable def stCnt (n i : Nat) : St := ⟨Try.f54.ntmps, [(0, vv (.int .i64 (cq n i))), (3, vv (.string (bstr (cl8 n i)))), (4, vv (.int .i64 (i : Int)))], []⟩
def kSCount : Nat → ClN := fun n => ⟨[vv (.int .i64 (n : Int))], [], vv (.string (bstr (lenL n))), [], [], [n ≤ 140737488355328]⟩
noncomputable def FSCount (n : Nat) : FnE := ⟨mkEv Try.prog [] [] 0, [0, 2, 3, 4, 6], fun _ _ => .inv { i : Nat // i ≤ 8 } (fun i => stCnt n i.val) (fun i => 8 - i.val) [] []⟩
def mSCount : List AV → (Nat → Option MB) → Option (List Nat × Nat)
  | [.o (.c (.v (.int .i64 n)))], _ => some ([], n.toNat)
  | _, _ => none
noncomputable def cSCount : Spec := callG 54 Try.f54.ntmps mSCount kSCount
theorem vcSCount (n : Nat) : (wpE (FSCount n) (Try.f54.body.getD .skip) ⟨Try.f54.ntmps, slotsOf 0 (kSCount n).avs, (kSCount n).mem⟩ (finK Try.prog Try.f54.results.toList (postN (kSCount n)))) = ((∃ (x : { i : Nat // i ≤ (8 : Nat) }), true = true ∧ true = true ∧ (19 : Nat) = (19 : Nat) ∧ Value.int IntKind.i64 (↑n : Int) = Value.int IntKind.i64 (cq n (Subtype.val x)) ∧ Value.string { data := #[] } = Value.string (bstr (cl8 n (Subtype.val x))) ∧ Value.int IntKind.i64 (0 : Int) = Value.int IntKind.i64 (↑(Subtype.val x) : Int)) ∧ ∀ (x : { i : Nat // i ≤ (8 : Nat) }), bif decide ((↑(Subtype.val x) : Int) < (8 : Int)) then (256 : Int) ≠ (0 : Int) ∧ (1 : Nat) = (1 : Nat) ∧ ByteArray.size (bstr (cl8 n (Subtype.val x))) + ByteArray.size (bstr [IntKind.wrap IntKind.u8 (Int.tmod (cq n (Subtype.val x)) (256 : Int))]) ≤ (9223372036854775807 : Nat) ∧ (256 : Int) ≠ (0 : Int) ∧ ∃ (y : { i : Nat // i ≤ (8 : Nat) }), (true = true ∧ true = true ∧ (19 : Nat) = (19 : Nat) ∧ Value.int IntKind.i64 (IntKind.wrap IntKind.i64 (Int.tdiv (cq n (Subtype.val x)) (256 : Int))) = Value.int IntKind.i64 (cq n (Subtype.val y)) ∧ Value.string (strAdd (bstr (cl8 n (Subtype.val x))) (bstr [IntKind.wrap IntKind.u8 (Int.tmod (cq n (Subtype.val x)) (256 : Int))])) = Value.string (bstr (cl8 n (Subtype.val y))) ∧ Value.int IntKind.i64 (IntKind.wrap IntKind.i64 ((↑(Subtype.val x) : Int) + (1 : Int))) = Value.int IntKind.i64 (↑(Subtype.val y) : Int)) ∧ (8 : Nat) - Subtype.val y < (8 : Nat) - Subtype.val x else true = true ∧ true = true ∧ (19 : Nat) = (19 : Nat) ∧ Value.string (bstr (cl8 n (Subtype.val x))) = Value.string (bstr (lenL n))) := by kernel_rfl

set_option maxHeartbeats 8000000 in
theorem wpSCount (n : Nat) (h1 : n ≤ 140737488355328) : wpE (FSCount n) (Try.f54.body.getD .skip) ⟨Try.f54.ntmps, slotsOf 0 (kSCount n).avs, (kSCount n).mem⟩ (finK Try.prog Try.f54.results.toList (postN (kSCount n))) := by
  with_reducible refine Eq.mpr (vcSCount n) ?_
  and_intros
  · refine ⟨⟨0, Nat.zero_le _⟩, ?_⟩
    and_intros <;> first | exact True.intro | with_reducible rfl | kernel_rfl
  rintro ⟨i, hi⟩
  dsimp only
  have lc := cl8_len n i
  by_cases hg : (i : Int) < 8
  · rw [decide_eq_true hg, cond_true]
    have w1 : IntKind.wrap .i64 ((i : Int) + 1) = ((i + 1 : Nat) : Int) := by rw [IntKind.wrap_i64]; omega
    have e : strAdd (bstr (cl8 n i)) (bstr [IntKind.wrap .u8 (Int.tmod (cq n i) 256)]) = bstr (cl8 n (i + 1)) := by rw [bstr_add]; rfl
    simp only [w1, e, bstr_size, lc, List.length_singleton]
    and_intros
    all_goals try exact True.intro
    all_goals try omega
    refine ⟨⟨i + 1, by omega⟩, ?_⟩
    and_intros <;> first | exact True.intro | with_reducible rfl | (show 8 - (i + 1) < 8 - i; omega) | rfl
  · rw [decide_eq_false hg, cond_false]
    have ei : i = 8 := by omega
    subst ei
    have e := congrArg (fun x => Value.string (bstr x)) (cl8_eq h1)
    and_intros <;> first | exact True.intro | with_reducible rfl | exact e
set_option maxHeartbeats 8000000 in
theorem cSCount_ok : SpecOK Try.prog cSCount := by
  refine callG_ok (c := Try.f54.body.getD .skip) mixed Try.func54 (by kernel_rfl) rfl (fun n hob => ?_)
  have hob : (n ≤ 140737488355328) := hob
  have h1 := hob
  exact ⟨FSCount n, rfl, evOKs trivial, rfl, rfl, by with_reducible exact wpSCount n h1⟩
end Go.Proofs.Ythlleheeghiljaa
namespace Go.Proofs.Ythlleheeghiljaa
open Go.RowKit
set_option maxRecDepth 100000

def cpB (b : List Int) : Nat → List Int
  | 0 => List.replicate 32 0
  | i + 1 => (cpB b i).set i (b.getD i 0)
theorem cpB_len (b : List Int) : ∀ i, (cpB b i).length = 32
  | 0 => by rw [cpB, List.length_replicate]
  | i + 1 => by rw [cpB, List.length_set, cpB_len b i]
theorem cpB_at (b : List Int) (p : Nat) : ∀ i, i ≤ 32 → p < i → (cpB b i).getD p 0 = b.getD p 0
  | 0, _, h => absurd h (Nat.not_lt_zero _)
  | i + 1, hi, h => by
    rw [cpB, getD_ins (by rw [cpB_len]; omega)]
    by_cases e : i = p
    · subst e; rw [if_pos rfl]
    · rw [if_neg e]; exact cpB_at b p i (by omega) (by omega)
theorem cpB_all {b : List Int} (h : b.length = 64) : cpB b 32 = b.take 32 := by
  refine ext_getD (by rw [cpB_len, List.length_take, h]; rfl) (fun p hp => ?_)
  rw [cpB_len] at hp
  rw [cpB_at b p 32 (Nat.le_refl _) hp, List.getD_eq_getElem?_getD, List.getD_eq_getElem?_getD, List.getElem?_take_of_lt hp]
/-- The tag of what is sealed, and of what it is bound to. -/
def tagR (key n m b : List Int) : List Int := sumL ((chachaL key n 0).take 32) (b ++ padL b.length ++ (m ++ padL m.length) ++ lenL b.length ++ lenL m.length)
theorem padL_bys (k : Nat) : Bys (padL k) := fun y hy => by unfold padL at hy; rw [List.mem_replicate] at hy; omega
theorem lenL_bys (k : Nat) : Bys (lenL k) := by
  intro z hz
  simp only [lenL, List.mem_cons, List.not_mem_nil, or_false] at hz
  rcases hz with rfl | rfl | rfl | rfl | rfl | rfl | rfl | rfl <;> exact wrapU8_in _
theorem app_bys {a b : List Int} (ha : Bys a) (hb : Bys b) : Bys (a ++ b) := fun y hy => by
  rcases List.mem_append.1 hy with h | h
  · exact ha y h
  · exact hb y h
noncomputable def stTgA (m b c : List Int) (i : Nat) : St := ⟨Try.f39.ntmps, [(2, vv (.string (bstr m))), (3, vv (.string (bstr b))), (9, .o (.c (.ptr 0 0 none))), (10, .o (.c (.ptr 1 0 none))), (11, vv (.int .i64 (i : Int)))], [.fix 28 [.many 64 (.i .u8 c)], .fix 23 [.many 32 (.i .u8 (cpB c i))]]⟩
noncomputable def stTgB (t : List Int) (i : Nat) : St := ⟨Try.f39.ntmps, [(12, .o (.c (.ptr 0 0 none))), (13, vv (.string (bstr (t.take i)))), (14, vv (.int .i64 (i : Int)))], [.fix 41 [.many 16 (.i .u8 t)]]⟩
def kSTag : (List Int) × (List Int) × (List Int) × (List Int) → ClN := fun (key, n, m, b) => ⟨[.o (.g [.many 32 (.i .u8 key)]), .o (.g [.many 12 (.i .u8 n)]), vv (.string (bstr m)), vv (.string (bstr b))], [], vv (.string (bstr (tagR key n m b))), [], [], [key.length = 32, n.length = 12, Bys key, Bys n, Bys m, Bys b, m.length ≤ 16777216, b.length ≤ 16777216]⟩
noncomputable def FSTag (key n m b : List Int) : FnE := ⟨mkEv Try.prog [] [cSBlock, cSFill, cSCount, cSSum] 0, [0, 1, 2, 3, 4, 5, 8, 9, 10, 11, 12, 13, 14, 20, 44], fun g _ => bif Nat.beq g 4 then .inv { i : Nat // i ≤ 32 } (fun i => stTgA m b (blkR key n 0) i.val) (fun i => 32 - i.val) [2, 3] [0, 1] else .inv { i : Nat // i ≤ 16 } (fun i => stTgB (tagR key n m b) i.val) (fun i => 16 - i.val) [2] [0]⟩
def mSTag : List AV → (Nat → Option MB) → Option (List Nat × ((List Int) × (List Int) × (List Int) × (List Int)))
  | [.o (.g [.many 32 (.i .u8 key)]), .o (.g [.many 12 (.i .u8 n)]), .o (.c (.v (.string s))), .o (.c (.v (.string t)))], _ => some ([], key, n, strL s, strL t)
  | _, _ => none
noncomputable def cSTag : Spec := callG 39 Try.f39.ntmps mSTag kSTag
theorem vcSTag (key n m b : List Int) : (wpE (FSTag key n m b) (Try.f39.body.getD .skip) ⟨Try.f39.ntmps, slotsOf 0 (kSTag (key, n, m, b)).avs, (kSTag (key, n, m, b)).mem⟩ (finK Try.prog Try.f39.results.toList (postN (kSTag (key, n, m, b))))) = (let x1 := bstr (strL (bstr b) ++ padL (List.length (strL (bstr b)))); let x2 := bstr (strL (bstr m) ++ padL (List.length (strL (bstr m)))); let x3 := strAdd x1 x2; let x4 := strAdd x3 (bstr (lenL (Int.toNat (↑(ByteArray.size (bstr b)) : Int)))); let x5 := strAdd x4 (bstr (lenL (Int.toNat (↑(ByteArray.size (bstr m)) : Int)))); let x6 := strL x5; true = true ∧ (32 : Nat) = (32 : Nat) ∧ key = key ∧ (12 : Nat) = (12 : Nat) ∧ n = n ∧ Value.int IntKind.u64 (0 : Int) = Value.int IntKind.u64 (0 : Int) ∧ List.length key = (32 : Nat) ∧ List.length n = (12 : Nat) ∧ Bys key ∧ Bys n ∧ (∃ (x : { i : Nat // i ≤ (32 : Nat) }), true = true ∧ true = true ∧ (55 : Nat) = (55 : Nat) ∧ Value.string (bstr m) = Value.string (bstr m) ∧ Value.string (bstr b) = Value.string (bstr b) ∧ getL [(2 : Nat), (3 : Nat)] (0 : Nat) = some (Nat.add (Nat.add (Nat.add (2 : Nat) (0 : Nat)) (0 : Nat)) (0 : Nat)) ∧ (0 : Nat) = (0 : Nat) ∧ getL [(2 : Nat), (3 : Nat)] (1 : Nat) = some (Nat.add (3 : Nat) (0 : Nat)) ∧ (0 : Nat) = (0 : Nat) ∧ Value.int IntKind.i64 (0 : Int) = Value.int IntKind.i64 (↑(Subtype.val x) : Int) ∧ (28 : Nat) = (28 : Nat) ∧ (64 : Nat) = (64 : Nat) ∧ blkR key n (0 : Int) = blkR key n (0 : Int) ∧ (23 : Nat) = (23 : Nat) ∧ (32 : Nat) = (32 : Nat) ∧ [(0 : Int), (0 : Int), (0 : Int), (0 : Int), (0 : Int), (0 : Int), (0 : Int), (0 : Int), (0 : Int), (0 : Int), (0 : Int), (0 : Int), (0 : Int), (0 : Int), (0 : Int), (0 : Int), (0 : Int), (0 : Int), (0 : Int), (0 : Int), (0 : Int), (0 : Int), (0 : Int), (0 : Int), (0 : Int), (0 : Int), (0 : Int), (0 : Int), (0 : Int), (0 : Int), (0 : Int), (0 : Int)] = cpB (blkR key n (0 : Int)) (Subtype.val x)) ∧ ∀ (x : { i : Nat // i ≤ (32 : Nat) }), bif decide ((↑(Subtype.val x) : Int) < (32 : Int)) then (0 : Int) ≤ (↑(Subtype.val x) : Int) ∧ (↑(Subtype.val x) : Int) < (64 : Int) ∧ Int.toNat (↑(Subtype.val x) : Int) < (64 : Nat) ∧ (0 : Int) ≤ (↑(Subtype.val x) : Int) ∧ (↑(Subtype.val x) : Int) < (32 : Int) ∧ Int.toNat (↑(Subtype.val x) : Int) < (32 : Nat) ∧ ∃ (y : { i : Nat // i ≤ (32 : Nat) }), (true = true ∧ true = true ∧ (55 : Nat) = (55 : Nat) ∧ Value.string (bstr m) = Value.string (bstr m) ∧ Value.string (bstr b) = Value.string (bstr b) ∧ getL [(0 : Nat), (1 : Nat)] (0 : Nat) = some (0 : Nat) ∧ (0 : Nat) = (0 : Nat) ∧ getL [(0 : Nat), (1 : Nat)] (1 : Nat) = some (1 : Nat) ∧ (0 : Nat) = (0 : Nat) ∧ Value.int IntKind.i64 (IntKind.wrap IntKind.i64 ((↑(Subtype.val x) : Int) + (1 : Int))) = Value.int IntKind.i64 (↑(Subtype.val y) : Int) ∧ (28 : Nat) = (28 : Nat) ∧ (64 : Nat) = (64 : Nat) ∧ blkR key n (0 : Int) = blkR key n (0 : Int) ∧ (23 : Nat) = (23 : Nat) ∧ (32 : Nat) = (32 : Nat) ∧ List.set (cpB (blkR key n (0 : Int)) (Subtype.val x)) (Int.toNat (↑(Subtype.val x) : Int)) (List.getD (blkR key n (0 : Int)) (Int.toNat (↑(Subtype.val x) : Int)) (0 : Int)) = cpB (blkR key n (0 : Int)) (Subtype.val y)) ∧ (32 : Nat) - Subtype.val y < (32 : Nat) - Subtype.val x else true = true ∧ Value.string (bstr b) = Value.string (bstr (strL (bstr b))) ∧ List.length (strL (bstr b)) ≤ (140737488355328 : Nat) ∧ true = true ∧ Value.string (bstr m) = Value.string (bstr (strL (bstr m))) ∧ List.length (strL (bstr m)) ≤ (140737488355328 : Nat) ∧ ByteArray.size x1 + ByteArray.size x2 ≤ (9223372036854775807 : Nat) ∧ true = true ∧ Value.int IntKind.i64 (↑(ByteArray.size (bstr b)) : Int) = Value.int IntKind.i64 (↑(Int.toNat (↑(ByteArray.size (bstr b)) : Int)) : Int) ∧ Int.toNat (↑(ByteArray.size (bstr b)) : Int) ≤ (140737488355328 : Nat) ∧ ByteArray.size x3 + ByteArray.size (bstr (lenL (Int.toNat (↑(ByteArray.size (bstr b)) : Int)))) ≤ (9223372036854775807 : Nat) ∧ true = true ∧ Value.int IntKind.i64 (↑(ByteArray.size (bstr m)) : Int) = Value.int IntKind.i64 (↑(Int.toNat (↑(ByteArray.size (bstr m)) : Int)) : Int) ∧ Int.toNat (↑(ByteArray.size (bstr m)) : Int) ≤ (140737488355328 : Nat) ∧ ByteArray.size x4 + ByteArray.size (bstr (lenL (Int.toNat (↑(ByteArray.size (bstr m)) : Int)))) ≤ (9223372036854775807 : Nat) ∧ true = true ∧ (32 : Nat) = (32 : Nat) ∧ cpB (blkR key n (0 : Int)) (Subtype.val x) = cpB (blkR key n (0 : Int)) (Subtype.val x) ∧ Value.string x5 = Value.string (bstr x6) ∧ List.length (cpB (blkR key n (0 : Int)) (Subtype.val x)) = (32 : Nat) ∧ Bys (cpB (blkR key n (0 : Int)) (Subtype.val x)) ∧ Bys x6 ∧ List.length x6 ≤ (140737488355328 : Nat) ∧ (∃ (x_1 : { i : Nat // i ≤ (16 : Nat) }), true = true ∧ true = true ∧ (55 : Nat) = (55 : Nat) ∧ getL [(2 : Nat)] (0 : Nat) = some (Nat.add (Nat.add (Nat.add (Nat.add (Nat.add (Nat.add (Nat.add (Nat.add (Nat.add (Nat.add (Nat.add (Nat.add (Nat.add (Nat.add (Nat.add (2 : Nat) (0 : Nat)) (0 : Nat)) (0 : Nat)) (0 : Nat)) (0 : Nat)) (0 : Nat)) (0 : Nat)) (0 : Nat)) (0 : Nat)) (0 : Nat)) (0 : Nat)) (0 : Nat)) (0 : Nat)) (0 : Nat)) (0 : Nat)) ∧ (0 : Nat) = (0 : Nat) ∧ Value.string { data := #[] } = Value.string (bstr (List.take (Subtype.val x_1) (tagR key n m b))) ∧ Value.int IntKind.i64 (0 : Int) = Value.int IntKind.i64 (↑(Subtype.val x_1) : Int) ∧ (41 : Nat) = (41 : Nat) ∧ (16 : Nat) = (16 : Nat) ∧ dgl (16 : Nat) (accR (valD (rR (cpB (blkR key n (0 : Int)) (Subtype.val x)))) x6 ((List.length x6 + (15 : Nat)) / (16 : Nat)) + valD (List.drop (16 : Nat) (cpB (blkR key n (0 : Int)) (Subtype.val x)))) = tagR key n m b) ∧ ∀ (x : { i : Nat // i ≤ (16 : Nat) }), bif decide ((↑(Subtype.val x) : Int) < (16 : Int)) then (0 : Int) ≤ (↑(Subtype.val x) : Int) ∧ (↑(Subtype.val x) : Int) < (16 : Int) ∧ Int.toNat (↑(Subtype.val x) : Int) < (16 : Nat) ∧ (1 : Nat) = (1 : Nat) ∧ ByteArray.size (bstr (List.take (Subtype.val x) (tagR key n m b))) + ByteArray.size (bstr [List.getD (tagR key n m b) (Int.toNat (↑(Subtype.val x) : Int)) (0 : Int)]) ≤ (9223372036854775807 : Nat) ∧ ∃ (y : { i : Nat // i ≤ (16 : Nat) }), (true = true ∧ true = true ∧ (55 : Nat) = (55 : Nat) ∧ getL [(0 : Nat)] (0 : Nat) = some (0 : Nat) ∧ (0 : Nat) = (0 : Nat) ∧ Value.string (strAdd (bstr (List.take (Subtype.val x) (tagR key n m b))) (bstr [List.getD (tagR key n m b) (Int.toNat (↑(Subtype.val x) : Int)) (0 : Int)])) = Value.string (bstr (List.take (Subtype.val y) (tagR key n m b))) ∧ Value.int IntKind.i64 (IntKind.wrap IntKind.i64 ((↑(Subtype.val x) : Int) + (1 : Int))) = Value.int IntKind.i64 (↑(Subtype.val y) : Int) ∧ (41 : Nat) = (41 : Nat) ∧ (16 : Nat) = (16 : Nat) ∧ tagR key n m b = tagR key n m b) ∧ (16 : Nat) - Subtype.val y < (16 : Nat) - Subtype.val x else true = true ∧ true = true ∧ (55 : Nat) = (55 : Nat) ∧ Value.string (bstr (List.take (Subtype.val x) (tagR key n m b))) = Value.string (bstr (tagR key n m b))) := by kernel_rfl

set_option maxHeartbeats 8000000 in
theorem wpSTag (key n m b : List Int) (h1 : key.length = 32) (h2 : n.length = 12) (h3 : Bys key) (h4 : Bys n) (h5 : Bys m) (h6 : Bys b) (h7 : m.length ≤ 16777216) (h8 : b.length ≤ 16777216) : wpE (FSTag key n m b) (Try.f39.body.getD .skip) ⟨Try.f39.ntmps, slotsOf 0 (kSTag (key, n, m, b)).avs, (kSTag (key, n, m, b)).mem⟩ (finK Try.prog Try.f39.results.toList (postN (kSTag (key, n, m, b)))) := by
  with_reducible refine Eq.mpr (vcSTag key n m b) ?_
  have eb := strL_bstr h6
  have em := strL_bstr h5
  have lp : ∀ k, (padL k).length = (16 - k % 16) % 16 := fun k => by simp [padL]
  have ll : ∀ k, (lenL k).length = 8 := fun k => rfl
  have bT : Bys (b ++ padL b.length ++ (m ++ padL m.length) ++ lenL b.length ++ lenL m.length) := app_bys (app_bys (app_bys (app_bys h6 (padL_bys _)) (app_bys h5 (padL_bys _))) (lenL_bys _)) (lenL_bys _)
  have eT := strL_bstr bT
  have lT : (b ++ padL b.length ++ (m ++ padL m.length) ++ lenL b.length ++ lenL m.length).length ≤ 140737488355328 := by simp only [List.length_append, lp, ll]; omega
  have eblk : blkR key n 0 = chachaL key n 0 := blkR_eq h1 h2 h3 h4 V32.zero
  have lc : (chachaL key n 0).length = 64 := chachaL_len _ _ _
  have ec : cpB (chachaL key n 0) 32 = (chachaL key n 0).take 32 := cpB_all lc
  have lk : ((chachaL key n 0).take 32).length = 32 := by rw [List.length_take, lc]; rfl
  have bk : Bys ((chachaL key n 0).take 32) := (chachaL_bys key n 0).take 32
  have et : sumL ((chachaL key n 0).take 32) (b ++ padL b.length ++ (m ++ padL m.length) ++ lenL b.length ++ lenL m.length) = tagR key n m b := rfl
  rw [sumL_eq lk bk bT] at et
  have lt : (tagR key n m b).length = 16 := (sumL_bys _ _).2
  simp only [eb, em, bstr_size, Int.toNat_natCast, bstr_add, eT, eblk]
  clear eb em eblk
  generalize b ++ padL b.length ++ (m ++ padL m.length) ++ lenL b.length ++ lenL m.length = T at *
  and_intros
  all_goals try exact True.intro
  all_goals try with_reducible assumption
  all_goals try with_reducible rfl
  · refine ⟨⟨0, Nat.zero_le _⟩, ?_⟩
    and_intros <;> first | exact True.intro | with_reducible rfl | kernel_rfl
  rintro ⟨i, hi⟩
  dsimp only
  by_cases hg : (i : Int) < 32
  · rw [decide_eq_true hg, cond_true]
    have w1 : IntKind.wrap .i64 ((i : Int) + 1) = ((i + 1 : Nat) : Int) := by rw [IntKind.wrap_i64]; omega
    simp only [w1]
    and_intros
    all_goals try exact True.intro
    all_goals try omega
    refine ⟨⟨i + 1, by omega⟩, ?_⟩
    and_intros <;> first | exact True.intro | with_reducible rfl | (show 32 - (i + 1) < 32 - i; omega) | rfl
  rw [decide_eq_false hg, cond_false]
  have ei : i = 32 := by omega
  subst ei
  simp only [ec, et, List.length_append, lp, ll]
  and_intros
  all_goals try exact True.intro
  all_goals try with_reducible assumption
  all_goals try omega
  all_goals try with_reducible rfl
  · refine ⟨⟨0, Nat.zero_le _⟩, ?_⟩
    and_intros <;> first | exact True.intro | with_reducible rfl | kernel_rfl
  rintro ⟨i, hi⟩
  dsimp only
  by_cases hg2 : (i : Int) < 16
  · rw [decide_eq_true hg2, cond_true]
    have w1 : IntKind.wrap .i64 ((i : Int) + 1) = ((i + 1 : Nat) : Int) := by rw [IntKind.wrap_i64]; omega
    have e : (tagR key n m b).take i ++ [(tagR key n m b).getD i 0] = (tagR key n m b).take (i + 1) := (take_next (by omega)).symm
    simp only [w1, e, List.length_take, List.length_singleton]
    and_intros
    all_goals try exact True.intro
    all_goals try omega
    refine ⟨⟨i + 1, by omega⟩, ?_⟩
    and_intros <;> first | exact True.intro | with_reducible rfl | (show 16 - (i + 1) < 16 - i; omega) | rfl
  · rw [decide_eq_false hg2, cond_false]
    have ei : i = 16 := by omega
    subst ei
    rw [List.take_of_length_le (l := tagR key n m b) (by omega)]
    and_intros <;> first | exact True.intro | with_reducible rfl | rfl
set_option maxHeartbeats 8000000 in
theorem cSTag_ok : SpecOK Try.prog cSTag := by
  refine callG_ok (c := Try.f39.body.getD .skip) mixed Try.func39 (by kernel_rfl) rfl (fun x hob => ?_)
  obtain ⟨key, n, m, b⟩ := x
  have hob : (key.length = 32) ∧ (n.length = 12) ∧ (Bys key) ∧ (Bys n) ∧ (Bys m) ∧ (Bys b) ∧ (m.length ≤ 16777216) ∧ (b.length ≤ 16777216) := hob
  obtain ⟨h1, h2, h3, h4, h5, h6, h7, h8⟩ := hob
  exact ⟨FSTag key n m b, rfl, evOKs ⟨.inl ⟨cSBlock_ok, by kernel_rfl, gl_nil rfl⟩, ⟨.inl ⟨cSFill_ok, by kernel_rfl, gl_nil rfl⟩, ⟨.inl ⟨cSCount_ok, by kernel_rfl, gl_nil rfl⟩, ⟨.inl ⟨cSSum_ok, by kernel_rfl, gl_nil rfl⟩, trivial⟩⟩⟩⟩, rfl, rfl, by with_reducible exact wpSTag key n m b h1 h2 h3 h4 h5 h6 h7 h8⟩

theorem bstr_extract (l : List Int) (i j : Nat) : (bstr l).extract i j = bstr ((l.take j).drop i) := by
  apply ByteArray.ext
  rw [ByteArray.data_extract]
  unfold bstr
  rw [List.extract_toArray]
  simp [List.extract, List.map_take, List.map_drop, List.drop_take]
def fcSS (d : Nat) : Option Bool := bif Nat.beq d 14 || Nat.beq d 18 then some false else none
def kSSeal : (List Int) × (List Int) × (List Int) × (List Int) → ClN := fun (key, n, t, b) => ⟨[.o (.g [.many 32 (.i .u8 key)]), .o (.g [.many 12 (.i .u8 n)]), vv (.string (bstr t)), vv (.string (bstr b))], [], .t [.c (.v (.string (bstr (mixA key n 1 t ++ tagR key n (mixA key n 1 t) b)))), .c (.v (.int .i64 0))], [], [], [key.length = 32, n.length = 12, Bys key, Bys n, Bys t, Bys b, t.length ≤ 1048576, b.length ≤ 1048576]⟩
noncomputable def FSSeal : FnE := ⟨mkEv Try.prog [] [cSMix, cSTag] 0 fcSS, [0, 1, 2, 3, 4, 5, 8, 9, 10, 11, 19, 28], fun _ _ => .rounds 0⟩
def mSSeal : List AV → (Nat → Option MB) → Option (List Nat × ((List Int) × (List Int) × (List Int) × (List Int)))
  | [.o (.g [.many 32 (.i .u8 key)]), .o (.g [.many 12 (.i .u8 n)]), .o (.c (.v (.string s))), .o (.c (.v (.string t)))], _ => some ([], key, n, strL s, strL t)
  | _, _ => none
noncomputable def cSSeal : Spec := callG 20 Try.f20.ntmps mSSeal kSSeal
theorem vcSSeal (key n t b : List Int) : (wpE FSSeal (Try.f20.body.getD .skip) ⟨Try.f20.ntmps, slotsOf 0 (kSSeal (key, n, t, b)).avs, (kSSeal (key, n, t, b)).mem⟩ (finK Try.prog Try.f20.results.toList (postN (kSSeal (key, n, t, b))))) = (let x1 := bstr (mixA key n (1 : Int) (strL (bstr t))); let x2 := strL x1; let x3 := bstr (tagR key n x2 (strL (bstr b))); decide ((1048576 : Int) < (↑(ByteArray.size (bstr t)) : Int)) = false ∧ decide ((1048576 : Int) < (↑(ByteArray.size (bstr b)) : Int)) = false ∧ true = true ∧ (32 : Nat) = (32 : Nat) ∧ key = key ∧ (12 : Nat) = (12 : Nat) ∧ n = n ∧ Value.int IntKind.u64 (1 : Int) = Value.int IntKind.u64 (1 : Int) ∧ Value.string (bstr t) = Value.string (bstr (strL (bstr t))) ∧ List.length (strL (bstr t)) ≤ (16777216 : Nat) ∧ List.length key = (32 : Nat) ∧ List.length n = (12 : Nat) ∧ Bys key ∧ Bys n ∧ Bys (strL (bstr t)) ∧ true = true ∧ (32 : Nat) = (32 : Nat) ∧ key = key ∧ (12 : Nat) = (12 : Nat) ∧ n = n ∧ Value.string x1 = Value.string (bstr x2) ∧ Value.string (bstr b) = Value.string (bstr (strL (bstr b))) ∧ List.length key = (32 : Nat) ∧ List.length n = (12 : Nat) ∧ Bys key ∧ Bys n ∧ Bys x2 ∧ Bys (strL (bstr b)) ∧ List.length x2 ≤ (16777216 : Nat) ∧ List.length (strL (bstr b)) ≤ (16777216 : Nat) ∧ ByteArray.size x1 + ByteArray.size x3 ≤ (9223372036854775807 : Nat) ∧ true = true ∧ true = true ∧ (37 : Nat) = (37 : Nat) ∧ Value.string (strAdd x1 x3) = Value.string (bstr (mixA key n (1 : Int) t ++ tagR key n (mixA key n (1 : Int) t) b)) ∧ Value.int IntKind.i64 (0 : Int) = Value.int IntKind.i64 (0 : Int)) := by kernel_rfl

set_option maxHeartbeats 8000000 in
theorem wpSSeal (key n t b : List Int) (h1 : key.length = 32) (h2 : n.length = 12) (h3 : Bys key) (h4 : Bys n) (h5 : Bys t) (h6 : Bys b) (h7 : t.length ≤ 1048576) (h8 : b.length ≤ 1048576) : wpE FSSeal (Try.f20.body.getD .skip) ⟨Try.f20.ntmps, slotsOf 0 (kSSeal (key, n, t, b)).avs, (kSSeal (key, n, t, b)).mem⟩ (finK Try.prog Try.f20.results.toList (postN (kSSeal (key, n, t, b)))) := by
  with_reducible refine Eq.mpr (vcSSeal key n t b) ?_
  have et := strL_bstr h5
  have eb := strL_bstr h6
  have bm : Bys (mixA key n 1 t) := mixA_bys
  have em := strL_bstr bm
  have lm := mixA_len key n 1 t
  have lt : (tagR key n (mixA key n 1 t) b).length = 16 := (sumL_bys _ _).2
  have d1 : decide ((1048576 : Int) < (t.length : Int)) = false := decide_eq_false (by omega)
  have d2 : decide ((1048576 : Int) < (b.length : Int)) = false := decide_eq_false (by omega)
  simp only [et, eb, em, bstr_size, bstr_add, lm, lt]
  and_intros
  all_goals try exact True.intro
  all_goals try with_reducible assumption
  all_goals try omega
  all_goals try with_reducible rfl
set_option maxHeartbeats 8000000 in
theorem cSSeal_ok : SpecOK Try.prog cSSeal := by
  refine callG_ok (c := Try.f20.body.getD .skip) mixed Try.func20 (by kernel_rfl) rfl (fun x hob => ?_)
  obtain ⟨key, n, t, b⟩ := x
  have hob : (key.length = 32) ∧ (n.length = 12) ∧ (Bys key) ∧ (Bys n) ∧ (Bys t) ∧ (Bys b) ∧ (t.length ≤ 1048576) ∧ (b.length ≤ 1048576) := hob
  obtain ⟨h1, h2, h3, h4, h5, h6, h7, h8⟩ := hob
  exact ⟨FSSeal, rfl, evOKs ⟨.inl ⟨cSMix_ok, by kernel_rfl, gl_nil rfl⟩, ⟨.inl ⟨cSTag_ok, by kernel_rfl, gl_nil rfl⟩, trivial⟩⟩, rfl, rfl, by with_reducible exact wpSSeal key n t b h1 h2 h3 h4 h5 h6 h7 h8⟩
def fcSO (d : Nat) : Option Bool := bif Nat.beq d 15 || Nat.beq d 19 || Nat.beq d 22 || Nat.beq d 33 then some false else none
def kSOpen : (List Int) × (List Int) × (List Int) × (List Int) → ClN := fun (key, n, s, b) => ⟨[.o (.g [.many 32 (.i .u8 key)]), .o (.g [.many 12 (.i .u8 n)]), vv (.string (bstr s)), vv (.string (bstr b))], [], .t [.c (.v (.string (bstr (mixA key n 1 (s.take (s.length - 16)))))), .c (.v (.int .i64 0))], [], [], [key.length = 32, n.length = 12, Bys key, Bys n, Bys s, Bys b, s.length ≤ 1048592, b.length ≤ 1048576, 16 ≤ s.length, tagR key n (s.take (s.length - 16)) b = s.drop (s.length - 16)]⟩
noncomputable def FSOpen : FnE := ⟨mkEv Try.prog [] [cSMix, cSTag] 0 fcSO, [0, 1, 2, 3, 4, 5, 8, 9, 10, 20, 22, 33], fun _ _ => .rounds 0⟩
def mSOpen : List AV → (Nat → Option MB) → Option (List Nat × ((List Int) × (List Int) × (List Int) × (List Int)))
  | [.o (.g [.many 32 (.i .u8 key)]), .o (.g [.many 12 (.i .u8 n)]), .o (.c (.v (.string s))), .o (.c (.v (.string t)))], _ => some ([], key, n, strL s, strL t)
  | _, _ => none
noncomputable def cSOpen : Spec := callG 22 Try.f22.ntmps mSOpen kSOpen
theorem vcSOpen (key n s b : List Int) : (wpE FSOpen (Try.f22.body.getD .skip) ⟨Try.f22.ntmps, slotsOf 0 (kSOpen (key, n, s, b)).avs, (kSOpen (key, n, s, b)).mem⟩ (finK Try.prog Try.f22.results.toList (postN (kSOpen (key, n, s, b))))) = (let x1 := IntKind.wrap IntKind.i64 ((↑(ByteArray.size (bstr s)) : Int) - (16 : Int)); let x2 := ByteArray.extract (bstr s) (0 : Nat) (Int.toNat x1); let x3 := strL x2; decide ((1048576 : Int) < x1) = false ∧ decide ((1048576 : Int) < (↑(ByteArray.size (bstr b)) : Int)) = false ∧ decide (x1 < (0 : Int)) = false ∧ (0 : Int) ≤ x1 ∧ Int.toNat x1 ≤ ByteArray.size (bstr s) ∧ true = true ∧ (32 : Nat) = (32 : Nat) ∧ key = key ∧ (12 : Nat) = (12 : Nat) ∧ n = n ∧ Value.string x2 = Value.string (bstr x3) ∧ Value.string (bstr b) = Value.string (bstr (strL (bstr b))) ∧ List.length key = (32 : Nat) ∧ List.length n = (12 : Nat) ∧ Bys key ∧ Bys n ∧ Bys x3 ∧ Bys (strL (bstr b)) ∧ List.length x3 ≤ (16777216 : Nat) ∧ List.length (strL (bstr b)) ≤ (16777216 : Nat) ∧ (0 : Int) ≤ x1 ∧ Int.toNat x1 ≤ ByteArray.size (bstr s) ∧ (!strEq (bstr (tagR key n x3 (strL (bstr b)))) (ByteArray.extract (bstr s) (Int.toNat x1) (ByteArray.size (bstr s)))) = false ∧ (0 : Int) ≤ x1 ∧ Int.toNat x1 ≤ ByteArray.size (bstr s) ∧ true = true ∧ (32 : Nat) = (32 : Nat) ∧ key = key ∧ (12 : Nat) = (12 : Nat) ∧ n = n ∧ Value.int IntKind.u64 (1 : Int) = Value.int IntKind.u64 (1 : Int) ∧ Value.string x2 = Value.string (bstr x3) ∧ List.length x3 ≤ (16777216 : Nat) ∧ List.length key = (32 : Nat) ∧ List.length n = (12 : Nat) ∧ Bys key ∧ Bys n ∧ Bys x3 ∧ true = true ∧ true = true ∧ (42 : Nat) = (42 : Nat) ∧ Value.string (bstr (mixA key n (1 : Int) x3)) = Value.string (bstr (mixA key n (1 : Int) (List.take (List.length s - (16 : Nat)) s))) ∧ Value.int IntKind.i64 (0 : Int) = Value.int IntKind.i64 (0 : Int)) := by kernel_rfl

set_option maxHeartbeats 8000000 in
theorem wpSOpen (key n s b : List Int) (h1 : key.length = 32) (h2 : n.length = 12) (h3 : Bys key) (h4 : Bys n) (h5 : Bys s) (h6 : Bys b) (h7 : s.length ≤ 1048592) (h8 : b.length ≤ 1048576) (h9 : 16 ≤ s.length) (h10 : tagR key n (s.take (s.length - 16)) b = s.drop (s.length - 16)) : wpE FSOpen (Try.f22.body.getD .skip) ⟨Try.f22.ntmps, slotsOf 0 (kSOpen (key, n, s, b)).avs, (kSOpen (key, n, s, b)).mem⟩ (finK Try.prog Try.f22.results.toList (postN (kSOpen (key, n, s, b)))) := by
  with_reducible refine Eq.mpr (vcSOpen key n s b) ?_
  have eb := strL_bstr h6
  have w : IntKind.wrap .i64 ((s.length : Int) - 16) = ((s.length - 16 : Nat) : Int) := by rw [IntKind.wrap_i64]; omega
  have b1 : Bys (s.take (s.length - 16)) := h5.take _
  have e1 := strL_bstr b1
  have l1 : (s.take (s.length - 16)).length = s.length - 16 := by rw [List.length_take]; omega
  have x1 : (bstr s).extract 0 (s.length - 16) = bstr (s.take (s.length - 16)) := by rw [bstr_extract, List.drop_zero]
  have x2 : (bstr s).extract (s.length - 16) s.length = bstr (s.drop (s.length - 16)) := by rw [bstr_extract, List.take_of_length_le (Nat.le_refl _)]
  have d1 : decide ((1048576 : Int) < ((s.length - 16 : Nat) : Int)) = false := decide_eq_false (by omega)
  have d2 : decide ((1048576 : Int) < (b.length : Int)) = false := decide_eq_false (by omega)
  have d3 : decide (((s.length - 16 : Nat) : Int) < 0) = false := decide_eq_false (by omega)
  have d4 : (!strEq (bstr (tagR key n (s.take (s.length - 16)) b)) (bstr (s.drop (s.length - 16)))) = false := by rw [h10, strEq_refl]; rfl
  simp only [bstr_size, w, Int.toNat_natCast, x1, x2, e1, eb, l1]
  and_intros
  all_goals try exact True.intro
  all_goals try with_reducible assumption
  all_goals try omega
  all_goals try with_reducible rfl
set_option maxHeartbeats 8000000 in
theorem cSOpen_ok : SpecOK Try.prog cSOpen := by
  refine callG_ok (c := Try.f22.body.getD .skip) mixed Try.func22 (by kernel_rfl) rfl (fun x hob => ?_)
  obtain ⟨key, n, s, b⟩ := x
  have hob : (key.length = 32) ∧ (n.length = 12) ∧ (Bys key) ∧ (Bys n) ∧ (Bys s) ∧ (Bys b) ∧ (s.length ≤ 1048592) ∧ (b.length ≤ 1048576) ∧ (16 ≤ s.length) ∧ (tagR key n (s.take (s.length - 16)) b = s.drop (s.length - 16)) := hob
  obtain ⟨h1, h2, h3, h4, h5, h6, h7, h8, h9, h10⟩ := hob
  exact ⟨FSOpen, rfl, evOKs ⟨.inl ⟨cSMix_ok, by kernel_rfl, gl_nil rfl⟩, ⟨.inl ⟨cSTag_ok, by kernel_rfl, gl_nil rfl⟩, trivial⟩⟩, rfl, rfl, by with_reducible exact wpSOpen key n s b h1 h2 h3 h4 h5 h6 h7 h8 h9 h10⟩
theorem strEq_bstr {a b : List Int} (ha : Bys a) (hb : Bys b) (h : a ≠ b) : strEq (bstr a) (bstr b) = false := by
  cases e : strEq (bstr a) (bstr b) with
  | false => rfl
  | true =>
    exfalso
    apply h
    have h2 : bstr a = bstr b := by
      unfold strEq at e
      have e' := eq_of_beq e
      rw [ByteArray.toList_eq, ByteArray.toList_eq] at e'
      exact ByteArray.ext (Array.ext' e')
    rw [← strL_bstr ha, ← strL_bstr hb, h2]
def fcST (d : Nat) : Option Bool := bif Nat.beq d 15 || Nat.beq d 19 || Nat.beq d 22 then some false else bif Nat.beq d 33 then some true else none
def kSOpenT : (List Int) × (List Int) × (List Int) × (List Int) → ClN := fun (key, n, s, b) => ⟨[.o (.g [.many 32 (.i .u8 key)]), .o (.g [.many 12 (.i .u8 n)]), vv (.string (bstr s)), vv (.string (bstr b))], [], .t [.c (.v (.string (bstr []))), .c (.v (.int .i64 100))], [], [], [key.length = 32, n.length = 12, Bys key, Bys n, Bys s, Bys b, s.length ≤ 1048592, b.length ≤ 1048576, 16 ≤ s.length, tagR key n (s.take (s.length - 16)) b ≠ s.drop (s.length - 16)]⟩
noncomputable def FSOpenT : FnE := ⟨mkEv Try.prog [] [cSMix, cSTag] 0 fcST, [0, 1, 2, 3, 4, 5, 8, 9, 10, 20, 22, 33], fun _ _ => .rounds 0⟩
def mSOpenT : List AV → (Nat → Option MB) → Option (List Nat × ((List Int) × (List Int) × (List Int) × (List Int)))
  | [.o (.g [.many 32 (.i .u8 key)]), .o (.g [.many 12 (.i .u8 n)]), .o (.c (.v (.string s))), .o (.c (.v (.string t)))], _ => some ([], key, n, strL s, strL t)
  | _, _ => none
noncomputable def cSOpenT : Spec := callG 22 Try.f22.ntmps mSOpenT kSOpenT
theorem vcSOpenT (key n s b : List Int) : (wpE FSOpenT (Try.f22.body.getD .skip) ⟨Try.f22.ntmps, slotsOf 0 (kSOpenT (key, n, s, b)).avs, (kSOpenT (key, n, s, b)).mem⟩ (finK Try.prog Try.f22.results.toList (postN (kSOpenT (key, n, s, b))))) = (let x1 := IntKind.wrap IntKind.i64 ((↑(ByteArray.size (bstr s)) : Int) - (16 : Int)); let x2 := ByteArray.extract (bstr s) (0 : Nat) (Int.toNat x1); let x3 := strL x2; decide ((1048576 : Int) < x1) = false ∧ decide ((1048576 : Int) < (↑(ByteArray.size (bstr b)) : Int)) = false ∧ decide (x1 < (0 : Int)) = false ∧ (0 : Int) ≤ x1 ∧ Int.toNat x1 ≤ ByteArray.size (bstr s) ∧ true = true ∧ (32 : Nat) = (32 : Nat) ∧ key = key ∧ (12 : Nat) = (12 : Nat) ∧ n = n ∧ Value.string x2 = Value.string (bstr x3) ∧ Value.string (bstr b) = Value.string (bstr (strL (bstr b))) ∧ List.length key = (32 : Nat) ∧ List.length n = (12 : Nat) ∧ Bys key ∧ Bys n ∧ Bys x3 ∧ Bys (strL (bstr b)) ∧ List.length x3 ≤ (16777216 : Nat) ∧ List.length (strL (bstr b)) ≤ (16777216 : Nat) ∧ (0 : Int) ≤ x1 ∧ Int.toNat x1 ≤ ByteArray.size (bstr s) ∧ (!strEq (bstr (tagR key n x3 (strL (bstr b)))) (ByteArray.extract (bstr s) (Int.toNat x1) (ByteArray.size (bstr s)))) = true ∧ true = true ∧ true = true ∧ (42 : Nat) = (42 : Nat) ∧ Value.string { data := #[] } = Value.string (bstr []) ∧ Value.int IntKind.i64 (100 : Int) = Value.int IntKind.i64 (100 : Int)) := by kernel_rfl

set_option maxHeartbeats 8000000 in
theorem wpSOpenT (key n s b : List Int) (h1 : key.length = 32) (h2 : n.length = 12) (h3 : Bys key) (h4 : Bys n) (h5 : Bys s) (h6 : Bys b) (h7 : s.length ≤ 1048592) (h8 : b.length ≤ 1048576) (h9 : 16 ≤ s.length) (h10 : tagR key n (s.take (s.length - 16)) b ≠ s.drop (s.length - 16)) : wpE FSOpenT (Try.f22.body.getD .skip) ⟨Try.f22.ntmps, slotsOf 0 (kSOpenT (key, n, s, b)).avs, (kSOpenT (key, n, s, b)).mem⟩ (finK Try.prog Try.f22.results.toList (postN (kSOpenT (key, n, s, b)))) := by
  with_reducible refine Eq.mpr (vcSOpenT key n s b) ?_
  have eb := strL_bstr h6
  have w : IntKind.wrap .i64 ((s.length : Int) - 16) = ((s.length - 16 : Nat) : Int) := by rw [IntKind.wrap_i64]; omega
  have b1 : Bys (s.take (s.length - 16)) := h5.take _
  have e1 := strL_bstr b1
  have l1 : (s.take (s.length - 16)).length = s.length - 16 := by rw [List.length_take]; omega
  have x1 : (bstr s).extract 0 (s.length - 16) = bstr (s.take (s.length - 16)) := by rw [bstr_extract, List.drop_zero]
  have x2 : (bstr s).extract (s.length - 16) s.length = bstr (s.drop (s.length - 16)) := by rw [bstr_extract, List.take_of_length_le (Nat.le_refl _)]
  have d1 : decide ((1048576 : Int) < ((s.length - 16 : Nat) : Int)) = false := decide_eq_false (by omega)
  have d2 : decide ((1048576 : Int) < (b.length : Int)) = false := decide_eq_false (by omega)
  have d3 : decide (((s.length - 16 : Nat) : Int) < 0) = false := decide_eq_false (by omega)
  have bT : Bys (tagR key n (s.take (s.length - 16)) b) := (sumL_bys _ _).1
  have d4 : (!strEq (bstr (tagR key n (s.take (s.length - 16)) b)) (bstr (s.drop (s.length - 16)))) = true := by rw [strEq_bstr bT (h5.drop _) h10]; rfl
  simp only [bstr_size, w, Int.toNat_natCast, x1, x2, e1, eb, l1]
  and_intros
  all_goals try exact True.intro
  all_goals try with_reducible assumption
  all_goals try omega
  all_goals try with_reducible rfl
  all_goals kernel_rfl
set_option maxHeartbeats 8000000 in
theorem cSOpenT_ok : SpecOK Try.prog cSOpenT := by
  refine callG_ok (c := Try.f22.body.getD .skip) mixed Try.func22 (by kernel_rfl) rfl (fun x hob => ?_)
  obtain ⟨key, n, s, b⟩ := x
  have hob : (key.length = 32) ∧ (n.length = 12) ∧ (Bys key) ∧ (Bys n) ∧ (Bys s) ∧ (Bys b) ∧ (s.length ≤ 1048592) ∧ (b.length ≤ 1048576) ∧ (16 ≤ s.length) ∧ (tagR key n (s.take (s.length - 16)) b ≠ s.drop (s.length - 16)) := hob
  obtain ⟨h1, h2, h3, h4, h5, h6, h7, h8, h9, h10⟩ := hob
  exact ⟨FSOpenT, rfl, evOKs ⟨.inl ⟨cSMix_ok, by kernel_rfl, gl_nil rfl⟩, ⟨.inl ⟨cSTag_ok, by kernel_rfl, gl_nil rfl⟩, trivial⟩⟩, rfl, rfl, by with_reducible exact wpSOpenT key n s b h1 h2 h3 h4 h5 h6 h7 h8 h9 h10⟩
def fcSP (d : Nat) : Option Bool := bif Nat.beq d 15 || Nat.beq d 19 then some false else bif Nat.beq d 22 then some true else none
def kSOpenS : (List Int) × (List Int) × (List Int) × (List Int) → ClN := fun (key, n, s, b) => ⟨[.o (.g [.many 32 (.i .u8 key)]), .o (.g [.many 12 (.i .u8 n)]), vv (.string (bstr s)), vv (.string (bstr b))], [], .t [.c (.v (.string (bstr []))), .c (.v (.int .i64 111))], [], [], [b.length ≤ 1048576, s.length < 16]⟩
noncomputable def FSOpenS : FnE := ⟨mkEv Try.prog [] [cSMix, cSTag] 0 fcSP, [0, 1, 2, 3, 4, 5, 8, 9, 10, 20, 22, 33], fun _ _ => .rounds 0⟩
def mSOpenS : List AV → (Nat → Option MB) → Option (List Nat × ((List Int) × (List Int) × (List Int) × (List Int)))
  | [.o (.g [.many 32 (.i .u8 key)]), .o (.g [.many 12 (.i .u8 n)]), .o (.c (.v (.string s))), .o (.c (.v (.string t)))], _ => some ([], key, n, strL s, strL t)
  | _, _ => none
noncomputable def cSOpenS : Spec := callG 22 Try.f22.ntmps mSOpenS kSOpenS
theorem vcSOpenS (key n s b : List Int) : (wpE FSOpenS (Try.f22.body.getD .skip) ⟨Try.f22.ntmps, slotsOf 0 (kSOpenS (key, n, s, b)).avs, (kSOpenS (key, n, s, b)).mem⟩ (finK Try.prog Try.f22.results.toList (postN (kSOpenS (key, n, s, b))))) = (let x1 := IntKind.wrap IntKind.i64 ((↑(ByteArray.size (bstr s)) : Int) - (16 : Int)); decide ((1048576 : Int) < x1) = false ∧ decide ((1048576 : Int) < (↑(ByteArray.size (bstr b)) : Int)) = false ∧ decide (x1 < (0 : Int)) = true ∧ true = true ∧ true = true ∧ (42 : Nat) = (42 : Nat) ∧ Value.string { data := #[] } = Value.string (bstr []) ∧ Value.int IntKind.i64 (111 : Int) = Value.int IntKind.i64 (111 : Int)) := by kernel_rfl

set_option maxHeartbeats 8000000 in
theorem wpSOpenS (key n s b : List Int) (h1 : b.length ≤ 1048576) (h2 : s.length < 16) : wpE FSOpenS (Try.f22.body.getD .skip) ⟨Try.f22.ntmps, slotsOf 0 (kSOpenS (key, n, s, b)).avs, (kSOpenS (key, n, s, b)).mem⟩ (finK Try.prog Try.f22.results.toList (postN (kSOpenS (key, n, s, b)))) := by
  with_reducible refine Eq.mpr (vcSOpenS key n s b) ?_
  have w : IntKind.wrap .i64 ((s.length : Int) - 16) = (s.length : Int) - 16 := by rw [IntKind.wrap_i64]; omega
  have d1 : decide ((1048576 : Int) < ((s.length : Int) - 16)) = false := decide_eq_false (by omega)
  have d2 : decide ((1048576 : Int) < (b.length : Int)) = false := decide_eq_false (by omega)
  have d3 : decide (((s.length : Int) - 16) < 0) = true := decide_eq_true (by omega)
  simp only [bstr_size, w]
  and_intros
  all_goals try exact True.intro
  all_goals try with_reducible assumption
  all_goals try omega
  all_goals try with_reducible rfl
  all_goals kernel_rfl
set_option maxHeartbeats 8000000 in
theorem cSOpenS_ok : SpecOK Try.prog cSOpenS := by
  refine callG_ok (c := Try.f22.body.getD .skip) mixed Try.func22 (by kernel_rfl) rfl (fun x hob => ?_)
  obtain ⟨key, n, s, b⟩ := x
  have hob : (b.length ≤ 1048576) ∧ (s.length < 16) := hob
  obtain ⟨h1, h2⟩ := hob
  exact ⟨FSOpenS, rfl, evOKs ⟨.inl ⟨cSMix_ok, by kernel_rfl, gl_nil rfl⟩, ⟨.inl ⟨cSTag_ok, by kernel_rfl, gl_nil rfl⟩, trivial⟩⟩, rfl, rfl, by with_reducible exact wpSOpenS key n s b h1 h2⟩
end Go.Proofs.Ythlleheeghiljaa
