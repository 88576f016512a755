/-
  The reference of layer 8 (chacha): a text mixed.
-/
import Derived.Test.YthlleheeghiljaaS8b
namespace Go.Proofs.Ythlleheeghiljaa
open Go.RowKit
set_option maxRecDepth 100000

/-- The number of the block at a byte, as the reference has it. -/
def numM (x : Int) (a : Nat) : Int := Int.tmod (IntKind.wrap .u64 (x + IntKind.wrap .u64 (IntKind.wrap .i64 (Int.tdiv (a : Int) 64)))) 4294967296
theorem numM_eq (x : Int) {a : Nat} (ha : a ≤ 281474976710656) : numM x a = IntKind.wrap .u32 (x + IntKind.wrap .u32 ((a / 64 : Nat) : Int)) ∧ V32 (numM x a) := by
  have e : Int.tdiv (a : Int) 64 = ((a / 64 : Nat) : Int) := (Int.ofNat_tdiv a 64).symm
  unfold V32
  unfold numM
  have w : IntKind.wrap .i64 ((a / 64 : Nat) : Int) = ((a / 64 : Nat) : Int) := by rw [IntKind.wrap_i64]; omega
  rw [e, w, Int.tmod_eq_emod_of_nonneg (by rw [wU64]; exact Int.emod_nonneg _ (by omega))]
  simp only [wU64, wrapU32]
  omega
theorem mix_step {key n : List Int} {x : Int} {t : List Int} {a : Nat} (ha : a % 64 = 0) (hk : key.length = 32) (hn : n.length = 12) (bk : Bys key) (bn : Bys n) (h : a < t.length) (ht : t.length ≤ 16777216) :
    mixL key n x t t.length ((a + 64) / 64) = covL (mixL key n x t t.length (a / 64)) a (blkR key n (numM x a)) (min (t.length - a) 64) ∧
    ∀ i, i < 64 → a + i < t.length → (covL (mixL key n x t t.length (a / 64)) a (blkR key n (numM x a)) i).getD (a + i) 0 = t.getD (a + i) 0 := by
  obtain ⟨e0, v0⟩ := numM_eq x (a := a) (by omega)
  have e1 : (a + 64) / 64 = a / 64 + 1 := by omega
  have e2 : 64 * (a / 64) = a := by omega
  constructor
  · rw [e1, mixL, e2, blkR_eq hk hn bk bn v0, e0]
  · intro i hi hl
    rw [covL_at _ _ _ _ _ (by rw [mixL_len]; omega), if_neg (by omega), mixL_at key n x t _ rfl _ hl _ (by omega), if_neg (by omega)]
noncomputable def stMA (key n : List Int) (x : Int) (t : List Int) (a : Nat) : St := ⟨Try.f14.ntmps, [(2, vv (.int .u64 x)), (3, vv (.string (bstr t))), (4, .o (.c (.ptr 0 0 none))), (5, .o (.c (.ptr 1 0 none))), (10, .o (.c (.os 2 1 t.length))), (11, vv (.int .i64 (a : Int)))], [.fix 23 [.many 32 (.i .u8 key)], .fix 24 [.many 12 (.i .u8 n)], .grow 5 1 (.i .u8 (mixL key n x t t.length (a / 64)))]⟩
noncomputable def stMB (key n : List Int) (x : Int) (t : List Int) (a i : Nat) : St := ⟨Try.f14.ntmps, [(2, vv (.int .u64 x)), (3, vv (.string (bstr t))), (4, .o (.c (.ptr 0 0 none))), (5, .o (.c (.ptr 1 0 none))), (10, .o (.c (.os 2 1 t.length))), (11, vv (.int .i64 (a : Int))), (12, .o (.c (.ptr 3 0 none))), (13, vv (.int .i64 (i : Int)))], [.fix 23 [.many 32 (.i .u8 key)], .fix 24 [.many 12 (.i .u8 n)], .grow 5 1 (.i .u8 (covL (mixL key n x t t.length (a / 64)) a (blkR key n (numM x a)) i)), .fix 28 [.many 64 (.i .u8 (blkR key n (numM x a)))]]⟩
def kSMix : (List Int) × (List Int) × Int × (List Int) → ClN := fun (key, n, x, t) => ⟨[.o (.g [.many 32 (.i .u8 key)]), .o (.g [.many 12 (.i .u8 n)]), vv (.int .u64 x), vv (.string (bstr t))], [], .t [.c (.v (.string (bstr (mixA key n x t)))), .c (.v (.int .i64 0))], [], [], [t.length ≤ 16777216, key.length = 32, n.length = 12, Bys key, Bys n, Bys t]⟩
noncomputable def FSMix (key n : List Int) (x : Int) (t : List Int) : FnE := ⟨mkEv Try.prog [] [cSBlock] 0, [0, 1, 2, 3, 4, 5, 8, 9, 10, 11, 12, 13, 16, 22, 43], fun g σ => bif Nat.beq g 1000009 then .alt 36 else bif Nat.beq g 5 then .inv { a : Nat // a % 64 = 0 ∧ a ≤ t.length + 63 } (fun a => stMA key n x t a.val) (fun a => t.length + 63 - a.val) [0, 1, 2] [0, 1, 2] else
    .inv { i : Nat // i ≤ 64 ∧ iOf 11 σ + i ≤ t.length } (fun i => stMB key n x t (iOf 11 σ) i.val) (fun i => 64 - i.val) [0, 1, 2, 3] [0, 1, 2, 3]⟩
def mSMix : List AV → (Nat → Option MB) → Option (List Nat × ((List Int) × (List Int) × Int × (List Int)))
  | [.o (.g [.many 32 (.i .u8 key)]), .o (.g [.many 12 (.i .u8 n)]), .o (.c (.v (.int .u64 x))), .o (.c (.v (.string s)))], _ => some ([], key, n, x, strL s)
  | _, _ => none
noncomputable def cSMix : Spec := callG 14 Try.f14.ntmps mSMix kSMix
theorem vcSMix (key n : List Int) (x : Int) (t : List Int) : (wpE (FSMix key n x t) (Try.f14.body.getD .skip) ⟨Try.f14.ntmps, slotsOf 0 (kSMix (key, n, x, t)).avs, (kSMix (key, n, x, t)).mem⟩ (finK Try.prog Try.f14.results.toList (postN (kSMix (key, n, x, t))))) = (bif decide ((16777216 : Int) < (↑(ByteArray.size (bstr t)) : Int)) then true = true ∧ true = true ∧ (62 : Nat) = (62 : Nat) ∧ Value.string { data := #[] } = Value.string (bstr (mixA key n x t)) ∧ Value.int IntKind.i64 (2 : Int) = Value.int IntKind.i64 (0 : Int) else ByteArray.size (bstr t) ≤ (140737488355328 : Nat) ∧ (∃ (x_1 : { a : Nat // a % (64 : Nat) = (0 : Nat) ∧ a ≤ List.length t + (63 : Nat) }), true = true ∧ true = true ∧ (62 : Nat) = (62 : Nat) ∧ Value.int IntKind.u64 x = Value.int IntKind.u64 x ∧ Value.string (bstr t) = Value.string (bstr t) ∧ getL [(0 : Nat), (1 : Nat), (2 : Nat)] (0 : Nat) = some (0 : Nat) ∧ (0 : Nat) = (0 : Nat) ∧ getL [(0 : Nat), (1 : Nat), (2 : Nat)] (1 : Nat) = some (Nat.add (0 : Nat) (1 : Nat)) ∧ (0 : Nat) = (0 : Nat) ∧ getL [(0 : Nat), (1 : Nat), (2 : Nat)] (2 : Nat) = some (Nat.add (2 : Nat) (0 : Nat)) ∧ (1 : Nat) = (1 : Nat) ∧ ByteArray.size (bstr t) = List.length t ∧ Value.int IntKind.i64 (0 : Int) = Value.int IntKind.i64 (↑(Subtype.val x_1) : Int) ∧ (23 : Nat) = (23 : Nat) ∧ (32 : Nat) = (32 : Nat) ∧ key = key ∧ (24 : Nat) = (24 : Nat) ∧ (12 : Nat) = (12 : Nat) ∧ n = n ∧ (5 : Nat) = (5 : Nat) ∧ (1 : Nat) = (1 : Nat) ∧ strL (bstr t) = mixL key n x t (List.length t) (Subtype.val x_1 / (64 : Nat))) ∧ ∀ (x_1 : { a : Nat // a % (64 : Nat) = (0 : Nat) ∧ a ≤ List.length t + (63 : Nat) }), bif decide ((↑(Subtype.val x_1) : Int) < (↑(ByteArray.size (bstr t)) : Int)) then (64 : Int) ≠ (0 : Int) ∧ (4294967296 : Int) ≠ (0 : Int) ∧ true = true ∧ (32 : Nat) = (32 : Nat) ∧ key = key ∧ (12 : Nat) = (12 : Nat) ∧ n = n ∧ Value.int IntKind.u64 (Int.tmod (IntKind.wrap IntKind.u64 (x + IntKind.wrap IntKind.u64 (IntKind.wrap IntKind.i64 (Int.tdiv (↑(Subtype.val x_1) : Int) (64 : Int))))) (4294967296 : Int)) = Value.int IntKind.u64 (Int.tmod (IntKind.wrap IntKind.u64 (x + IntKind.wrap IntKind.u64 (IntKind.wrap IntKind.i64 (Int.tdiv (↑(Subtype.val x_1) : Int) (64 : Int))))) (4294967296 : Int)) ∧ List.length key = (32 : Nat) ∧ List.length n = (12 : Nat) ∧ Bys key ∧ Bys n ∧ (∃ (x_2 : { i : Nat // i ≤ (64 : Nat) ∧ x_1.1 + i ≤ List.length t }), true = true ∧ true = true ∧ (62 : Nat) = (62 : Nat) ∧ Value.int IntKind.u64 x = Value.int IntKind.u64 x ∧ Value.string (bstr t) = Value.string (bstr t) ∧ getL [(0 : Nat), (1 : Nat), (2 : Nat), (3 : Nat)] (0 : Nat) = some (0 : Nat) ∧ (0 : Nat) = (0 : Nat) ∧ getL [(0 : Nat), (1 : Nat), (2 : Nat), (3 : Nat)] (1 : Nat) = some (1 : Nat) ∧ (0 : Nat) = (0 : Nat) ∧ getL [(0 : Nat), (1 : Nat), (2 : Nat), (3 : Nat)] (2 : Nat) = some (2 : Nat) ∧ (1 : Nat) = (1 : Nat) ∧ List.length t = List.length t ∧ Value.int IntKind.i64 (↑(Subtype.val x_1) : Int) = Value.int IntKind.i64 (↑x_1.1 : Int) ∧ getL [(0 : Nat), (1 : Nat), (2 : Nat), (3 : Nat)] (3 : Nat) = some (Nat.add (Nat.add (Nat.add (Nat.add (Nat.add (Nat.add (Nat.add (Nat.add (Nat.add (3 : Nat) (0 : Nat)) (0 : Nat)) (0 : Nat)) (0 : Nat)) (0 : Nat)) (0 : Nat)) (0 : Nat)) (0 : Nat)) (0 : Nat)) ∧ (0 : Nat) = (0 : Nat) ∧ Value.int IntKind.i64 (0 : Int) = Value.int IntKind.i64 (↑(Subtype.val x_2) : Int) ∧ (23 : Nat) = (23 : Nat) ∧ (32 : Nat) = (32 : Nat) ∧ key = key ∧ (24 : Nat) = (24 : Nat) ∧ (12 : Nat) = (12 : Nat) ∧ n = n ∧ (5 : Nat) = (5 : Nat) ∧ (1 : Nat) = (1 : Nat) ∧ mixL key n x t (List.length t) (Subtype.val x_1 / (64 : Nat)) = covL (mixL key n x t (List.length t) (x_1.1 / (64 : Nat))) x_1.1 (blkR key n (numM x x_1.1)) (Subtype.val x_2) ∧ (28 : Nat) = (28 : Nat) ∧ (64 : Nat) = (64 : Nat) ∧ blkR key n (Int.tmod (IntKind.wrap IntKind.u64 (x + IntKind.wrap IntKind.u64 (IntKind.wrap IntKind.i64 (Int.tdiv (↑(Subtype.val x_1) : Int) (64 : Int))))) (4294967296 : Int)) = blkR key n (numM x x_1.1)) ∧ ∀ (x_2 : { i : Nat // i ≤ (64 : Nat) ∧ x_1.1 + i ≤ List.length t }), Alt2 (decide ((↑(Subtype.val x_2) : Int) < (64 : Int)) = true ∧ bif decide (IntKind.wrap IntKind.i64 ((↑x_1.1 : Int) + (↑(Subtype.val x_2) : Int)) < (↑(ByteArray.size (bstr t)) : Int)) then (0 : Int) ≤ IntKind.wrap IntKind.i64 ((↑x_1.1 : Int) + (↑(Subtype.val x_2) : Int)) ∧ IntKind.wrap IntKind.i64 ((↑x_1.1 : Int) + (↑(Subtype.val x_2) : Int)) < (↑(ByteArray.size (bstr t)) : Int) ∧ (0 : Int) ≤ (↑(Subtype.val x_2) : Int) ∧ (↑(Subtype.val x_2) : Int) < (64 : Int) ∧ Int.toNat (↑(Subtype.val x_2) : Int) < (64 : Nat) ∧ (0 : Int) ≤ IntKind.wrap IntKind.i64 ((↑x_1.1 : Int) + (↑(Subtype.val x_2) : Int)) ∧ IntKind.wrap IntKind.i64 ((↑x_1.1 : Int) + (↑(Subtype.val x_2) : Int)) < (↑(List.length t) : Int) ∧ Int.toNat (IntKind.wrap IntKind.i64 ((↑x_1.1 : Int) + (↑(Subtype.val x_2) : Int))) < List.length (covL (mixL key n x t (List.length t) (x_1.1 / (64 : Nat))) x_1.1 (blkR key n (numM x x_1.1)) (Subtype.val x_2)) ∧ ∃ (y : { i : Nat // i ≤ (64 : Nat) ∧ x_1.1 + i ≤ List.length t }), (true = true ∧ true = true ∧ (62 : Nat) = (62 : Nat) ∧ Value.int IntKind.u64 x = Value.int IntKind.u64 x ∧ Value.string (bstr t) = Value.string (bstr t) ∧ getL [(0 : Nat), (1 : Nat), (2 : Nat), (3 : Nat)] (0 : Nat) = some (0 : Nat) ∧ (0 : Nat) = (0 : Nat) ∧ getL [(0 : Nat), (1 : Nat), (2 : Nat), (3 : Nat)] (1 : Nat) = some (1 : Nat) ∧ (0 : Nat) = (0 : Nat) ∧ getL [(0 : Nat), (1 : Nat), (2 : Nat), (3 : Nat)] (2 : Nat) = some (2 : Nat) ∧ (1 : Nat) = (1 : Nat) ∧ List.length t = List.length t ∧ Value.int IntKind.i64 (↑x_1.1 : Int) = Value.int IntKind.i64 (↑x_1.1 : Int) ∧ getL [(0 : Nat), (1 : Nat), (2 : Nat), (3 : Nat)] (3 : Nat) = some (3 : Nat) ∧ (0 : Nat) = (0 : Nat) ∧ Value.int IntKind.i64 (IntKind.wrap IntKind.i64 ((↑(Subtype.val x_2) : Int) + (1 : Int))) = Value.int IntKind.i64 (↑(Subtype.val y) : Int) ∧ (23 : Nat) = (23 : Nat) ∧ (32 : Nat) = (32 : Nat) ∧ key = key ∧ (24 : Nat) = (24 : Nat) ∧ (12 : Nat) = (12 : Nat) ∧ n = n ∧ (5 : Nat) = (5 : Nat) ∧ (1 : Nat) = (1 : Nat) ∧ List.set (covL (mixL key n x t (List.length t) (x_1.1 / (64 : Nat))) x_1.1 (blkR key n (numM x x_1.1)) (Subtype.val x_2)) (Int.toNat (IntKind.wrap IntKind.i64 ((↑x_1.1 : Int) + (↑(Subtype.val x_2) : Int)))) (bits BinOp.xor IntKind.u8 (sGet (bstr t) (Int.toNat (IntKind.wrap IntKind.i64 ((↑x_1.1 : Int) + (↑(Subtype.val x_2) : Int))))) (List.getD (blkR key n (numM x x_1.1)) (Int.toNat (↑(Subtype.val x_2) : Int)) (0 : Int))) = covL (mixL key n x t (List.length t) (x_1.1 / (64 : Nat))) x_1.1 (blkR key n (numM x x_1.1)) (Subtype.val y) ∧ (28 : Nat) = (28 : Nat) ∧ (64 : Nat) = (64 : Nat) ∧ blkR key n (numM x x_1.1) = blkR key n (numM x x_1.1)) ∧ (64 : Nat) - Subtype.val y < (64 : Nat) - Subtype.val x_2 else ∃ (y : { a : Nat // a % (64 : Nat) = (0 : Nat) ∧ a ≤ List.length t + (63 : Nat) }), (true = true ∧ true = true ∧ (62 : Nat) = (62 : Nat) ∧ Value.int IntKind.u64 x = Value.int IntKind.u64 x ∧ Value.string (bstr t) = Value.string (bstr t) ∧ getL [(0 : Nat), (1 : Nat), (2 : Nat)] (0 : Nat) = some (0 : Nat) ∧ (0 : Nat) = (0 : Nat) ∧ getL [(0 : Nat), (1 : Nat), (2 : Nat)] (1 : Nat) = some (1 : Nat) ∧ (0 : Nat) = (0 : Nat) ∧ getL [(0 : Nat), (1 : Nat), (2 : Nat)] (2 : Nat) = some (2 : Nat) ∧ (1 : Nat) = (1 : Nat) ∧ List.length t = List.length t ∧ Value.int IntKind.i64 (IntKind.wrap IntKind.i64 ((↑x_1.1 : Int) + (64 : Int))) = Value.int IntKind.i64 (↑(Subtype.val y) : Int) ∧ (23 : Nat) = (23 : Nat) ∧ (32 : Nat) = (32 : Nat) ∧ key = key ∧ (24 : Nat) = (24 : Nat) ∧ (12 : Nat) = (12 : Nat) ∧ n = n ∧ (5 : Nat) = (5 : Nat) ∧ (1 : Nat) = (1 : Nat) ∧ covL (mixL key n x t (List.length t) (x_1.1 / (64 : Nat))) x_1.1 (blkR key n (numM x x_1.1)) (Subtype.val x_2) = mixL key n x t (List.length t) (Subtype.val y / (64 : Nat))) ∧ List.length t + (63 : Nat) - Subtype.val y < List.length t + (63 : Nat) - Subtype.val x_1) (decide ((↑(Subtype.val x_2) : Int) < (64 : Int)) = false ∧ ∃ (y : { a : Nat // a % (64 : Nat) = (0 : Nat) ∧ a ≤ List.length t + (63 : Nat) }), (true = true ∧ true = true ∧ (62 : Nat) = (62 : Nat) ∧ Value.int IntKind.u64 x = Value.int IntKind.u64 x ∧ Value.string (bstr t) = Value.string (bstr t) ∧ getL [(0 : Nat), (1 : Nat), (2 : Nat)] (0 : Nat) = some (0 : Nat) ∧ (0 : Nat) = (0 : Nat) ∧ getL [(0 : Nat), (1 : Nat), (2 : Nat)] (1 : Nat) = some (1 : Nat) ∧ (0 : Nat) = (0 : Nat) ∧ getL [(0 : Nat), (1 : Nat), (2 : Nat)] (2 : Nat) = some (2 : Nat) ∧ (1 : Nat) = (1 : Nat) ∧ List.length t = List.length t ∧ Value.int IntKind.i64 (IntKind.wrap IntKind.i64 ((↑x_1.1 : Int) + (64 : Int))) = Value.int IntKind.i64 (↑(Subtype.val y) : Int) ∧ (23 : Nat) = (23 : Nat) ∧ (32 : Nat) = (32 : Nat) ∧ key = key ∧ (24 : Nat) = (24 : Nat) ∧ (12 : Nat) = (12 : Nat) ∧ n = n ∧ (5 : Nat) = (5 : Nat) ∧ (1 : Nat) = (1 : Nat) ∧ covL (mixL key n x t (List.length t) (x_1.1 / (64 : Nat))) x_1.1 (blkR key n (numM x x_1.1)) (Subtype.val x_2) = mixL key n x t (List.length t) (Subtype.val y / (64 : Nat))) ∧ List.length t + (63 : Nat) - Subtype.val y < List.length t + (63 : Nat) - Subtype.val x_1) else List.length (mixL key n x t (List.length t) (Subtype.val x_1 / (64 : Nat))) = List.length t ∧ true = true ∧ true = true ∧ (62 : Nat) = (62 : Nat) ∧ Value.string (bstr (mixL key n x t (List.length t) (Subtype.val x_1 / (64 : Nat)))) = Value.string (bstr (mixA key n x t)) ∧ Value.int IntKind.i64 (0 : Int) = Value.int IntKind.i64 (0 : Int)) := by kernel_rfl

set_option maxHeartbeats 8000000 in
theorem wpSMix (key n : List Int) (x : Int) (t : List Int) (h1 : t.length ≤ 16777216) (h2 : key.length = 32) (h3 : n.length = 12) (h4 : Bys key) (h5 : Bys n) (h6 : Bys t) : wpE (FSMix key n x t) (Try.f14.body.getD .skip) ⟨Try.f14.ntmps, slotsOf 0 (kSMix (key, n, x, t)).avs, (kSMix (key, n, x, t)).mem⟩ (finK Try.prog Try.f14.results.toList (postN (kSMix (key, n, x, t)))) := by
  with_reducible refine Eq.mpr (vcSMix key n x t) ?_
  have hs : (bstr t).size = t.length := bstr_size t
  rw [decide_eq_false (show ¬ (16777216 : Int) < ((bstr t).size : Int) by omega), cond_false]
  and_intros
  all_goals try exact True.intro
  all_goals try with_reducible rfl
  all_goals try omega
  · refine ⟨⟨0, rfl, Nat.zero_le _⟩, ?_⟩
    and_intros <;> first | exact True.intro | with_reducible rfl | with_reducible exact hs | (refine (strL_bstr h6).trans ?_; kernel_rfl) | rfl
  rintro ⟨a, ha, ha'⟩
  dsimp only
  have ml := mixL_len key n x t t.length (a / 64)
  by_cases hg : (a : Int) < ((bstr t).size : Int)
  · rw [decide_eq_true hg, cond_true]
    have hg' : a < t.length := by omega
    obtain ⟨m1, m2⟩ := mix_step (x := x) ha h2 h3 h4 h5 hg' h1
    have w64 : IntKind.wrap .i64 ((a : Int) + 64) = ((a + 64 : Nat) : Int) := by rw [IntKind.wrap_i64]; omega
    and_intros
    all_goals try exact True.intro
    all_goals try with_reducible rfl
    all_goals try with_reducible assumption
    all_goals try omega
    · refine ⟨⟨0, Nat.zero_le _, by show a + 0 ≤ t.length; omega⟩, ?_⟩
      and_intros <;> first | exact True.intro | with_reducible rfl | rfl
    rintro ⟨i, hi, hia⟩
    dsimp only at hia ⊢
    have hia : a + i ≤ t.length := hia
    have wa : IntKind.wrap .i64 ((a : Int) + (i : Int)) = ((a + i : Nat) : Int) := by rw [IntKind.wrap_i64]; omega
    have w1 : IntKind.wrap .i64 ((i : Int) + 1) = ((i + 1 : Nat) : Int) := by rw [IntKind.wrap_i64]; omega
    have cl := covL_len (mixL key n x t t.length (a / 64)) a (blkR key n (numM x a)) i
    simp only [wa, w1, w64, Int.toNat_natCast, hs, cl, ml]
    by_cases hl : i < 64
    · refine .l ?_
      by_cases hb : ((a + i : Nat) : Int) < (t.length : Int)
      · rw [decide_eq_true hb, cond_true]
        have hb' : a + i < t.length := by omega
        have g2 := m2 i hl hb'
        have g1 : sGet (bstr t) (a + i) = t.getD (a + i) 0 := sGet_bstr h6 hb'
        and_intros
        all_goals try exact True.intro
        all_goals try with_reducible rfl
        all_goals try with_reducible exact decide_eq_true (show (i : Int) < 64 by omega)
        all_goals try omega
        refine ⟨⟨i + 1, by omega, by show a + (i + 1) ≤ t.length; omega⟩, ?_⟩
        and_intros <;> first | exact True.intro | with_reducible rfl | (show 64 - (i + 1) < 64 - i; omega) | (show _ = covL _ _ _ (i + 1); rw [covL, g2, g1]) | rfl
      · rw [decide_eq_false hb, cond_false]
        refine ⟨decide_eq_true (show (i : Int) < 64 by omega), ⟨a + 64, by omega, by omega⟩, ?_⟩
        have em : min (t.length - a) 64 = i := by omega
        rw [em] at m1
        and_intros <;> first | exact True.intro | with_reducible rfl | with_reducible exact m1.symm | (show t.length + 63 - (a + 64) < t.length + 63 - a; omega) | rfl
    · refine .r ⟨decide_eq_false (show ¬ (i : Int) < 64 by omega), ⟨a + 64, by omega, by omega⟩, ?_⟩
      have em : min (t.length - a) 64 = i := by omega
      rw [em] at m1
      and_intros <;> first | exact True.intro | with_reducible rfl | with_reducible exact m1.symm | (show t.length + 63 - (a + 64) < t.length + 63 - a; omega) | rfl
  · rw [decide_eq_false hg, cond_false]
    have e : a / 64 = (t.length + 63) / 64 := by omega
    have hm : mixL key n x t t.length (a / 64) = mixA key n x t := by rw [e]; rfl
    and_intros <;> first | exact True.intro | with_reducible rfl | with_reducible exact ml | (rw [hm]) | rfl
set_option maxHeartbeats 8000000 in
theorem cSMix_ok : SpecOK Try.prog cSMix := by
  refine callG_ok (c := Try.f14.body.getD .skip) mixed Try.func14 (by kernel_rfl) rfl (fun x hob => ?_)
  obtain ⟨key, n, x, t⟩ := x
  have hob : (t.length ≤ 16777216) ∧ (key.length = 32) ∧ (n.length = 12) ∧ (Bys key) ∧ (Bys n) ∧ (Bys t) := hob
  obtain ⟨h1, h2, h3, h4, h5, h6⟩ := hob
  exact ⟨FSMix key n x t, rfl, evOKs ⟨.inl ⟨cSBlock_ok, by kernel_rfl, gl_nil rfl⟩, trivial⟩, rfl, rfl, by with_reducible exact wpSMix key n x t h1 h2 h3 h4 h5 h6⟩
end Go.Proofs.Ythlleheeghiljaa
