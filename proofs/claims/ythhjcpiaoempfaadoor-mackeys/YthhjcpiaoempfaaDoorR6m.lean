/-
  The reference of layer 2: so many keys of a secret.
-/
/-
  So many keys: the reference's are the program's. No program.
-/
import Derived.Test.YthhjcpiaoempfaaDoorR5m
import Derived.Test.YthhjcpiaoempfaaDoorM6
namespace Go.Proofs.YthhjcpiaoempfaaDoor
open Go.RowKit
set_option maxRecDepth 100000

/-- The bytes of key i, as far as they are copied; the keys. -/
def cpS (s : ByteArray) (i : Nat) : Nat → List Int
  | 0 => List.replicate 32 0
  | j + 1 => (cpS s i j).set j (sGet s (32 * i + j))
theorem cpS_len (s : ByteArray) (i : Nat) : ∀ j, (cpS s i j).length = 32
  | 0 => rfl
  | j + 1 => by rw [cpS, List.length_set, cpS_len s i j]
def outS (s : ByteArray) : Nat → List Int
  | 0 => []
  | k + 1 => outS s k ++ cpS s k 32
theorem outS_len (s : ByteArray) : ∀ k, (outS s k).length = 32 * k
  | 0 => rfl
  | k + 1 => by rw [outS, List.length_append, outS_len s k, cpS_len]; omega
def keyT (salt secret info : ByteArray) (c : Nat) : ByteArray := (bstr (reO (macS salt secret) info c)).extract 0 (32 * c)
noncomputable def stRK0 (s : ByteArray) (c j : Nat) : St := ⟨Tryd.f17.ntmps, [(3, vv (.int .i64 (c : Int))), (10, vv (.string s)), (12, vv (.slice none 0 0)), (13, vv (.int .i64 0)), (14, .o (.c (.ptr 0 0 none))), (15, vv (.int .i64 (j : Int)))], [.fix 25 [.many 32 (.i .u8 (cpS s 0 j))]]⟩
noncomputable def stRKj (s : ByteArray) (c i j : Nat) : St := ⟨Tryd.f17.ntmps, [(3, vv (.int .i64 (c : Int))), (10, vv (.string s)), (12, .o (.c (.os 0 32 i))), (13, vv (.int .i64 (i : Int))), (14, .o (.c (.ptr 1 0 none))), (15, vv (.int .i64 (j : Int)))], [.grow 25 32 (.i .u8 (outS s i)), .fix 25 [.many 32 (.i .u8 (cpS s i j))]]⟩
noncomputable def stRK (s : ByteArray) (c i : Nat) : St := ⟨Tryd.f17.ntmps, [(3, vv (.int .i64 (c : Int))), (10, vv (.string s)), (12, .o (.c (.os 0 32 i))), (13, vv (.int .i64 (i : Int)))], [.grow 25 32 (.i .u8 (outS s i))]⟩
def isOs (σ : St) : Bool := match σ.gs 12 with
  | some (.o (.c (.os _ _ _))) => true
  | _ => false
def kRKeys : ByteArray × ByteArray × ByteArray × Nat → ClN := fun (salt, secret, info, c) => ⟨[vv (.string salt), vv (.string secret), vv (.string info), vv (.int .i64 (c : Int))], [], .t [.c (.os 0 32 c), .c (.v (.int .i64 0))], [.grow 25 32 (.i .u8 (outS (keyT salt secret info c) c))], [0], [salt.size ≤ 17592186044416, secret.size ≤ 17592186044416, info.size ≤ 4398046511104, 0 < c, c ≤ 255]⟩
noncomputable def FRKeys (salt secret info : ByteArray) (c : Nat) : FnE := ⟨mkEv Tryd.prog [] [cRMac, cRExp] 0, [0, 1, 2, 3, 8, 9, 10, 11, 12, 13, 14, 15, 21, 33, 37, 42], fun g σ => bif Nat.beq g 8 then .peel { i : Nat // 1 ≤ i ∧ i ≤ c } (fun i => stRK (keyT salt secret info c) c i.val) (fun i => c - i.val) [2] [3] else
    bif isOs σ then .inv { j : Nat // j ≤ 32 } (fun j => stRKj (keyT salt secret info c) c (iOf 13 σ) j.val) (fun j => 32 - j.val) [0, 1] [0, 1] else
    .inv { j : Nat // j ≤ 32 } (fun j => stRK0 (keyT salt secret info c) c j.val) (fun j => 32 - j.val) [0] [0]⟩
def mRKeys : List AV → (Nat → Option MB) → Option (List Nat × (ByteArray × ByteArray × ByteArray × Nat))
  | [.o (.c (.v (.string salt))), .o (.c (.v (.string secret))), .o (.c (.v (.string info))), .o (.c (.v (.int .i64 c)))], _ => some ([], salt, secret, info, c.toNat)
  | _, _ => none
noncomputable def cRKeys : Spec := callG 17 Tryd.f17.ntmps mRKeys kRKeys
theorem vcRKeys (salt secret info : ByteArray) (c : Nat) : (wpE (FRKeys salt secret info c) (Tryd.f17.body.getD .skip) ⟨Tryd.f17.ntmps, slotsOf 0 (kRKeys (salt, secret, info, c)).avs, (kRKeys (salt, secret, info, c)).mem⟩ (finK Tryd.prog Tryd.f17.results.toList (postN (kRKeys (salt, secret, info, c))))) = (let x1 := IntKind.wrap IntKind.i64 ((32 : Int) * (↑c : Int)); bif decide ((255 : Int) < (↑c : Int)) then true = true ∧ true = true ∧ (58 : Nat) = (58 : Nat) ∧ False ∧ False ∧ Value.int IntKind.i64 (1 : Int) = Value.int IntKind.i64 (0 : Int) else true = true ∧ Value.string salt = Value.string salt ∧ Value.string secret = Value.string secret ∧ ByteArray.size salt ≤ (17592186044416 : Nat) ∧ ByteArray.size secret ≤ (17592186044416 : Nat) ∧ true = true ∧ (32 : Nat) = (32 : Nat) ∧ macS salt secret = macS salt secret ∧ Value.int IntKind.i64 x1 = Value.int IntKind.i64 (↑(Int.toNat x1) : Int) ∧ Value.string info = Value.string info ∧ (32 : Nat) = (32 : Nat) ∧ Int.toNat x1 ≤ (8160 : Nat) ∧ ByteArray.size info ≤ (4398046511104 : Nat) ∧ (bif decide ((0 : Int) < (↑c : Int)) then (∃ (x : { j : Nat // j ≤ (32 : Nat) }), true = true ∧ true = true ∧ (58 : Nat) = (58 : Nat) ∧ Value.int IntKind.i64 (↑c : Int) = Value.int IntKind.i64 (↑c : Int) ∧ Value.string (ByteArray.extract (bstr (reO (macS salt secret) info ((Int.toNat x1 + (31 : Nat)) / (32 : Nat)))) (0 : Nat) (Int.toNat x1)) = Value.string (keyT salt secret info c) ∧ Value.slice none (0 : Nat) (0 : Nat) = Value.slice none (0 : Nat) (0 : Nat) ∧ Value.int IntKind.i64 (0 : Int) = Value.int IntKind.i64 (0 : Int) ∧ getL [(0 : Nat)] (0 : Nat) = some (Nat.add (0 : Nat) (0 : Nat)) ∧ (0 : Nat) = (0 : Nat) ∧ Value.int IntKind.i64 (0 : Int) = Value.int IntKind.i64 (↑(Subtype.val x) : Int) ∧ (25 : Nat) = (25 : Nat) ∧ (32 : Nat) = (32 : Nat) ∧ [(0 : Int), (0 : Int), (0 : Int), (0 : Int), (0 : Int), (0 : Int), (0 : Int), (0 : Int), (0 : Int), (0 : Int), (0 : Int), (0 : Int), (0 : Int), (0 : Int), (0 : Int), (0 : Int), (0 : Int), (0 : Int), (0 : Int), (0 : Int), (0 : Int), (0 : Int), (0 : Int), (0 : Int), (0 : Int), (0 : Int), (0 : Int), (0 : Int), (0 : Int), (0 : Int), (0 : Int), (0 : Int)] = cpS (keyT salt secret info c) (0 : Nat) (Subtype.val x)) ∧ ∀ (x : { j : Nat // j ≤ (32 : Nat) }), bif decide ((↑(Subtype.val x) : Int) < (32 : Int)) then (0 : Int) ≤ IntKind.wrap IntKind.i64 ((0 : Int) + (↑(Subtype.val x) : Int)) ∧ IntKind.wrap IntKind.i64 ((0 : Int) + (↑(Subtype.val x) : Int)) < (↑(ByteArray.size (keyT salt secret info c)) : Int) ∧ (0 : Int) ≤ (↑(Subtype.val x) : Int) ∧ (↑(Subtype.val x) : Int) < (32 : Int) ∧ Int.toNat (↑(Subtype.val x) : Int) < (32 : Nat) ∧ ∃ (y : { j : Nat // j ≤ (32 : Nat) }), (true = true ∧ true = true ∧ (58 : Nat) = (58 : Nat) ∧ Value.int IntKind.i64 (↑c : Int) = Value.int IntKind.i64 (↑c : Int) ∧ Value.string (keyT salt secret info c) = Value.string (keyT salt secret info c) ∧ Value.slice none (0 : Nat) (0 : Nat) = Value.slice none (0 : Nat) (0 : Nat) ∧ Value.int IntKind.i64 (0 : Int) = Value.int IntKind.i64 (0 : Int) ∧ getL [(0 : Nat)] (0 : Nat) = some (0 : Nat) ∧ (0 : Nat) = (0 : Nat) ∧ Value.int IntKind.i64 (IntKind.wrap IntKind.i64 ((↑(Subtype.val x) : Int) + (1 : Int))) = Value.int IntKind.i64 (↑(Subtype.val y) : Int) ∧ (25 : Nat) = (25 : Nat) ∧ (32 : Nat) = (32 : Nat) ∧ List.set (cpS (keyT salt secret info c) (0 : Nat) (Subtype.val x)) (Int.toNat (↑(Subtype.val x) : Int)) (sGet (keyT salt secret info c) (Int.toNat (IntKind.wrap IntKind.i64 ((0 : Int) + (↑(Subtype.val x) : Int))))) = cpS (keyT salt secret info c) (0 : Nat) (Subtype.val y)) ∧ (32 : Nat) - Subtype.val y < (32 : Nat) - Subtype.val x else List.length (cpS (keyT salt secret info c) (0 : Nat) (Subtype.val x) ++ []) = (32 : Nat) ∧ (32 : Nat) ≤ (140737488355328 : Nat) ∧ (1 : Nat) ≤ (9223372036854775807 : Nat) ∧ ∃ (x_1 : { i : Nat // (1 : Nat) ≤ i ∧ i ≤ c }), true = true ∧ true = true ∧ (58 : Nat) = (58 : Nat) ∧ Value.int IntKind.i64 (↑c : Int) = Value.int IntKind.i64 (↑c : Int) ∧ Value.string (keyT salt secret info c) = Value.string (keyT salt secret info c) ∧ getL [(2 : Nat)] (0 : Nat) = some (Nat.add (Nat.add (Nat.add (1 : Nat) (0 : Nat)) (0 : Nat)) (1 : Nat)) ∧ (32 : Nat) = (32 : Nat) ∧ (1 : Nat) = Subtype.val x_1 ∧ Value.int IntKind.i64 (1 : Int) = Value.int IntKind.i64 (↑(Subtype.val x_1) : Int) ∧ (25 : Nat) = (25 : Nat) ∧ (32 : Nat) = (32 : Nat) ∧ cpS (keyT salt secret info c) (0 : Nat) (Subtype.val x) ++ [] = outS (keyT salt secret info c) (Subtype.val x_1) else true = true ∧ true = true ∧ (58 : Nat) = (58 : Nat) ∧ False ∧ False ∧ Value.int IntKind.i64 (0 : Int) = Value.int IntKind.i64 (0 : Int)) ∧ ∀ (x : { i : Nat // (1 : Nat) ≤ i ∧ i ≤ c }), bif decide ((↑(Subtype.val x) : Int) < (↑c : Int)) then (∃ (x_1 : { j : Nat // j ≤ (32 : Nat) }), true = true ∧ true = true ∧ (58 : Nat) = (58 : Nat) ∧ Value.int IntKind.i64 (↑c : Int) = Value.int IntKind.i64 (↑c : Int) ∧ Value.string (keyT salt secret info c) = Value.string (keyT salt secret info c) ∧ getL [(0 : Nat), (1 : Nat)] (0 : Nat) = some (0 : Nat) ∧ (32 : Nat) = (32 : Nat) ∧ Subtype.val x = x.1 ∧ Value.int IntKind.i64 (↑(Subtype.val x) : Int) = Value.int IntKind.i64 (↑x.1 : Int) ∧ getL [(0 : Nat), (1 : Nat)] (1 : Nat) = some (Nat.add (1 : Nat) (0 : Nat)) ∧ (0 : Nat) = (0 : Nat) ∧ Value.int IntKind.i64 (0 : Int) = Value.int IntKind.i64 (↑(Subtype.val x_1) : Int) ∧ (25 : Nat) = (25 : Nat) ∧ (32 : Nat) = (32 : Nat) ∧ outS (keyT salt secret info c) (Subtype.val x) = outS (keyT salt secret info c) x.1 ∧ (25 : Nat) = (25 : Nat) ∧ (32 : Nat) = (32 : Nat) ∧ [(0 : Int), (0 : Int), (0 : Int), (0 : Int), (0 : Int), (0 : Int), (0 : Int), (0 : Int), (0 : Int), (0 : Int), (0 : Int), (0 : Int), (0 : Int), (0 : Int), (0 : Int), (0 : Int), (0 : Int), (0 : Int), (0 : Int), (0 : Int), (0 : Int), (0 : Int), (0 : Int), (0 : Int), (0 : Int), (0 : Int), (0 : Int), (0 : Int), (0 : Int), (0 : Int), (0 : Int), (0 : Int)] = cpS (keyT salt secret info c) x.1 (Subtype.val x_1)) ∧ ∀ (x_1 : { j : Nat // j ≤ (32 : Nat) }), bif decide ((↑(Subtype.val x_1) : Int) < (32 : Int)) then (0 : Int) ≤ IntKind.wrap IntKind.i64 (IntKind.wrap IntKind.i64 ((32 : Int) * (↑x.1 : Int)) + (↑(Subtype.val x_1) : Int)) ∧ IntKind.wrap IntKind.i64 (IntKind.wrap IntKind.i64 ((32 : Int) * (↑x.1 : Int)) + (↑(Subtype.val x_1) : Int)) < (↑(ByteArray.size (keyT salt secret info c)) : Int) ∧ (0 : Int) ≤ (↑(Subtype.val x_1) : Int) ∧ (↑(Subtype.val x_1) : Int) < (32 : Int) ∧ Int.toNat (↑(Subtype.val x_1) : Int) < (32 : Nat) ∧ ∃ (y : { j : Nat // j ≤ (32 : Nat) }), (true = true ∧ true = true ∧ (58 : Nat) = (58 : Nat) ∧ Value.int IntKind.i64 (↑c : Int) = Value.int IntKind.i64 (↑c : Int) ∧ Value.string (keyT salt secret info c) = Value.string (keyT salt secret info c) ∧ getL [(0 : Nat), (1 : Nat)] (0 : Nat) = some (0 : Nat) ∧ (32 : Nat) = (32 : Nat) ∧ x.1 = x.1 ∧ Value.int IntKind.i64 (↑x.1 : Int) = Value.int IntKind.i64 (↑x.1 : Int) ∧ getL [(0 : Nat), (1 : Nat)] (1 : Nat) = some (1 : Nat) ∧ (0 : Nat) = (0 : Nat) ∧ Value.int IntKind.i64 (IntKind.wrap IntKind.i64 ((↑(Subtype.val x_1) : Int) + (1 : Int))) = Value.int IntKind.i64 (↑(Subtype.val y) : Int) ∧ (25 : Nat) = (25 : Nat) ∧ (32 : Nat) = (32 : Nat) ∧ outS (keyT salt secret info c) x.1 = outS (keyT salt secret info c) x.1 ∧ (25 : Nat) = (25 : Nat) ∧ (32 : Nat) = (32 : Nat) ∧ List.set (cpS (keyT salt secret info c) x.1 (Subtype.val x_1)) (Int.toNat (↑(Subtype.val x_1) : Int)) (sGet (keyT salt secret info c) (Int.toNat (IntKind.wrap IntKind.i64 (IntKind.wrap IntKind.i64 ((32 : Int) * (↑x.1 : Int)) + (↑(Subtype.val x_1) : Int))))) = cpS (keyT salt secret info c) x.1 (Subtype.val y)) ∧ (32 : Nat) - Subtype.val y < (32 : Nat) - Subtype.val x_1 else List.length (cpS (keyT salt secret info c) x.1 (Subtype.val x_1) ++ []) = (32 : Nat) ∧ List.length (outS (keyT salt secret info c) x.1) = (32 : Nat) * x.1 ∧ (x.1 + (1 : Nat)) * (32 : Nat) ≤ (140737488355328 : Nat) ∧ x.1 + (1 : Nat) ≤ (9223372036854775807 : Nat) ∧ ∃ (y : { i : Nat // (1 : Nat) ≤ i ∧ i ≤ c }), (true = true ∧ true = true ∧ (58 : Nat) = (58 : Nat) ∧ Value.int IntKind.i64 (↑c : Int) = Value.int IntKind.i64 (↑c : Int) ∧ Value.string (keyT salt secret info c) = Value.string (keyT salt secret info c) ∧ getL [(3 : Nat)] (0 : Nat) = some (Nat.add (Nat.add (Nat.add (2 : Nat) (0 : Nat)) (0 : Nat)) (1 : Nat)) ∧ (32 : Nat) = (32 : Nat) ∧ x.1 + (1 : Nat) = Subtype.val y ∧ Value.int IntKind.i64 (IntKind.wrap IntKind.i64 ((↑x.1 : Int) + (1 : Int))) = Value.int IntKind.i64 (↑(Subtype.val y) : Int) ∧ (25 : Nat) = (25 : Nat) ∧ (32 : Nat) = (32 : Nat) ∧ outS (keyT salt secret info c) x.1 ++ (cpS (keyT salt secret info c) x.1 (Subtype.val x_1) ++ []) = outS (keyT salt secret info c) (Subtype.val y)) ∧ c - Subtype.val y < c - Subtype.val x else true = true ∧ true = true ∧ (58 : Nat) = (58 : Nat) ∧ (25 : Nat) = (25 : Nat) ∧ (32 : Nat) = (32 : Nat) ∧ outS (keyT salt secret info c) (Subtype.val x) = outS (keyT salt secret info c) c ∧ getL (ClN.ren (kRKeys (salt, secret, info, c))) (0 : Nat) = some (0 : Nat) ∧ (32 : Nat) = (32 : Nat) ∧ Subtype.val x = c ∧ Value.int IntKind.i64 (0 : Int) = Value.int IntKind.i64 (0 : Int)) := by kernel_rfl

set_option maxHeartbeats 8000000 in
theorem wpRKeys (salt secret info : ByteArray) (c : Nat) (h1 : salt.size ≤ 17592186044416) (h2 : secret.size ≤ 17592186044416) (h3 : info.size ≤ 4398046511104) (h4 : 0 < c) (h5 : c ≤ 255) : wpE (FRKeys salt secret info c) (Tryd.f17.body.getD .skip) ⟨Tryd.f17.ntmps, slotsOf 0 (kRKeys (salt, secret, info, c)).avs, (kRKeys (salt, secret, info, c)).mem⟩ (finK Tryd.prog Tryd.f17.results.toList (postN (kRKeys (salt, secret, info, c)))) := by
  with_reducible refine Eq.mpr (vcRKeys salt secret info c) ?_
  have lm : (macS salt secret).length = 32 := shaR_len _
  have e1 : IntKind.wrap .i64 (32 * (c : Int)) = ((32 * c : Nat) : Int) := by rw [IntKind.wrap_i64]; omega
  have hq : (32 * c + 31) / 32 = c := by omega
  have eT : (bstr (reO (macS salt secret) info c)).extract 0 (32 * c) = keyT salt secret info c := rfl
  have lT : (keyT salt secret info c).size = 32 * c := by
    unfold keyT
    rw [bstr_extract, bstr_size, List.length_take, reO_len]; omega
  simp only [e1, Int.toNat_natCast, hq, eT, List.append_nil, lT, cpS_len, outS_len]
  generalize keyT salt secret info c = S at *
  rw [decide_eq_false (show ¬ (255 : Int) < (c : Int) by omega), cond_false]
  and_intros
  all_goals try exact True.intro
  all_goals try with_reducible rfl
  all_goals try with_reducible assumption
  all_goals try omega
  · rw [decide_eq_true (show (0 : Int) < (c : Int) by omega), cond_true]
    refine ⟨⟨⟨0, Nat.zero_le _⟩, ?_⟩, ?_⟩
    · and_intros <;> first | exact True.intro | with_reducible rfl | kernel_rfl
    · rintro ⟨j, hj⟩
      dsimp only
      by_cases hg : (j : Int) < 32
      · rw [decide_eq_true hg, cond_true]
        have w0 : IntKind.wrap .i64 (0 + (j : Int)) = ((32 * 0 + j : Nat) : Int) := by rw [IntKind.wrap_i64]; omega
        have w1 : IntKind.wrap .i64 ((j : Int) + 1) = ((j + 1 : Nat) : Int) := by rw [IntKind.wrap_i64]; omega
        simp only [w0, w1, Int.toNat_natCast]
        and_intros
        all_goals try exact True.intro
        all_goals try with_reducible rfl
        all_goals try omega
        refine ⟨⟨j + 1, by omega⟩, ?_⟩
        and_intros <;> first | exact True.intro | with_reducible rfl | (show 32 - (j + 1) < 32 - j; omega) | rfl
      · rw [decide_eq_false hg, cond_false]
        have ej : j = 32 := by omega
        subst ej
        and_intros
        all_goals try exact True.intro
        all_goals try with_reducible rfl
        all_goals try omega
        have ho : cpS S 0 32 = outS S 1 := by rw [outS, outS, List.nil_append]
        refine ⟨⟨1, by omega, by omega⟩, ?_⟩
        dsimp only
        rw [ho]
        and_intros <;> first | exact True.intro | with_reducible rfl | kernel_rfl
  · rintro ⟨i, hi1, hic⟩
    dsimp only
    by_cases hg : (i : Int) < (c : Int)
    · rw [decide_eq_true hg, cond_true]
      refine ⟨⟨⟨0, Nat.zero_le _⟩, ?_⟩, ?_⟩
      · and_intros <;> first | exact True.intro | with_reducible rfl | kernel_rfl
      · rintro ⟨j, hj⟩
        dsimp only
        by_cases hg2 : (j : Int) < 32
        · rw [decide_eq_true hg2, cond_true]
          have w3 : IntKind.wrap .i64 (32 * (i : Int)) = ((32 * i : Nat) : Int) := by rw [IntKind.wrap_i64]; omega
          have w0 : IntKind.wrap .i64 (((32 * i : Nat) : Int) + (j : Int)) = ((32 * i + j : Nat) : Int) := by rw [IntKind.wrap_i64]; omega
          have w1 : IntKind.wrap .i64 ((j : Int) + 1) = ((j + 1 : Nat) : Int) := by rw [IntKind.wrap_i64]; omega
          simp only [w3, w0, w1, Int.toNat_natCast]
          and_intros
          all_goals try exact True.intro
          all_goals try with_reducible rfl
          all_goals try omega
          refine ⟨⟨j + 1, by omega⟩, ?_⟩
          and_intros <;> first | exact True.intro | with_reducible rfl | (show 32 - (j + 1) < 32 - j; omega) | rfl
        · rw [decide_eq_false hg2, cond_false]
          have ej : j = 32 := by omega
          subst ej
          have w1 : IntKind.wrap .i64 ((i : Int) + 1) = ((i + 1 : Nat) : Int) := by rw [IntKind.wrap_i64]; omega
          simp only [w1]
          and_intros
          all_goals try exact True.intro
          all_goals try with_reducible rfl
          all_goals try omega
          have ho : outS S i ++ cpS S i 32 = outS S (i + 1) := rfl
          refine ⟨⟨i + 1, by omega, by omega⟩, ?_⟩
          dsimp only
          rw [ho]
          and_intros <;> first | exact True.intro | with_reducible rfl | omega | kernel_rfl
    · rw [decide_eq_false hg, cond_false]
      have ei : i = c := by omega
      subst ei
      and_intros <;> first | exact True.intro | with_reducible rfl | kernel_rfl
set_option maxHeartbeats 8000000 in
theorem cRKeys_ok : SpecOK Tryd.prog cRKeys := by
  refine callG_ok (c := Tryd.f17.body.getD .skip) mixed Tryd.func17 (by kernel_rfl) rfl (fun x hob => ?_)
  obtain ⟨salt, secret, info, c⟩ := x
  have hob : (salt.size ≤ 17592186044416) ∧ (secret.size ≤ 17592186044416) ∧ (info.size ≤ 4398046511104) ∧ (0 < c) ∧ (c ≤ 255) := hob
  obtain ⟨h1, h2, h3, h4, h5⟩ := hob
  exact ⟨FRKeys salt secret info c, rfl, evOKs ⟨.inl ⟨cRMac_ok, by kernel_rfl, gl_nil rfl⟩, ⟨.inl ⟨cRExp_ok, by kernel_rfl, gl_nil rfl⟩, trivial⟩⟩, rfl, rfl, by with_reducible exact wpRKeys salt secret info c h1 h2 h3 h4 h5⟩

def kRKeys0 : ByteArray × ByteArray × ByteArray → ClN := fun (salt, secret, info) => ⟨[vv (.string salt), vv (.string secret), vv (.string info), vv (.int .i64 0)], [], .t [.c (.v (.slice none 0 0)), .c (.v (.int .i64 0))], [], [], [salt.size ≤ 17592186044416, secret.size ≤ 17592186044416, info.size ≤ 4398046511104]⟩
noncomputable def FRKeys0 : FnE := ⟨mkEv Tryd.prog [] [cRMac, cRExp] 0, [0, 1, 2, 3, 8, 9, 10, 11, 12, 13, 14, 15, 21, 33, 37, 42], fun _ _ => .rounds 1⟩
def mRKeys0 : List AV → (Nat → Option MB) → Option (List Nat × (ByteArray × ByteArray × ByteArray))
  | [.o (.c (.v (.string salt))), .o (.c (.v (.string secret))), .o (.c (.v (.string info))), .o (.c (.v (.int .i64 0)))], _ => some ([], salt, secret, info)
  | _, _ => none
noncomputable def cRKeys0 : Spec := callG 17 Tryd.f17.ntmps mRKeys0 kRKeys0
theorem vcRKeys0 (salt secret info : ByteArray) : (wpE FRKeys0 (Tryd.f17.body.getD .skip) ⟨Tryd.f17.ntmps, slotsOf 0 (kRKeys0 (salt, secret, info)).avs, (kRKeys0 (salt, secret, info)).mem⟩ (finK Tryd.prog Tryd.f17.results.toList (postN (kRKeys0 (salt, secret, info))))) = (true = true ∧ Value.string salt = Value.string salt ∧ Value.string secret = Value.string secret ∧ ByteArray.size salt ≤ (17592186044416 : Nat) ∧ ByteArray.size secret ≤ (17592186044416 : Nat) ∧ true = true ∧ (32 : Nat) = (32 : Nat) ∧ macS salt secret = macS salt secret ∧ Value.int IntKind.i64 (0 : Int) = Value.int IntKind.i64 (0 : Int) ∧ Value.string info = Value.string info ∧ (32 : Nat) = (32 : Nat) ∧ (0 : Nat) ≤ (8160 : Nat) ∧ ByteArray.size info ≤ (4398046511104 : Nat) ∧ true = true ∧ true = true ∧ (58 : Nat) = (58 : Nat) ∧ Value.slice none (0 : Nat) (0 : Nat) = Value.slice none (0 : Nat) (0 : Nat) ∧ Value.int IntKind.i64 (0 : Int) = Value.int IntKind.i64 (0 : Int)) := by kernel_rfl

set_option maxHeartbeats 8000000 in
theorem wpRKeys0 (salt secret info : ByteArray) (h1 : salt.size ≤ 17592186044416) (h2 : secret.size ≤ 17592186044416) (h3 : info.size ≤ 4398046511104) : wpE FRKeys0 (Tryd.f17.body.getD .skip) ⟨Tryd.f17.ntmps, slotsOf 0 (kRKeys0 (salt, secret, info)).avs, (kRKeys0 (salt, secret, info)).mem⟩ (finK Tryd.prog Tryd.f17.results.toList (postN (kRKeys0 (salt, secret, info)))) := by
  with_reducible refine Eq.mpr (vcRKeys0 salt secret info) ?_
  have hl : ∀ a b, (macS a b).length = 32 := fun _ _ => shaR_len _
  and_intros <;> first | exact True.intro | with_reducible rfl | with_reducible assumption | with_reducible exact hl _ _ | omega | kernel_rfl
set_option maxHeartbeats 8000000 in
theorem cRKeys0_ok : SpecOK Tryd.prog cRKeys0 := by
  refine callG_ok (c := Tryd.f17.body.getD .skip) mixed Tryd.func17 (by kernel_rfl) rfl (fun x hob => ?_)
  obtain ⟨salt, secret, info⟩ := x
  have hob : (salt.size ≤ 17592186044416) ∧ (secret.size ≤ 17592186044416) ∧ (info.size ≤ 4398046511104) := hob
  obtain ⟨h1, h2, h3⟩ := hob
  exact ⟨FRKeys0, rfl, evOKs ⟨.inl ⟨cRMac_ok, by kernel_rfl, gl_nil rfl⟩, ⟨.inl ⟨cRExp_ok, by kernel_rfl, gl_nil rfl⟩, trivial⟩⟩, rfl, rfl, by with_reducible exact wpRKeys0 salt secret info h1 h2 h3⟩

def fcKN (d : Nat) : Option Bool := bif Nat.beq d 17 then some true else none
def kRKeysN : ByteArray × ByteArray × ByteArray × Int → ClN := fun (salt, secret, info, c) => ⟨[vv (.string salt), vv (.string secret), vv (.string info), vv (.int .i64 c)], [], .t [.c (.v (.slice none 0 0)), .c (.v (.int .i64 1))], [], [], [c < 0]⟩
noncomputable def FRKeysN : FnE := ⟨mkEv Tryd.prog [] [] 0 fcKN, [0, 1, 2, 3, 8, 9, 10, 11, 12, 13, 14, 15, 21, 33, 37, 42], fun _ _ => .rounds 0⟩
def mRKeysN : List AV → (Nat → Option MB) → Option (List Nat × (ByteArray × ByteArray × ByteArray × Int))
  | [.o (.c (.v (.string salt))), .o (.c (.v (.string secret))), .o (.c (.v (.string info))), .o (.c (.v (.int .i64 c)))], _ => some ([], (salt, secret, info, c))
  | _, _ => none
noncomputable def cRKeysN : Spec := callG 17 Tryd.f17.ntmps mRKeysN kRKeysN
theorem vcRKeysN (salt secret info : ByteArray) (c : Int) : (wpE FRKeysN (Tryd.f17.body.getD .skip) ⟨Tryd.f17.ntmps, slotsOf 0 (kRKeysN (salt, secret, info, c)).avs, (kRKeysN (salt, secret, info, c)).mem⟩ (finK Tryd.prog Tryd.f17.results.toList (postN (kRKeysN (salt, secret, info, c))))) = (decide (c < (0 : Int)) = true ∧ true = true ∧ true = true ∧ (58 : Nat) = (58 : Nat) ∧ Value.slice none (0 : Nat) (0 : Nat) = Value.slice none (0 : Nat) (0 : Nat) ∧ Value.int IntKind.i64 (1 : Int) = Value.int IntKind.i64 (1 : Int)) := by kernel_rfl

set_option maxHeartbeats 8000000 in
theorem wpRKeysN (salt secret info : ByteArray) (c : Int) (h1 : c < 0) : wpE FRKeysN (Tryd.f17.body.getD .skip) ⟨Tryd.f17.ntmps, slotsOf 0 (kRKeysN (salt, secret, info, c)).avs, (kRKeysN (salt, secret, info, c)).mem⟩ (finK Tryd.prog Tryd.f17.results.toList (postN (kRKeysN (salt, secret, info, c)))) := by
  with_reducible refine Eq.mpr (vcRKeysN salt secret info c) ?_
  have d : decide (c < (0 : Int)) = true := decide_eq_true h1
  and_intros <;> first | exact True.intro | with_reducible assumption | with_reducible rfl | kernel_rfl
set_option maxHeartbeats 8000000 in
theorem cRKeysN_ok : SpecOK Tryd.prog cRKeysN := by
  refine callG_ok (c := Tryd.f17.body.getD .skip) mixed Tryd.func17 (by kernel_rfl) rfl (fun x hob => ?_)
  obtain ⟨salt, secret, info, c⟩ := x
  have hob : (c < 0) := hob
  have h1 := hob
  exact ⟨FRKeysN, rfl, evOKs trivial, rfl, rfl, by with_reducible exact wpRKeysN salt secret info c h1⟩

def fcKB (d : Nat) : Option Bool := bif Nat.beq d 17 then some false else bif Nat.beq d 20 then some true else none
def kRKeysB : ByteArray × ByteArray × ByteArray × Int → ClN := fun (salt, secret, info, c) => ⟨[vv (.string salt), vv (.string secret), vv (.string info), vv (.int .i64 c)], [], .t [.c (.v (.slice none 0 0)), .c (.v (.int .i64 1))], [], [], [255 < c]⟩
noncomputable def FRKeysB : FnE := ⟨mkEv Tryd.prog [] [] 0 fcKB, [0, 1, 2, 3, 8, 9, 10, 11, 12, 13, 14, 15, 21, 33, 37, 42], fun _ _ => .rounds 0⟩
def mRKeysB : List AV → (Nat → Option MB) → Option (List Nat × (ByteArray × ByteArray × ByteArray × Int))
  | [.o (.c (.v (.string salt))), .o (.c (.v (.string secret))), .o (.c (.v (.string info))), .o (.c (.v (.int .i64 c)))], _ => some ([], (salt, secret, info, c))
  | _, _ => none
noncomputable def cRKeysB : Spec := callG 17 Tryd.f17.ntmps mRKeysB kRKeysB
theorem vcRKeysB (salt secret info : ByteArray) (c : Int) : (wpE FRKeysB (Tryd.f17.body.getD .skip) ⟨Tryd.f17.ntmps, slotsOf 0 (kRKeysB (salt, secret, info, c)).avs, (kRKeysB (salt, secret, info, c)).mem⟩ (finK Tryd.prog Tryd.f17.results.toList (postN (kRKeysB (salt, secret, info, c))))) = (decide (c < (0 : Int)) = false ∧ decide ((255 : Int) < c) = true ∧ true = true ∧ true = true ∧ (58 : Nat) = (58 : Nat) ∧ Value.slice none (0 : Nat) (0 : Nat) = Value.slice none (0 : Nat) (0 : Nat) ∧ Value.int IntKind.i64 (1 : Int) = Value.int IntKind.i64 (1 : Int)) := by kernel_rfl

set_option maxHeartbeats 8000000 in
theorem wpRKeysB (salt secret info : ByteArray) (c : Int) (h1 : 255 < c) : wpE FRKeysB (Tryd.f17.body.getD .skip) ⟨Tryd.f17.ntmps, slotsOf 0 (kRKeysB (salt, secret, info, c)).avs, (kRKeysB (salt, secret, info, c)).mem⟩ (finK Tryd.prog Tryd.f17.results.toList (postN (kRKeysB (salt, secret, info, c)))) := by
  with_reducible refine Eq.mpr (vcRKeysB salt secret info c) ?_
  have d : decide (c < (0 : Int)) = false := decide_eq_false (by omega)
  have e : decide ((255 : Int) < c) = true := decide_eq_true h1
  and_intros <;> first | exact True.intro | with_reducible assumption | with_reducible rfl | kernel_rfl
set_option maxHeartbeats 8000000 in
theorem cRKeysB_ok : SpecOK Tryd.prog cRKeysB := by
  refine callG_ok (c := Tryd.f17.body.getD .skip) mixed Tryd.func17 (by kernel_rfl) rfl (fun x hob => ?_)
  obtain ⟨salt, secret, info, c⟩ := x
  have hob : (255 < c) := hob
  have h1 := hob
  exact ⟨FRKeysB, rfl, evOKs trivial, rfl, rfl, by with_reducible exact wpRKeysB salt secret info c h1⟩
end Go.Proofs.YthhjcpiaoempfaaDoor
namespace Go.Proofs.YthhjcpiaoempfaaDoor
open Go.RowKit
set_option maxRecDepth 100000

theorem fill_next {l : List Int} {j n : Nat} (hj : j < l.length) (hn : j < n) : (l.take j ++ List.replicate (n - j) 0).set j (l.getD j 0) = l.take (j + 1) ++ List.replicate (n - (j + 1)) 0 := by
  have hl : (l.take j).length = j := by rw [List.length_take]; omega
  rw [show n - j = (n - (j + 1)) + 1 by omega, List.replicate_succ, List.set_append_right j _ (by omega), hl, Nat.sub_self, List.set_cons_zero, take_next hj, List.append_assoc]
  rfl
theorem cpS_eq {s : ByteArray} {i : Nat} (h : 32 * i + 32 ≤ s.size) : ∀ j, j ≤ 32 → cpS s i j = ((strL s).drop (32 * i)).take j ++ List.replicate (32 - j) 0
  | 0, _ => rfl
  | j + 1, hj => by
    have hs := strL_len s
    have e : sGet s (32 * i + j) = ((strL s).drop (32 * i)).getD j 0 := by
      rw [sGet_eq s (by omega), List.getD_eq_getElem?_getD, List.getD_eq_getElem?_getD, List.getElem?_drop]
    rw [cpS, cpS_eq h j (by omega), e, fill_next (by rw [List.length_drop]; omega) (by omega)]
theorem outS_eq {s : ByteArray} : ∀ k, 32 * k ≤ s.size → outS s k = (strL s).take (32 * k)
  | 0, _ => rfl
  | k + 1, h => by
    rw [outS, outS_eq k (by omega), cpS_eq (by omega) 32 (Nat.le_refl _), Nat.sub_self, List.replicate_zero, List.append_nil, show 32 * (k + 1) = 32 * k + 32 by omega, List.take_add]
theorem kysB_eq {b : List Int} {c : Nat} (hb : b.length = 32 * c) : ∀ j, j ≤ c → kysB b c j = b.take (32 * j) ++ List.replicate (32 * c - 32 * j) 0
  | 0, _ => rfl
  | j + 1, h => by
    have hl : (b.take (32 * j)).length = 32 * j := by rw [List.length_take]; omega
    have hd : ((b.drop (32 * j)).take 32).length = 32 := by rw [List.length_take, List.length_drop]; omega
    rw [kysB, kysB_eq hb j (by omega)]
    unfold lay
    rw [List.take_left' hl, hd, List.drop_append, hl, List.drop_of_length_le (l := b.take (32 * j)) (by omega), List.nil_append, List.drop_replicate, ← List.take_add, show 32 * j + 32 = 32 * (j + 1) by omega]
    congr 2
    omega
theorem reO_B8 (key : List Int) (info : ByteArray) : ∀ k, ∀ x ∈ reO key info k, B8 x
  | 0, x, h => by cases h
  | k + 1, x, h => by
    rw [reO] at h
    rcases List.mem_append.1 h with h | h
    · exact reO_B8 key info k x h
    · exact reT_B8 key info (k + 1) x h
theorem keys_eq (salt secret : List Int) (info : ByteArray) (c : Nat) (hs : salt.length ≤ 1000) (hk : secret.length ≤ 1000) (hi : info.size ≤ 4398046511104) (h1 : ∀ x ∈ salt, B8 x) (h2 : ∀ x ∈ secret, B8 x) :
    kysB (keyA salt secret (strL info) c) c c = outS (keyT (bstr salt) (bstr secret) info c) c := by
  have hb : (keyA salt secret (strL info) c).length = 32 * c := expA_len _ _ c
  have hm : macL salt [secret] = macS (bstr salt) (bstr secret) := by
    rw [macL_eq, macS_eq _ _ (by rw [bstr_size]; omega) (by rw [bstr_size]; omega), strL_bstr h1, strL_bstr h2, List.flatten_cons, List.flatten_nil, List.append_nil]
  have hE : keyA salt secret (strL info) c = reO (macS (bstr salt) (bstr secret)) info c := by
    unfold keyA
    rw [hm]
    exact expA_eq _ info _ (shaR_B8 _) (shaR_len _) hi (by rw [List.flatten_cons, List.flatten_nil, List.append_nil]) c
  have hT : keyT (bstr salt) (bstr secret) info c = bstr (reO (macS (bstr salt) (bstr secret)) info c) := by
    unfold keyT
    rw [bstr_extract, List.take_of_length_le (by rw [reO_len]; omega)]
  rw [kysB_eq hb c (Nat.le_refl _), hE, hT, outS_eq c (by rw [bstr_size, reO_len]; omega), strL_bstr (reO_B8 _ _ c), Nat.sub_self, List.replicate_zero, List.append_nil]
end Go.Proofs.YthhjcpiaoempfaaDoor
