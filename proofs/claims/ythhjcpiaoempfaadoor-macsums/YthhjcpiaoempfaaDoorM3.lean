/-
  mac: so many keys of a secret.
-/
import Derived.Test.YthhjcpiaoempfaaDoorM2
namespace Go.Proofs.YthhjcpiaoempfaaDoor
open Go.RowKit
set_option maxRecDepth 100000

/-- The bytes of the first keys, and noughts behind them. -/
def kysB (b : List Int) (c : Nat) : Nat → List Int
  | 0 => List.replicate (32 * c) 0
  | j + 1 => lay (kysB b c j) (32 * j) ((b.drop (32 * j)).take 32)
theorem kysB_len {b : List Int} {c : Nat} (hb : b.length = 32 * c) : ∀ j, j ≤ c → (kysB b c j).length = 32 * c
  | 0, _ => by rw [kysB, List.length_replicate]
  | j + 1, h => by
    have e := kysB_len hb j (by omega)
    rw [kysB, lay_length _ _ _ (by rw [List.length_take, List.length_drop]; omega), e]
/-- All the bytes that so many keys are made of. -/
def keyA (salt secret info : List Int) (c : Nat) : List Int := expA (macL salt [secret]) [info] c
noncomputable def stKeys (salt secret : List Int) (info : ByteArray) (c j : Nat) : St := ⟨Tryd.f16.ntmps, [(10, .o (.c (.sub 0 0 0 (32 * c)))), (12, .o (.c (.os 1 32 c))), (36, vv (.int .i64 (c : Int))), (37, vv (.int .i64 (j : Int)))], [.grow 5 1 (.i .u8 (keyA salt secret (strL info) c)), .grow 25 32 (.i .u8 (kysB (keyA salt secret (strL info) c) c j))]⟩
def kMKeys : Nat × (List Int) × Nat × (List Int) × ByteArray × Nat → ClN := fun (n, salt, m, secret, info, c) => ⟨[.o (.c (.rs 1 n (.i .u8 salt))), .o (.c (.rs 1 m (.i .u8 secret))), vv (.string info), vv (.int .i64 (c : Int))], [], .t [.c (.os 0 32 c), .c (.v (.int .i64 0))], [.grow 25 32 (.i .u8 (kysB (keyA salt secret (strL info) c) c c))], [1], [salt.length = n, n ≤ 140737488355328, secret.length = m, m ≤ 35184372088832, info.size ≤ 35184372088832, 0 < c, c ≤ 255]⟩
noncomputable def FMKeys (_n : Nat) (salt : List Int) (_m : Nat) (secret : List Int) (info : ByteArray) (c : Nat) : FnE := ⟨mkEv Tryd.prog tabH [cMExtr, cMExp] 0, [0, 1, 2, 3, 8, 9, 10, 12, 13, 19, 36, 37, 38], fun _ _ => .inv { j : Nat // j ≤ c } (fun j => stKeys salt secret info c j.val) (fun j => c - j.val) [3, 4] [0, 1]⟩
def mMKeys : List AV → (Nat → Option MB) → Option (List Nat × (Nat × (List Int) × Nat × (List Int) × ByteArray × Nat))
  | [.o (.c x), .o (.c y), .o (.c (.v (.string info))), .o (.c (.v (.int .i64 c)))], lk => match slI lk x with
    | some (n, l) => match slI lk y with
      | some (m, k) => some ([], n, l, m, k, info, c.toNat)
      | none => none
    | none => none
  | _, _ => none
noncomputable def cMKeys : Spec := callG 16 Tryd.f16.ntmps mMKeys kMKeys (tabH)
theorem vcMKeys (n : Nat) (salt : List Int) (m : Nat) (secret : List Int) (info : ByteArray) (c : Nat) : (wpE (FMKeys n salt m secret info c) (Tryd.f16.body.getD .skip) ⟨Tryd.f16.ntmps, slotsOf 0 (kMKeys (n, salt, m, secret, info, c)).avs, (kMKeys (n, salt, m, secret, info, c)).mem⟩ (finK Tryd.prog Tryd.f16.results.toList (postN (kMKeys (n, salt, m, secret, info, c))))) = (let x1 := IntKind.wrap IntKind.i64 ((↑c : Int) * (32 : Int)); bif decide ((255 : Int) < (↑c : Int)) then true = true ∧ true = true ∧ (54 : Nat) = (54 : Nat) ∧ False ∧ False ∧ Value.int IntKind.i64 (1 : Int) = Value.int IntKind.i64 (0 : Int) else true = true ∧ true = true ∧ n = n ∧ salt = salt ∧ true = true ∧ [secret] = [secret] ∧ (1 : Nat) = (1 : Nat) ∧ List.length salt = n ∧ n ≤ (140737488355328 : Nat) ∧ (1 : Nat) ≤ (140737488355328 : Nat) ∧ List.length (List.flatten [secret]) ≤ (70368744177664 : Nat) ∧ ByteArray.size info ≤ (140737488355328 : Nat) ∧ true = true ∧ (32 : Nat) = (32 : Nat) ∧ macL salt [secret] = macL salt [secret] ∧ Value.int IntKind.i64 x1 = Value.int IntKind.i64 (↑(Int.toNat x1) : Int) ∧ true = true ∧ [strL info] = [strL info] ∧ (1 : Nat) = (1 : Nat) ∧ List.length (strL info) = ByteArray.size info ∧ (32 : Nat) = (32 : Nat) ∧ (0 : Nat) < Int.toNat x1 ∧ Int.toNat x1 ≤ (8160 : Nat) ∧ (1 : Nat) ≤ (140737488355328 : Nat) ∧ List.length (List.flatten [strL info]) ≤ (35184372088832 : Nat) ∧ (0 : Int) ≤ (↑c : Int) ∧ (↑c : Int) ≤ (↑c : Int) ∧ (32 : Int) * (↑c : Int) ≤ (281474976710656 : Int) ∧ (↑c : Int) ≤ (9223372036854775807 : Int) ∧ (∃ (x : { j : Nat // j ≤ c }), true = true ∧ true = true ∧ (54 : Nat) = (54 : Nat) ∧ getL [(3 : Nat), (4 : Nat)] (0 : Nat) = some (nameN [] (Nat.add (Nat.add (Nat.add (Nat.add (Nat.add (Nat.add (Nat.add (Nat.add (Nat.add (0 : Nat) (0 : Nat)) (0 : Nat)) (1 : Nat)) (0 : Nat)) (0 : Nat)) (0 : Nat)) (0 : Nat)) (1 : Nat)) (1 : Nat)) (0 : Nat)) ∧ (0 : Nat) = (0 : Nat) ∧ Int.toNat x1 = (32 : Nat) * c ∧ getL [(3 : Nat), (4 : Nat)] (1 : Nat) = some (Nat.add (4 : Nat) (0 : Nat)) ∧ (32 : Nat) = (32 : Nat) ∧ Int.toNat (↑c : Int) = c ∧ Value.int IntKind.i64 (↑(Int.toNat (↑c : Int)) : Int) = Value.int IntKind.i64 (↑c : Int) ∧ Value.int IntKind.i64 (0 : Int) = Value.int IntKind.i64 (↑(Subtype.val x) : Int) ∧ (5 : Nat) = (5 : Nat) ∧ (1 : Nat) = (1 : Nat) ∧ expA (macL salt [secret]) [strL info] ((Int.toNat x1 + (31 : Nat)) / (32 : Nat)) = keyA salt secret (strL info) c ∧ (25 : Nat) = (25 : Nat) ∧ (32 : Nat) = (32 : Nat) ∧ List.replicate (Nat.mul (Int.toNat (↑c : Int)) (32 : Nat)) (0 : Int) = kysB (keyA salt secret (strL info) c) c (Subtype.val x)) ∧ ∀ (x : { j : Nat // j ≤ c }), bif decide ((↑(Subtype.val x) : Int) < (↑c : Int)) then (0 : Int) ≤ IntKind.wrap IntKind.i64 (IntKind.wrap IntKind.i64 ((↑(Subtype.val x) : Int) + (1 : Int)) * (32 : Int)) ∧ Int.toNat (IntKind.wrap IntKind.i64 (IntKind.wrap IntKind.i64 ((↑(Subtype.val x) : Int) + (1 : Int)) * (32 : Int))) ≤ (32 : Nat) * c ∧ (0 : Int) ≤ IntKind.wrap IntKind.i64 ((↑(Subtype.val x) : Int) * (32 : Int)) ∧ Int.toNat (IntKind.wrap IntKind.i64 ((↑(Subtype.val x) : Int) * (32 : Int))) ≤ Int.toNat (IntKind.wrap IntKind.i64 (IntKind.wrap IntKind.i64 ((↑(Subtype.val x) : Int) + (1 : Int)) * (32 : Int))) ∧ (32 : Nat) ≤ Int.toNat (IntKind.wrap IntKind.i64 (IntKind.wrap IntKind.i64 ((↑(Subtype.val x) : Int) + (1 : Int)) * (32 : Int))) - Int.toNat (IntKind.wrap IntKind.i64 ((↑(Subtype.val x) : Int) * (32 : Int))) ∧ (0 : Nat) + Int.toNat (IntKind.wrap IntKind.i64 ((↑(Subtype.val x) : Int) * (32 : Int))) + (32 : Nat) ≤ List.length (keyA salt secret (strL info) c) ∧ (0 : Int) ≤ (↑(Subtype.val x) : Int) ∧ (↑(Subtype.val x) : Int) < (↑c : Int) ∧ Int.toNat (↑(Subtype.val x) : Int) * (32 : Nat) + (32 : Nat) ≤ List.length (kysB (keyA salt secret (strL info) c) c (Subtype.val x)) ∧ ∃ (y : { j : Nat // j ≤ c }), (true = true ∧ true = true ∧ (54 : Nat) = (54 : Nat) ∧ getL [(0 : Nat), (1 : Nat)] (0 : Nat) = some (0 : Nat) ∧ (0 : Nat) = (0 : Nat) ∧ (32 : Nat) * c = (32 : Nat) * c ∧ getL [(0 : Nat), (1 : Nat)] (1 : Nat) = some (1 : Nat) ∧ (32 : Nat) = (32 : Nat) ∧ c = c ∧ Value.int IntKind.i64 (↑c : Int) = Value.int IntKind.i64 (↑c : Int) ∧ Value.int IntKind.i64 (IntKind.wrap IntKind.i64 ((↑(Subtype.val x) : Int) + (1 : Int))) = Value.int IntKind.i64 (↑(Subtype.val y) : Int) ∧ (5 : Nat) = (5 : Nat) ∧ (1 : Nat) = (1 : Nat) ∧ keyA salt secret (strL info) c = keyA salt secret (strL info) c ∧ (25 : Nat) = (25 : Nat) ∧ (32 : Nat) = (32 : Nat) ∧ lay (kysB (keyA salt secret (strL info) c) c (Subtype.val x)) (Int.toNat (↑(Subtype.val x) : Int) * (32 : Nat)) (List.take (32 : Nat) (List.drop ((0 : Nat) + Int.toNat (IntKind.wrap IntKind.i64 ((↑(Subtype.val x) : Int) * (32 : Int)))) (keyA salt secret (strL info) c))) = kysB (keyA salt secret (strL info) c) c (Subtype.val y)) ∧ c - Subtype.val y < c - Subtype.val x else true = true ∧ true = true ∧ (54 : Nat) = (54 : Nat) ∧ (25 : Nat) = (25 : Nat) ∧ (32 : Nat) = (32 : Nat) ∧ kysB (keyA salt secret (strL info) c) c (Subtype.val x) = kysB (keyA salt secret (strL info) c) c c ∧ getL (ClN.ren (kMKeys (n, salt, m, secret, info, c))) (0 : Nat) = some (1 : Nat) ∧ (32 : Nat) = (32 : Nat) ∧ c = c ∧ Value.int IntKind.i64 (0 : Int) = Value.int IntKind.i64 (0 : Int)) := by kernel_rfl

set_option maxHeartbeats 8000000 in
theorem wpMKeys (n : Nat) (salt : List Int) (m : Nat) (secret : List Int) (info : ByteArray) (c : Nat) (h1 : salt.length = n) (h2 : n ≤ 140737488355328) (h3 : secret.length = m) (h4 : m ≤ 35184372088832) (h5 : info.size ≤ 35184372088832) (h6 : 0 < c) (h7 : c ≤ 255) : wpE (FMKeys n salt m secret info c) (Tryd.f16.body.getD .skip) ⟨Tryd.f16.ntmps, slotsOf 0 (kMKeys (n, salt, m, secret, info, c)).avs, (kMKeys (n, salt, m, secret, info, c)).mem⟩ (finK Tryd.prog Tryd.f16.results.toList (postN (kMKeys (n, salt, m, secret, info, c)))) := by
  with_reducible refine Eq.mpr (vcMKeys n salt m secret info c) ?_
  have e1 : IntKind.wrap .i64 ((c : Int) * 32) = ((32 * c : Nat) : Int) := by rw [IntKind.wrap_i64]; omega
  have fl : ∀ l : List Int, (List.flatten [l]).length = l.length := fun l => by rw [List.flatten_cons, List.flatten_nil, List.append_nil]
  have hq : (32 * c + 31) / 32 = c := by omega
  have hs := strL_len info
  have hb : (keyA salt secret (strL info) c).length = 32 * c := expA_len _ _ c
  have hky := @kysB_len _ _ hb
  simp only [e1, Int.toNat_natCast, Nat.zero_add, fl, hq]
  rw [decide_eq_false (show ¬ (255 : Int) < (c : Int) by omega), cond_false]
  and_intros
  all_goals try omega
  all_goals try exact True.intro
  all_goals try with_reducible rfl
  all_goals try with_reducible assumption
  · refine ⟨⟨0, Nat.zero_le _⟩, ?_⟩
    and_intros <;> first | exact True.intro | omega | with_reducible rfl | (show List.replicate (c * 32) (0 : Int) = List.replicate (32 * c) 0; rw [Nat.mul_comm]) | kernel_rfl
  · rintro ⟨j, hj⟩
    have hk := hky j hj
    dsimp only
    by_cases hg : (j : Int) < (c : Int)
    · rw [decide_eq_true hg, cond_true]
      have w1 : IntKind.wrap .i64 ((j : Int) + 1) = ((j + 1 : Nat) : Int) := by rw [IntKind.wrap_i64]; omega
      have w2 : IntKind.wrap .i64 (((j + 1 : Nat) : Int) * 32) = ((32 * (j + 1) : Nat) : Int) := by rw [IntKind.wrap_i64]; omega
      have w3 : IntKind.wrap .i64 ((j : Int) * 32) = ((32 * j : Nat) : Int) := by rw [IntKind.wrap_i64]; omega
      simp only [w1, w2, w3, Int.toNat_natCast, Nat.mul_comm j 32]
      and_intros
      all_goals try omega
      all_goals try exact True.intro
      all_goals try with_reducible rfl
      refine ⟨⟨j + 1, by omega⟩, ?_⟩
      and_intros <;> first | exact True.intro | with_reducible rfl | (show c - (j + 1) < c - j; omega) | kernel_rfl
    · rw [decide_eq_false hg, cond_false]
      have e : j = c := by omega
      subst e
      and_intros <;> first | exact True.intro | with_reducible rfl | kernel_rfl
set_option maxHeartbeats 8000000 in
theorem cMKeys_ok : SpecOK Tryd.prog cMKeys := by
  refine callG_ok (c := Tryd.f16.body.getD .skip) mixed Tryd.func16 (by kernel_rfl) rfl (fun x hob => ?_)
  obtain ⟨n, salt, m, secret, info, c⟩ := x
  have hob : (salt.length = n) ∧ (n ≤ 140737488355328) ∧ (secret.length = m) ∧ (m ≤ 35184372088832) ∧ (info.size ≤ 35184372088832) ∧ (0 < c) ∧ (c ≤ 255) := hob
  obtain ⟨h1, h2, h3, h4, h5, h6, h7⟩ := hob
  exact ⟨FMKeys n salt m secret info c, rfl, evOKs ⟨.inl ⟨cMExtr_ok, by kernel_rfl, gl_sub (by first | exact .inl rfl | exact .inr rfl)⟩, ⟨.inl ⟨cMExp_ok, by kernel_rfl, gl_sub (by first | exact .inl rfl | exact .inr rfl)⟩, trivial⟩⟩, rfl, rfl, by with_reducible exact wpMKeys n salt m secret info c h1 h2 h3 h4 h5 h6 h7⟩
end Go.Proofs.YthhjcpiaoempfaaDoor
