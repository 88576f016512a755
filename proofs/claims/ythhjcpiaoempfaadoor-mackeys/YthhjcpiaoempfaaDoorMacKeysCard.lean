/-
  MacKeys.
-/
/-
  MacKeys: for every input the law returns true; each argument reads behind the call as it read before (the tied card). The listed variables are tied to the program's text; the card says nothing of packages outside the seat's pruned copy.
-/
import Derived.Test.YthhjcpiaoempfaaDoorK1
import Derived.Test.YthhjcpiaoempfaaDoorM6
import Derived.Test.YthhjcpiaoempfaaDoorR6m
import Derived.Test.YthhjcpiaoempfaaDoorRows
import Derived.Test.YthhjcpiaoempfaaDoorCards
import Derived.Test.YthhjcpiaoempfaaDoorTie
import Derived.Test.YthhjcpiaoempfaaDoorHOpen
import Derived.Test.YthhjcpiaoempfaaDoorOy
namespace Go.Proofs.YthhjcpiaoempfaaDoor
open Go.RowKit
set_option maxRecDepth 100000

noncomputable def stLK (z : List Int) (c i : Nat) : St := ⟨Tryd.f5.ntmps, [(7, .o (.c (.os 0 32 c))), (9, .o (.c (.os 1 32 c))), (57, vv (.int .i64 (c : Int))), (58, vv (.int .i64 (i : Int)))], [.grow 25 32 (.i .u8 z), .grow 25 32 (.i .u8 z)]⟩
def zK (salt secret : List Int) (c : Nat) : List Int := outS (keyT (bstr salt) (bstr secret) ⟨#[105, 110, 102, 111]⟩ c) c
def fcKysN (d : Nat) : Option Bool := bif Nat.beq d 54 || Nat.beq d 69 then some false else bif Nat.beq d 25 then some false else none
def kKysN : Nat × (List Int) × Nat × (List Int) × Int → ClN := fun (n, salt, m, secret, c) => ⟨[.o (.c (.rs 1 n (.i .u8 salt))), .o (.c (.rs 1 m (.i .u8 secret))), vv (.int .i64 c)], [], vv (.bool true), [], [], [salt.length = n, secret.length = m, n ≤ 140737488355328, m ≤ 140737488355328, (∀ x ∈ salt, B8 x), (∀ x ∈ secret, B8 x), c < 0]⟩
noncomputable def FKysN : FnE := ⟨mkEv Tryd.prog tabH [cLKnown, cMKeysN, cRKeysN] 0 fcKysN, [0, 1, 2, 6, 7, 8, 9, 10, 11, 13, 29, 55, 57, 58, 59, 69], fun _ _ => .rounds 1⟩
theorem vcKysN (n : Nat) (salt : List Int) (m : Nat) (secret : List Int) (c : Int) : (wpE FKysN (Tryd.f5.body.getD .skip) ⟨Tryd.f5.ntmps, slotsOf 0 (kKysN (n, salt, m, secret, c)).avs, (kKysN (n, salt, m, secret, c)).mem⟩ (finK Tryd.prog Tryd.f5.results.toList (postN (kKysN (n, salt, m, secret, c))))) = (let x1 := if (100 : Int) < (↑n : Int) then (100 : Int) else (↑n : Int); let x2 := if (100 : Int) < (↑m : Int) then (100 : Int) else (↑m : Int); let x3 := List.take (Int.toNat x1) (List.drop (0 : Nat) salt); let x4 := List.take (Int.toNat x2) (List.drop (0 : Nat) secret); true = true ∧ (0 : Int) ≤ x1 ∧ Int.toNat x1 ≤ n ∧ (0 : Int) ≤ x2 ∧ Int.toNat x2 ≤ m ∧ decide ((9 : Int) < c) = false ∧ true = true ∧ true = true ∧ Int.toNat x1 = Int.toNat x1 ∧ x3 = x3 ∧ true = true ∧ Int.toNat x2 = Int.toNat x2 ∧ x4 = x4 ∧ Value.string { data := #[OfNat.ofNat (105 : Nat), OfNat.ofNat (110 : Nat), OfNat.ofNat (102 : Nat), OfNat.ofNat (111 : Nat)] } = Value.string { data := #[OfNat.ofNat (105 : Nat), OfNat.ofNat (110 : Nat), OfNat.ofNat (102 : Nat), OfNat.ofNat (111 : Nat)] } ∧ Value.int IntKind.i64 c = Value.int IntKind.i64 c ∧ c < (0 : Int) ∧ true = true ∧ Value.string (bstr x3) = Value.string (bstr x3) ∧ Value.string (bstr x4) = Value.string (bstr x4) ∧ Value.string { data := #[OfNat.ofNat (105 : Nat), OfNat.ofNat (110 : Nat), OfNat.ofNat (102 : Nat), OfNat.ofNat (111 : Nat)] } = Value.string { data := #[OfNat.ofNat (105 : Nat), OfNat.ofNat (110 : Nat), OfNat.ofNat (102 : Nat), OfNat.ofNat (111 : Nat)] } ∧ Value.int IntKind.i64 c = Value.int IntKind.i64 c ∧ c < (0 : Int) ∧ false = false ∧ true = true ∧ true = true ∧ (71 : Nat) = (71 : Nat) ∧ Value.bool true = Value.bool true) := by kernel_rfl

set_option maxHeartbeats 8000000 in
theorem wpKysN (n : Nat) (salt : List Int) (m : Nat) (secret : List Int) (c : Int) (h1 : salt.length = n) (h2 : secret.length = m) (h3 : n ≤ 140737488355328) (h4 : m ≤ 140737488355328) (_h5 : (∀ x ∈ salt, B8 x)) (_h6 : (∀ x ∈ secret, B8 x)) (h7 : c < 0) : wpE FKysN (Tryd.f5.body.getD .skip) ⟨Tryd.f5.ntmps, slotsOf 0 (kKysN (n, salt, m, secret, c)).avs, (kKysN (n, salt, m, secret, c)).mem⟩ (finK Tryd.prog Tryd.f5.results.toList (postN (kKysN (n, salt, m, secret, c)))) := by
  with_reducible refine Eq.mpr (vcKysN n salt m secret c) ?_
  have e1 : (if (100 : Int) < (n : Int) then (100 : Int) else (n : Int)) = ((min n 100 : Nat) : Int) := by split <;> omega
  have e2 : (if (100 : Int) < (m : Int) then (100 : Int) else (m : Int)) = ((min m 100 : Nat) : Int) := by split <;> omega
  have lS : (salt.take (min n 100)).length = min n 100 := by rw [List.length_take]; omega
  have lB : (secret.take (min m 100)).length = min m 100 := by rw [List.length_take]; omega
  have s1 : (bstr (salt.take (min n 100))).size = min n 100 := by rw [bstr_size, lS]
  have s2 : (bstr (secret.take (min m 100))).size = min m 100 := by rw [bstr_size, lB]
  have d1 : decide ((9 : Int) < c) = false := decide_eq_false (by omega)
  simp only [e1, e2, Int.toNat_natCast, List.drop_zero]
  and_intros
  all_goals try exact True.intro
  all_goals try with_reducible rfl
  all_goals try with_reducible assumption
  all_goals try omega
  all_goals try kernel_rfl
set_option maxHeartbeats 8000000 in
theorem lwKysN (n : Nat) (salt : List Int) (m : Nat) (secret : List Int) (c : Int) (h1 : salt.length = n) (h2 : secret.length = m) (h3 : n ≤ 140737488355328) (h4 : m ≤ 140737488355328) (h5 : (∀ x ∈ salt, B8 x)) (h6 : (∀ x ∈ secret, B8 x)) (h7 : c < 0) {W : World} {vs : List Value} (hgl : ∀ g l, (g, l) ∈ (tabH : List (Nat × L)) → Lies (cxL W (tabH)) g 0 l) (hD : All2 (DA (cxL W (tabH)) be0) (kKysN (n, salt, m, secret, c)).avs vs) : Calls Tryd.prog 5 vs.toArray W (fun e W' => e = .returned (.bool true) ∧ Upd (fun _ => False) W W') :=
  law_calls (F := FKysN) (fn := Tryd.f5) (c := Tryd.f5.body.getD .skip) (k := kKysN (n, salt, m, secret, c)) rfl (evOKs ⟨.inl ⟨cLKnown_ok, by kernel_rfl, gl_sub (by first | exact .inl rfl | exact .inr rfl)⟩, ⟨.inl ⟨cMKeysN_ok, by kernel_rfl, gl_sub (by first | exact .inl rfl | exact .inr rfl)⟩, ⟨.inl ⟨cRKeysN_ok, by kernel_rfl, gl_sub (by first | exact .inl rfl | exact .inr rfl)⟩, trivial⟩⟩⟩) mixed rfl hgl Tryd.func5 (by kernel_rfl) rfl rfl hD (by kernel_rfl) (by with_reducible exact wpKysN n salt m secret c h1 h2 h3 h4 h5 h6 h7)

def fcKysB (d : Nat) : Option Bool := bif Nat.beq d 54 || Nat.beq d 69 then some false else bif Nat.beq d 25 then some true else bif Nat.beq d 28 then some false else none
def kKysB : Nat × (List Int) × Nat × (List Int) × Int → ClN := fun (n, salt, m, secret, c) => ⟨[.o (.c (.rs 1 n (.i .u8 salt))), .o (.c (.rs 1 m (.i .u8 secret))), vv (.int .i64 c)], [], vv (.bool true), [], [], [salt.length = n, secret.length = m, n ≤ 140737488355328, m ≤ 140737488355328, (∀ x ∈ salt, B8 x), (∀ x ∈ secret, B8 x), 255 < c]⟩
noncomputable def FKysB : FnE := ⟨mkEv Tryd.prog tabH [cLKnown, cMKeysB, cRKeysB] 0 fcKysB, [0, 1, 2, 6, 7, 8, 9, 10, 11, 13, 29, 55, 57, 58, 59, 69], fun _ _ => .rounds 1⟩
theorem vcKysB (n : Nat) (salt : List Int) (m : Nat) (secret : List Int) (c : Int) : (wpE FKysB (Tryd.f5.body.getD .skip) ⟨Tryd.f5.ntmps, slotsOf 0 (kKysB (n, salt, m, secret, c)).avs, (kKysB (n, salt, m, secret, c)).mem⟩ (finK Tryd.prog Tryd.f5.results.toList (postN (kKysB (n, salt, m, secret, c))))) = (let x1 := if (100 : Int) < (↑n : Int) then (100 : Int) else (↑n : Int); let x2 := if (100 : Int) < (↑m : Int) then (100 : Int) else (↑m : Int); let x3 := List.take (Int.toNat x1) (List.drop (0 : Nat) salt); let x4 := List.take (Int.toNat x2) (List.drop (0 : Nat) secret); true = true ∧ (0 : Int) ≤ x1 ∧ Int.toNat x1 ≤ n ∧ (0 : Int) ≤ x2 ∧ Int.toNat x2 ≤ m ∧ decide ((9 : Int) < c) = true ∧ decide (c ≤ (255 : Int)) = false ∧ true = true ∧ true = true ∧ Int.toNat x1 = Int.toNat x1 ∧ x3 = x3 ∧ true = true ∧ Int.toNat x2 = Int.toNat x2 ∧ x4 = x4 ∧ Value.string { data := #[OfNat.ofNat (105 : Nat), OfNat.ofNat (110 : Nat), OfNat.ofNat (102 : Nat), OfNat.ofNat (111 : Nat)] } = Value.string { data := #[OfNat.ofNat (105 : Nat), OfNat.ofNat (110 : Nat), OfNat.ofNat (102 : Nat), OfNat.ofNat (111 : Nat)] } ∧ Value.int IntKind.i64 c = Value.int IntKind.i64 c ∧ (255 : Int) < c ∧ true = true ∧ Value.string (bstr x3) = Value.string (bstr x3) ∧ Value.string (bstr x4) = Value.string (bstr x4) ∧ Value.string { data := #[OfNat.ofNat (105 : Nat), OfNat.ofNat (110 : Nat), OfNat.ofNat (102 : Nat), OfNat.ofNat (111 : Nat)] } = Value.string { data := #[OfNat.ofNat (105 : Nat), OfNat.ofNat (110 : Nat), OfNat.ofNat (102 : Nat), OfNat.ofNat (111 : Nat)] } ∧ Value.int IntKind.i64 c = Value.int IntKind.i64 c ∧ (255 : Int) < c ∧ false = false ∧ true = true ∧ true = true ∧ (71 : Nat) = (71 : Nat) ∧ Value.bool true = Value.bool true) := by kernel_rfl

set_option maxHeartbeats 8000000 in
theorem wpKysB (n : Nat) (salt : List Int) (m : Nat) (secret : List Int) (c : Int) (h1 : salt.length = n) (h2 : secret.length = m) (h3 : n ≤ 140737488355328) (h4 : m ≤ 140737488355328) (_h5 : (∀ x ∈ salt, B8 x)) (_h6 : (∀ x ∈ secret, B8 x)) (h7 : 255 < c) : wpE FKysB (Tryd.f5.body.getD .skip) ⟨Tryd.f5.ntmps, slotsOf 0 (kKysB (n, salt, m, secret, c)).avs, (kKysB (n, salt, m, secret, c)).mem⟩ (finK Tryd.prog Tryd.f5.results.toList (postN (kKysB (n, salt, m, secret, c)))) := by
  with_reducible refine Eq.mpr (vcKysB n salt m secret c) ?_
  have e1 : (if (100 : Int) < (n : Int) then (100 : Int) else (n : Int)) = ((min n 100 : Nat) : Int) := by split <;> omega
  have e2 : (if (100 : Int) < (m : Int) then (100 : Int) else (m : Int)) = ((min m 100 : Nat) : Int) := by split <;> omega
  have lS : (salt.take (min n 100)).length = min n 100 := by rw [List.length_take]; omega
  have lB : (secret.take (min m 100)).length = min m 100 := by rw [List.length_take]; omega
  have s1 : (bstr (salt.take (min n 100))).size = min n 100 := by rw [bstr_size, lS]
  have s2 : (bstr (secret.take (min m 100))).size = min m 100 := by rw [bstr_size, lB]
  have d1 : decide ((9 : Int) < c) = true := decide_eq_true (by omega)
  have d2 : decide (c ≤ (255 : Int)) = false := decide_eq_false (by omega)
  simp only [e1, e2, Int.toNat_natCast, List.drop_zero]
  and_intros
  all_goals try exact True.intro
  all_goals try with_reducible rfl
  all_goals try with_reducible assumption
  all_goals try omega
  all_goals try kernel_rfl
set_option maxHeartbeats 8000000 in
theorem lwKysB (n : Nat) (salt : List Int) (m : Nat) (secret : List Int) (c : Int) (h1 : salt.length = n) (h2 : secret.length = m) (h3 : n ≤ 140737488355328) (h4 : m ≤ 140737488355328) (h5 : (∀ x ∈ salt, B8 x)) (h6 : (∀ x ∈ secret, B8 x)) (h7 : 255 < c) {W : World} {vs : List Value} (hgl : ∀ g l, (g, l) ∈ (tabH : List (Nat × L)) → Lies (cxL W (tabH)) g 0 l) (hD : All2 (DA (cxL W (tabH)) be0) (kKysB (n, salt, m, secret, c)).avs vs) : Calls Tryd.prog 5 vs.toArray W (fun e W' => e = .returned (.bool true) ∧ Upd (fun _ => False) W W') :=
  law_calls (F := FKysB) (fn := Tryd.f5) (c := Tryd.f5.body.getD .skip) (k := kKysB (n, salt, m, secret, c)) rfl (evOKs ⟨.inl ⟨cLKnown_ok, by kernel_rfl, gl_sub (by first | exact .inl rfl | exact .inr rfl)⟩, ⟨.inl ⟨cMKeysB_ok, by kernel_rfl, gl_sub (by first | exact .inl rfl | exact .inr rfl)⟩, ⟨.inl ⟨cRKeysB_ok, by kernel_rfl, gl_sub (by first | exact .inl rfl | exact .inr rfl)⟩, trivial⟩⟩⟩) mixed rfl hgl Tryd.func5 (by kernel_rfl) rfl rfl hD (by kernel_rfl) (by with_reducible exact wpKysB n salt m secret c h1 h2 h3 h4 h5 h6 h7)

def fcKys0 (d : Nat) : Option Bool := bif Nat.beq d 54 || Nat.beq d 69 then some false else bif Nat.beq d 25 then some false else none
def kKys0 : Nat × (List Int) × Nat × (List Int) → ClN := fun (n, salt, m, secret) => ⟨[.o (.c (.rs 1 n (.i .u8 salt))), .o (.c (.rs 1 m (.i .u8 secret))), vv (.int .i64 0)], [], vv (.bool true), [], [], [salt.length = n, secret.length = m, n ≤ 140737488355328, m ≤ 140737488355328, (∀ x ∈ salt, B8 x), (∀ x ∈ secret, B8 x)]⟩
noncomputable def FKys0 : FnE := ⟨mkEv Tryd.prog tabH [cLKnown, cMKeys0, cRKeys0] 0 fcKys0, [0, 1, 2, 6, 7, 8, 9, 10, 11, 13, 29, 55, 57, 58, 59, 69], fun _ _ => .rounds 1⟩
theorem vcKys0 (n : Nat) (salt : List Int) (m : Nat) (secret : List Int) : (wpE FKys0 (Tryd.f5.body.getD .skip) ⟨Tryd.f5.ntmps, slotsOf 0 (kKys0 (n, salt, m, secret)).avs, (kKys0 (n, salt, m, secret)).mem⟩ (finK Tryd.prog Tryd.f5.results.toList (postN (kKys0 (n, salt, m, secret))))) = (let x1 := if (100 : Int) < (↑n : Int) then (100 : Int) else (↑n : Int); let x2 := if (100 : Int) < (↑m : Int) then (100 : Int) else (↑m : Int); let x3 := List.take (Int.toNat x1) (List.drop (0 : Nat) salt); let x4 := List.take (Int.toNat x2) (List.drop (0 : Nat) secret); let x5 := bstr x3; let x6 := bstr x4; true = true ∧ (0 : Int) ≤ x1 ∧ Int.toNat x1 ≤ n ∧ (0 : Int) ≤ x2 ∧ Int.toNat x2 ≤ m ∧ decide ((9 : Int) < (0 : Int)) = false ∧ true = true ∧ true = true ∧ Int.toNat x1 = Int.toNat x1 ∧ x3 = x3 ∧ true = true ∧ Int.toNat x2 = Int.toNat x2 ∧ x4 = x4 ∧ Value.string { data := #[OfNat.ofNat (105 : Nat), OfNat.ofNat (110 : Nat), OfNat.ofNat (102 : Nat), OfNat.ofNat (111 : Nat)] } = Value.string { data := #[OfNat.ofNat (105 : Nat), OfNat.ofNat (110 : Nat), OfNat.ofNat (102 : Nat), OfNat.ofNat (111 : Nat)] } ∧ Value.int IntKind.i64 (0 : Int) = Value.int IntKind.i64 (0 : Int) ∧ List.length x3 = Int.toNat x1 ∧ Int.toNat x1 ≤ (140737488355328 : Nat) ∧ List.length x4 = Int.toNat x2 ∧ Int.toNat x2 ≤ (35184372088832 : Nat) ∧ (4 : Nat) ≤ (35184372088832 : Nat) ∧ true = true ∧ Value.string x5 = Value.string x5 ∧ Value.string x6 = Value.string x6 ∧ Value.string { data := #[OfNat.ofNat (105 : Nat), OfNat.ofNat (110 : Nat), OfNat.ofNat (102 : Nat), OfNat.ofNat (111 : Nat)] } = Value.string { data := #[OfNat.ofNat (105 : Nat), OfNat.ofNat (110 : Nat), OfNat.ofNat (102 : Nat), OfNat.ofNat (111 : Nat)] } ∧ Value.int IntKind.i64 (0 : Int) = Value.int IntKind.i64 (0 : Int) ∧ ByteArray.size x5 ≤ (17592186044416 : Nat) ∧ ByteArray.size x6 ≤ (17592186044416 : Nat) ∧ (4 : Nat) ≤ (4398046511104 : Nat) ∧ false = false ∧ true = true ∧ true = true ∧ (71 : Nat) = (71 : Nat) ∧ Value.bool true = Value.bool true) := by kernel_rfl

set_option maxHeartbeats 8000000 in
theorem wpKys0 (n : Nat) (salt : List Int) (m : Nat) (secret : List Int) (h1 : salt.length = n) (h2 : secret.length = m) (h3 : n ≤ 140737488355328) (h4 : m ≤ 140737488355328) (_h5 : (∀ x ∈ salt, B8 x)) (_h6 : (∀ x ∈ secret, B8 x)) : wpE FKys0 (Tryd.f5.body.getD .skip) ⟨Tryd.f5.ntmps, slotsOf 0 (kKys0 (n, salt, m, secret)).avs, (kKys0 (n, salt, m, secret)).mem⟩ (finK Tryd.prog Tryd.f5.results.toList (postN (kKys0 (n, salt, m, secret)))) := by
  with_reducible refine Eq.mpr (vcKys0 n salt m secret) ?_
  have e1 : (if (100 : Int) < (n : Int) then (100 : Int) else (n : Int)) = ((min n 100 : Nat) : Int) := by split <;> omega
  have e2 : (if (100 : Int) < (m : Int) then (100 : Int) else (m : Int)) = ((min m 100 : Nat) : Int) := by split <;> omega
  have lS : (salt.take (min n 100)).length = min n 100 := by rw [List.length_take]; omega
  have lB : (secret.take (min m 100)).length = min m 100 := by rw [List.length_take]; omega
  have s1 : (bstr (salt.take (min n 100))).size = min n 100 := by rw [bstr_size, lS]
  have s2 : (bstr (secret.take (min m 100))).size = min m 100 := by rw [bstr_size, lB]
  simp only [e1, e2, Int.toNat_natCast, List.drop_zero]
  and_intros
  all_goals try exact True.intro
  all_goals try with_reducible rfl
  all_goals try with_reducible assumption
  all_goals try omega
  all_goals try kernel_rfl
set_option maxHeartbeats 8000000 in
theorem lwKys0 (n : Nat) (salt : List Int) (m : Nat) (secret : List Int) (h1 : salt.length = n) (h2 : secret.length = m) (h3 : n ≤ 140737488355328) (h4 : m ≤ 140737488355328) (h5 : (∀ x ∈ salt, B8 x)) (h6 : (∀ x ∈ secret, B8 x)) {W : World} {vs : List Value} (hgl : ∀ g l, (g, l) ∈ (tabH : List (Nat × L)) → Lies (cxL W (tabH)) g 0 l) (hD : All2 (DA (cxL W (tabH)) be0) (kKys0 (n, salt, m, secret)).avs vs) : Calls Tryd.prog 5 vs.toArray W (fun e W' => e = .returned (.bool true) ∧ Upd (fun _ => False) W W') :=
  law_calls (F := FKys0) (fn := Tryd.f5) (c := Tryd.f5.body.getD .skip) (k := kKys0 (n, salt, m, secret)) rfl (evOKs ⟨.inl ⟨cLKnown_ok, by kernel_rfl, gl_sub (by first | exact .inl rfl | exact .inr rfl)⟩, ⟨.inl ⟨cMKeys0_ok, by kernel_rfl, gl_sub (by first | exact .inl rfl | exact .inr rfl)⟩, ⟨.inl ⟨cRKeys0_ok, by kernel_rfl, gl_sub (by first | exact .inl rfl | exact .inr rfl)⟩, trivial⟩⟩⟩) mixed rfl hgl Tryd.func5 (by kernel_rfl) rfl rfl hD (by kernel_rfl) (by with_reducible exact wpKys0 n salt m secret h1 h2 h3 h4 h5 h6)

def fcKys1 (d : Nat) : Option Bool := bif Nat.beq d 54 || Nat.beq d 69 then some false else bif Nat.beq d 25 then some false else none
def kKys1 : Nat × (List Int) × Nat × (List Int) × Nat → ClN := fun (n, salt, m, secret, c) => ⟨[.o (.c (.rs 1 n (.i .u8 salt))), .o (.c (.rs 1 m (.i .u8 secret))), vv (.int .i64 (c : Int))], [], vv (.bool true), [], [], [salt.length = n, secret.length = m, n ≤ 140737488355328, m ≤ 140737488355328, (∀ x ∈ salt, B8 x), (∀ x ∈ secret, B8 x), 0 < c, c ≤ 9]⟩
noncomputable def FKys1 (n : Nat) (salt : List Int) (m : Nat) (secret : List Int) (c : Nat) : FnE := ⟨mkEv Tryd.prog tabH [cLKnown, cMKeys, cRKeys] 0 fcKys1, [0, 1, 2, 6, 7, 8, 9, 10, 11, 13, 29, 55, 57, 58, 59, 69], fun _ _ => .inv { i : Nat // i ≤ c } (fun i => stLK (zK (salt.take (min n 100)) (secret.take (min m 100)) c) c i.val) (fun i => c - i.val) [0, 1] [0, 1]⟩
theorem vcKys1 (n : Nat) (salt : List Int) (m : Nat) (secret : List Int) (c : Nat) : (wpE (FKys1 n salt m secret c) (Tryd.f5.body.getD .skip) ⟨Tryd.f5.ntmps, slotsOf 0 (kKys1 (n, salt, m, secret, c)).avs, (kKys1 (n, salt, m, secret, c)).mem⟩ (finK Tryd.prog Tryd.f5.results.toList (postN (kKys1 (n, salt, m, secret, c))))) = (let x1 := if (100 : Int) < (↑n : Int) then (100 : Int) else (↑n : Int); let x2 := if (100 : Int) < (↑m : Int) then (100 : Int) else (↑m : Int); let x3 := List.take (Int.toNat x1) (List.drop (0 : Nat) salt); let x4 := List.take (Int.toNat x2) (List.drop (0 : Nat) secret); let x5 := bstr x3; let x6 := bstr x4; let x7 := zK (List.take (min n (100 : Nat)) salt) (List.take (min m (100 : Nat)) secret) c; true = true ∧ (0 : Int) ≤ x1 ∧ Int.toNat x1 ≤ n ∧ (0 : Int) ≤ x2 ∧ Int.toNat x2 ≤ m ∧ decide ((9 : Int) < (↑c : Int)) = false ∧ true = true ∧ true = true ∧ Int.toNat x1 = Int.toNat x1 ∧ x3 = x3 ∧ true = true ∧ Int.toNat x2 = Int.toNat x2 ∧ x4 = x4 ∧ Value.string { data := #[OfNat.ofNat (105 : Nat), OfNat.ofNat (110 : Nat), OfNat.ofNat (102 : Nat), OfNat.ofNat (111 : Nat)] } = Value.string { data := #[OfNat.ofNat (105 : Nat), OfNat.ofNat (110 : Nat), OfNat.ofNat (102 : Nat), OfNat.ofNat (111 : Nat)] } ∧ Value.int IntKind.i64 (↑c : Int) = Value.int IntKind.i64 (↑(Int.toNat (↑c : Int)) : Int) ∧ List.length x3 = Int.toNat x1 ∧ Int.toNat x1 ≤ (140737488355328 : Nat) ∧ List.length x4 = Int.toNat x2 ∧ Int.toNat x2 ≤ (35184372088832 : Nat) ∧ (4 : Nat) ≤ (35184372088832 : Nat) ∧ (0 : Nat) < Int.toNat (↑c : Int) ∧ Int.toNat (↑c : Int) ≤ (255 : Nat) ∧ true = true ∧ Value.string x5 = Value.string x5 ∧ Value.string x6 = Value.string x6 ∧ Value.string { data := #[OfNat.ofNat (105 : Nat), OfNat.ofNat (110 : Nat), OfNat.ofNat (102 : Nat), OfNat.ofNat (111 : Nat)] } = Value.string { data := #[OfNat.ofNat (105 : Nat), OfNat.ofNat (110 : Nat), OfNat.ofNat (102 : Nat), OfNat.ofNat (111 : Nat)] } ∧ Value.int IntKind.i64 (↑c : Int) = Value.int IntKind.i64 (↑(Int.toNat (↑c : Int)) : Int) ∧ ByteArray.size x5 ≤ (17592186044416 : Nat) ∧ ByteArray.size x6 ≤ (17592186044416 : Nat) ∧ (4 : Nat) ≤ (4398046511104 : Nat) ∧ (0 : Nat) < Int.toNat (↑c : Int) ∧ Int.toNat (↑c : Int) ≤ (255 : Nat) ∧ (!decide ((↑(Int.toNat (↑c : Int)) : Int) = (↑(Int.toNat (↑c : Int)) : Int))) = false ∧ (∃ (x : { i : Nat // i ≤ c }), true = true ∧ true = true ∧ (71 : Nat) = (71 : Nat) ∧ getL [(0 : Nat), (1 : Nat)] (0 : Nat) = some (nameN [] (Nat.add (Nat.add (Nat.add (0 : Nat) (0 : Nat)) (0 : Nat)) (0 : Nat)) (0 : Nat)) ∧ (32 : Nat) = (32 : Nat) ∧ Int.toNat (↑c : Int) = c ∧ getL [(0 : Nat), (1 : Nat)] (1 : Nat) = some (nameN [] (Nat.add (Nat.add (Nat.add (Nat.add (Nat.add (1 : Nat) (0 : Nat)) (0 : Nat)) (0 : Nat)) (0 : Nat)) (0 : Nat)) (0 : Nat)) ∧ (32 : Nat) = (32 : Nat) ∧ Int.toNat (↑c : Int) = c ∧ Value.int IntKind.i64 (↑(Int.toNat (↑c : Int)) : Int) = Value.int IntKind.i64 (↑c : Int) ∧ Value.int IntKind.i64 (0 : Int) = Value.int IntKind.i64 (↑(Subtype.val x) : Int) ∧ (25 : Nat) = (25 : Nat) ∧ (32 : Nat) = (32 : Nat) ∧ kysB (keyA x3 x4 (strL { data := #[OfNat.ofNat (105 : Nat), OfNat.ofNat (110 : Nat), OfNat.ofNat (102 : Nat), OfNat.ofNat (111 : Nat)] }) (Int.toNat (↑c : Int))) (Int.toNat (↑c : Int)) (Int.toNat (↑c : Int)) = x7 ∧ (25 : Nat) = (25 : Nat) ∧ (32 : Nat) = (32 : Nat) ∧ outS (keyT x5 x6 { data := #[OfNat.ofNat (105 : Nat), OfNat.ofNat (110 : Nat), OfNat.ofNat (102 : Nat), OfNat.ofNat (111 : Nat)] } (Int.toNat (↑c : Int))) (Int.toNat (↑c : Int)) = x7) ∧ ∀ (x : { i : Nat // i ≤ c }), bif decide ((↑(Subtype.val x) : Int) < (↑c : Int)) then (0 : Int) ≤ (↑(Subtype.val x) : Int) ∧ (↑(Subtype.val x) : Int) < (↑c : Int) ∧ Int.toNat (↑(Subtype.val x) : Int) * (32 : Nat) + (32 : Nat) ≤ List.length x7 ∧ (0 : Int) ≤ (↑(Subtype.val x) : Int) ∧ (↑(Subtype.val x) : Int) < (↑c : Int) ∧ Int.toNat (↑(Subtype.val x) : Int) * (32 : Nat) + (32 : Nat) ≤ List.length x7 ∧ (!decide (List.take (32 : Nat) (List.drop (Int.toNat (↑(Subtype.val x) : Int) * (32 : Nat)) x7) = List.take (32 : Nat) (List.drop (Int.toNat (↑(Subtype.val x) : Int) * (32 : Nat)) x7))) = false ∧ ∃ (y : { i : Nat // i ≤ c }), (true = true ∧ true = true ∧ (71 : Nat) = (71 : Nat) ∧ getL [(0 : Nat), (1 : Nat)] (0 : Nat) = some (0 : Nat) ∧ (32 : Nat) = (32 : Nat) ∧ c = c ∧ getL [(0 : Nat), (1 : Nat)] (1 : Nat) = some (1 : Nat) ∧ (32 : Nat) = (32 : Nat) ∧ c = c ∧ Value.int IntKind.i64 (↑c : Int) = Value.int IntKind.i64 (↑c : Int) ∧ Value.int IntKind.i64 (IntKind.wrap IntKind.i64 ((↑(Subtype.val x) : Int) + (1 : Int))) = Value.int IntKind.i64 (↑(Subtype.val y) : Int) ∧ (25 : Nat) = (25 : Nat) ∧ (32 : Nat) = (32 : Nat) ∧ x7 = x7 ∧ (25 : Nat) = (25 : Nat) ∧ (32 : Nat) = (32 : Nat) ∧ x7 = x7) ∧ c - Subtype.val y < c - Subtype.val x else true = true ∧ true = true ∧ (71 : Nat) = (71 : Nat) ∧ Value.bool true = Value.bool true) := by kernel_rfl

set_option maxHeartbeats 8000000 in
theorem wpKys1 (n : Nat) (salt : List Int) (m : Nat) (secret : List Int) (c : Nat) (h1 : salt.length = n) (h2 : secret.length = m) (h3 : n ≤ 140737488355328) (h4 : m ≤ 140737488355328) (h5 : (∀ x ∈ salt, B8 x)) (h6 : (∀ x ∈ secret, B8 x)) (h7 : 0 < c) (h8 : c ≤ 9) : wpE (FKys1 n salt m secret c) (Tryd.f5.body.getD .skip) ⟨Tryd.f5.ntmps, slotsOf 0 (kKys1 (n, salt, m, secret, c)).avs, (kKys1 (n, salt, m, secret, c)).mem⟩ (finK Tryd.prog Tryd.f5.results.toList (postN (kKys1 (n, salt, m, secret, c)))) := by
  with_reducible refine Eq.mpr (vcKys1 n salt m secret c) ?_
  have e1 : (if (100 : Int) < (n : Int) then (100 : Int) else (n : Int)) = ((min n 100 : Nat) : Int) := by split <;> omega
  have e2 : (if (100 : Int) < (m : Int) then (100 : Int) else (m : Int)) = ((min m 100 : Nat) : Int) := by split <;> omega
  have lS : (salt.take (min n 100)).length = min n 100 := by rw [List.length_take]; omega
  have lB : (secret.take (min m 100)).length = min m 100 := by rw [List.length_take]; omega
  have s1 : (bstr (salt.take (min n 100))).size = min n 100 := by rw [bstr_size, lS]
  have s2 : (bstr (secret.take (min m 100))).size = min m 100 := by rw [bstr_size, lB]
  have d1 : decide ((9 : Int) < (c : Int)) = false := decide_eq_false (by omega)
  have lz : (zK (salt.take (min n 100)) (secret.take (min m 100)) c).length = 32 * c := outS_len _ c
  have hk : kysB (keyA (salt.take (min n 100)) (secret.take (min m 100)) (strL ⟨#[105, 110, 102, 111]⟩) c) c c = zK (salt.take (min n 100)) (secret.take (min m 100)) c := keys_eq _ _ ⟨#[105, 110, 102, 111]⟩ c (by omega) (by omega) (show 4 ≤ 4398046511104 by omega) (bys_take h5 _) (bys_take h6 _)
  have hz : outS (keyT (bstr (salt.take (min n 100))) (bstr (secret.take (min m 100))) ⟨#[105, 110, 102, 111]⟩ c) c = zK (salt.take (min n 100)) (secret.take (min m 100)) c := rfl
  have hd : ∀ l : List Int, (!decide (l = l)) = false := fun l => by rw [decide_eq_true rfl]; rfl
  have hn : ∀ l : Int, (!decide (l = l)) = false := fun l => by rw [decide_eq_true rfl]; rfl
  simp only [e1, e2, Int.toNat_natCast, List.drop_zero]
  and_intros
  all_goals try exact True.intro
  all_goals try with_reducible rfl
  all_goals try with_reducible assumption
  all_goals try omega
  all_goals try with_reducible exact hn _
  all_goals try kernel_rfl
  · refine ⟨⟨0, Nat.zero_le _⟩, ?_⟩
    and_intros <;> first | exact True.intro | with_reducible rfl | with_reducible exact hk | with_reducible exact hz | kernel_rfl
  · rintro ⟨i, hi⟩
    dsimp only
    by_cases hg : (i : Int) < (c : Int)
    · rw [decide_eq_true hg, cond_true]
      have w1 : IntKind.wrap .i64 ((i : Int) + 1) = ((i + 1 : Nat) : Int) := by rw [IntKind.wrap_i64]; omega
      simp only [w1]
      and_intros
      all_goals try exact True.intro
      all_goals try with_reducible rfl
      all_goals try omega
      all_goals try with_reducible exact hd _
      all_goals try rfl
      refine ⟨⟨i + 1, by omega⟩, ?_⟩
      and_intros <;> first | exact True.intro | with_reducible rfl | kernel_rfl | (show c - (i + 1) < c - i; omega)
    · rw [decide_eq_false hg, cond_false]
      and_intros <;> first | exact True.intro | with_reducible rfl | kernel_rfl
set_option maxHeartbeats 8000000 in
theorem lwKys1 (n : Nat) (salt : List Int) (m : Nat) (secret : List Int) (c : Nat) (h1 : salt.length = n) (h2 : secret.length = m) (h3 : n ≤ 140737488355328) (h4 : m ≤ 140737488355328) (h5 : (∀ x ∈ salt, B8 x)) (h6 : (∀ x ∈ secret, B8 x)) (h7 : 0 < c) (h8 : c ≤ 9) {W : World} {vs : List Value} (hgl : ∀ g l, (g, l) ∈ (tabH : List (Nat × L)) → Lies (cxL W (tabH)) g 0 l) (hD : All2 (DA (cxL W (tabH)) be0) (kKys1 (n, salt, m, secret, c)).avs vs) : Calls Tryd.prog 5 vs.toArray W (fun e W' => e = .returned (.bool true) ∧ Upd (fun _ => False) W W') :=
  law_calls (F := FKys1 n salt m secret c) (fn := Tryd.f5) (c := Tryd.f5.body.getD .skip) (k := kKys1 (n, salt, m, secret, c)) rfl (evOKs ⟨.inl ⟨cLKnown_ok, by kernel_rfl, gl_sub (by first | exact .inl rfl | exact .inr rfl)⟩, ⟨.inl ⟨cMKeys_ok, by kernel_rfl, gl_sub (by first | exact .inl rfl | exact .inr rfl)⟩, ⟨.inl ⟨cRKeys_ok, by kernel_rfl, gl_sub (by first | exact .inl rfl | exact .inr rfl)⟩, trivial⟩⟩⟩) mixed rfl hgl Tryd.func5 (by kernel_rfl) rfl rfl hD (by kernel_rfl) (by with_reducible exact wpKys1 n salt m secret c h1 h2 h3 h4 h5 h6 h7 h8)

def fcKys9 (d : Nat) : Option Bool := bif Nat.beq d 54 || Nat.beq d 69 then some false else bif Nat.beq d 25 || Nat.beq d 28 then some true else none
def kKys9 : Nat × (List Int) × Nat × (List Int) × Int → ClN := fun (n, salt, m, secret, c) => ⟨[.o (.c (.rs 1 n (.i .u8 salt))), .o (.c (.rs 1 m (.i .u8 secret))), vv (.int .i64 c)], [], vv (.bool true), [], [], [salt.length = n, secret.length = m, n ≤ 140737488355328, m ≤ 140737488355328, (∀ x ∈ salt, B8 x), (∀ x ∈ secret, B8 x), 9 < c, c ≤ 255]⟩
noncomputable def FKys9 (n : Nat) (salt : List Int) (m : Nat) (secret : List Int) (_c : Int) : FnE := ⟨mkEv Tryd.prog tabH [cLKnown, cMKeys, cRKeys] 0 fcKys9, [0, 1, 2, 6, 7, 8, 9, 10, 11, 13, 29, 55, 57, 58, 59, 69], fun _ _ => .inv { i : Nat // i ≤ 9 } (fun i => stLK (zK (salt.take (min n 100)) (secret.take (min m 100)) 9) 9 i.val) (fun i => 9 - i.val) [0, 1] [0, 1]⟩
theorem vcKys9 (n : Nat) (salt : List Int) (m : Nat) (secret : List Int) (c : Int) : (wpE (FKys9 n salt m secret c) (Tryd.f5.body.getD .skip) ⟨Tryd.f5.ntmps, slotsOf 0 (kKys9 (n, salt, m, secret, c)).avs, (kKys9 (n, salt, m, secret, c)).mem⟩ (finK Tryd.prog Tryd.f5.results.toList (postN (kKys9 (n, salt, m, secret, c))))) = (let x1 := if (100 : Int) < (↑n : Int) then (100 : Int) else (↑n : Int); let x2 := if (100 : Int) < (↑m : Int) then (100 : Int) else (↑m : Int); let x3 := List.take (Int.toNat x1) (List.drop (0 : Nat) salt); let x4 := List.take (Int.toNat x2) (List.drop (0 : Nat) secret); let x5 := bstr x3; let x6 := bstr x4; let x7 := zK (List.take (min n (100 : Nat)) salt) (List.take (min m (100 : Nat)) secret) (9 : Nat); true = true ∧ (0 : Int) ≤ x1 ∧ Int.toNat x1 ≤ n ∧ (0 : Int) ≤ x2 ∧ Int.toNat x2 ≤ m ∧ decide ((9 : Int) < c) = true ∧ decide (c ≤ (255 : Int)) = true ∧ true = true ∧ true = true ∧ Int.toNat x1 = Int.toNat x1 ∧ x3 = x3 ∧ true = true ∧ Int.toNat x2 = Int.toNat x2 ∧ x4 = x4 ∧ Value.string { data := #[OfNat.ofNat (105 : Nat), OfNat.ofNat (110 : Nat), OfNat.ofNat (102 : Nat), OfNat.ofNat (111 : Nat)] } = Value.string { data := #[OfNat.ofNat (105 : Nat), OfNat.ofNat (110 : Nat), OfNat.ofNat (102 : Nat), OfNat.ofNat (111 : Nat)] } ∧ Value.int IntKind.i64 (9 : Int) = Value.int IntKind.i64 (9 : Int) ∧ List.length x3 = Int.toNat x1 ∧ Int.toNat x1 ≤ (140737488355328 : Nat) ∧ List.length x4 = Int.toNat x2 ∧ Int.toNat x2 ≤ (35184372088832 : Nat) ∧ (4 : Nat) ≤ (35184372088832 : Nat) ∧ (0 : Nat) < (9 : Nat) ∧ (9 : Nat) ≤ (255 : Nat) ∧ true = true ∧ Value.string x5 = Value.string x5 ∧ Value.string x6 = Value.string x6 ∧ Value.string { data := #[OfNat.ofNat (105 : Nat), OfNat.ofNat (110 : Nat), OfNat.ofNat (102 : Nat), OfNat.ofNat (111 : Nat)] } = Value.string { data := #[OfNat.ofNat (105 : Nat), OfNat.ofNat (110 : Nat), OfNat.ofNat (102 : Nat), OfNat.ofNat (111 : Nat)] } ∧ Value.int IntKind.i64 (9 : Int) = Value.int IntKind.i64 (9 : Int) ∧ ByteArray.size x5 ≤ (17592186044416 : Nat) ∧ ByteArray.size x6 ≤ (17592186044416 : Nat) ∧ (4 : Nat) ≤ (4398046511104 : Nat) ∧ (0 : Nat) < (9 : Nat) ∧ (9 : Nat) ≤ (255 : Nat) ∧ false = false ∧ (∃ (x : { i : Nat // i ≤ (9 : Nat) }), true = true ∧ true = true ∧ (71 : Nat) = (71 : Nat) ∧ getL [(0 : Nat), (1 : Nat)] (0 : Nat) = some (nameN [] (Nat.add (Nat.add (Nat.add (0 : Nat) (0 : Nat)) (0 : Nat)) (0 : Nat)) (0 : Nat)) ∧ (32 : Nat) = (32 : Nat) ∧ (9 : Nat) = (9 : Nat) ∧ getL [(0 : Nat), (1 : Nat)] (1 : Nat) = some (nameN [] (Nat.add (Nat.add (Nat.add (Nat.add (Nat.add (1 : Nat) (0 : Nat)) (0 : Nat)) (0 : Nat)) (0 : Nat)) (0 : Nat)) (0 : Nat)) ∧ (32 : Nat) = (32 : Nat) ∧ (9 : Nat) = (9 : Nat) ∧ Value.int IntKind.i64 (9 : Int) = Value.int IntKind.i64 (9 : Int) ∧ Value.int IntKind.i64 (0 : Int) = Value.int IntKind.i64 (↑(Subtype.val x) : Int) ∧ (25 : Nat) = (25 : Nat) ∧ (32 : Nat) = (32 : Nat) ∧ kysB (keyA x3 x4 (strL { data := #[OfNat.ofNat (105 : Nat), OfNat.ofNat (110 : Nat), OfNat.ofNat (102 : Nat), OfNat.ofNat (111 : Nat)] }) (9 : Nat)) (9 : Nat) (9 : Nat) = x7 ∧ (25 : Nat) = (25 : Nat) ∧ (32 : Nat) = (32 : Nat) ∧ outS (keyT x5 x6 { data := #[OfNat.ofNat (105 : Nat), OfNat.ofNat (110 : Nat), OfNat.ofNat (102 : Nat), OfNat.ofNat (111 : Nat)] } (9 : Nat)) (9 : Nat) = x7) ∧ ∀ (x : { i : Nat // i ≤ (9 : Nat) }), bif decide ((↑(Subtype.val x) : Int) < (9 : Int)) then (0 : Int) ≤ (↑(Subtype.val x) : Int) ∧ (↑(Subtype.val x) : Int) < (9 : Int) ∧ Int.toNat (↑(Subtype.val x) : Int) * (32 : Nat) + (32 : Nat) ≤ (288 : Nat) ∧ (0 : Int) ≤ (↑(Subtype.val x) : Int) ∧ (↑(Subtype.val x) : Int) < (9 : Int) ∧ Int.toNat (↑(Subtype.val x) : Int) * (32 : Nat) + (32 : Nat) ≤ (288 : Nat) ∧ (!decide (List.take (32 : Nat) (List.drop (Int.toNat (↑(Subtype.val x) : Int) * (32 : Nat)) x7) = List.take (32 : Nat) (List.drop (Int.toNat (↑(Subtype.val x) : Int) * (32 : Nat)) x7))) = false ∧ ∃ (y : { i : Nat // i ≤ (9 : Nat) }), (true = true ∧ true = true ∧ (71 : Nat) = (71 : Nat) ∧ getL [(0 : Nat), (1 : Nat)] (0 : Nat) = some (0 : Nat) ∧ (32 : Nat) = (32 : Nat) ∧ (9 : Nat) = (9 : Nat) ∧ getL [(0 : Nat), (1 : Nat)] (1 : Nat) = some (1 : Nat) ∧ (32 : Nat) = (32 : Nat) ∧ (9 : Nat) = (9 : Nat) ∧ Value.int IntKind.i64 (9 : Int) = Value.int IntKind.i64 (9 : Int) ∧ Value.int IntKind.i64 (IntKind.wrap IntKind.i64 ((↑(Subtype.val x) : Int) + (1 : Int))) = Value.int IntKind.i64 (↑(Subtype.val y) : Int) ∧ (25 : Nat) = (25 : Nat) ∧ (32 : Nat) = (32 : Nat) ∧ x7 = x7 ∧ (25 : Nat) = (25 : Nat) ∧ (32 : Nat) = (32 : Nat) ∧ x7 = x7) ∧ (9 : Nat) - Subtype.val y < (9 : Nat) - Subtype.val x else true = true ∧ true = true ∧ (71 : Nat) = (71 : Nat) ∧ Value.bool true = Value.bool true) := by kernel_rfl

set_option maxHeartbeats 8000000 in
theorem wpKys9 (n : Nat) (salt : List Int) (m : Nat) (secret : List Int) (c : Int) (h1 : salt.length = n) (h2 : secret.length = m) (h3 : n ≤ 140737488355328) (h4 : m ≤ 140737488355328) (h5 : (∀ x ∈ salt, B8 x)) (h6 : (∀ x ∈ secret, B8 x)) (h7 : 9 < c) (h8 : c ≤ 255) : wpE (FKys9 n salt m secret c) (Tryd.f5.body.getD .skip) ⟨Tryd.f5.ntmps, slotsOf 0 (kKys9 (n, salt, m, secret, c)).avs, (kKys9 (n, salt, m, secret, c)).mem⟩ (finK Tryd.prog Tryd.f5.results.toList (postN (kKys9 (n, salt, m, secret, c)))) := by
  with_reducible refine Eq.mpr (vcKys9 n salt m secret c) ?_
  have e1 : (if (100 : Int) < (n : Int) then (100 : Int) else (n : Int)) = ((min n 100 : Nat) : Int) := by split <;> omega
  have e2 : (if (100 : Int) < (m : Int) then (100 : Int) else (m : Int)) = ((min m 100 : Nat) : Int) := by split <;> omega
  have lS : (salt.take (min n 100)).length = min n 100 := by rw [List.length_take]; omega
  have lB : (secret.take (min m 100)).length = min m 100 := by rw [List.length_take]; omega
  have s1 : (bstr (salt.take (min n 100))).size = min n 100 := by rw [bstr_size, lS]
  have s2 : (bstr (secret.take (min m 100))).size = min m 100 := by rw [bstr_size, lB]
  have d1 : decide ((9 : Int) < c) = true := decide_eq_true (by omega)
  have d2 : decide (c ≤ (255 : Int)) = true := decide_eq_true (by omega)
  have lz : (zK (salt.take (min n 100)) (secret.take (min m 100)) 9).length = 32 * 9 := outS_len _ 9
  have hk : kysB (keyA (salt.take (min n 100)) (secret.take (min m 100)) (strL ⟨#[105, 110, 102, 111]⟩) 9) 9 9 = zK (salt.take (min n 100)) (secret.take (min m 100)) 9 := keys_eq _ _ ⟨#[105, 110, 102, 111]⟩ 9 (by omega) (by omega) (show 4 ≤ 4398046511104 by omega) (bys_take h5 _) (bys_take h6 _)
  have hz : outS (keyT (bstr (salt.take (min n 100))) (bstr (secret.take (min m 100))) ⟨#[105, 110, 102, 111]⟩ 9) 9 = zK (salt.take (min n 100)) (secret.take (min m 100)) 9 := rfl
  have hd : ∀ l : List Int, (!decide (l = l)) = false := fun l => by rw [decide_eq_true rfl]; rfl
  have hn : ∀ l : Int, (!decide (l = l)) = false := fun l => by rw [decide_eq_true rfl]; rfl
  simp only [e1, e2, Int.toNat_natCast, List.drop_zero]
  and_intros
  all_goals try exact True.intro
  all_goals try with_reducible rfl
  all_goals try with_reducible assumption
  all_goals try omega
  all_goals try with_reducible exact hn _
  all_goals try kernel_rfl
  · refine ⟨⟨0, Nat.zero_le _⟩, ?_⟩
    and_intros <;> first | exact True.intro | with_reducible rfl | with_reducible exact hk | with_reducible exact hz | kernel_rfl
  · rintro ⟨i, hi⟩
    dsimp only
    by_cases hg : (i : Int) < ((9 : Int))
    · rw [decide_eq_true hg, cond_true]
      have w1 : IntKind.wrap .i64 ((i : Int) + 1) = ((i + 1 : Nat) : Int) := by rw [IntKind.wrap_i64]; omega
      simp only [w1]
      and_intros
      all_goals try exact True.intro
      all_goals try with_reducible rfl
      all_goals try omega
      all_goals try with_reducible exact hd _
      all_goals try rfl
      refine ⟨⟨i + 1, by omega⟩, ?_⟩
      and_intros <;> first | exact True.intro | with_reducible rfl | kernel_rfl | (show 9 - (i + 1) < 9 - i; omega)
    · rw [decide_eq_false hg, cond_false]
      and_intros <;> first | exact True.intro | with_reducible rfl | kernel_rfl
set_option maxHeartbeats 8000000 in
theorem lwKys9 (n : Nat) (salt : List Int) (m : Nat) (secret : List Int) (c : Int) (h1 : salt.length = n) (h2 : secret.length = m) (h3 : n ≤ 140737488355328) (h4 : m ≤ 140737488355328) (h5 : (∀ x ∈ salt, B8 x)) (h6 : (∀ x ∈ secret, B8 x)) (h7 : 9 < c) (h8 : c ≤ 255) {W : World} {vs : List Value} (hgl : ∀ g l, (g, l) ∈ (tabH : List (Nat × L)) → Lies (cxL W (tabH)) g 0 l) (hD : All2 (DA (cxL W (tabH)) be0) (kKys9 (n, salt, m, secret, c)).avs vs) : Calls Tryd.prog 5 vs.toArray W (fun e W' => e = .returned (.bool true) ∧ Upd (fun _ => False) W W') :=
  law_calls (F := FKys9 n salt m secret c) (fn := Tryd.f5) (c := Tryd.f5.body.getD .skip) (k := kKys9 (n, salt, m, secret, c)) rfl (evOKs ⟨.inl ⟨cLKnown_ok, by kernel_rfl, gl_sub (by first | exact .inl rfl | exact .inr rfl)⟩, ⟨.inl ⟨cMKeys_ok, by kernel_rfl, gl_sub (by first | exact .inl rfl | exact .inr rfl)⟩, ⟨.inl ⟨cRKeys_ok, by kernel_rfl, gl_sub (by first | exact .inl rfl | exact .inr rfl)⟩, trivial⟩⟩⟩) mixed rfl hgl Tryd.func5 (by kernel_rfl) rfl rfl hD (by kernel_rfl) (by with_reducible exact wpKys9 n salt m secret c h1 h2 h3 h4 h5 h6 h7 h8)

theorem macKeys_any (salt secret : List Int) (n m : Nat) (c : Int) (hs : salt.length = n) (hk : secret.length = m) (hn : n ≤ 140737488355328) (hm : m ≤ 140737488355328) (h5 : ∀ x ∈ salt, B8 x) (h6 : ∀ x ∈ secret, B8 x) {W : World} {u v : Value} (hgl : ∀ g l, (g, l) ∈ tabH → Lies (cxL W tabH) g 0 l)
    (hu : DA (cxL W tabH) be0 (.o (.c (.rs 1 n (.i .u8 salt)))) u) (hv : DA (cxL W tabH) be0 (.o (.c (.rs 1 m (.i .u8 secret)))) v) : Calls Tryd.prog 5 #[u, v, .int .i64 c] W (fun e W' => e = .returned (.bool true) ∧ Upd (fun _ => False) W W') := by
  by_cases a1 : c < 0
  · exact lwKysN n salt m secret c hs hk hn hm h5 h6 a1 (vs := [_, _, _]) hgl ⟨hu, hv, da_int, trivial⟩
  · by_cases a2 : 255 < c
    · exact lwKysB n salt m secret c hs hk hn hm h5 h6 a2 (vs := [_, _, _]) hgl ⟨hu, hv, da_int, trivial⟩
    · by_cases a3 : 9 < c
      · exact lwKys9 n salt m secret c hs hk hn hm h5 h6 a3 (by omega) (vs := [_, _, _]) hgl ⟨hu, hv, da_int, trivial⟩
      · obtain ⟨k, rfl⟩ := Int.eq_ofNat_of_zero_le (Int.not_lt.1 a1)
        by_cases a4 : k = 0
        · subst a4
          exact lwKys0 n salt m secret hs hk hn hm h5 h6 (vs := [_, _, _]) hgl ⟨hu, hv, da_int, trivial⟩
        · exact lwKys1 n salt m secret k hs hk hn hm h5 h6 (by omega) (by omega) (vs := [_, _, _]) hgl ⟨hu, hv, da_int, trivial⟩
end Go.Proofs.YthhjcpiaoempfaaDoor
namespace Go.Proofs.YthhjcpiaoempfaaDoor.macKeys
open Go.ChangeShapes Go.WideShapes Go.ChangeAt Go.RowKit
set_option maxRecDepth 100000

theorem ownK : ownKnob Tryd.prog.godebug = none := by kernel_rfl
theorem laidOutK : laidOutB Tryd.prog = true := by kernel_rfl
theorem contract (H : Type) (enc : TypeId × Value → H) (W : World) (base : Nat) (args : Array Value) (ds gs : List (DataW H)) (before : List MemPlace)
    (hval : ∀ (j : Nat) t v, Tryd.f5.params[j]? = some t → args[j]? = some v → Value.okWide Tryd.prog W .any base t v)
    (hW : DataW.Whole enc Tryd.prog Tryd.f5.params.toList Rows.macKeysSpec.vars false W args.toList ds gs before)
    (hsz0 : (DataW.weightsEach Tryd.prog (Tryd.f5.params.toList ++ Rows.macKeysSpec.plain.varTypes Tryd.prog) (ds ++ gs)).all (· ≤ reachBytes) = true)
    (hL : laidMetH Tryd.prog Rows.macKeysRow.laid W)
    : Calls Tryd.prog 5 args W fun e W' => ∃ v, e = .returned v ∧ Rows.macKeysSpec.post enc Tryd.prog Tryd.f5 false true false false W args v W' := by
  have hW' := hW
  obtain ⟨p, q, hA0, hV, rfl, _, _⟩ := hW
  have hA : DataW.TrodAll enc Tryd.prog W 0 (fun _ => true) true Tryd.f5.params.toList args.toList ds p := hA0
  rw [Tryd.params5] at hA hval hsz0
  obtain ⟨v0, vs0, d0, ds0, p0, q0, hargs, rfl, rfl, h0, r0⟩ := trodAll_cons hA
  obtain ⟨v1, vs1, d1, ds1, p1, q1, rfl, rfl, rfl, h1, r1⟩ := trodAll_cons r0
  obtain ⟨v2, vs2, d2, ds2, p2, q2, rfl, rfl, rfl, h2, r2⟩ := trodAll_cons r1
  obtain ⟨rfl, rfl, rfl⟩ := trodAll_nil r2
  obtain rfl : args = #[v0, v1, v2] := by cases args; simp_all
  obtain ⟨rfl, rfl⟩ := trodVars_none hV
  obtain ⟨a0, len0, cap0, rfl⟩ := okWide_slice Tryd.underlying22 (hval 0 22 v0 rfl rfl)
  have k0 := h0
  have lt0 : ∀ x ∈ p0, x.block < W.heap.size := by obtain ⟨m, hm⟩ := k0; exact DataW.trod_lt m _ _ _ hm
  have hw0 : ∀ n ∈ d0.weights Tryd.prog 22, n ≤ reachBytes := fun n hn => by
    simpa using List.all_eq_true.1 hsz0 _ (DataW.weights_mem_each (j := 0) (t := 22) (d := d0) rfl rfl n hn)
  obtain ⟨f0, hf0⟩ := h0
  obtain ⟨l0, pb0, po0, hl0, hd0, hc0, hr0, hsp0, hcs0⟩ := open_bytes Tryd.underlying22 Tryd.underlying5 (by kernel_rfl) (by kernel_rfl) hf0 hw0
  obtain ⟨a1, len1, cap1, rfl⟩ := okWide_slice Tryd.underlying22 (hval 1 22 v1 rfl rfl)
  have k1 := h1
  have lt1 : ∀ x ∈ p1, x.block < W.heap.size := by obtain ⟨m, hm⟩ := k1; exact DataW.trod_lt m _ _ _ hm
  have hw1 : ∀ n ∈ d1.weights Tryd.prog 22, n ≤ reachBytes := fun n hn => by
    simpa using List.all_eq_true.1 hsz0 _ (DataW.weights_mem_each (j := 1) (t := 22) (d := d1) rfl rfl n hn)
  obtain ⟨f1, hf1⟩ := h1
  obtain ⟨l1, pb1, po1, hl1, hd1, hc1, hr1, hsp1, hcs1⟩ := open_bytes Tryd.underlying22 Tryd.underlying5 (by kernel_rfl) (by kernel_rfl) hf1 hw1
  obtain ⟨n2, rfl, rfl, rfl, wf2⟩ := open_int Tryd.underlying3 (hval 2 3 v2 rfl rfl) h2
  have bn2 := bounds_i64 wf2
  refine (macKeys_any l0 l1 len0 len1 n2 hl0 hl1 (by omega) (by omega) hd0 hd1 (hgl_of hL) (da_bytes hl0 hc0 hr0 hsp0 hcs0) (da_bytes hl1 hc1 hr1 hsp1 hcs1)).mono fun e W' ⟨he, hu⟩ => ?_
  subst he
  have bel := hu.below
  exact ⟨_, rfl, _, _, _, [], _, [], hW', trodAll_mk1 (shut_bool Tryd.underlying4 _), (trodAll_cons_mk (Below.trod laidOutK (by kernel_rfl) (of_decide_eq_true (by kernel_rfl)) k0 bel lt0) (trodAll_cons_mk (Below.trod laidOutK (by kernel_rfl) (of_decide_eq_true (by kernel_rfl)) k1 bel lt1) (trodAll_cons_mk (shut_int Tryd.underlying3 wf2) (trodAll_mk0)))), rfl, bel.frame _, fun h => by cases h⟩

theorem laid_met (os : Os) : laidMet Tryd.prog Rows.macKeysRow.laid ((laidW os).forCall (fun _ _ => 0) ⟨#[], #[.slice none 0 0, .slice none 0 0, .int .i64 0], []⟩).memory :=
  laidMet_of_run' 8 (by kernel_rfl) (by kernel_rfl)
theorem reads (os : Os) {H : Type} (enc : TypeId × Value → H) : ∃ places, DataW.whole enc Tryd.prog ((laidW os).forCall (fun _ _ => 0) ⟨#[], #[.slice none 0 0, .slice none 0 0, .int .i64 0], []⟩).memory Tryd.f5.params.toList Rows.macKeysSpec.vars false (#[.slice none 0 0, .slice none 0 0, .int .i64 0] : Array Value).toList 8 = some ([.nil, .nil, .lit (.int .i64 0)], [], places) :=
  ⟨[], by kernel_rfl⟩

theorem lifted (os : Os) (started : os.Started) (H : Type) (enc : TypeId × Value → H) (F : Stop.Interp) :
    ReturnsInHanded {} Tryd.checked os 5 .any ((OpenSpec.ofChange Rows.macKeysSpec).preRow enc Tryd.prog Tryd.f5 Rows.macKeysRow.domain false Rows.macKeysRow.laid) (((OpenSpec.ofChange Rows.macKeysSpec).at F).post enc Tryd.prog Tryd.f5 false true false false) := by
  obtain ⟨places, hx⟩ := reads os enc
  refine returnsInHanded_of_row (C := Tryd.checked) (s := OpenSpec.ofChange Rows.macKeysSpec) ownK started (by kernel_rfl) Tryd.func5
    (witness_row_at (enc := enc) (C := Tryd.checked) false (laidW os) #[.slice none 0 0, .slice none 0 0, .int .i64 0] rfl (by kernel_rfl) (by kernel_rfl) (by kernel_rfl)
      (OpenSpec.preRow_of_cond 8 hx (by kernel_rfl) (fun k hk => by cases hk) (by kernel_rfl) (laid_met os))) ?_
  intro W base args ds gs before hval hW _ _ hsz hL _ _
  exact contract H enc W base args ds gs before hval hW hsz hL

theorem said : Rows.MacKeysSaid :=
  OpenClaim.holds_of_cond 5 Tryd.f5 rfl rfl rfl rfl rfl rfl rfl ⟨rfl, rfl, rfl, rfl, rfl⟩ rfl rfl rfl rfl rfl (by kernel_rfl) Tryd.func5 (by kernel_rfl)
    (of_decide_eq_true (by kernel_rfl)) (by unfold Func.isWrapper; first | (rw [if_pos (by decide +kernel)]; kernel_rfl) | (rw [if_neg (by decide +kernel)]; exact ⟨rfl, rfl⟩))
    (fun os started H enc _ F => by rw [OpenClaim.pre_eq_preRow]; exact lifted os started H enc F)

/-- No parameter wants a stand-in; the program's own looks are off: what the card asks. -/
theorem plain (f : FuncId) (fn : Func) (hf : Tryd.pinned.checked.prog.funcNamed "intaglio/intagliolaw02.MacKeys" = some f) (hfn : Tryd.pinned.checked.prog.funcs[f]? = some fn) :
    false = Tryd.pinned.checked.prog.looks [] ∧ ∀ (j : Nat) t, fn.params[j]? = some t → Tryd.pinned.checked.prog.wantsStandIn t = false := by
  obtain rfl : f = 5 := Option.some.inj ((show Tryd.prog.funcNamed "intaglio/intagliolaw02.MacKeys" = some 5 by kernel_rfl).symm.trans hf) |>.symm
  obtain rfl : fn = Tryd.f5 := (Option.some.inj (Tryd.func5.symm.trans hfn)).symm
  refine ⟨by kernel_rfl, fun j t ht => ?_⟩
  rw [Tryd.params5] at ht
  have hm := Array.mem_of_getElem? ht
  have : t = 22 ∨ t = 3 := by simpa using hm
  rcases this with rfl | rfl
  · exact (show Tryd.prog.wantsStandIn 22 = false by kernel_rfl)
  · exact (show Tryd.prog.wantsStandIn 3 = false by kernel_rfl)

theorem card : Rows.MacKeysCardSaid :=
  Claim7.holds_tied_plain_at .later [] _ _ _ _ said (fun _ h => by cases h) (by kernel_rfl) (fun _ h => by cases h) macKeys_row_tie rfl ⟨rfl, rfl⟩ (by kernel_rfl) rfl plain (by kernel_rfl)
end Go.Proofs.YthhjcpiaoempfaaDoor.macKeys
