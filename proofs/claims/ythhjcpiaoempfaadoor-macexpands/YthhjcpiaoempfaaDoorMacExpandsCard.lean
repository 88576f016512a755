/-
  MacExpands.
-/
/-
  MacExpands: for every input the law returns true; each argument reads behind the call as it read before (the tied card). The listed variables are tied to the program's text; the card says nothing of packages outside the seat's pruned copy.
-/
import Derived.Test.YthhjcpiaoempfaaDoorK1
import Derived.Test.YthhjcpiaoempfaaDoorM5
import Derived.Test.YthhjcpiaoempfaaDoorR5m
import Derived.Test.YthhjcpiaoempfaaDoorRows
import Derived.Test.YthhjcpiaoempfaaDoorCards
import Derived.Test.YthhjcpiaoempfaaDoorTie
import Derived.Test.YthhjcpiaoempfaaDoorHOpen
import Derived.Test.YthhjcpiaoempfaaDoorOy
namespace Go.Proofs.YthhjcpiaoempfaaDoor
open Go.RowKit
set_option maxRecDepth 100000

theorem strEq_reflE (s : ByteArray) : strEq s s = true := by unfold strEq; simp
theorem two_parts {l : List Int} {k n : Nat} (hl : l.length = n) (hk : k ≤ n) : List.flatten [l.take k, (l.drop k).take (n - k)] = l := by
  rw [List.flatten_cons, List.flatten_cons, List.flatten_nil, List.append_nil, List.take_of_length_le (l := l.drop k) (by rw [List.length_drop]; omega), List.take_append_drop]
def fcExpN (d : Nat) : Option Bool := bif Nat.beq d 52 then some true else bif Nat.beq d 19 then some false else none
def kExpN : (List Int) × Int × Nat × (List Int) → ClN := fun (key, n, m, info) => ⟨[.o (.g [.many 32 (.i .u8 key)]), vv (.int .i64 n), .o (.c (.rs 1 m (.i .u8 info)))], [], vv (.bool true), [], [], [key.length = 32, info.length = m, m ≤ 140737488355328, (∀ x ∈ key, B8 x), (∀ x ∈ info, B8 x), n < 0]⟩
noncomputable def FExpN : FnE := ⟨mkEv Tryd.prog tabH [cLKnown, cMExpN, cRExpN] 0 fcExpN, [0, 1, 2, 3, 6, 7, 8, 9, 10, 12, 23], fun _ _ => .rounds 0⟩
theorem vcExpN (key : List Int) (n : Int) (m : Nat) (info : List Int) : (wpE FExpN (Tryd.f4.body.getD .skip) ⟨Tryd.f4.ntmps, slotsOf 0 (kExpN (key, n, m, info)).avs, (kExpN (key, n, m, info)).mem⟩ (finK Tryd.prog Tryd.f4.results.toList (postN (kExpN (key, n, m, info))))) = (let x1 := if (100 : Int) < (↑m : Int) then (100 : Int) else (↑m : Int); let x2 := IntKind.wrap IntKind.i64 (Int.tdiv (↑(Int.toNat x1) : Int) (2 : Int)); let x3 := List.take (Int.toNat x1) (List.drop (0 : Nat) info); let x4 := [List.take (Int.toNat x2) (List.drop (0 : Nat) x3), List.take (Int.toNat x1 - Int.toNat x2) (List.drop (Int.toNat x2) x3)]; true = true ∧ (0 : Int) ≤ x1 ∧ Int.toNat x1 ≤ m ∧ decide ((400 : Int) < n) = false ∧ (2 : Int) ≠ (0 : Int) ∧ (0 : Int) ≤ x2 ∧ Int.toNat x2 ≤ Int.toNat x1 ∧ (2 : Int) ≠ (0 : Int) ∧ (0 : Int) ≤ x2 ∧ Int.toNat x2 ≤ Int.toNat x1 ∧ true = true ∧ (32 : Nat) = (32 : Nat) ∧ key = key ∧ Value.int IntKind.i64 n = Value.int IntKind.i64 n ∧ true = true ∧ x4 = x4 ∧ (2 : Nat) = (2 : Nat) ∧ n < (0 : Int) ∧ true = true ∧ (32 : Nat) = (32 : Nat) ∧ key = key ∧ Value.int IntKind.i64 n = Value.int IntKind.i64 n ∧ Value.string (bstr x3) = Value.string (bstr x3) ∧ n < (0 : Int) ∧ true = true ∧ true = true ∧ true = true ∧ (58 : Nat) = (58 : Nat) ∧ (bif true then Value.bool (decide ((1 : Int) = (1 : Int))) else Value.bool false) = Value.bool true) := by kernel_rfl

set_option maxHeartbeats 8000000 in
theorem wpExpN (key : List Int) (n : Int) (m : Nat) (info : List Int) (_h1 : key.length = 32) (h2 : info.length = m) (h3 : m ≤ 140737488355328) (_h4 : (∀ x ∈ key, B8 x)) (_h5 : (∀ x ∈ info, B8 x)) (h6 : n < 0) : wpE FExpN (Tryd.f4.body.getD .skip) ⟨Tryd.f4.ntmps, slotsOf 0 (kExpN (key, n, m, info)).avs, (kExpN (key, n, m, info)).mem⟩ (finK Tryd.prog Tryd.f4.results.toList (postN (kExpN (key, n, m, info)))) := by
  with_reducible refine Eq.mpr (vcExpN key n m info) ?_
  have e1 : (if (100 : Int) < (m : Int) then (100 : Int) else (m : Int)) = ((min m 100 : Nat) : Int) := by split <;> omega
  have e2 : IntKind.wrap .i64 (Int.tdiv ((min m 100 : Nat) : Int) 2) = ((min m 100 / 2 : Nat) : Int) := by
    rw [Int.tdiv_eq_ediv_of_nonneg (by omega), IntKind.wrap_i64]; omega
  have lI : (info.take (min m 100)).length = min m 100 := by rw [List.length_take]; omega
  have sI : (bstr (info.take (min m 100))).size ≤ 4398046511104 := by rw [bstr_size]; omega
  have hf : List.flatten [(info.take (min m 100)).take (min m 100 / 2), ((info.take (min m 100)).drop (min m 100 / 2)).take (min m 100 - min m 100 / 2)] = info.take (min m 100) := two_parts lI (by omega)
  have lf := congrArg List.length hf
  rw [lI] at lf
  have d1 : decide ((400 : Int) < n) = false := decide_eq_false (by omega)
  simp only [e1, e2, Int.toNat_natCast, List.drop_zero]
  and_intros
  all_goals try exact True.intro
  all_goals try with_reducible rfl
  all_goals try with_reducible assumption
  all_goals try omega
  all_goals try kernel_rfl
set_option maxHeartbeats 8000000 in
theorem lwExpN (key : List Int) (n : Int) (m : Nat) (info : List Int) (h1 : key.length = 32) (h2 : info.length = m) (h3 : m ≤ 140737488355328) (h4 : (∀ x ∈ key, B8 x)) (h5 : (∀ x ∈ info, B8 x)) (h6 : n < 0) {W : World} {vs : List Value} (hgl : ∀ g l, (g, l) ∈ (tabH : List (Nat × L)) → Lies (cxL W (tabH)) g 0 l) (hD : All2 (DA (cxL W (tabH)) be0) (kExpN (key, n, m, info)).avs vs) : Calls Tryd.prog 4 vs.toArray W (fun e W' => e = .returned (.bool true) ∧ Upd (fun _ => False) W W') :=
  law_calls (F := FExpN) (fn := Tryd.f4) (c := Tryd.f4.body.getD .skip) (k := kExpN (key, n, m, info)) rfl (evOKs ⟨.inl ⟨cLKnown_ok, by kernel_rfl, gl_sub (by first | exact .inl rfl | exact .inr rfl)⟩, ⟨.inl ⟨cMExpN_ok, by kernel_rfl, gl_sub (by first | exact .inl rfl | exact .inr rfl)⟩, ⟨.inl ⟨cRExpN_ok, by kernel_rfl, gl_sub (by first | exact .inl rfl | exact .inr rfl)⟩, trivial⟩⟩⟩) mixed rfl hgl Tryd.func4 (by kernel_rfl) rfl rfl hD (by kernel_rfl) (by with_reducible exact wpExpN key n m info h1 h2 h3 h4 h5 h6)

def fcExpB (d : Nat) : Option Bool := bif Nat.beq d 52 then some true else bif Nat.beq d 19 then some true else bif Nat.beq d 22 then some false else none
def kExpB : (List Int) × Int × Nat × (List Int) → ClN := fun (key, n, m, info) => ⟨[.o (.g [.many 32 (.i .u8 key)]), vv (.int .i64 n), .o (.c (.rs 1 m (.i .u8 info)))], [], vv (.bool true), [], [], [key.length = 32, info.length = m, m ≤ 140737488355328, (∀ x ∈ key, B8 x), (∀ x ∈ info, B8 x), 8160 < n]⟩
noncomputable def FExpB : FnE := ⟨mkEv Tryd.prog tabH [cLKnown, cMExpB, cRExpB] 0 fcExpB, [0, 1, 2, 3, 6, 7, 8, 9, 10, 12, 23], fun _ _ => .rounds 0⟩
theorem vcExpB (key : List Int) (n : Int) (m : Nat) (info : List Int) : (wpE FExpB (Tryd.f4.body.getD .skip) ⟨Tryd.f4.ntmps, slotsOf 0 (kExpB (key, n, m, info)).avs, (kExpB (key, n, m, info)).mem⟩ (finK Tryd.prog Tryd.f4.results.toList (postN (kExpB (key, n, m, info))))) = (let x1 := if (100 : Int) < (↑m : Int) then (100 : Int) else (↑m : Int); let x2 := IntKind.wrap IntKind.i64 (Int.tdiv (↑(Int.toNat x1) : Int) (2 : Int)); let x3 := List.take (Int.toNat x1) (List.drop (0 : Nat) info); let x4 := [List.take (Int.toNat x2) (List.drop (0 : Nat) x3), List.take (Int.toNat x1 - Int.toNat x2) (List.drop (Int.toNat x2) x3)]; true = true ∧ (0 : Int) ≤ x1 ∧ Int.toNat x1 ≤ m ∧ decide ((400 : Int) < n) = true ∧ decide (n ≤ (8160 : Int)) = false ∧ (2 : Int) ≠ (0 : Int) ∧ (0 : Int) ≤ x2 ∧ Int.toNat x2 ≤ Int.toNat x1 ∧ (2 : Int) ≠ (0 : Int) ∧ (0 : Int) ≤ x2 ∧ Int.toNat x2 ≤ Int.toNat x1 ∧ true = true ∧ (32 : Nat) = (32 : Nat) ∧ key = key ∧ Value.int IntKind.i64 n = Value.int IntKind.i64 n ∧ true = true ∧ x4 = x4 ∧ (2 : Nat) = (2 : Nat) ∧ (8160 : Int) < n ∧ true = true ∧ (32 : Nat) = (32 : Nat) ∧ key = key ∧ Value.int IntKind.i64 n = Value.int IntKind.i64 n ∧ Value.string (bstr x3) = Value.string (bstr x3) ∧ (8160 : Int) < n ∧ true = true ∧ true = true ∧ true = true ∧ (58 : Nat) = (58 : Nat) ∧ (bif true then Value.bool (decide ((1 : Int) = (1 : Int))) else Value.bool false) = Value.bool true) := by kernel_rfl

set_option maxHeartbeats 8000000 in
theorem wpExpB (key : List Int) (n : Int) (m : Nat) (info : List Int) (_h1 : key.length = 32) (h2 : info.length = m) (h3 : m ≤ 140737488355328) (_h4 : (∀ x ∈ key, B8 x)) (_h5 : (∀ x ∈ info, B8 x)) (h6 : 8160 < n) : wpE FExpB (Tryd.f4.body.getD .skip) ⟨Tryd.f4.ntmps, slotsOf 0 (kExpB (key, n, m, info)).avs, (kExpB (key, n, m, info)).mem⟩ (finK Tryd.prog Tryd.f4.results.toList (postN (kExpB (key, n, m, info)))) := by
  with_reducible refine Eq.mpr (vcExpB key n m info) ?_
  have e1 : (if (100 : Int) < (m : Int) then (100 : Int) else (m : Int)) = ((min m 100 : Nat) : Int) := by split <;> omega
  have e2 : IntKind.wrap .i64 (Int.tdiv ((min m 100 : Nat) : Int) 2) = ((min m 100 / 2 : Nat) : Int) := by
    rw [Int.tdiv_eq_ediv_of_nonneg (by omega), IntKind.wrap_i64]; omega
  have lI : (info.take (min m 100)).length = min m 100 := by rw [List.length_take]; omega
  have sI : (bstr (info.take (min m 100))).size ≤ 4398046511104 := by rw [bstr_size]; omega
  have hf : List.flatten [(info.take (min m 100)).take (min m 100 / 2), ((info.take (min m 100)).drop (min m 100 / 2)).take (min m 100 - min m 100 / 2)] = info.take (min m 100) := two_parts lI (by omega)
  have lf := congrArg List.length hf
  rw [lI] at lf
  have d1 : decide ((400 : Int) < n) = true := decide_eq_true (by omega)
  have d2 : decide (n ≤ (8160 : Int)) = false := decide_eq_false (by omega)
  simp only [e1, e2, Int.toNat_natCast, List.drop_zero]
  and_intros
  all_goals try exact True.intro
  all_goals try with_reducible rfl
  all_goals try with_reducible assumption
  all_goals try omega
  all_goals try kernel_rfl
set_option maxHeartbeats 8000000 in
theorem lwExpB (key : List Int) (n : Int) (m : Nat) (info : List Int) (h1 : key.length = 32) (h2 : info.length = m) (h3 : m ≤ 140737488355328) (h4 : (∀ x ∈ key, B8 x)) (h5 : (∀ x ∈ info, B8 x)) (h6 : 8160 < n) {W : World} {vs : List Value} (hgl : ∀ g l, (g, l) ∈ (tabH : List (Nat × L)) → Lies (cxL W (tabH)) g 0 l) (hD : All2 (DA (cxL W (tabH)) be0) (kExpB (key, n, m, info)).avs vs) : Calls Tryd.prog 4 vs.toArray W (fun e W' => e = .returned (.bool true) ∧ Upd (fun _ => False) W W') :=
  law_calls (F := FExpB) (fn := Tryd.f4) (c := Tryd.f4.body.getD .skip) (k := kExpB (key, n, m, info)) rfl (evOKs ⟨.inl ⟨cLKnown_ok, by kernel_rfl, gl_sub (by first | exact .inl rfl | exact .inr rfl)⟩, ⟨.inl ⟨cMExpB_ok, by kernel_rfl, gl_sub (by first | exact .inl rfl | exact .inr rfl)⟩, ⟨.inl ⟨cRExpB_ok, by kernel_rfl, gl_sub (by first | exact .inl rfl | exact .inr rfl)⟩, trivial⟩⟩⟩) mixed rfl hgl Tryd.func4 (by kernel_rfl) rfl rfl hD (by kernel_rfl) (by with_reducible exact wpExpB key n m info h1 h2 h3 h4 h5 h6)

def fcExp0 (d : Nat) : Option Bool := bif Nat.beq d 52 then some true else bif Nat.beq d 19 then some false else none
def kExp0 : (List Int) × Nat × (List Int) → ClN := fun (key, m, info) => ⟨[.o (.g [.many 32 (.i .u8 key)]), vv (.int .i64 0), .o (.c (.rs 1 m (.i .u8 info)))], [], vv (.bool true), [], [], [key.length = 32, info.length = m, m ≤ 140737488355328, (∀ x ∈ key, B8 x), (∀ x ∈ info, B8 x)]⟩
noncomputable def FExp0 : FnE := ⟨mkEv Tryd.prog tabH [cLKnown, cMExp0, cRExp] 0 fcExp0, [0, 1, 2, 3, 6, 7, 8, 9, 10, 12, 23], fun _ _ => .rounds 0⟩
theorem vcExp0 (key : List Int)  (m : Nat) (info : List Int) : (wpE FExp0 (Tryd.f4.body.getD .skip) ⟨Tryd.f4.ntmps, slotsOf 0 (kExp0 (key, m, info)).avs, (kExp0 (key, m, info)).mem⟩ (finK Tryd.prog Tryd.f4.results.toList (postN (kExp0 (key, m, info))))) = (let x1 := if (100 : Int) < (↑m : Int) then (100 : Int) else (↑m : Int); let x2 := IntKind.wrap IntKind.i64 (Int.tdiv (↑(Int.toNat x1) : Int) (2 : Int)); let x3 := List.take (Int.toNat x1) (List.drop (0 : Nat) info); let x4 := [List.take (Int.toNat x2) (List.drop (0 : Nat) x3), List.take (Int.toNat x1 - Int.toNat x2) (List.drop (Int.toNat x2) x3)]; let x5 := bstr x3; true = true ∧ (0 : Int) ≤ x1 ∧ Int.toNat x1 ≤ m ∧ decide ((400 : Int) < (0 : Int)) = false ∧ (2 : Int) ≠ (0 : Int) ∧ (0 : Int) ≤ x2 ∧ Int.toNat x2 ≤ Int.toNat x1 ∧ (2 : Int) ≠ (0 : Int) ∧ (0 : Int) ≤ x2 ∧ Int.toNat x2 ≤ Int.toNat x1 ∧ true = true ∧ (32 : Nat) = (32 : Nat) ∧ key = key ∧ Value.int IntKind.i64 (0 : Int) = Value.int IntKind.i64 (0 : Int) ∧ true = true ∧ x4 = x4 ∧ (2 : Nat) = (2 : Nat) ∧ true = true ∧ (32 : Nat) = (32 : Nat) ∧ key = key ∧ Value.int IntKind.i64 (0 : Int) = Value.int IntKind.i64 (0 : Int) ∧ Value.string x5 = Value.string x5 ∧ List.length key = (32 : Nat) ∧ (0 : Nat) ≤ (8160 : Nat) ∧ ByteArray.size x5 ≤ (4398046511104 : Nat) ∧ strEq { data := #[] } (ByteArray.extract (bstr (reO key x5 (0 : Nat))) (0 : Nat) (0 : Nat)) = true ∧ true = true ∧ true = true ∧ (58 : Nat) = (58 : Nat) ∧ (bif true then Value.bool (decide ((0 : Int) = (0 : Int))) else Value.bool false) = Value.bool true) := by kernel_rfl

set_option maxHeartbeats 8000000 in
theorem wpExp0 (key : List Int)  (m : Nat) (info : List Int) (h1 : key.length = 32) (h2 : info.length = m) (h3 : m ≤ 140737488355328) (_h4 : (∀ x ∈ key, B8 x)) (_h5 : (∀ x ∈ info, B8 x)) : wpE FExp0 (Tryd.f4.body.getD .skip) ⟨Tryd.f4.ntmps, slotsOf 0 (kExp0 (key, m, info)).avs, (kExp0 (key, m, info)).mem⟩ (finK Tryd.prog Tryd.f4.results.toList (postN (kExp0 (key, m, info)))) := by
  with_reducible refine Eq.mpr (vcExp0 key m info) ?_
  have e1 : (if (100 : Int) < (m : Int) then (100 : Int) else (m : Int)) = ((min m 100 : Nat) : Int) := by split <;> omega
  have e2 : IntKind.wrap .i64 (Int.tdiv ((min m 100 : Nat) : Int) 2) = ((min m 100 / 2 : Nat) : Int) := by
    rw [Int.tdiv_eq_ediv_of_nonneg (by omega), IntKind.wrap_i64]; omega
  have lI : (info.take (min m 100)).length = min m 100 := by rw [List.length_take]; omega
  have sI : (bstr (info.take (min m 100))).size ≤ 4398046511104 := by rw [bstr_size]; omega
  have hf : List.flatten [(info.take (min m 100)).take (min m 100 / 2), ((info.take (min m 100)).drop (min m 100 / 2)).take (min m 100 - min m 100 / 2)] = info.take (min m 100) := two_parts lI (by omega)
  have lf := congrArg List.length hf
  rw [lI] at lf
  have dE : strEq ⟨#[]⟩ ((bstr (reO key (bstr (info.take (min m 100))) 0)).extract 0 0) = true := by rw [bstr_extract, List.take_zero]; exact strEq_reflE _
  simp only [e1, e2, Int.toNat_natCast, List.drop_zero]
  and_intros
  all_goals try exact True.intro
  all_goals try with_reducible rfl
  all_goals try with_reducible assumption
  all_goals try omega
  all_goals try kernel_rfl
set_option maxHeartbeats 8000000 in
theorem lwExp0 (key : List Int)  (m : Nat) (info : List Int) (h1 : key.length = 32) (h2 : info.length = m) (h3 : m ≤ 140737488355328) (h4 : (∀ x ∈ key, B8 x)) (h5 : (∀ x ∈ info, B8 x)) {W : World} {vs : List Value} (hgl : ∀ g l, (g, l) ∈ (tabH : List (Nat × L)) → Lies (cxL W (tabH)) g 0 l) (hD : All2 (DA (cxL W (tabH)) be0) (kExp0 (key, m, info)).avs vs) : Calls Tryd.prog 4 vs.toArray W (fun e W' => e = .returned (.bool true) ∧ Upd (fun _ => False) W W') :=
  law_calls (F := FExp0) (fn := Tryd.f4) (c := Tryd.f4.body.getD .skip) (k := kExp0 (key, m, info)) rfl (evOKs ⟨.inl ⟨cLKnown_ok, by kernel_rfl, gl_sub (by first | exact .inl rfl | exact .inr rfl)⟩, ⟨.inl ⟨cMExp0_ok, by kernel_rfl, gl_sub (by first | exact .inl rfl | exact .inr rfl)⟩, ⟨.inl ⟨cRExp_ok, by kernel_rfl, gl_sub (by first | exact .inl rfl | exact .inr rfl)⟩, trivial⟩⟩⟩) mixed rfl hgl Tryd.func4 (by kernel_rfl) rfl rfl hD (by kernel_rfl) (by with_reducible exact wpExp0 key m info h1 h2 h3 h4 h5)

def fcExp1 (d : Nat) : Option Bool := bif Nat.beq d 52 then some true else bif Nat.beq d 19 then some false else none
def kExp1 : (List Int) × Nat × Nat × (List Int) → ClN := fun (key, n, m, info) => ⟨[.o (.g [.many 32 (.i .u8 key)]), vv (.int .i64 (n : Int)), .o (.c (.rs 1 m (.i .u8 info)))], [], vv (.bool true), [], [], [key.length = 32, info.length = m, m ≤ 140737488355328, (∀ x ∈ key, B8 x), (∀ x ∈ info, B8 x), 0 < n, n ≤ 400]⟩
noncomputable def FExp1 : FnE := ⟨mkEv Tryd.prog tabH [cLKnown, cMExp, cRExp] 0 fcExp1, [0, 1, 2, 3, 6, 7, 8, 9, 10, 12, 23], fun _ _ => .rounds 0⟩
theorem vcExp1 (key : List Int) (n : Nat) (m : Nat) (info : List Int) : (wpE FExp1 (Tryd.f4.body.getD .skip) ⟨Tryd.f4.ntmps, slotsOf 0 (kExp1 (key, n, m, info)).avs, (kExp1 (key, n, m, info)).mem⟩ (finK Tryd.prog Tryd.f4.results.toList (postN (kExp1 (key, n, m, info))))) = (let x1 := if (100 : Int) < (↑m : Int) then (100 : Int) else (↑m : Int); let x2 := IntKind.wrap IntKind.i64 (Int.tdiv (↑(Int.toNat x1) : Int) (2 : Int)); let x3 := List.take (Int.toNat x1) (List.drop (0 : Nat) info); let x4 := [List.take (Int.toNat x2) (List.drop (0 : Nat) x3), List.take (Int.toNat x1 - Int.toNat x2) (List.drop (Int.toNat x2) x3)]; let x5 := bstr x3; let x6 := expA key x4 ((Int.toNat (↑n : Int) + (31 : Nat)) / (32 : Nat)); true = true ∧ (0 : Int) ≤ x1 ∧ Int.toNat x1 ≤ m ∧ decide ((400 : Int) < (↑n : Int)) = false ∧ (2 : Int) ≠ (0 : Int) ∧ (0 : Int) ≤ x2 ∧ Int.toNat x2 ≤ Int.toNat x1 ∧ (2 : Int) ≠ (0 : Int) ∧ (0 : Int) ≤ x2 ∧ Int.toNat x2 ≤ Int.toNat x1 ∧ true = true ∧ (32 : Nat) = (32 : Nat) ∧ key = key ∧ Value.int IntKind.i64 (↑n : Int) = Value.int IntKind.i64 (↑(Int.toNat (↑n : Int)) : Int) ∧ true = true ∧ x4 = x4 ∧ (2 : Nat) = (2 : Nat) ∧ List.length key = (32 : Nat) ∧ (0 : Nat) < Int.toNat (↑n : Int) ∧ Int.toNat (↑n : Int) ≤ (8160 : Nat) ∧ (2 : Nat) ≤ (140737488355328 : Nat) ∧ List.length (List.flatten x4) ≤ (35184372088832 : Nat) ∧ true = true ∧ (32 : Nat) = (32 : Nat) ∧ key = key ∧ Value.int IntKind.i64 (↑n : Int) = Value.int IntKind.i64 (↑(Int.toNat (↑n : Int)) : Int) ∧ Value.string x5 = Value.string x5 ∧ List.length key = (32 : Nat) ∧ Int.toNat (↑n : Int) ≤ (8160 : Nat) ∧ ByteArray.size x5 ≤ (4398046511104 : Nat) ∧ (0 : Nat) + Int.toNat (↑n : Int) ≤ List.length x6 ∧ strEq (bstr (List.take (Int.toNat (↑n : Int)) (List.drop (0 : Nat) x6))) (ByteArray.extract (bstr (reO key x5 ((Int.toNat (↑n : Int) + (31 : Nat)) / (32 : Nat)))) (0 : Nat) (Int.toNat (↑n : Int))) = true ∧ true = true ∧ true = true ∧ (58 : Nat) = (58 : Nat) ∧ (bif true then Value.bool (decide ((0 : Int) = (0 : Int))) else Value.bool false) = Value.bool true) := by kernel_rfl

set_option maxHeartbeats 8000000 in
theorem wpExp1 (key : List Int) (n : Nat) (m : Nat) (info : List Int) (h1 : key.length = 32) (h2 : info.length = m) (h3 : m ≤ 140737488355328) (h4 : (∀ x ∈ key, B8 x)) (h5 : (∀ x ∈ info, B8 x)) (h6 : 0 < n) (h7 : n ≤ 400) : wpE FExp1 (Tryd.f4.body.getD .skip) ⟨Tryd.f4.ntmps, slotsOf 0 (kExp1 (key, n, m, info)).avs, (kExp1 (key, n, m, info)).mem⟩ (finK Tryd.prog Tryd.f4.results.toList (postN (kExp1 (key, n, m, info)))) := by
  with_reducible refine Eq.mpr (vcExp1 key n m info) ?_
  have e1 : (if (100 : Int) < (m : Int) then (100 : Int) else (m : Int)) = ((min m 100 : Nat) : Int) := by split <;> omega
  have e2 : IntKind.wrap .i64 (Int.tdiv ((min m 100 : Nat) : Int) 2) = ((min m 100 / 2 : Nat) : Int) := by
    rw [Int.tdiv_eq_ediv_of_nonneg (by omega), IntKind.wrap_i64]; omega
  have lI : (info.take (min m 100)).length = min m 100 := by rw [List.length_take]; omega
  have sI : (bstr (info.take (min m 100))).size ≤ 4398046511104 := by rw [bstr_size]; omega
  have hf : List.flatten [(info.take (min m 100)).take (min m 100 / 2), ((info.take (min m 100)).drop (min m 100 / 2)).take (min m 100 - min m 100 / 2)] = info.take (min m 100) := two_parts lI (by omega)
  have lf := congrArg List.length hf
  rw [lI] at lf
  have d1 : decide ((400 : Int) < (n : Int)) = false := decide_eq_false (by omega)
  have hI : strL (bstr (info.take (min m 100))) = info.take (min m 100) := strL_bstr (bys_take h5 _)
  have eA := expA_eq key (bstr (info.take (min m 100))) [(info.take (min m 100)).take (min m 100 / 2), ((info.take (min m 100)).drop (min m 100 / 2)).take (min m 100 - min m 100 / 2)] h4 h1 sI (by rw [hf, hI]) ((n + 31) / 32)
  have lA := expA_len key [(info.take (min m 100)).take (min m 100 / 2), ((info.take (min m 100)).drop (min m 100 / 2)).take (min m 100 - min m 100 / 2)] ((n + 31) / 32)
  have dE : strEq (bstr ((expA key [(info.take (min m 100)).take (min m 100 / 2), ((info.take (min m 100)).drop (min m 100 / 2)).take (min m 100 - min m 100 / 2)] ((n + 31) / 32)).take n)) ((bstr (reO key (bstr (info.take (min m 100))) ((n + 31) / 32))).extract 0 n) = true := by rw [bstr_extract, ← eA]; exact strEq_reflE _
  simp only [e1, e2, Int.toNat_natCast, List.drop_zero]
  and_intros
  all_goals try exact True.intro
  all_goals try with_reducible rfl
  all_goals try with_reducible assumption
  all_goals try omega
  all_goals try kernel_rfl
set_option maxHeartbeats 8000000 in
theorem lwExp1 (key : List Int) (n : Nat) (m : Nat) (info : List Int) (h1 : key.length = 32) (h2 : info.length = m) (h3 : m ≤ 140737488355328) (h4 : (∀ x ∈ key, B8 x)) (h5 : (∀ x ∈ info, B8 x)) (h6 : 0 < n) (h7 : n ≤ 400) {W : World} {vs : List Value} (hgl : ∀ g l, (g, l) ∈ (tabH : List (Nat × L)) → Lies (cxL W (tabH)) g 0 l) (hD : All2 (DA (cxL W (tabH)) be0) (kExp1 (key, n, m, info)).avs vs) : Calls Tryd.prog 4 vs.toArray W (fun e W' => e = .returned (.bool true) ∧ Upd (fun _ => False) W W') :=
  law_calls (F := FExp1) (fn := Tryd.f4) (c := Tryd.f4.body.getD .skip) (k := kExp1 (key, n, m, info)) rfl (evOKs ⟨.inl ⟨cLKnown_ok, by kernel_rfl, gl_sub (by first | exact .inl rfl | exact .inr rfl)⟩, ⟨.inl ⟨cMExp_ok, by kernel_rfl, gl_sub (by first | exact .inl rfl | exact .inr rfl)⟩, ⟨.inl ⟨cRExp_ok, by kernel_rfl, gl_sub (by first | exact .inl rfl | exact .inr rfl)⟩, trivial⟩⟩⟩) mixed rfl hgl Tryd.func4 (by kernel_rfl) rfl rfl hD (by kernel_rfl) (by with_reducible exact wpExp1 key n m info h1 h2 h3 h4 h5 h6 h7)

def fcExp4 (d : Nat) : Option Bool := bif Nat.beq d 52 then some true else bif Nat.beq d 19 || Nat.beq d 22 then some true else none
def kExp4 : (List Int) × Int × Nat × (List Int) → ClN := fun (key, n, m, info) => ⟨[.o (.g [.many 32 (.i .u8 key)]), vv (.int .i64 n), .o (.c (.rs 1 m (.i .u8 info)))], [], vv (.bool true), [], [], [key.length = 32, info.length = m, m ≤ 140737488355328, (∀ x ∈ key, B8 x), (∀ x ∈ info, B8 x), 400 < n, n ≤ 8160]⟩
noncomputable def FExp4 : FnE := ⟨mkEv Tryd.prog tabH [cLKnown, cMExp, cRExp] 0 fcExp4, [0, 1, 2, 3, 6, 7, 8, 9, 10, 12, 23], fun _ _ => .rounds 0⟩
theorem vcExp4 (key : List Int) (n : Int) (m : Nat) (info : List Int) : (wpE FExp4 (Tryd.f4.body.getD .skip) ⟨Tryd.f4.ntmps, slotsOf 0 (kExp4 (key, n, m, info)).avs, (kExp4 (key, n, m, info)).mem⟩ (finK Tryd.prog Tryd.f4.results.toList (postN (kExp4 (key, n, m, info))))) = (let x1 := if (100 : Int) < (↑m : Int) then (100 : Int) else (↑m : Int); let x2 := IntKind.wrap IntKind.i64 (Int.tdiv (↑(Int.toNat x1) : Int) (2 : Int)); let x3 := List.take (Int.toNat x1) (List.drop (0 : Nat) info); let x4 := [List.take (Int.toNat x2) (List.drop (0 : Nat) x3), List.take (Int.toNat x1 - Int.toNat x2) (List.drop (Int.toNat x2) x3)]; let x5 := bstr x3; true = true ∧ (0 : Int) ≤ x1 ∧ Int.toNat x1 ≤ m ∧ decide ((400 : Int) < n) = true ∧ decide (n ≤ (8160 : Int)) = true ∧ (2 : Int) ≠ (0 : Int) ∧ (0 : Int) ≤ x2 ∧ Int.toNat x2 ≤ Int.toNat x1 ∧ (2 : Int) ≠ (0 : Int) ∧ (0 : Int) ≤ x2 ∧ Int.toNat x2 ≤ Int.toNat x1 ∧ true = true ∧ (32 : Nat) = (32 : Nat) ∧ key = key ∧ Value.int IntKind.i64 (400 : Int) = Value.int IntKind.i64 (400 : Int) ∧ true = true ∧ x4 = x4 ∧ (2 : Nat) = (2 : Nat) ∧ List.length key = (32 : Nat) ∧ (0 : Nat) < (400 : Nat) ∧ (400 : Nat) ≤ (8160 : Nat) ∧ (2 : Nat) ≤ (140737488355328 : Nat) ∧ List.length (List.flatten x4) ≤ (35184372088832 : Nat) ∧ true = true ∧ (32 : Nat) = (32 : Nat) ∧ key = key ∧ Value.int IntKind.i64 (400 : Int) = Value.int IntKind.i64 (400 : Int) ∧ Value.string x5 = Value.string x5 ∧ List.length key = (32 : Nat) ∧ (400 : Nat) ≤ (8160 : Nat) ∧ ByteArray.size x5 ≤ (4398046511104 : Nat) ∧ (400 : Nat) ≤ (416 : Nat) ∧ strEq (bstr (List.take (400 : Nat) (List.drop (0 : Nat) (expA key x4 (13 : Nat))))) (ByteArray.extract (bstr (reO key x5 (13 : Nat))) (0 : Nat) (400 : Nat)) = true ∧ true = true ∧ true = true ∧ (58 : Nat) = (58 : Nat) ∧ (bif true then Value.bool (decide ((0 : Int) = (0 : Int))) else Value.bool false) = Value.bool true) := by kernel_rfl

set_option maxHeartbeats 8000000 in
theorem wpExp4 (key : List Int) (n : Int) (m : Nat) (info : List Int) (h1 : key.length = 32) (h2 : info.length = m) (h3 : m ≤ 140737488355328) (h4 : (∀ x ∈ key, B8 x)) (h5 : (∀ x ∈ info, B8 x)) (h6 : 400 < n) (h7 : n ≤ 8160) : wpE FExp4 (Tryd.f4.body.getD .skip) ⟨Tryd.f4.ntmps, slotsOf 0 (kExp4 (key, n, m, info)).avs, (kExp4 (key, n, m, info)).mem⟩ (finK Tryd.prog Tryd.f4.results.toList (postN (kExp4 (key, n, m, info)))) := by
  with_reducible refine Eq.mpr (vcExp4 key n m info) ?_
  have e1 : (if (100 : Int) < (m : Int) then (100 : Int) else (m : Int)) = ((min m 100 : Nat) : Int) := by split <;> omega
  have e2 : IntKind.wrap .i64 (Int.tdiv ((min m 100 : Nat) : Int) 2) = ((min m 100 / 2 : Nat) : Int) := by
    rw [Int.tdiv_eq_ediv_of_nonneg (by omega), IntKind.wrap_i64]; omega
  have lI : (info.take (min m 100)).length = min m 100 := by rw [List.length_take]; omega
  have sI : (bstr (info.take (min m 100))).size ≤ 4398046511104 := by rw [bstr_size]; omega
  have hf : List.flatten [(info.take (min m 100)).take (min m 100 / 2), ((info.take (min m 100)).drop (min m 100 / 2)).take (min m 100 - min m 100 / 2)] = info.take (min m 100) := two_parts lI (by omega)
  have lf := congrArg List.length hf
  rw [lI] at lf
  have d1 : decide ((400 : Int) < n) = true := decide_eq_true (by omega)
  have d2 : decide (n ≤ (8160 : Int)) = true := decide_eq_true (by omega)
  have hI : strL (bstr (info.take (min m 100))) = info.take (min m 100) := strL_bstr (bys_take h5 _)
  have eA := expA_eq key (bstr (info.take (min m 100))) [(info.take (min m 100)).take (min m 100 / 2), ((info.take (min m 100)).drop (min m 100 / 2)).take (min m 100 - min m 100 / 2)] h4 h1 sI (by rw [hf, hI]) ((400 + 31) / 32)
  have lA := expA_len key [(info.take (min m 100)).take (min m 100 / 2), ((info.take (min m 100)).drop (min m 100 / 2)).take (min m 100 - min m 100 / 2)] ((400 + 31) / 32)
  have dE : strEq (bstr ((expA key [(info.take (min m 100)).take (min m 100 / 2), ((info.take (min m 100)).drop (min m 100 / 2)).take (min m 100 - min m 100 / 2)] ((400 + 31) / 32)).take 400)) ((bstr (reO key (bstr (info.take (min m 100))) ((400 + 31) / 32))).extract 0 400) = true := by rw [bstr_extract, ← eA]; exact strEq_reflE _
  simp only [e1, e2, Int.toNat_natCast, List.drop_zero]
  and_intros
  all_goals try exact True.intro
  all_goals try with_reducible rfl
  all_goals try with_reducible assumption
  all_goals try omega
  all_goals try kernel_rfl
set_option maxHeartbeats 8000000 in
theorem lwExp4 (key : List Int) (n : Int) (m : Nat) (info : List Int) (h1 : key.length = 32) (h2 : info.length = m) (h3 : m ≤ 140737488355328) (h4 : (∀ x ∈ key, B8 x)) (h5 : (∀ x ∈ info, B8 x)) (h6 : 400 < n) (h7 : n ≤ 8160) {W : World} {vs : List Value} (hgl : ∀ g l, (g, l) ∈ (tabH : List (Nat × L)) → Lies (cxL W (tabH)) g 0 l) (hD : All2 (DA (cxL W (tabH)) be0) (kExp4 (key, n, m, info)).avs vs) : Calls Tryd.prog 4 vs.toArray W (fun e W' => e = .returned (.bool true) ∧ Upd (fun _ => False) W W') :=
  law_calls (F := FExp4) (fn := Tryd.f4) (c := Tryd.f4.body.getD .skip) (k := kExp4 (key, n, m, info)) rfl (evOKs ⟨.inl ⟨cLKnown_ok, by kernel_rfl, gl_sub (by first | exact .inl rfl | exact .inr rfl)⟩, ⟨.inl ⟨cMExp_ok, by kernel_rfl, gl_sub (by first | exact .inl rfl | exact .inr rfl)⟩, ⟨.inl ⟨cRExp_ok, by kernel_rfl, gl_sub (by first | exact .inl rfl | exact .inr rfl)⟩, trivial⟩⟩⟩) mixed rfl hgl Tryd.func4 (by kernel_rfl) rfl rfl hD (by kernel_rfl) (by with_reducible exact wpExp4 key n m info h1 h2 h3 h4 h5 h6 h7)

theorem macExpands_any (key info : List Int) (n : Int) (m : Nat) (hk : key.length = 32) (hi : info.length = m) (hm : m ≤ 140737488355328) (h4 : ∀ x ∈ key, B8 x) (h5 : ∀ x ∈ info, B8 x) {W : World} {v : Value} (hgl : ∀ g l, (g, l) ∈ tabH → Lies (cxL W tabH) g 0 l)
    (hv : DA (cxL W tabH) be0 (.o (.c (.rs 1 m (.i .u8 info)))) v) : Calls Tryd.prog 4 #[.agg (key.map (Value.int .u8)).toArray, .int .i64 n, v] W (fun e W' => e = .returned (.bool true) ∧ Upd (fun _ => False) W W') := by
  by_cases a1 : n < 0
  · exact lwExpN key n m info hk hi hm h4 h5 a1 (vs := [_, _, _]) hgl ⟨da_arr hk, da_int, hv, trivial⟩
  · by_cases a2 : 8160 < n
    · exact lwExpB key n m info hk hi hm h4 h5 a2 (vs := [_, _, _]) hgl ⟨da_arr hk, da_int, hv, trivial⟩
    · by_cases a3 : 400 < n
      · exact lwExp4 key n m info hk hi hm h4 h5 a3 (by omega) (vs := [_, _, _]) hgl ⟨da_arr hk, da_int, hv, trivial⟩
      · obtain ⟨k, rfl⟩ := Int.eq_ofNat_of_zero_le (Int.not_lt.1 a1)
        by_cases a4 : k = 0
        · subst a4
          exact lwExp0 key m info hk hi hm h4 h5 (vs := [_, _, _]) hgl ⟨da_arr hk, da_int, hv, trivial⟩
        · exact lwExp1 key k m info hk hi hm h4 h5 (by omega) (by omega) (vs := [_, _, _]) hgl ⟨da_arr hk, da_int, hv, trivial⟩
end Go.Proofs.YthhjcpiaoempfaaDoor
namespace Go.Proofs.YthhjcpiaoempfaaDoor.macExpands
open Go.ChangeShapes Go.WideShapes Go.ChangeAt Go.RowKit
set_option maxRecDepth 100000

theorem ownK : ownKnob Tryd.prog.godebug = none := by kernel_rfl
theorem laidOutK : laidOutB Tryd.prog = true := by kernel_rfl
theorem contract (H : Type) (enc : TypeId × Value → H) (W : World) (base : Nat) (args : Array Value) (ds gs : List (DataW H)) (before : List MemPlace)
    (hval : ∀ (j : Nat) t v, Tryd.f4.params[j]? = some t → args[j]? = some v → Value.okWide Tryd.prog W .any base t v)
    (hW : DataW.Whole enc Tryd.prog Tryd.f4.params.toList Rows.macExpandsSpec.vars false W args.toList ds gs before)
    (hsz0 : (DataW.weightsEach Tryd.prog (Tryd.f4.params.toList ++ Rows.macExpandsSpec.plain.varTypes Tryd.prog) (ds ++ gs)).all (· ≤ reachBytes) = true)
    (hL : laidMetH Tryd.prog Rows.macExpandsRow.laid W)
    : Calls Tryd.prog 4 args W fun e W' => ∃ v, e = .returned v ∧ Rows.macExpandsSpec.post enc Tryd.prog Tryd.f4 false true false false W args v W' := by
  have hW' := hW
  obtain ⟨p, q, hA0, hV, rfl, _, _⟩ := hW
  have hA : DataW.TrodAll enc Tryd.prog W 0 (fun _ => true) true Tryd.f4.params.toList args.toList ds p := hA0
  rw [Tryd.params4] at hA hval hsz0
  obtain ⟨v0, vs0, d0, ds0, p0, q0, hargs, rfl, rfl, h0, r0⟩ := trodAll_cons hA
  obtain ⟨v1, vs1, d1, ds1, p1, q1, rfl, rfl, rfl, h1, r1⟩ := trodAll_cons r0
  obtain ⟨v2, vs2, d2, ds2, p2, q2, rfl, rfl, rfl, h2, r2⟩ := trodAll_cons r1
  obtain ⟨rfl, rfl, rfl⟩ := trodAll_nil r2
  obtain rfl : args = #[v0, v1, v2] := by cases args; simp_all
  obtain ⟨rfl, rfl⟩ := trodVars_none hV
  have k0 := h0
  have lt0 : ∀ x ∈ p0, x.block < W.heap.size := by obtain ⟨m, hm⟩ := k0; exact DataW.trod_lt m _ _ _ hm
  obtain ⟨l0, rfl, hl0, hd0⟩ := open_arr8 (n := 32) Tryd.underlying25 Tryd.underlying5 (by kernel_rfl) (by kernel_rfl) (hval 0 25 v0 rfl rfl) h0
  obtain ⟨n1, rfl, rfl, rfl, wf1⟩ := open_int Tryd.underlying3 (hval 1 3 v1 rfl rfl) h1
  have bn1 := bounds_i64 wf1
  obtain ⟨a2, len2, cap2, rfl⟩ := okWide_slice Tryd.underlying22 (hval 2 22 v2 rfl rfl)
  have k2 := h2
  have lt2 : ∀ x ∈ p2, x.block < W.heap.size := by obtain ⟨m, hm⟩ := k2; exact DataW.trod_lt m _ _ _ hm
  have hw2 : ∀ n ∈ d2.weights Tryd.prog 22, n ≤ reachBytes := fun n hn => by
    simpa using List.all_eq_true.1 hsz0 _ (DataW.weights_mem_each (j := 2) (t := 22) (d := d2) rfl rfl n hn)
  obtain ⟨f2, hf2⟩ := h2
  obtain ⟨l2, pb2, po2, hl2, hd2, hc2, hr2, hsp2, hcs2⟩ := open_bytes Tryd.underlying22 Tryd.underlying5 (by kernel_rfl) (by kernel_rfl) hf2 hw2
  refine (macExpands_any l0 l2 n1 len2 hl0 hl2 (by omega) hd0 hd2 (hgl_of hL) (da_bytes hl2 hc2 hr2 hsp2 hcs2)).mono fun e W' ⟨he, hu⟩ => ?_
  subst he
  have bel := hu.below
  exact ⟨_, rfl, _, _, _, [], _, [], hW', trodAll_mk1 (shut_bool Tryd.underlying4 _), (trodAll_cons_mk (Below.trod laidOutK (by kernel_rfl) (of_decide_eq_true (by kernel_rfl)) k0 bel lt0) (trodAll_cons_mk (shut_int Tryd.underlying3 wf1) (trodAll_cons_mk (Below.trod laidOutK (by kernel_rfl) (of_decide_eq_true (by kernel_rfl)) k2 bel lt2) (trodAll_mk0)))), rfl, bel.frame _, fun h => by cases h⟩

theorem laid_met (os : Os) : laidMet Tryd.prog Rows.macExpandsRow.laid ((laidW os).forCall (fun _ _ => 0) ⟨#[], #[.agg (Array.replicate 32 (.int .u8 0)), .int .i64 0, .slice none 0 0], []⟩).memory :=
  laidMet_of_run' 8 (by kernel_rfl) (by kernel_rfl)
theorem reads (os : Os) {H : Type} (enc : TypeId × Value → H) : ∃ places, DataW.whole enc Tryd.prog ((laidW os).forCall (fun _ _ => 0) ⟨#[], #[.agg (Array.replicate 32 (.int .u8 0)), .int .i64 0, .slice none 0 0], []⟩).memory Tryd.f4.params.toList Rows.macExpandsSpec.vars false (#[.agg (Array.replicate 32 (.int .u8 0)), .int .i64 0, .slice none 0 0] : Array Value).toList 8 = some ([.agg (List.replicate 32 (.lit (.int .u8 0))), .lit (.int .i64 0), .nil], [], places) :=
  ⟨[], by kernel_rfl⟩

theorem lifted (os : Os) (started : os.Started) (H : Type) (enc : TypeId × Value → H) (F : Stop.Interp) :
    ReturnsInHanded {} Tryd.checked os 4 .any ((OpenSpec.ofChange Rows.macExpandsSpec).preRow enc Tryd.prog Tryd.f4 Rows.macExpandsRow.domain false Rows.macExpandsRow.laid) (((OpenSpec.ofChange Rows.macExpandsSpec).at F).post enc Tryd.prog Tryd.f4 false true false false) := by
  obtain ⟨places, hx⟩ := reads os enc
  refine returnsInHanded_of_row (C := Tryd.checked) (s := OpenSpec.ofChange Rows.macExpandsSpec) ownK started (by kernel_rfl) Tryd.func4
    (witness_row_at (enc := enc) (C := Tryd.checked) false (laidW os) #[.agg (Array.replicate 32 (.int .u8 0)), .int .i64 0, .slice none 0 0] rfl (by kernel_rfl) (by kernel_rfl) (by kernel_rfl)
      (OpenSpec.preRow_of_cond 8 hx (by kernel_rfl) (fun k hk => by cases hk) (by kernel_rfl) (laid_met os))) ?_
  intro W base args ds gs before hval hW _ _ hsz hL _ _
  exact contract H enc W base args ds gs before hval hW hsz hL

theorem said : Rows.MacExpandsSaid :=
  OpenClaim.holds_of_cond 4 Tryd.f4 rfl rfl rfl rfl rfl rfl rfl ⟨rfl, rfl, rfl, rfl, rfl⟩ rfl rfl rfl rfl rfl (by kernel_rfl) Tryd.func4 (by kernel_rfl)
    (of_decide_eq_true (by kernel_rfl)) (by unfold Func.isWrapper; first | (rw [if_pos (by decide +kernel)]; kernel_rfl) | (rw [if_neg (by decide +kernel)]; exact ⟨rfl, rfl⟩))
    (fun os started H enc _ F => by rw [OpenClaim.pre_eq_preRow]; exact lifted os started H enc F)

/-- No parameter wants a stand-in; the program's own looks are off: what the card asks. -/
theorem plain (f : FuncId) (fn : Func) (hf : Tryd.pinned.checked.prog.funcNamed "intaglio/intagliolaw02.MacExpands" = some f) (hfn : Tryd.pinned.checked.prog.funcs[f]? = some fn) :
    false = Tryd.pinned.checked.prog.looks [] ∧ ∀ (j : Nat) t, fn.params[j]? = some t → Tryd.pinned.checked.prog.wantsStandIn t = false := by
  obtain rfl : f = 4 := Option.some.inj ((show Tryd.prog.funcNamed "intaglio/intagliolaw02.MacExpands" = some 4 by kernel_rfl).symm.trans hf) |>.symm
  obtain rfl : fn = Tryd.f4 := (Option.some.inj (Tryd.func4.symm.trans hfn)).symm
  refine ⟨by kernel_rfl, fun j t ht => ?_⟩
  rw [Tryd.params4] at ht
  have hm := Array.mem_of_getElem? ht
  have : t = 25 ∨ t = 3 ∨ t = 22 := by simpa using hm
  rcases this with rfl | rfl | rfl
  · exact (show Tryd.prog.wantsStandIn 25 = false by kernel_rfl)
  · exact (show Tryd.prog.wantsStandIn 3 = false by kernel_rfl)
  · exact (show Tryd.prog.wantsStandIn 22 = false by kernel_rfl)

theorem card : Rows.MacExpandsCardSaid :=
  Claim7.holds_tied_plain_at .later [] _ _ _ _ said (fun _ h => by cases h) (by kernel_rfl) (fun _ h => by cases h) macExpands_row_tie rfl ⟨rfl, rfl⟩ (by kernel_rfl) rfl plain (by kernel_rfl)
end Go.Proofs.YthhjcpiaoempfaaDoor.macExpands
