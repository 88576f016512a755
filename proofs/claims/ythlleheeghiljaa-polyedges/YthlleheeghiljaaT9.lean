/-
  poly beside the reference: PolySums.
-/
import Derived.Test.YthlleheeghiljaaE9e
import Derived.Test.YthlleheeghiljaaS9b
import Derived.Test.YthlleheeghiljaaP4n
namespace Go.Proofs.Ythlleheeghiljaa
open Go.RowKit
set_option maxRecDepth 100000

theorem min400 (n : Nat) : (if (400 : Int) < (n : Int) then (400 : Int) else (n : Int)) = ((min n 400 : Nat) : Int) := by split <;> omega
theorem flat_one (l : List Int) : List.flatten [l] = l := by rw [List.flatten_cons, List.flatten_nil, List.append_nil]
def kLSums : (List Int) × (List Int) × Nat → ClN := fun (key, t, n) => ⟨[.o (.g [.many 32 (.i .u8 key)]), .o (.c (.rs 1 n (.i .u8 t)))], [], vv (.bool true), [], [], [key.length = 32, Bys key, Bys t, t.length = n, n ≤ 140737488355328]⟩
noncomputable def FLSums : FnE := ⟨mkEv Try.prog [] [cPKnown, cSum, cSSum] 0, [0, 1, 2, 4, 6], fun _ _ => .rounds 0⟩
theorem vcLSums (key t : List Int) (n : Nat) : (wpE FLSums (Try.f5.body.getD .skip) ⟨Try.f5.ntmps, slotsOf 0 (kLSums (key, t, n)).avs, (kLSums (key, t, n)).mem⟩ (finK Try.prog Try.f5.results.toList (postN (kLSums (key, t, n))))) = (let x1 := if (400 : Int) < (↑n : Int) then (400 : Int) else (↑n : Int); let x2 := List.take (Int.toNat x1) (List.drop (0 : Nat) t); let x3 := [x2]; let x4 := bstr x2; let x5 := strL x4; true = true ∧ (0 : Int) ≤ x1 ∧ Int.toNat x1 ≤ n ∧ true = true ∧ (32 : Nat) = (32 : Nat) ∧ key = key ∧ true = true ∧ x3 = x3 ∧ (1 : Nat) = (1 : Nat) ∧ List.length key = (32 : Nat) ∧ (1 : Nat) ≤ (140737488355328 : Nat) ∧ true = true ∧ (32 : Nat) = (32 : Nat) ∧ key = key ∧ Value.string x4 = Value.string (bstr x5) ∧ List.length key = (32 : Nat) ∧ Bys key ∧ Bys x5 ∧ List.length x5 ≤ (140737488355328 : Nat) ∧ true = true ∧ true = true ∧ (21 : Nat) = (21 : Nat) ∧ Value.bool (decide (sumL key (List.flatten x3) = dgl (16 : Nat) (accR (valD (rR key)) x5 ((List.length x5 + (15 : Nat)) / (16 : Nat)) + valD (List.drop (16 : Nat) key)))) = Value.bool true) := by kernel_rfl

set_option maxHeartbeats 8000000 in
theorem wpLSums (key t : List Int) (n : Nat) (h1 : key.length = 32) (h2 : Bys key) (h3 : Bys t) (h4 : t.length = n) (h5 : n ≤ 140737488355328) : wpE FLSums (Try.f5.body.getD .skip) ⟨Try.f5.ntmps, slotsOf 0 (kLSums (key, t, n)).avs, (kLSums (key, t, n)).mem⟩ (finK Try.prog Try.f5.results.toList (postN (kLSums (key, t, n)))) := by
  with_reducible refine Eq.mpr (vcLSums key t n) ?_
  have bt : Bys (t.take (min n 400)) := h3.take _
  have es := strL_bstr bt
  have lt : (t.take (min n 400)).length = min n 400 := by rw [List.length_take]; omega
  have d := decide_eq_true (sumL_eq h1 h2 bt)
  simp only [min400, Int.toNat_natCast, List.drop_zero, es, flat_one]
  and_intros
  all_goals try exact True.intro
  all_goals try with_reducible assumption
  all_goals try omega
  all_goals try with_reducible rfl
  all_goals try exact congrArg Value.bool d
  all_goals kernel_rfl
set_option maxHeartbeats 8000000 in
theorem lwLSums (key t : List Int) (n : Nat) (h1 : key.length = 32) (h2 : Bys key) (h3 : Bys t) (h4 : t.length = n) (h5 : n ≤ 140737488355328) {W : World} {vs : List Value} (hD : All2 (DA (cxL W ([])) be0) (kLSums (key, t, n)).avs vs) : Calls Try.prog 5 vs.toArray W (fun e W' => e = .returned (.bool true) ∧ Upd (fun _ => False) W W') :=
  law_calls (F := FLSums) (fn := Try.f5) (c := Try.f5.body.getD .skip) (k := kLSums (key, t, n)) rfl (evOKs ⟨.inl ⟨cPKnown_ok, by kernel_rfl, gl_nil rfl⟩, ⟨.inl ⟨cSum_ok, by kernel_rfl, gl_nil rfl⟩, ⟨.inl ⟨cSSum_ok, by kernel_rfl, gl_nil rfl⟩, trivial⟩⟩⟩) mixed rfl (fun _ _ h => by cases h) Try.func5 (by kernel_rfl) rfl rfl hD (by kernel_rfl) (by with_reducible exact wpLSums key t n h1 h2 h3 h4 h5)
theorem polySums_any (key t : List Int) (n : Nat) (hk : key.length = 32) (bk : Bys key) (bt : Bys t) (ht : t.length = n) (hn : n ≤ 140737488355328) {W : World} {v : Value} (hv : DA (cxL W []) be0 (.o (.c (.rs 1 n (.i .u8 t)))) v) : Calls Try.prog 5 #[.agg (key.map (Value.int .u8)).toArray, v] W (fun e W' => e = .returned (.bool true) ∧ Upd (fun _ => False) W W') :=
  lwLSums key t n hk bk bt ht hn (vs := [_, _]) ⟨da_arr hk, hv, trivial⟩
end Go.Proofs.Ythlleheeghiljaa
