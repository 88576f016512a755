/-
  poly: PolyParts.
-/
import Derived.Test.YtdbgnkmmjjgbpaaP4n
import Derived.Test.YtdbgnkmmjjgbpaaOw
namespace Go.Proofs.Ytdbgnkmmjjgbpaa
open Go.RowKit
set_option maxRecDepth 100000

theorem flat_up {ls : List (List Int)} {i : Nat} (h : i < ls.length) : (ls.take (i + 1)).flatten = (ls.take i).flatten ++ ls.getD i [] := (flat_at h).2
theorem flat_up_le (ls : List (List Int)) (i : Nat) : (ls.take i).flatten.length ≤ ls.flatten.length := by
  conv => rhs; rw [← List.take_append_drop i ls, List.flatten_append, List.length_append]
  omega
noncomputable def stPP (key : List Int) (ls : List (List Int)) (i : Nat) : St := ⟨Try.f7.ntmps, [(1, .o (.c (.rss ls))), (2, .o (.c (.ptr 0 0 none))), (5, .o (.c (.os 1 1 (ls.take i).flatten.length))), (10, .o (.c (.rss ls))), (11, vv (.int .i64 (ls.length : Int))), (12, vv (.int .i64 (i : Int)))], [.fix 23 [.many 32 (.i .u8 key)], .grow 5 1 (.i .u8 (ls.take i).flatten)]⟩
def fcPP (d : Nat) : Option Bool := bif Nat.beq d 27 then some true else none
def kPParts : (List Int) × (List (List Int)) → ClN := fun (key, ls) => ⟨[.o (.g [.many 32 (.i .u8 key)]), .o (.c (.rss ls))], [], vv (.bool true), [], [], [key.length = 32, ls.length ≤ 140737488355328, ls.flatten.length ≤ 140737488355328]⟩
noncomputable def FPParts (key : List Int) (ls : List (List Int)) : FnE := ⟨mkEv Try.prog [] [cSum, cPKnown] 0 fcPP, [0, 1, 2, 4, 5, 7, 9, 10, 11, 12, 13], fun _ _ => .peel { i : Nat // 1 ≤ i ∧ i ≤ ls.length } (fun i => stPP key ls i.val) (fun i => ls.length - i.val) [0, 1] [0, 2]⟩
theorem vcPParts (key : List Int) (ls : List (List Int)) : (wpE (FPParts key ls) (Try.f7.body.getD .skip) ⟨Try.f7.ntmps, slotsOf 0 (kPParts (key, ls)).avs, (kPParts (key, ls)).mem⟩ (finK Try.prog Try.f7.results.toList (postN (kPParts (key, ls))))) = (let x1 := sumL key (List.flatten [[]]); true = true ∧ (bif decide ((0 : Int) < (↑(List.length ls) : Int)) then (0 : Int) ≤ (0 : Int) ∧ (0 : Int) < (↑(List.length ls) : Int) ∧ List.length (List.getD ls (0 : Nat) []) * (1 : Nat) ≤ (140737488355328 : Nat) ∧ List.length (List.getD ls (0 : Nat) []) ≤ (9223372036854775807 : Nat) ∧ ∃ (x : { i : Nat // (1 : Nat) ≤ i ∧ i ≤ List.length ls }), true = true ∧ true = true ∧ (28 : Nat) = (28 : Nat) ∧ ls = ls ∧ getL [(0 : Nat), (1 : Nat)] (0 : Nat) = some (0 : Nat) ∧ (0 : Nat) = (0 : Nat) ∧ getL [(0 : Nat), (1 : Nat)] (1 : Nat) = some (Nat.add (Nat.add (1 : Nat) (0 : Nat)) (0 : Nat)) ∧ (1 : Nat) = (1 : Nat) ∧ List.length (List.getD ls (0 : Nat) []) = List.length (List.flatten (List.take (Subtype.val x) ls)) ∧ ls = ls ∧ Value.int IntKind.i64 (↑(List.length ls) : Int) = Value.int IntKind.i64 (↑(List.length ls) : Int) ∧ Value.int IntKind.i64 (1 : Int) = Value.int IntKind.i64 (↑(Subtype.val x) : Int) ∧ (23 : Nat) = (23 : Nat) ∧ (32 : Nat) = (32 : Nat) ∧ key = key ∧ (5 : Nat) = (5 : Nat) ∧ (1 : Nat) = (1 : Nat) ∧ List.getD ls (0 : Nat) [] = List.flatten (List.take (Subtype.val x) ls) else true = true ∧ (32 : Nat) = (32 : Nat) ∧ key = key ∧ true = true ∧ ls = ls ∧ List.length key = (32 : Nat) ∧ List.length ls ≤ (140737488355328 : Nat) ∧ true = true ∧ (32 : Nat) = (32 : Nat) ∧ key = key ∧ true = true ∧ asSS [[]] = [[]] ∧ (1 : Nat) = (1 : Nat) ∧ List.length key = (32 : Nat) ∧ (1 : Nat) ≤ (140737488355328 : Nat) ∧ decide (sumL key (List.flatten ls) = x1) = true ∧ true = true ∧ true = true ∧ (28 : Nat) = (28 : Nat) ∧ Value.bool true = Value.bool true) ∧ ∀ (x : { i : Nat // (1 : Nat) ≤ i ∧ i ≤ List.length ls }), bif decide ((↑(Subtype.val x) : Int) < (↑(List.length ls) : Int)) then (0 : Int) ≤ (↑(Subtype.val x) : Int) ∧ (↑(Subtype.val x) : Int) < (↑(List.length ls) : Int) ∧ List.length (List.flatten (List.take (Subtype.val x) ls)) = List.length (List.flatten (List.take (Subtype.val x) ls)) ∧ (List.length (List.flatten (List.take (Subtype.val x) ls)) + List.length (List.getD ls (Int.toNat (↑(Subtype.val x) : Int)) [])) * (1 : Nat) ≤ (140737488355328 : Nat) ∧ List.length (List.flatten (List.take (Subtype.val x) ls)) + List.length (List.getD ls (Int.toNat (↑(Subtype.val x) : Int)) []) ≤ (9223372036854775807 : Nat) ∧ ∃ (y : { i : Nat // (1 : Nat) ≤ i ∧ i ≤ List.length ls }), (true = true ∧ true = true ∧ (28 : Nat) = (28 : Nat) ∧ ls = ls ∧ getL [(0 : Nat), (2 : Nat)] (0 : Nat) = some (0 : Nat) ∧ (0 : Nat) = (0 : Nat) ∧ getL [(0 : Nat), (2 : Nat)] (1 : Nat) = some (Nat.add (Nat.add (2 : Nat) (0 : Nat)) (0 : Nat)) ∧ (1 : Nat) = (1 : Nat) ∧ List.length (List.flatten (List.take (Subtype.val x) ls)) + List.length (List.getD ls (Int.toNat (↑(Subtype.val x) : Int)) []) = List.length (List.flatten (List.take (Subtype.val y) ls)) ∧ ls = ls ∧ Value.int IntKind.i64 (↑(List.length ls) : Int) = Value.int IntKind.i64 (↑(List.length ls) : Int) ∧ Value.int IntKind.i64 (IntKind.wrap IntKind.i64 ((↑(Subtype.val x) : Int) + (1 : Int))) = Value.int IntKind.i64 (↑(Subtype.val y) : Int) ∧ (23 : Nat) = (23 : Nat) ∧ (32 : Nat) = (32 : Nat) ∧ key = key ∧ (5 : Nat) = (5 : Nat) ∧ (1 : Nat) = (1 : Nat) ∧ List.flatten (List.take (Subtype.val x) ls) ++ List.getD ls (Int.toNat (↑(Subtype.val x) : Int)) [] = List.flatten (List.take (Subtype.val y) ls)) ∧ List.length ls - Subtype.val y < List.length ls - Subtype.val x else true = true ∧ (32 : Nat) = (32 : Nat) ∧ key = key ∧ true = true ∧ ls = ls ∧ List.length key = (32 : Nat) ∧ List.length ls ≤ (140737488355328 : Nat) ∧ true = true ∧ (32 : Nat) = (32 : Nat) ∧ key = key ∧ true = true ∧ [List.flatten (List.take (Subtype.val x) ls)] = [List.flatten (List.take (Subtype.val x) ls)] ∧ (1 : Nat) = (1 : Nat) ∧ List.length (List.flatten (List.take (Subtype.val x) ls)) = List.length (List.flatten (List.take (Subtype.val x) ls)) ∧ List.length key = (32 : Nat) ∧ (1 : Nat) ≤ (140737488355328 : Nat) ∧ decide (sumL key (List.flatten ls) = sumL key (List.flatten [List.flatten (List.take (Subtype.val x) ls)])) = true ∧ true = true ∧ true = true ∧ (28 : Nat) = (28 : Nat) ∧ Value.bool true = Value.bool true) := by kernel_rfl

set_option maxHeartbeats 8000000 in
theorem wpPParts (key : List Int) (ls : List (List Int)) (h1 : key.length = 32) (h2 : ls.length ≤ 140737488355328) (h3 : ls.flatten.length ≤ 140737488355328) : wpE (FPParts key ls) (Try.f7.body.getD .skip) ⟨Try.f7.ntmps, slotsOf 0 (kPParts (key, ls)).avs, (kPParts (key, ls)).mem⟩ (finK Try.prog Try.f7.results.toList (postN (kPParts (key, ls)))) := by
  with_reducible refine Eq.mpr (vcPParts key ls) ?_
  have e1 : [([] : List Int)].flatten = [] := rfl
  have e2 : ∀ i, [(ls.take i).flatten].flatten = (ls.take i).flatten := fun i => by simp
  simp only [Bool.cond_decide, Int.toNat_natCast, e1, e2]
  refine ⟨trivial, ?_, ?_⟩
  · split
    · rename_i h0
      have h0' : 0 < ls.length := by omega
      have hf := flat_up h0'
      have hle := flat_up_le ls 1
      have hf0 : (ls.take 1).flatten = ls.getD 0 [] := hf
      rw [hf0] at hle
      and_intros
      all_goals first | omega | exact True.intro | skip
      exact ⟨⟨1, Nat.le_refl _, h0'⟩, by dsimp only; rw [hf0]; and_intros <;> first | exact True.intro | rfl⟩
    · rename_i h0
      have h0' : ls = [] := List.eq_nil_of_length_eq_zero (by omega)
      have hd : decide (sumL key ls.flatten = sumL key []) = true := by rw [h0']; exact decide_eq_true rfl
      and_intros <;> first | omega | exact True.intro | with_reducible assumption | with_reducible rfl | kernel_rfl
  · rintro ⟨i, h1i, hi⟩
    dsimp only at hi ⊢
    split
    · rename_i hil
      have hil' : i < ls.length := by omega
      have hf := flat_up hil'
      have hle := flat_up_le ls (i + 1)
      rw [hf, List.length_append] at hle
      have hw : IntKind.wrap .i64 ((i : Int) + 1) = ((i + 1 : Nat) : Int) := by rw [IntKind.wrap_i64]; omega
      simp only [hw]
      and_intros
      all_goals first | omega | exact True.intro | skip
      refine ⟨⟨i + 1, by omega, hil'⟩, ?_, by show ls.length - (i + 1) < ls.length - i; omega⟩
      dsimp only
      rw [hf, List.length_append]
      and_intros <;> first | exact True.intro | rfl
    · rename_i hil
      have hil' : i = ls.length := by omega
      subst hil'
      simp only [List.take_length]
      and_intros <;> first | omega | exact True.intro | with_reducible assumption | exact decide_eq_true rfl | with_reducible rfl | kernel_rfl
set_option maxHeartbeats 8000000 in
theorem lwPParts (key : List Int) (ls : List (List Int)) (h1 : key.length = 32) (h2 : ls.length ≤ 140737488355328) (h3 : ls.flatten.length ≤ 140737488355328) {W : World} {vs : List Value} (hD : All2 (DA (cxL W ([])) be0) (kPParts (key, ls)).avs vs) : Calls Try.prog 7 vs.toArray W (fun e W' => e = .returned (.bool true) ∧ Upd (fun _ => False) W W') :=
  law_calls (F := FPParts key ls) (fn := Try.f7) (c := Try.f7.body.getD .skip) (k := kPParts (key, ls)) rfl (evOKs ⟨.inl ⟨cSum_ok, by kernel_rfl, gl_nil rfl⟩, ⟨.inl ⟨cPKnown_ok, by kernel_rfl, gl_nil rfl⟩, trivial⟩⟩) mixed rfl (fun _ _ h => by cases h) Try.func7 (by kernel_rfl) rfl rfl hD (by kernel_rfl) (by with_reducible exact wpPParts key ls h1 h2 h3)
theorem polyParts_any (key : List Int) (ls : List (List Int)) (hk : key.length = 32) (hl : ls.length ≤ 140737488355328) (hf : ls.flatten.length ≤ 140737488355328) {W : World} {v : Value} (hv : DA (cxL W []) be0 (.o (.c (.rss ls))) v) : Calls Try.prog 7 #[.agg (key.map (Value.int .u8)).toArray, v] W (fun e W' => e = .returned (.bool true) ∧ Upd (fun _ => False) W W') :=
  lwPParts key ls hk hl hf (vs := [_, _]) ⟨da_arr hk, hv, trivial⟩
end Go.Proofs.Ytdbgnkmmjjgbpaa
