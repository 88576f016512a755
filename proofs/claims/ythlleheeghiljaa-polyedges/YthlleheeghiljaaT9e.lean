/-
  poly beside the reference: PolyEdges.
-/
import Derived.Test.YthlleheeghiljaaT9
import Derived.Test.YthlleheeghiljaaOw
namespace Go.Proofs.Ythlleheeghiljaa
open Go.RowKit
set_option maxRecDepth 100000

def edgA : List Int := [0, 255, 1, 251]
def edgB : List Int := [255, 251, 0, 5]
def eky (k : List Int) : Nat → List Int
  | 0 => k
  | i + 1 => (eky k i).set i (edgA.getD (Int.tmod ((eky k i).getD i 0) 4).toNat 0)
def ebt (s : List Int) : Nat → List Int
  | 0 => []
  | i + 1 => ebt s i ++ [edgB.getD (Int.tmod (s.getD i 0) 4).toNat 0]
theorem edg_in (l : List Int) (h : l = edgA ∨ l = edgB) (j : Nat) : 0 ≤ l.getD j 0 ∧ l.getD j 0 < 256 := by
  have hb : Bys l := by
    rcases h with rfl | rfl
    · exact (show ∀ x ∈ [0, 255, 1, 251], (0 : Int) ≤ x ∧ x < 256 by decide)
    · exact (show ∀ x ∈ [255, 251, 0, 5], (0 : Int) ≤ x ∧ x < 256 by decide)
  exact hb.at j
theorem eky_len (k : List Int) : ∀ i, (eky k i).length = k.length
  | 0 => rfl
  | i + 1 => by rw [eky, List.length_set, eky_len k i]
theorem eky_bys {k : List Int} (h : Bys k) : ∀ i, Bys (eky k i)
  | 0 => h
  | i + 1 => (eky_bys h i).set i (edg_in edgA (.inl rfl) _)
theorem ebt_len (s : List Int) : ∀ i, (ebt s i).length = i
  | 0 => rfl
  | i + 1 => by rw [ebt, List.length_append, ebt_len s i]; rfl
theorem ebt_bys (s : List Int) : ∀ i, Bys (ebt s i)
  | 0 => fun _ h => by cases h
  | i + 1 => fun y hy => by
    rcases List.mem_append.1 hy with h | h
    · exact ebt_bys s i y h
    · rw [List.mem_singleton] at h; subst h; exact edg_in edgB (.inr rfl) _
theorem lay_bys {l x : List Int} (hl : Bys l) (hx : Bys x) (a : Nat) : Bys (lay l a x) := fun y hy => by
  unfold lay at hy
  rcases List.mem_append.1 hy with h | h
  · rcases List.mem_append.1 h with h | h
    · exact hl y (List.mem_of_mem_take h)
    · exact hx y h
  · exact hl y (List.mem_of_mem_drop h)
theorem tmod4 {x : Int} (h : 0 ≤ x ∧ x < 256) : 0 ≤ Int.tmod x 4 ∧ Int.tmod x 4 < 4 := by rw [Int.tmod_eq_emod_of_nonneg h.1]; omega
noncomputable def stE1 (k s o : List Int) (i : Nat) : St := ⟨Try.f6.ntmps, [(1, .o (.c (.rs 1 s.length (.i .u8 s)))), (3, .o (.c (.ptr 0 0 none))), (5, .o (.c (.ptr 1 0 none))), (7, vv (.int .i64 (i : Int)))], [.fix 23 [.many 32 (.i .u8 (eky k i))], .fix 23 [.many 32 (.i .u8 o)]]⟩
noncomputable def stE2 (k s o : List Int) (i : Nat) : St := ⟨Try.f6.ntmps, [(3, .o (.c (.ptr 0 0 none))), (5, .o (.c (.ptr 1 0 none))), (8, .o (.c (.os 2 1 (min i 200)))), (25, .o (.c (.rs 1 s.length (.i .u8 s)))), (26, vv (.int .i64 (s.length : Int))), (27, vv (.int .i64 (i : Int)))], [.fix 23 [.many 32 (.i .u8 (eky k 16))], .fix 23 [.many 32 (.i .u8 o)], .grow 5 1 (.i .u8 (ebt s (min i 200)))]⟩
def kLEdges : (List Int) × (List Int) × (List Int) → ClN := fun (key, s, o) => ⟨[.o (.g [.many 32 (.i .u8 key)]), .o (.c (.rs 1 s.length (.i .u8 s))), .o (.g [.many 32 (.i .u8 o)])], [], vv (.bool true), [], [], [key.length = 32, o.length = 32, Bys key, Bys s, Bys o, s.length ≤ 140737488355328]⟩
noncomputable def FLEdges (key s o : List Int) : FnE := ⟨mkEv Try.prog [] [cPKnown, cSum, cSSum] 0, [0, 1, 2, 3, 5, 6, 7, 8, 9, 10, 12, 14, 25, 26, 27, 28, 33], fun g _ => bif Nat.beq g 4 then .inv { i : Nat // i ≤ 16 } (fun i => stE1 key s o i.val) (fun i => 16 - i.val) [0, 1] [0, 1] else .peel { i : Nat // 1 ≤ i ∧ i ≤ s.length } (fun i => stE2 key s o i.val) (fun i => s.length - i.val) [0, 1, 5000008] [0, 1, 5000008]⟩
theorem vcLEdges (key s o : List Int) : (wpE (FLEdges key s o) (Try.f6.body.getD .skip) ⟨Try.f6.ntmps, slotsOf 0 (kLEdges (key, s, o)).avs, (kLEdges (key, s, o)).mem⟩ (finK Try.prog Try.f6.results.toList (postN (kLEdges (key, s, o))))) = (let x1 := Int.tmod (List.getD s (0 : Nat) (0 : Int)) (4 : Int); let x2 := List.take (16 : Nat) (List.drop (0 : Nat) (List.take (16 : Nat) (List.drop (0 : Nat) o))); let x4 := lay (eky key (16 : Nat)) (16 : Nat) x2; true = true ∧ (∃ (x : { i : Nat // i ≤ (16 : Nat) }), true = true ∧ true = true ∧ (54 : Nat) = (54 : Nat) ∧ (1 : Nat) = (1 : Nat) ∧ List.length s = List.length s ∧ s = s ∧ getL [(0 : Nat), (1 : Nat)] (0 : Nat) = some (0 : Nat) ∧ (0 : Nat) = (0 : Nat) ∧ getL [(0 : Nat), (1 : Nat)] (1 : Nat) = some (Nat.add (0 : Nat) (1 : Nat)) ∧ (0 : Nat) = (0 : Nat) ∧ Value.int IntKind.i64 (0 : Int) = Value.int IntKind.i64 (↑(Subtype.val x) : Int) ∧ (23 : Nat) = (23 : Nat) ∧ (32 : Nat) = (32 : Nat) ∧ key = eky key (Subtype.val x) ∧ (23 : Nat) = (23 : Nat) ∧ (32 : Nat) = (32 : Nat) ∧ o = o) ∧ ∀ (x : { i : Nat // i ≤ (16 : Nat) }), bif decide ((↑(Subtype.val x) : Int) < (16 : Int)) then (0 : Int) ≤ (↑(Subtype.val x) : Int) ∧ (↑(Subtype.val x) : Int) < (32 : Int) ∧ Int.toNat (↑(Subtype.val x) : Int) < (32 : Nat) ∧ (4 : Int) ≠ (0 : Int) ∧ (0 : Int) ≤ Int.tmod (List.getD (eky key (Subtype.val x)) (Int.toNat (↑(Subtype.val x) : Int)) (0 : Int)) (4 : Int) ∧ Int.tmod (List.getD (eky key (Subtype.val x)) (Int.toNat (↑(Subtype.val x) : Int)) (0 : Int)) (4 : Int) < (4 : Int) ∧ (0 : Int) ≤ (↑(Subtype.val x) : Int) ∧ (↑(Subtype.val x) : Int) < (32 : Int) ∧ Int.toNat (↑(Subtype.val x) : Int) < (32 : Nat) ∧ ∃ (y : { i : Nat // i ≤ (16 : Nat) }), (true = true ∧ true = true ∧ (54 : Nat) = (54 : Nat) ∧ (1 : Nat) = (1 : Nat) ∧ List.length s = List.length s ∧ s = s ∧ getL [(0 : Nat), (1 : Nat)] (0 : Nat) = some (0 : Nat) ∧ (0 : Nat) = (0 : Nat) ∧ getL [(0 : Nat), (1 : Nat)] (1 : Nat) = some (1 : Nat) ∧ (0 : Nat) = (0 : Nat) ∧ Value.int IntKind.i64 (IntKind.wrap IntKind.i64 ((↑(Subtype.val x) : Int) + (1 : Int))) = Value.int IntKind.i64 (↑(Subtype.val y) : Int) ∧ (23 : Nat) = (23 : Nat) ∧ (32 : Nat) = (32 : Nat) ∧ List.set (eky key (Subtype.val x)) (Int.toNat (↑(Subtype.val x) : Int)) (List.getD [(0 : Int), (255 : Int), (1 : Int), (251 : Int)] (Int.toNat (Int.tmod (List.getD (eky key (Subtype.val x)) (Int.toNat (↑(Subtype.val x) : Int)) (0 : Int)) (4 : Int))) (0 : Int)) = eky key (Subtype.val y) ∧ (23 : Nat) = (23 : Nat) ∧ (32 : Nat) = (32 : Nat) ∧ o = o) ∧ (16 : Nat) - Subtype.val y < (16 : Nat) - Subtype.val x else (bif decide ((0 : Int) < (↑(List.length s) : Int)) then (0 : Int) ≤ (0 : Int) ∧ (0 : Int) < (↑(List.length s) : Int) ∧ (0 : Nat) < List.length s ∧ (4 : Int) ≠ (0 : Int) ∧ (0 : Int) ≤ x1 ∧ x1 < (4 : Int) ∧ (1 : Nat) = (1 : Nat) ∧ (1 : Nat) ≤ (140737488355328 : Nat) ∧ (1 : Nat) ≤ (9223372036854775807 : Nat) ∧ ∃ (x_1 : { i : Nat // (1 : Nat) ≤ i ∧ i ≤ List.length s }), true = true ∧ true = true ∧ (54 : Nat) = (54 : Nat) ∧ getL [(0 : Nat), (1 : Nat), (3 : Nat)] (0 : Nat) = some (0 : Nat) ∧ (0 : Nat) = (0 : Nat) ∧ getL [(0 : Nat), (1 : Nat), (3 : Nat)] (1 : Nat) = some (1 : Nat) ∧ (0 : Nat) = (0 : Nat) ∧ getL [(0 : Nat), (1 : Nat), (3 : Nat)] (2 : Nat) = some (Nat.add (Nat.add (Nat.add (Nat.add (Nat.add (Nat.add (2 : Nat) (0 : Nat)) (0 : Nat)) (0 : Nat)) (0 : Nat)) (0 : Nat)) (1 : Nat)) ∧ (1 : Nat) = (1 : Nat) ∧ (1 : Nat) = min (Subtype.val x_1) (200 : Nat) ∧ (1 : Nat) = (1 : Nat) ∧ List.length s = List.length s ∧ s = s ∧ Value.int IntKind.i64 (↑(List.length s) : Int) = Value.int IntKind.i64 (↑(List.length s) : Int) ∧ Value.int IntKind.i64 (1 : Int) = Value.int IntKind.i64 (↑(Subtype.val x_1) : Int) ∧ (23 : Nat) = (23 : Nat) ∧ (32 : Nat) = (32 : Nat) ∧ eky key (Subtype.val x) = eky key (16 : Nat) ∧ (23 : Nat) = (23 : Nat) ∧ (32 : Nat) = (32 : Nat) ∧ o = o ∧ (5 : Nat) = (5 : Nat) ∧ (1 : Nat) = (1 : Nat) ∧ [List.getD [(255 : Int), (251 : Int), (0 : Int), (5 : Int)] (Int.toNat x1) (0 : Int)] = ebt s (min (Subtype.val x_1) (200 : Nat)) else (0 : Int) ≤ (16 : Int) ∧ (16 : Nat) ≤ (32 : Nat) ∧ (32 : Nat) ≤ (9223372036854775807 : Nat) ∧ (0 : Int) ≤ (16 : Int) ∧ (16 : Nat) ≤ (32 : Nat) ∧ (32 : Nat) ≤ (9223372036854775807 : Nat) ∧ (16 : Nat) ≤ (32 : Nat) ∧ (32 : Nat) ≤ (32 : Nat) ∧ true = true ∧ (32 : Nat) = (32 : Nat) ∧ lay (eky key (Subtype.val x)) (16 : Nat) x2 = lay (eky key (Subtype.val x)) (16 : Nat) x2 ∧ true = true ∧ asSS [[]] = [[]] ∧ (1 : Nat) = (1 : Nat) ∧ List.length (lay (eky key (Subtype.val x)) (16 : Nat) x2) = (32 : Nat) ∧ (1 : Nat) ≤ (140737488355328 : Nat) ∧ true = true ∧ (32 : Nat) = (32 : Nat) ∧ lay (eky key (Subtype.val x)) (16 : Nat) x2 = lay (eky key (Subtype.val x)) (16 : Nat) x2 ∧ Value.string { data := #[] } = Value.string (bstr (strL { data := #[] })) ∧ List.length (lay (eky key (Subtype.val x)) (16 : Nat) x2) = (32 : Nat) ∧ Bys (lay (eky key (Subtype.val x)) (16 : Nat) x2) ∧ Bys (strL { data := #[] }) ∧ (0 : Nat) ≤ (140737488355328 : Nat) ∧ true = true ∧ true = true ∧ (54 : Nat) = (54 : Nat) ∧ Value.bool (decide (sumL (lay (eky key (Subtype.val x)) (16 : Nat) x2) (List.flatten [[]]) = dgl (16 : Nat) (accR (valD (rR (lay (eky key (Subtype.val x)) (16 : Nat) x2))) (strL { data := #[] }) (0 : Nat) + valD (List.drop (16 : Nat) (lay (eky key (Subtype.val x)) (16 : Nat) x2))))) = Value.bool true) ∧ ∀ (x : { i : Nat // (1 : Nat) ≤ i ∧ i ≤ List.length s }), bif decide ((↑(Subtype.val x) : Int) < (↑(List.length s) : Int)) then (0 : Int) ≤ (↑(Subtype.val x) : Int) ∧ (↑(Subtype.val x) : Int) < (↑(List.length s) : Int) ∧ Int.toNat (↑(Subtype.val x) : Int) < List.length s ∧ bif decide ((↑(Subtype.val x) : Int) < (200 : Int)) then (4 : Int) ≠ (0 : Int) ∧ (0 : Int) ≤ Int.tmod (List.getD s (Int.toNat (↑(Subtype.val x) : Int)) (0 : Int)) (4 : Int) ∧ Int.tmod (List.getD s (Int.toNat (↑(Subtype.val x) : Int)) (0 : Int)) (4 : Int) < (4 : Int) ∧ (1 : Nat) = (1 : Nat) ∧ List.length (ebt s (min (Subtype.val x) (200 : Nat))) = min (Subtype.val x) (200 : Nat) ∧ (min (Subtype.val x) (200 : Nat) + (1 : Nat)) * (1 : Nat) ≤ (140737488355328 : Nat) ∧ min (Subtype.val x) (200 : Nat) + (1 : Nat) ≤ (9223372036854775807 : Nat) ∧ ∃ (y : { i : Nat // (1 : Nat) ≤ i ∧ i ≤ List.length s }), (true = true ∧ true = true ∧ (54 : Nat) = (54 : Nat) ∧ getL [(0 : Nat), (1 : Nat), (4 : Nat)] (0 : Nat) = some (0 : Nat) ∧ (0 : Nat) = (0 : Nat) ∧ getL [(0 : Nat), (1 : Nat), (4 : Nat)] (1 : Nat) = some (1 : Nat) ∧ (0 : Nat) = (0 : Nat) ∧ getL [(0 : Nat), (1 : Nat), (4 : Nat)] (2 : Nat) = some (Nat.add (Nat.add (Nat.add (Nat.add (Nat.add (Nat.add (3 : Nat) (0 : Nat)) (0 : Nat)) (0 : Nat)) (0 : Nat)) (0 : Nat)) (1 : Nat)) ∧ (1 : Nat) = (1 : Nat) ∧ min (Subtype.val x) (200 : Nat) + (1 : Nat) = min (Subtype.val y) (200 : Nat) ∧ (1 : Nat) = (1 : Nat) ∧ List.length s = List.length s ∧ s = s ∧ Value.int IntKind.i64 (↑(List.length s) : Int) = Value.int IntKind.i64 (↑(List.length s) : Int) ∧ Value.int IntKind.i64 (IntKind.wrap IntKind.i64 ((↑(Subtype.val x) : Int) + (1 : Int))) = Value.int IntKind.i64 (↑(Subtype.val y) : Int) ∧ (23 : Nat) = (23 : Nat) ∧ (32 : Nat) = (32 : Nat) ∧ eky key (16 : Nat) = eky key (16 : Nat) ∧ (23 : Nat) = (23 : Nat) ∧ (32 : Nat) = (32 : Nat) ∧ o = o ∧ (5 : Nat) = (5 : Nat) ∧ (1 : Nat) = (1 : Nat) ∧ ebt s (min (Subtype.val x) (200 : Nat)) ++ [List.getD [(255 : Int), (251 : Int), (0 : Int), (5 : Int)] (Int.toNat (Int.tmod (List.getD s (Int.toNat (↑(Subtype.val x) : Int)) (0 : Int)) (4 : Int))) (0 : Int)] = ebt s (min (Subtype.val y) (200 : Nat))) ∧ List.length s - Subtype.val y < List.length s - Subtype.val x else ∃ (y : { i : Nat // (1 : Nat) ≤ i ∧ i ≤ List.length s }), (true = true ∧ true = true ∧ (54 : Nat) = (54 : Nat) ∧ getL [(0 : Nat), (1 : Nat), (2 : Nat)] (0 : Nat) = some (0 : Nat) ∧ (0 : Nat) = (0 : Nat) ∧ getL [(0 : Nat), (1 : Nat), (2 : Nat)] (1 : Nat) = some (1 : Nat) ∧ (0 : Nat) = (0 : Nat) ∧ getL [(0 : Nat), (1 : Nat), (2 : Nat)] (2 : Nat) = some (2 : Nat) ∧ (1 : Nat) = (1 : Nat) ∧ min (Subtype.val x) (200 : Nat) = min (Subtype.val y) (200 : Nat) ∧ (1 : Nat) = (1 : Nat) ∧ List.length s = List.length s ∧ s = s ∧ Value.int IntKind.i64 (↑(List.length s) : Int) = Value.int IntKind.i64 (↑(List.length s) : Int) ∧ Value.int IntKind.i64 (IntKind.wrap IntKind.i64 ((↑(Subtype.val x) : Int) + (1 : Int))) = Value.int IntKind.i64 (↑(Subtype.val y) : Int) ∧ (23 : Nat) = (23 : Nat) ∧ (32 : Nat) = (32 : Nat) ∧ eky key (16 : Nat) = eky key (16 : Nat) ∧ (23 : Nat) = (23 : Nat) ∧ (32 : Nat) = (32 : Nat) ∧ o = o ∧ (5 : Nat) = (5 : Nat) ∧ (1 : Nat) = (1 : Nat) ∧ ebt s (min (Subtype.val x) (200 : Nat)) = ebt s (min (Subtype.val y) (200 : Nat))) ∧ List.length s - Subtype.val y < List.length s - Subtype.val x else (0 : Int) ≤ (16 : Int) ∧ (16 : Nat) ≤ (32 : Nat) ∧ (32 : Nat) ≤ (9223372036854775807 : Nat) ∧ (0 : Int) ≤ (16 : Int) ∧ (16 : Nat) ≤ (32 : Nat) ∧ (32 : Nat) ≤ (9223372036854775807 : Nat) ∧ (16 : Nat) ≤ (32 : Nat) ∧ (32 : Nat) ≤ (32 : Nat) ∧ true = true ∧ (32 : Nat) = (32 : Nat) ∧ x4 = x4 ∧ true = true ∧ [ebt s (min (Subtype.val x) (200 : Nat))] = [ebt s (min (Subtype.val x) (200 : Nat))] ∧ (1 : Nat) = (1 : Nat) ∧ List.length (ebt s (min (Subtype.val x) (200 : Nat))) = min (Subtype.val x) (200 : Nat) ∧ List.length x4 = (32 : Nat) ∧ (1 : Nat) ≤ (140737488355328 : Nat) ∧ List.length (ebt s (min (Subtype.val x) (200 : Nat))) = min (Subtype.val x) (200 : Nat) ∧ true = true ∧ (32 : Nat) = (32 : Nat) ∧ x4 = x4 ∧ Value.string (bstr (ebt s (min (Subtype.val x) (200 : Nat)))) = Value.string (bstr (strL (bstr (ebt s (min (Subtype.val x) (200 : Nat)))))) ∧ List.length x4 = (32 : Nat) ∧ Bys x4 ∧ Bys (strL (bstr (ebt s (min (Subtype.val x) (200 : Nat))))) ∧ List.length (strL (bstr (ebt s (min (Subtype.val x) (200 : Nat))))) ≤ (140737488355328 : Nat) ∧ true = true ∧ true = true ∧ (54 : Nat) = (54 : Nat) ∧ Value.bool (decide (sumL x4 (List.flatten [ebt s (min (Subtype.val x) (200 : Nat))]) = dgl (16 : Nat) (accR (valD (rR x4)) (strL (bstr (ebt s (min (Subtype.val x) (200 : Nat))))) ((List.length (strL (bstr (ebt s (min (Subtype.val x) (200 : Nat))))) + (15 : Nat)) / (16 : Nat)) + valD (List.drop (16 : Nat) x4)))) = Value.bool true) := by kernel_rfl

set_option maxHeartbeats 8000000 in
theorem wpLEdges (key s o : List Int) (h1 : key.length = 32) (h2 : o.length = 32) (h3 : Bys key) (h4 : Bys s) (h5 : Bys o) (h6 : s.length ≤ 140737488355328) : wpE (FLEdges key s o) (Try.f6.body.getD .skip) ⟨Try.f6.ntmps, slotsOf 0 (kLEdges (key, s, o)).avs, (kLEdges (key, s, o)).mem⟩ (finK Try.prog Try.f6.results.toList (postN (kLEdges (key, s, o)))) := by
  with_reducible refine Eq.mpr (vcLEdges key s o) ?_
  have lo : (List.take 16 (List.drop 0 (List.take 16 (List.drop 0 o)))).length = 16 := by simp only [List.length_take, List.length_drop, h2]; rfl
  have bo : Bys (List.take 16 (List.drop 0 (List.take 16 (List.drop 0 o)))) := (((h5.drop 0).take 16).drop 0).take 16
  have lK : (lay (eky key 16) 16 (List.take 16 (List.drop 0 (List.take 16 (List.drop 0 o))))).length = 32 := by rw [lay_length _ _ _ (by rw [lo, eky_len, h1]; decide), eky_len, h1]
  have bK := lay_bys (eky_bys h3 16) bo 16
  have d0 := decide_eq_true (sumL_eq (t := []) lK bK (fun y hy => by cases hy))
  have dT := fun n => decide_eq_true (sumL_eq (t := ebt s n) lK bK (ebt_bys s n))
  dsimp only
  generalize hK : lay (eky key 16) 16 (List.take 16 (List.drop 0 (List.take 16 (List.drop 0 o)))) = K at *
  and_intros
  all_goals try exact True.intro
  all_goals try with_reducible rfl
  · refine ⟨⟨0, Nat.zero_le _⟩, ?_⟩
    and_intros <;> first | exact True.intro | with_reducible rfl | rfl
  rintro ⟨i, hi⟩
  dsimp only
  by_cases hg : (i : Int) < 16
  · rw [decide_eq_true hg, cond_true]
    have w1 : IntKind.wrap .i64 ((i : Int) + 1) = ((i + 1 : Nat) : Int) := by rw [IntKind.wrap_i64]; omega
    have tm := tmod4 ((eky_bys h3 i).at i)
    simp only [w1, Int.toNat_natCast]
    and_intros
    all_goals try exact True.intro
    all_goals try omega
    refine ⟨⟨i + 1, by omega⟩, ?_⟩
    and_intros <;> first | exact True.intro | with_reducible rfl | (show 16 - (i + 1) < 16 - i; omega) | rfl
  rw [decide_eq_false hg, cond_false]
  have ei : i = 16 := by omega
  subst ei
  and_intros
  · by_cases h0 : (0 : Int) < (s.length : Int)
    · rw [decide_eq_true h0, cond_true]
      have tm := tmod4 (h4.at 0)
      and_intros
      all_goals try exact True.intro
      all_goals try omega
      refine ⟨⟨1, by omega, by omega⟩, ?_⟩
      and_intros <;> first | exact True.intro | with_reducible rfl | rfl
    · rw [decide_eq_false h0, cond_false]
      have e2 : strL { data := #[] } = [] := rfl
      have b0 : Bys [] := fun y hy => by cases hy
      have d1 : decide (sumL K [] = dgl 16 (accR (valD (rR K)) [] 0 + valD (K.drop 16))) = true := d0
      have d2 := congrArg Value.bool d1
      clear dT d0 d1
      simp only [hK, flat_one, e2]
      and_intros
      all_goals try exact True.intro
      all_goals try omega
      all_goals try with_reducible assumption
      all_goals try with_reducible rfl
      all_goals try with_reducible exact b0
      all_goals try with_reducible exact d2
      all_goals first | kernel_rfl | exact Nat.zero_le _
  rintro ⟨i, hi1, hi2⟩
  dsimp only
  have le := ebt_len s (min i 200)
  have be := ebt_bys s (min i 200)
  by_cases hg3 : (i : Int) < (s.length : Int)
  · rw [decide_eq_true hg3, cond_true]
    have w1 : IntKind.wrap .i64 ((i : Int) + 1) = ((i + 1 : Nat) : Int) := by rw [IntKind.wrap_i64]; omega
    have tm := tmod4 (h4.at i)
    simp only [w1, Int.toNat_natCast]
    by_cases h200 : (i : Int) < 200
    · rw [decide_eq_true h200, cond_true]
      have e1 : ebt s (min i 200) ++ [[255, 251, 0, 5].getD (Int.tmod (s.getD i 0) 4).toNat 0] = ebt s (min (i + 1) 200) := by
        rw [show min i 200 = i by omega, show min (i + 1) 200 = i + 1 by omega]; rfl
      and_intros
      all_goals try exact True.intro
      all_goals try omega
      refine ⟨⟨i + 1, by omega, by omega⟩, ?_⟩
      and_intros <;> first | exact True.intro | with_reducible rfl | exact e1 | (show min i 200 + 1 = min (i + 1) 200; omega) | (show s.length - (i + 1) < s.length - i; omega) | rfl
    · rw [decide_eq_false h200, cond_false]
      have e1 : ebt s (min i 200) = ebt s (min (i + 1) 200) := by rw [show min i 200 = 200 by omega, show min (i + 1) 200 = 200 by omega]
      and_intros
      all_goals try exact True.intro
      all_goals try omega
      refine ⟨⟨i + 1, by omega, by omega⟩, ?_⟩
      and_intros <;> first | exact True.intro | with_reducible rfl | exact e1 | (show min i 200 = min (i + 1) 200; omega) | (show s.length - (i + 1) < s.length - i; omega) | rfl
  · rw [decide_eq_false hg3, cond_false]
    have es := strL_bstr be
    have d := dT (min i 200)
    clear dT d0
    simp only [es, flat_one, le] at d ⊢
    have d2 := congrArg Value.bool d
    and_intros
    all_goals try exact True.intro
    all_goals try omega
    all_goals try with_reducible assumption
    all_goals try with_reducible rfl
    all_goals try with_reducible exact d2
    all_goals kernel_rfl
set_option maxHeartbeats 8000000 in
theorem lwLEdges (key s o : List Int) (h1 : key.length = 32) (h2 : o.length = 32) (h3 : Bys key) (h4 : Bys s) (h5 : Bys o) (h6 : s.length ≤ 140737488355328) {W : World} {vs : List Value} (hD : All2 (DA (cxL W ([])) be0) (kLEdges (key, s, o)).avs vs) : Calls Try.prog 6 vs.toArray W (fun e W' => e = .returned (.bool true) ∧ Upd (fun _ => False) W W') :=
  law_calls (F := FLEdges key s o) (fn := Try.f6) (c := Try.f6.body.getD .skip) (k := kLEdges (key, s, o)) rfl (evOKs ⟨.inl ⟨cPKnown_ok, by kernel_rfl, gl_nil rfl⟩, ⟨.inl ⟨cSum_ok, by kernel_rfl, gl_nil rfl⟩, ⟨.inl ⟨cSSum_ok, by kernel_rfl, gl_nil rfl⟩, trivial⟩⟩⟩) mixed rfl (fun _ _ h => by cases h) Try.func6 (by kernel_rfl) rfl rfl hD (by kernel_rfl) (by with_reducible exact wpLEdges key s o h1 h2 h3 h4 h5 h6)
theorem polyEdges_any (key s o : List Int) (n : Nat) (hk : key.length = 32) (ho : o.length = 32) (bk : Bys key) (bs : Bys s) (bo : Bys o) (hs : s.length = n) (hn : n ≤ 140737488355328) {W : World} {v : Value} (hv : DA (cxL W []) be0 (.o (.c (.rs 1 n (.i .u8 s)))) v) : Calls Try.prog 6 #[.agg (key.map (Value.int .u8)).toArray, v, .agg (o.map (Value.int .u8)).toArray] W (fun e W' => e = .returned (.bool true) ∧ Upd (fun _ => False) W W') := by
  subst hs
  exact lwLEdges key s o hk ho bk bs bo hn (vs := [_, _, _]) ⟨da_arr hk, hv, da_arr ho, trivial⟩
end Go.Proofs.Ythlleheeghiljaa
