/-
  poly: PolyOther.
-/
import Derived.Test.YtcbnbhadanldpaaP7
namespace Go.Proofs.Ytcbnbhadanldpaa
open Go.RowKit
set_option maxRecDepth 100000

/-- A key with noughts for its other half, and with another. -/
def zk (key : List Int) : List Int := (((((((((((((((key.set 16 0).set 17 0).set 18 0).set 19 0).set 20 0).set 21 0).set 22 0).set 23 0).set 24 0).set 25 0).set 26 0).set 27 0).set 28 0).set 29 0).set 30 0).set 31 0
def ok16 (key sec : List Int) : List Int := lay key 16 (List.take 16 (List.drop 0 (List.take 16 (List.drop 0 sec))))
/-- Where the loop stands, and what is carried. -/
structure PO (X Y : Int) where
  i : Nat
  c : Int
  hi : i ≤ 16
  hc : c = carr X Y i
noncomputable def stPO (X Y : Int) (B S T : List Int) (x : PO X Y) : St := ⟨Try.f11.ntmps, [(4, .o (.c (.ptr 1 0 none))), (9, .o (.c (.ptr 0 0 none))), (10, .o (.c (.ptr 2 0 none))), (11, vv (.int .i64 x.c)), (33, vv (.int .i64 (x.i : Int)))], [.fix 45 [.many 16 (.i .u8 B)], .fix 44 [.many 16 (.i .u8 S)], .fix 45 [.many 16 (.i .u8 T)]]⟩
theorem carr_in (X Y : Int) (i : Nat) : 0 ≤ carr X Y i ∧ carr X Y i ≤ 1 := by
  have hm : (0 : Int) < 256 ^ i := Int.pow_pos (by decide)
  unfold carr
  generalize (256 : Int) ^ i = m at hm ⊢
  have h1 := Int.emod_nonneg X (show m ≠ 0 by omega)
  have h2 := Int.emod_nonneg Y (show m ≠ 0 by omega)
  have h3 := Int.emod_lt_of_pos X hm
  have h4 := Int.emod_lt_of_pos Y hm
  refine ⟨Int.ediv_nonneg (by omega) (by omega), ?_⟩
  have := Int.ediv_lt_of_lt_mul hm (show X % m + Y % m < 2 * m by omega)
  omega
theorem step_val (c B S : Int) (hc : 0 ≤ c ∧ c ≤ 1) (hB : 0 ≤ B ∧ B < 256) (hS : 0 ≤ S ∧ S < 256) : IntKind.u8.wrap ((IntKind.i64.wrap (c + IntKind.i64.wrap (IntKind.i64.wrap B + IntKind.i64.wrap S))).tmod 256) = (B + S + c) % 256 ∧ IntKind.i64.wrap ((IntKind.i64.wrap (c + IntKind.i64.wrap (IntKind.i64.wrap B + IntKind.i64.wrap S))).tdiv 256) = (B + S + c) / 256 := by
  have e9 : IntKind.i64.wrap (c + IntKind.i64.wrap (IntKind.i64.wrap B + IntKind.i64.wrap S)) = B + S + c := by simp only [IntKind.wrap_i64]; omega
  rw [e9]
  constructor
  · rw [Int.tmod_eq_emod_of_nonneg (by omega)]
    show (B + S + c) % 256 % 256 = _
    omega
  · rw [Int.tdiv_eq_ediv_of_nonneg (by omega), IntKind.wrap_i64]; omega
theorem other_step (X Y : Int) (key sec t : List Int) (h4 : ∀ (i : Nat), i < 16 → (sumL (zk key) t).getD i 0 = X / 256 ^ i % 256 ∧ sec.getD i 0 = Y / 256 ^ i % 256 ∧ (sumL (ok16 key sec) t).getD i 0 = (X + Y) / 256 ^ i % 256) : ∀ (x : PO X Y), bif decide ((x.i : Int) < 16) then 0 ≤ (x.i : Int) ∧ (x.i : Int) < 16 ∧ ((x.i : Int)).toNat < 16 ∧ 0 ≤ (x.i : Int) ∧ (x.i : Int) < 16 ∧ ((x.i : Int)).toNat < 16 ∧ 0 ≤ (x.i : Int) ∧ (x.i : Int) < 16 ∧ ((x.i : Int)).toNat < 16 ∧ (256 : Int) ≠ 0 ∧ (!decide ((sumL (ok16 key sec) t).getD ((x.i : Int)).toNat 0 = IntKind.u8.wrap ((IntKind.i64.wrap (x.c + IntKind.i64.wrap (IntKind.i64.wrap ((sumL (zk key) t).getD ((x.i : Int)).toNat 0) + IntKind.i64.wrap (sec.getD ((x.i : Int)).toNat 0)))).tmod 256))) = false ∧ (256 : Int) ≠ 0 ∧ ∃ y : PO X Y, (true = true ∧ true = true ∧ 57 = 57 ∧ getL [0, 1, 2] 1 = some 1 ∧ 0 = 0 ∧ getL [0, 1, 2] 0 = some 0 ∧ 0 = 0 ∧ getL [0, 1, 2] 2 = some 2 ∧ 0 = 0 ∧ Value.int IntKind.i64 (IntKind.i64.wrap ((IntKind.i64.wrap (x.c + IntKind.i64.wrap (IntKind.i64.wrap ((sumL (zk key) t).getD ((x.i : Int)).toNat 0) + IntKind.i64.wrap (sec.getD ((x.i : Int)).toNat 0)))).tdiv 256)) = Value.int IntKind.i64 y.c ∧ Value.int IntKind.i64 (IntKind.i64.wrap ((x.i : Int) + 1)) = Value.int IntKind.i64 (y.i : Int) ∧ 45 = 45 ∧ 16 = 16 ∧ sumL (zk key) t = sumL (zk key) t ∧ 44 = 44 ∧ 16 = 16 ∧ sec = sec ∧ 45 = 45 ∧ 16 = 16 ∧ sumL (ok16 key sec) t = sumL (ok16 key sec) t) ∧ 16 - y.i < 16 - x.i else true = true ∧ true = true ∧ 57 = 57 ∧ Value.bool true = Value.bool true := by
  intro x
  obtain ⟨i, c, hi, hc⟩ := x
  dsimp only
  by_cases h : i < 16
  · obtain ⟨g1, g2, g3⟩ := h4 i h
    have hcb := carr_in X Y i
    rw [← hc] at hcb
    have cs := carr_step X Y i
    have ct := carr_at X Y i
    rw [← hc, ← g1, ← g2] at cs ct
    obtain ⟨v1, v2⟩ := step_val c ((sumL (zk key) t).getD i 0) (sec.getD i 0) hcb (by rw [g1]; omega) (by rw [g2]; omega)
    have ei : IntKind.i64.wrap ((i : Int) + 1) = ((i + 1 : Nat) : Int) := by rw [IntKind.wrap_i64]; omega
    have ed : (!decide ((sumL (ok16 key sec) t).getD i 0 = IntKind.u8.wrap ((IntKind.i64.wrap (c + IntKind.i64.wrap (IntKind.i64.wrap ((sumL (zk key) t).getD i 0) + IntKind.i64.wrap (sec.getD i 0)))).tmod 256))) = false := by
      rw [decide_eq_true (by rw [g3, ct, v1])]; rfl
    rw [decide_eq_true (show (i : Int) < 16 by omega), cond_true]
    refine ⟨by omega, by omega, h, by omega, by omega, h, by omega, by omega, h, by decide, ed, by decide, ⟨i + 1, ((sumL (zk key) t).getD i 0 + sec.getD i 0 + c) / 256, by omega, cs.symm⟩, ?_, by show 16 - (i + 1) < 16 - i; omega⟩
    refine ⟨rfl, rfl, rfl, rfl, rfl, rfl, rfl, rfl, rfl, congrArg _ v2, congrArg _ ei, ?_⟩
    and_intros <;> rfl
  · have e : decide ((i : Int) < 16) = false := decide_eq_false (by omega)
    rw [e, cond_false]
    and_intros <;> rfl
def fcPO (d : Nat) : Option Bool := bif Nat.beq d 53 then some false else none
def kPOther : (List Int) × (List Int) × (List Int) × Int × Int → ClN := fun (key, sec, t, X, Y) => ⟨[.o (.g [.many 32 (.i .u8 key)]), .o (.g [.many 16 (.i .u8 sec)]), .o (.c (.rs 1 t.length (.i .u8 t)))], [], vv (.bool true), [], [], [key.length = 32, sec.length = 16, t.length ≤ 140737488355328, ∀ i, i < 16 → (sumL (zk key) t).getD i 0 = X / 256 ^ i % 256 ∧ sec.getD i 0 = Y / 256 ^ i % 256 ∧ (sumL (ok16 key sec) t).getD i 0 = (X + Y) / 256 ^ i % 256]⟩
noncomputable def FPOther (key sec : List Int) (t : List Int) (X Y : Int) : FnE := ⟨mkEv Try.prog [] [cSum, cPKnown] 0 fcPO, [0, 1, 2, 3, 4, 6, 7, 8, 9, 10, 11, 12, 14, 17, 33, 34, 53], fun g _ => cond (Nat.beq g 13) (.inv (PO X Y) (stPO X Y (sumL (zk key) t) sec (sumL (ok16 key sec) t)) (fun x => 16 - x.i) [4, 1, 6] [0, 1, 2]) (.rounds 17)⟩
theorem vcPOther (key sec : List Int) (t : List Int) (X Y : Int) : (wpE (FPOther key sec t X Y) (Try.f11.body.getD .skip) ⟨Try.f11.ntmps, slotsOf 0 (kPOther (key, sec, t, X, Y)).avs, (kPOther (key, sec, t, X, Y)).mem⟩ (finK Try.prog Try.f11.results.toList (postN (kPOther (key, sec, t, X, Y))))) = (let x1 := List.set (List.set (List.set (List.set (List.set (List.set (List.set (List.set (List.set (List.set (List.set (List.set (List.set (List.set (List.set (List.set key (16 : Nat) (0 : Int)) (17 : Nat) (0 : Int)) (18 : Nat) (0 : Int)) (19 : Nat) (0 : Int)) (20 : Nat) (0 : Int)) (21 : Nat) (0 : Int)) (22 : Nat) (0 : Int)) (23 : Nat) (0 : Int)) (24 : Nat) (0 : Int)) (25 : Nat) (0 : Int)) (26 : Nat) (0 : Int)) (27 : Nat) (0 : Int)) (28 : Nat) (0 : Int)) (29 : Nat) (0 : Int)) (30 : Nat) (0 : Int)) (31 : Nat) (0 : Int); let x2 := lay key (16 : Nat) (List.take (16 : Nat) (List.drop (0 : Nat) (List.take (16 : Nat) (List.drop (0 : Nat) sec)))); true = true ∧ (0 : Int) ≤ (16 : Int) ∧ (16 : Int) < (32 : Int) ∧ (16 : Nat) < (32 : Nat) ∧ (0 : Int) ≤ (17 : Int) ∧ (17 : Int) < (32 : Int) ∧ (17 : Nat) < (32 : Nat) ∧ (0 : Int) ≤ (18 : Int) ∧ (18 : Int) < (32 : Int) ∧ (18 : Nat) < (32 : Nat) ∧ (0 : Int) ≤ (19 : Int) ∧ (19 : Int) < (32 : Int) ∧ (19 : Nat) < (32 : Nat) ∧ (0 : Int) ≤ (20 : Int) ∧ (20 : Int) < (32 : Int) ∧ (20 : Nat) < (32 : Nat) ∧ (0 : Int) ≤ (21 : Int) ∧ (21 : Int) < (32 : Int) ∧ (21 : Nat) < (32 : Nat) ∧ (0 : Int) ≤ (22 : Int) ∧ (22 : Int) < (32 : Int) ∧ (22 : Nat) < (32 : Nat) ∧ (0 : Int) ≤ (23 : Int) ∧ (23 : Int) < (32 : Int) ∧ (23 : Nat) < (32 : Nat) ∧ (0 : Int) ≤ (24 : Int) ∧ (24 : Int) < (32 : Int) ∧ (24 : Nat) < (32 : Nat) ∧ (0 : Int) ≤ (25 : Int) ∧ (25 : Int) < (32 : Int) ∧ (25 : Nat) < (32 : Nat) ∧ (0 : Int) ≤ (26 : Int) ∧ (26 : Int) < (32 : Int) ∧ (26 : Nat) < (32 : Nat) ∧ (0 : Int) ≤ (27 : Int) ∧ (27 : Int) < (32 : Int) ∧ (27 : Nat) < (32 : Nat) ∧ (0 : Int) ≤ (28 : Int) ∧ (28 : Int) < (32 : Int) ∧ (28 : Nat) < (32 : Nat) ∧ (0 : Int) ≤ (29 : Int) ∧ (29 : Int) < (32 : Int) ∧ (29 : Nat) < (32 : Nat) ∧ (0 : Int) ≤ (30 : Int) ∧ (30 : Int) < (32 : Int) ∧ (30 : Nat) < (32 : Nat) ∧ (0 : Int) ≤ (31 : Int) ∧ (31 : Int) < (32 : Int) ∧ (31 : Nat) < (32 : Nat) ∧ true = true ∧ (32 : Nat) = (32 : Nat) ∧ x1 = x1 ∧ getL [Nat.add (Nat.add (3 : Nat) (0 : Nat)) (0 : Nat)] (0 : Nat) = some (Nat.add (Nat.add (3 : Nat) (0 : Nat)) (0 : Nat)) ∧ (0 : Nat) = (0 : Nat) ∧ (1 : Nat) = (1 : Nat) ∧ (34 : Nat) = (34 : Nat) ∧ true = true ∧ List.length t = List.length t ∧ t = t ∧ List.length x1 = (32 : Nat) ∧ List.length t = List.length t ∧ List.length t ≤ (140737488355328 : Nat) ∧ (0 : Int) ≤ (16 : Int) ∧ (16 : Nat) ≤ (32 : Nat) ∧ (32 : Nat) ≤ (9223372036854775807 : Nat) ∧ (16 : Nat) ≤ (9223372036854775807 : Nat) ∧ (16 : Nat) ≤ (16 : Nat) ∧ (32 : Nat) ≤ (32 : Nat) ∧ true = true ∧ (32 : Nat) = (32 : Nat) ∧ x2 = x2 ∧ getL [Nat.add (Nat.add (5 : Nat) (0 : Nat)) (0 : Nat)] (0 : Nat) = some (Nat.add (Nat.add (5 : Nat) (0 : Nat)) (0 : Nat)) ∧ (0 : Nat) = (0 : Nat) ∧ (1 : Nat) = (1 : Nat) ∧ (34 : Nat) = (34 : Nat) ∧ true = true ∧ List.length t = List.length t ∧ t = t ∧ List.length x2 = (32 : Nat) ∧ List.length t = List.length t ∧ List.length t ≤ (140737488355328 : Nat) ∧ (∃ (x : PO X Y), true = true ∧ true = true ∧ (57 : Nat) = (57 : Nat) ∧ getL [(4 : Nat), (1 : Nat), (6 : Nat)] (1 : Nat) = some (Nat.add (0 : Nat) (1 : Nat)) ∧ (0 : Nat) = (0 : Nat) ∧ getL [(4 : Nat), (1 : Nat), (6 : Nat)] (0 : Nat) = some (Nat.add (Nat.add (Nat.add (Nat.add (3 : Nat) (0 : Nat)) (0 : Nat)) (1 : Nat)) (0 : Nat)) ∧ (0 : Nat) = (0 : Nat) ∧ getL [(4 : Nat), (1 : Nat), (6 : Nat)] (2 : Nat) = some (Nat.add (Nat.add (Nat.add (Nat.add (5 : Nat) (0 : Nat)) (0 : Nat)) (1 : Nat)) (0 : Nat)) ∧ (0 : Nat) = (0 : Nat) ∧ Value.int IntKind.i64 (0 : Int) = Value.int IntKind.i64 (PO.c x) ∧ Value.int IntKind.i64 (0 : Int) = Value.int IntKind.i64 (↑(PO.i x) : Int) ∧ (45 : Nat) = (45 : Nat) ∧ (16 : Nat) = (16 : Nat) ∧ sumL x1 t = sumL (zk key) t ∧ (44 : Nat) = (44 : Nat) ∧ (16 : Nat) = (16 : Nat) ∧ sec = sec ∧ (45 : Nat) = (45 : Nat) ∧ (16 : Nat) = (16 : Nat) ∧ sumL x2 t = sumL (ok16 key sec) t) ∧ ∀ (x : PO X Y), bif decide ((↑(PO.i x) : Int) < (16 : Int)) then (0 : Int) ≤ (↑(PO.i x) : Int) ∧ (↑(PO.i x) : Int) < (16 : Int) ∧ Int.toNat (↑(PO.i x) : Int) < (16 : Nat) ∧ (0 : Int) ≤ (↑(PO.i x) : Int) ∧ (↑(PO.i x) : Int) < (16 : Int) ∧ Int.toNat (↑(PO.i x) : Int) < (16 : Nat) ∧ (0 : Int) ≤ (↑(PO.i x) : Int) ∧ (↑(PO.i x) : Int) < (16 : Int) ∧ Int.toNat (↑(PO.i x) : Int) < (16 : Nat) ∧ (256 : Int) ≠ (0 : Int) ∧ (!decide (List.getD (sumL (ok16 key sec) t) (Int.toNat (↑(PO.i x) : Int)) (0 : Int) = IntKind.wrap IntKind.u8 (Int.tmod (IntKind.wrap IntKind.i64 (PO.c x + IntKind.wrap IntKind.i64 (IntKind.wrap IntKind.i64 (List.getD (sumL (zk key) t) (Int.toNat (↑(PO.i x) : Int)) (0 : Int)) + IntKind.wrap IntKind.i64 (List.getD sec (Int.toNat (↑(PO.i x) : Int)) (0 : Int))))) (256 : Int)))) = false ∧ (256 : Int) ≠ (0 : Int) ∧ ∃ (y : PO X Y), (true = true ∧ true = true ∧ (57 : Nat) = (57 : Nat) ∧ getL [(0 : Nat), (1 : Nat), (2 : Nat)] (1 : Nat) = some (1 : Nat) ∧ (0 : Nat) = (0 : Nat) ∧ getL [(0 : Nat), (1 : Nat), (2 : Nat)] (0 : Nat) = some (0 : Nat) ∧ (0 : Nat) = (0 : Nat) ∧ getL [(0 : Nat), (1 : Nat), (2 : Nat)] (2 : Nat) = some (2 : Nat) ∧ (0 : Nat) = (0 : Nat) ∧ Value.int IntKind.i64 (IntKind.wrap IntKind.i64 (Int.tdiv (IntKind.wrap IntKind.i64 (PO.c x + IntKind.wrap IntKind.i64 (IntKind.wrap IntKind.i64 (List.getD (sumL (zk key) t) (Int.toNat (↑(PO.i x) : Int)) (0 : Int)) + IntKind.wrap IntKind.i64 (List.getD sec (Int.toNat (↑(PO.i x) : Int)) (0 : Int))))) (256 : Int))) = Value.int IntKind.i64 (PO.c y) ∧ Value.int IntKind.i64 (IntKind.wrap IntKind.i64 ((↑(PO.i x) : Int) + (1 : Int))) = Value.int IntKind.i64 (↑(PO.i y) : Int) ∧ (45 : Nat) = (45 : Nat) ∧ (16 : Nat) = (16 : Nat) ∧ sumL (zk key) t = sumL (zk key) t ∧ (44 : Nat) = (44 : Nat) ∧ (16 : Nat) = (16 : Nat) ∧ sec = sec ∧ (45 : Nat) = (45 : Nat) ∧ (16 : Nat) = (16 : Nat) ∧ sumL (ok16 key sec) t = sumL (ok16 key sec) t) ∧ (16 : Nat) - PO.i y < (16 : Nat) - PO.i x else true = true ∧ true = true ∧ (57 : Nat) = (57 : Nat) ∧ Value.bool true = Value.bool true) := by kernel_rfl

set_option maxHeartbeats 8000000 in
theorem wpPOther (key sec : List Int) (t : List Int) (X Y : Int) (h1 : key.length = 32) (h2 : sec.length = 16) (h3 : t.length ≤ 140737488355328) (h4 : ∀ i, i < 16 → (sumL (zk key) t).getD i 0 = X / 256 ^ i % 256 ∧ sec.getD i 0 = Y / 256 ^ i % 256 ∧ (sumL (ok16 key sec) t).getD i 0 = (X + Y) / 256 ^ i % 256) : wpE (FPOther key sec t X Y) (Try.f11.body.getD .skip) ⟨Try.f11.ntmps, slotsOf 0 (kPOther (key, sec, t, X, Y)).avs, (kPOther (key, sec, t, X, Y)).mem⟩ (finK Try.prog Try.f11.results.toList (postN (kPOther (key, sec, t, X, Y)))) := by
  with_reducible refine Eq.mpr (vcPOther key sec t X Y) ?_
  intro x1 x2
  have l1 : x1.length = 32 := by simp only [x1, List.length_set]; exact h1
  have l2 : x2.length = 32 := by
    have hl : (List.take 16 (List.drop 0 (List.take 16 (List.drop 0 sec)))).length = 16 := by simp only [List.length_take, List.length_drop, h2]; rfl
    show (lay key 16 _).length = 32
    rw [lay_length _ _ _ (by rw [hl, h1]; exact Nat.le_refl 32)]; exact h1
  have e1 : x1 = zk key := rfl
  have e2 : x2 = ok16 key sec := rfl
  clear_value x1 x2
  subst e1 e2
  and_intros <;> first
    | omega
    | exact True.intro
    | rfl
    | exact ⟨⟨0, 0, Nat.zero_le _, (carr_zero X Y).symm⟩, by and_intros <;> rfl⟩
    | exact fun x => other_step X Y key sec t h4 x
set_option maxHeartbeats 8000000 in
theorem lwPOther (key sec : List Int) (t : List Int) (X Y : Int) (h1 : key.length = 32) (h2 : sec.length = 16) (h3 : t.length ≤ 140737488355328) (h4 : ∀ i, i < 16 → (sumL (zk key) t).getD i 0 = X / 256 ^ i % 256 ∧ sec.getD i 0 = Y / 256 ^ i % 256 ∧ (sumL (ok16 key sec) t).getD i 0 = (X + Y) / 256 ^ i % 256) {W : World} {vs : List Value} (hD : All2 (DA (cxL W ([])) be0) (kPOther (key, sec, t, X, Y)).avs vs) : Calls Try.prog 11 vs.toArray W (fun e W' => e = .returned (.bool true) ∧ Upd (fun _ => False) W W') :=
  law_calls (F := FPOther key sec t X Y) (fn := Try.f11) (c := Try.f11.body.getD .skip) (k := kPOther (key, sec, t, X, Y)) rfl (evOKs ⟨.inl ⟨cSum_ok, by kernel_rfl, gl_nil rfl⟩, ⟨.inl ⟨cPKnown_ok, by kernel_rfl, gl_nil rfl⟩, trivial⟩⟩) mixed rfl (fun _ _ h => by cases h) Try.func11 (by kernel_rfl) rfl rfl hD (by kernel_rfl) (by with_reducible exact wpPOther key sec t X Y h1 h2 h3 h4)

theorem upL_five (a b c d e : Int) : ∃ p q r s u, upL a b c d e = [p, q, r, s, u] := by
  unfold upL
  exact ⟨_, _, _, _, _, rfl⟩
theorem least1_five (a b c d e : Int) : ∃ p q r s u, least1 a b c d e = [p, q, r, s, u] := by
  unfold least1
  exact ⟨_, _, _, _, _, rfl⟩
theorem leastL_five (a b c d e : Int) : ∃ p q r s u, leastL a b c d e = [p, q, r, s, u] := by
  obtain ⟨p, q, r, s, u, h⟩ := upL_five a b c d e
  obtain ⟨p', q', r', s', u', h'⟩ := upL_five p q r s u
  unfold leastL
  rw [h]
  show ∃ p q r s u, lst5 least1 (upL _ _ _ _ _) = _
  rw [h']
  exact least1_five _ _ _ _ _
theorem tagL_words (a b c d e : Int) : ∃ lo hi : Int, (0 ≤ lo ∧ lo < 18446744073709551616) ∧ (0 ≤ hi ∧ hi < 18446744073709551616) ∧ ∀ k, tagL k a b c d e = tag2 lo hi k := by
  obtain ⟨p, q, r, s, u, h⟩ := leastL_five a b c d e
  exact ⟨lowE p q r, highE r s u, or_in _ _, or_in _ _, fun k => by unfold tagL; rw [h]; rfl⟩
theorem keys_same (key sec : List Int) (hk : key.length = 32) (hs : sec.length = 16) : facL (zk key) = facL (ok16 key sec) ∧ ((zk key).drop 16).take 16 = List.replicate 16 0 ∧ ((ok16 key sec).drop 16).take 16 = sec := by
  match key, hk with
  | [k0, k1, k2, k3, k4, k5, k6, k7, k8, k9, k10, k11, k12, k13, k14, k15, k16, k17, k18, k19, k20, k21, k22, k23, k24, k25, k26, k27, k28, k29, k30, k31], _ =>
    match sec, hs with
    | [s0, s1, s2, s3, s4, s5, s6, s7, s8, s9, s10, s11, s12, s13, s14, s15], _ => exact ⟨by kernel_rfl, by kernel_rfl, by kernel_rfl⟩
theorem other_sum (key sec t : List Int) (hk : key.length = 32) (hs : sec.length = 16) (hb : Bys sec) : ∃ X Y : Int, ∀ i, i < 16 → (sumL (zk key) t).getD i 0 = X / 256 ^ i % 256 ∧ sec.getD i 0 = Y / 256 ^ i % 256 ∧ (sumL (ok16 key sec) t).getD i 0 = (X + Y) / 256 ^ i % 256 := by
  obtain ⟨e1, e2, e3⟩ := keys_same key sec hk hs
  unfold sumL
  rw [e1]
  generalize all5 [0, 0, 0, 0, 0] (digL (facL (ok16 key sec)) 0) t = l
  unfold sumS
  rw [e2, e3]
  obtain ⟨lo, hi, hlo, hhi, h⟩ := tagL_words (l.getD 0 0) (l.getD 1 0) (l.getD 2 0) (l.getD 3 0) (l.getD 4 0)
  rw [h, h]
  exact tag2_other lo hi sec (List.replicate 16 0) hlo hhi hs hb (by decide +kernel) (by decide +kernel)
theorem polyOther_any (key sec t : List Int) (n : Nat) (hk : key.length = 32) (hs : sec.length = 16) (hb : Bys sec) (ht : t.length = n) (hn : n ≤ 140737488355328) {W : World} {v : Value} (hv : DA (cxL W []) be0 (.o (.c (.rs 1 n (.i .u8 t)))) v) : Calls Try.prog 11 #[.agg (key.map (Value.int .u8)).toArray, .agg (sec.map (Value.int .u8)).toArray, v] W (fun e W' => e = .returned (.bool true) ∧ Upd (fun _ => False) W W') := by
  obtain ⟨X, Y, h⟩ := other_sum key sec t hk hs hb
  subst ht
  exact lwPOther key sec t X Y hk hs hn h (vs := [_, _, _]) ⟨da_arr hk, da_arr hs, hv, trivial⟩
end Go.Proofs.Ytcbnbhadanldpaa
