/-
  sha2: SHA-256 of parts.
-/
import Derived.Test.YthhjcpiaoempfaaDoorH3
import Derived.Test.YthhjcpiaoempfaaDoorSyq
namespace Go.Proofs.YthhjcpiaoempfaaDoor
open Go.RowKit
set_option maxRecDepth 100000

/-- A hash that is being made: what lies in its block, how many bytes came in, its state. -/
structure HS where
  rest : List Int
  c : Nat
  s : List Int
def feedH (h : HS) (p : List Int) : HS := ⟨feedR h.rest h.c p, h.c + p.length, feedS h.rest h.c h.s p⟩
def writeH (h : HS) : List (List Int) → HS
  | [] => h
  | p :: r => writeH (feedH h p) r
theorem writeH_app (h : HS) : ∀ (a b : List (List Int)), writeH h (a ++ b) = writeH (writeH h a) b
  | [], _ => rfl
  | p :: a, b => writeH_app (feedH h p) a b
theorem writeH_next (h : HS) {ls : List (List Int)} {i : Nat} (hi : i < ls.length) : writeH h (ls.take (i + 1)) = feedH (writeH h (ls.take i)) (ls.getD i []) := by
  have e : ls.getD i [] = ls[i] := by rw [List.getD_eq_getElem?_getD, List.getElem?_eq_getElem hi]; rfl
  rw [e, List.take_add_one, List.getElem?_eq_getElem hi, writeH_app]
  rfl
theorem writeH_c (h : HS) : ∀ ls, (writeH h ls).c = h.c + ls.flatten.length
  | [] => rfl
  | p :: r => by rw [writeH, writeH_c]; show h.c + p.length + _ = _; rw [List.flatten_cons, List.length_append]; omega
theorem fd1_len {rest : List Int} (hr : rest.length = 128) (c : Nat) (p : List Int) : (fd1 rest c p).length = 128 := by
  have lt := Nat.mod_lt c (show 0 < 64 by decide)
  have l1 : fdM c p ≤ p.length := Nat.min_le_left _ _
  have l2 : fdM c p ≤ 64 - c % 64 := Nat.min_le_right _ _
  unfold fd1
  rw [lay_length _ _ _ (by rw [List.length_take]; omega), hr]
theorem feedR_len {rest : List Int} (hr : rest.length = 128) (c : Nat) (p : List Int) : (feedR rest c p).length = 128 := by
  unfold feedR
  split
  · exact fd1_len hr c p
  · have e : (fdR rest c p).length = 128 := by
      unfold fdR
      split
      · exact hr
      · exact fd1_len hr c p
    rw [lay_length _ _ _ (by rw [List.length_drop]; omega), e]
theorem writeH_rest : ∀ (ls : List (List Int)) {h : HS}, h.rest.length = 128 → (writeH h ls).rest.length = 128
  | [], _, hr => hr
  | p :: r, h, hr => writeH_rest r (h := feedH h p) (feedR_len hr h.c p)
theorem hflat {ls : List (List Int)} {i : Nat} (h : i < ls.length) : (ls.take i).flatten.length + (ls.getD i []).length ≤ ls.flatten.length := by
  have e : ls.getD i [] = ls[i] := by rw [List.getD_eq_getElem?_getD, List.getElem?_eq_getElem h]; rfl
  have : ls.flatten.length = ((ls.take i).flatten ++ (ls[i] ++ (ls.drop (i + 1)).flatten)).length := by
    congr 1
    rw [← List.flatten_cons, ← List.drop_eq_getElem_cons h, ← List.flatten_append, List.take_append_drop]
  rw [this, e, List.length_append, List.length_append]; omega
noncomputable def stWr (ty : Nat) (h : HS) (ls : List (List Int)) (i : Nat) : St := ⟨Tryd.f10.ntmps, [(0, .o (.c (.ptr 0 0 none))), (6, .o (.c (.rss ls))), (7, vv (.int .i64 (ls.length : Int))), (8, vv (.int .i64 (i : Int)))], [.fix ty [.many 128 (.i .u8 (writeH h (ls.take i)).rest), .one (.v (.int .i64 ((writeH h (ls.take i)).c : Int))), .many 8 (.i .u32 (writeH h (ls.take i)).s)]]⟩
def kHWrite : Nat × HS × (List (List Int)) → ClN := fun (ty, h, ls) => ⟨[.o (.c (.ptr 0 0 none)), .o (.c (.rss ls))], [.fix ty [.many 128 (.i .u8 h.rest), .one (.v (.int .i64 (h.c : Int))), .many 8 (.i .u32 h.s)]], .t [], [.fix ty [.many 128 (.i .u8 (writeH h ls).rest), .one (.v (.int .i64 ((writeH h ls).c : Int))), .many 8 (.i .u32 (writeH h ls).s)]], [0], [ls.length ≤ 140737488355328, ls.flatten.length ≤ 140737488355328, h.c ≤ 140737488355328, h.rest.length = 128]⟩
noncomputable def FHWrite (ty : Nat) (h : HS) (ls : List (List Int)) : FnE := ⟨mkEv Tryd.prog tabH [cHFeed] 1, [0, 1, 5, 6, 7, 8, 9], fun _ _ => .inv { i : Nat // i ≤ ls.length } (fun i => stWr ty h ls i.val) (fun i => ls.length - i.val) [0] [0]⟩
def mHWrite : List AV → (Nat → Option MB) → Option (List Nat × (Nat × HS × (List (List Int))))
  | [.o (.c (.ptr i 0 none)), .o (.c x)], lk => match slS lk x with
    | some ls => match lk i with
      | some (.fix ty [.many 128 (.i .u8 rest), .one (.v (.int .i64 c)), .many 8 (.i .u32 s)]) => some ([i], ty, ⟨rest, c.toNat, s⟩, ls)
      | _ => none
    | none => none
  | _, _ => none
noncomputable def cHWrite : Spec := callG 10 Tryd.f10.ntmps mHWrite kHWrite (tabH)
theorem vcHWrite (ty : Nat) (h : HS) (ls : List (List Int)) : (wpE (FHWrite ty h ls) (Tryd.f10.body.getD .skip) ⟨Tryd.f10.ntmps, slotsOf 0 (kHWrite (ty, h, ls)).avs, (kHWrite (ty, h, ls)).mem⟩ (finK Tryd.prog Tryd.f10.results.toList (postN (kHWrite (ty, h, ls))))) = ((∃ (x : { i : Nat // i ≤ List.length ls }), true = true ∧ true = true ∧ (20 : Nat) = (20 : Nat) ∧ getL [(0 : Nat)] (0 : Nat) = some (0 : Nat) ∧ (0 : Nat) = (0 : Nat) ∧ ls = ls ∧ Value.int IntKind.i64 (↑(List.length ls) : Int) = Value.int IntKind.i64 (↑(List.length ls) : Int) ∧ Value.int IntKind.i64 (0 : Int) = Value.int IntKind.i64 (↑(Subtype.val x) : Int) ∧ ty = ty ∧ (128 : Nat) = (128 : Nat) ∧ HS.rest h = HS.rest (writeH h (List.take (Subtype.val x) ls)) ∧ Value.int IntKind.i64 (↑(HS.c h) : Int) = Value.int IntKind.i64 (↑(HS.c (writeH h (List.take (Subtype.val x) ls))) : Int) ∧ (8 : Nat) = (8 : Nat) ∧ HS.s h = HS.s (writeH h (List.take (Subtype.val x) ls))) ∧ ∀ (x : { i : Nat // i ≤ List.length ls }), bif decide ((↑(Subtype.val x) : Int) < (↑(List.length ls) : Int)) then (0 : Int) ≤ (↑(Subtype.val x) : Int) ∧ (↑(Subtype.val x) : Int) < (↑(List.length ls) : Int) ∧ true = true ∧ getL [(0 : Nat)] (0 : Nat) = some (0 : Nat) ∧ (0 : Nat) = (0 : Nat) ∧ true = true ∧ List.length (List.getD ls (Int.toNat (↑(Subtype.val x) : Int)) []) = List.length (List.getD ls (Int.toNat (↑(Subtype.val x) : Int)) []) ∧ List.getD ls (Int.toNat (↑(Subtype.val x) : Int)) [] = List.getD ls (Int.toNat (↑(Subtype.val x) : Int)) [] ∧ Value.int IntKind.i64 (64 : Int) = Value.int IntKind.i64 (64 : Int) ∧ (29 : Nat) = (29 : Nat) ∧ getL [(0 : Nat)] (0 : Nat) = some (0 : Nat) ∧ (0 : Nat) = (0 : Nat) ∧ ty = ty ∧ (128 : Nat) = (128 : Nat) ∧ HS.rest (writeH h (List.take (Subtype.val x) ls)) = HS.rest (writeH h (List.take (Subtype.val x) ls)) ∧ Value.int IntKind.i64 (↑(HS.c (writeH h (List.take (Subtype.val x) ls))) : Int) = Value.int IntKind.i64 (↑(Int.toNat (↑(HS.c (writeH h (List.take (Subtype.val x) ls))) : Int)) : Int) ∧ (8 : Nat) = (8 : Nat) ∧ HS.s (writeH h (List.take (Subtype.val x) ls)) = HS.s (writeH h (List.take (Subtype.val x) ls)) ∧ List.length (List.getD ls (Int.toNat (↑(Subtype.val x) : Int)) []) = List.length (List.getD ls (Int.toNat (↑(Subtype.val x) : Int)) []) ∧ List.length (List.getD ls (Int.toNat (↑(Subtype.val x) : Int)) []) ≤ (140737488355328 : Nat) ∧ Int.toNat (↑(HS.c (writeH h (List.take (Subtype.val x) ls))) : Int) ≤ (4611686018427387904 : Nat) ∧ List.length (HS.rest (writeH h (List.take (Subtype.val x) ls))) = (128 : Nat) ∧ ∃ (y : { i : Nat // i ≤ List.length ls }), (true = true ∧ true = true ∧ (20 : Nat) = (20 : Nat) ∧ getL [(0 : Nat)] (0 : Nat) = some (0 : Nat) ∧ (0 : Nat) = (0 : Nat) ∧ ls = ls ∧ Value.int IntKind.i64 (↑(List.length ls) : Int) = Value.int IntKind.i64 (↑(List.length ls) : Int) ∧ Value.int IntKind.i64 (IntKind.wrap IntKind.i64 ((↑(Subtype.val x) : Int) + (1 : Int))) = Value.int IntKind.i64 (↑(Subtype.val y) : Int) ∧ ty = ty ∧ (128 : Nat) = (128 : Nat) ∧ feedR (HS.rest (writeH h (List.take (Subtype.val x) ls))) (Int.toNat (↑(HS.c (writeH h (List.take (Subtype.val x) ls))) : Int)) (List.getD ls (Int.toNat (↑(Subtype.val x) : Int)) []) = HS.rest (writeH h (List.take (Subtype.val y) ls)) ∧ Value.int IntKind.i64 (↑(Int.toNat (↑(HS.c (writeH h (List.take (Subtype.val x) ls))) : Int) + List.length (List.getD ls (Int.toNat (↑(Subtype.val x) : Int)) [])) : Int) = Value.int IntKind.i64 (↑(HS.c (writeH h (List.take (Subtype.val y) ls))) : Int) ∧ (8 : Nat) = (8 : Nat) ∧ feedS (HS.rest (writeH h (List.take (Subtype.val x) ls))) (Int.toNat (↑(HS.c (writeH h (List.take (Subtype.val x) ls))) : Int)) (HS.s (writeH h (List.take (Subtype.val x) ls))) (List.getD ls (Int.toNat (↑(Subtype.val x) : Int)) []) = HS.s (writeH h (List.take (Subtype.val y) ls))) ∧ List.length ls - Subtype.val y < List.length ls - Subtype.val x else true = true ∧ true = true ∧ (20 : Nat) = (20 : Nat) ∧ ty = ty ∧ (128 : Nat) = (128 : Nat) ∧ HS.rest (writeH h (List.take (Subtype.val x) ls)) = HS.rest (writeH h ls) ∧ Value.int IntKind.i64 (↑(HS.c (writeH h (List.take (Subtype.val x) ls))) : Int) = Value.int IntKind.i64 (↑(HS.c (writeH h ls)) : Int) ∧ (8 : Nat) = (8 : Nat) ∧ HS.s (writeH h (List.take (Subtype.val x) ls)) = HS.s (writeH h ls)) := by kernel_rfl

set_option maxHeartbeats 8000000 in
theorem wpHWrite (ty : Nat) (h : HS) (ls : List (List Int)) (h1 : ls.length ≤ 140737488355328) (h2 : ls.flatten.length ≤ 140737488355328) (h3 : h.c ≤ 140737488355328) (h4 : h.rest.length = 128) : wpE (FHWrite ty h ls) (Tryd.f10.body.getD .skip) ⟨Tryd.f10.ntmps, slotsOf 0 (kHWrite (ty, h, ls)).avs, (kHWrite (ty, h, ls)).mem⟩ (finK Tryd.prog Tryd.f10.results.toList (postN (kHWrite (ty, h, ls)))) := by
  with_reducible refine Eq.mpr (vcHWrite ty h ls) ?_
  have len0 : ∀ i, (writeH h (ls.take i)).rest.length = 128 := fun i => writeH_rest _ h4
  refine ⟨⟨⟨0, Nat.zero_le _⟩, ?_⟩, ?_⟩
  · dsimp only
    rw [List.take_zero]
    and_intros <;> first | exact True.intro | rfl
  · rintro ⟨i, hi⟩
    dsimp only
    simp only [Int.toNat_natCast]
    by_cases hg : (i : Int) < (ls.length : Int)
    · rw [decide_eq_true hg, cond_true]
      have hil : i < ls.length := by omega
      have e1 : IntKind.wrap .i64 ((i : Int) + 1) = ((i + 1 : Nat) : Int) := by rw [IntKind.wrap_i64]; omega
      have hn := writeH_next h hil
      have hf := hflat hil
      have hc := writeH_c h (ls.take i)
      rw [e1]
      and_intros
      all_goals first | omega | exact True.intro | exact len0 i | rfl | skip
      refine ⟨⟨i + 1, by omega⟩, ?_⟩
      dsimp only
      rw [hn]
      and_intros
      all_goals first | exact True.intro | rfl | (show ls.length - (i + 1) < ls.length - i; omega)
    · rw [decide_eq_false hg, cond_false]
      have e : i = ls.length := by omega
      subst e
      rw [List.take_length]
      and_intros <;> first | exact True.intro | rfl
set_option maxHeartbeats 8000000 in
theorem cHWrite_ok : SpecOK Tryd.prog cHWrite := by
  refine callG_ok (c := Tryd.f10.body.getD .skip) mixed Tryd.func10 (by kernel_rfl) rfl (fun x hob => ?_)
  obtain ⟨ty, h, ls⟩ := x
  have hob : (ls.length ≤ 140737488355328) ∧ (ls.flatten.length ≤ 140737488355328) ∧ (h.c ≤ 140737488355328) ∧ (h.rest.length = 128) := hob
  obtain ⟨h1, h2, h3, h4⟩ := hob
  exact ⟨FHWrite ty h ls, rfl, evOKs ⟨.inl ⟨cHFeed_ok, by kernel_rfl, gl_sub (by first | exact .inl rfl | exact .inr rfl)⟩, trivial⟩, rfl, rfl, by with_reducible exact wpHWrite ty h ls h1 h2 h3 h4⟩

/-- What stands behind c bytes. -/
def padH (c : Nat) : List Int := putB8 ((List.replicate (9 + (64 - (c + 9) % 64) % 64) 0).set 0 128) (1 + (64 - (c + 9) % 64) % 64) (IntKind.wrap .u64 (IntKind.wrap .u64 (c : Int) * 8))
def kHPad : Nat × HS → ClN := fun (ty, h) => ⟨[.o (.c (.ptr 0 0 none)), vv (.int .i64 64)], [.fix ty [.many 128 (.i .u8 h.rest), .one (.v (.int .i64 (h.c : Int))), .many 8 (.i .u32 h.s)]], .o (.c (.os 1 1 (9 + (64 - (h.c + 9) % 64) % 64))), [.fix ty [.many 128 (.i .u8 h.rest), .one (.v (.int .i64 (h.c : Int))), .many 8 (.i .u32 h.s)], .grow 5 1 (.i .u8 (padH h.c))], [0, 1], [h.c ≤ 140737488355328]⟩
noncomputable def FHPad : FnE := ⟨mkEv Tryd.prog [] [cHPut64] 1, [0, 1, 4, 5, 6, 7], fun _ _ => .rounds 0⟩
def mHPad : List AV → (Nat → Option MB) → Option (List Nat × (Nat × HS))
  | [.o (.c (.ptr i 0 none)), .o (.c (.v (.int .i64 64)))], lk => match lk i with
      | some (.fix ty [.many 128 (.i .u8 rest), .one (.v (.int .i64 c)), .many 8 (.i .u32 s)]) => some ([i], ty, ⟨rest, c.toNat, s⟩)
      | _ => none
  | _, _ => none
noncomputable def cHPad : Spec := callG 51 Tryd.f51.ntmps mHPad kHPad
theorem vcHPad (ty : Nat) (h : HS) : (wpE FHPad (Tryd.f51.body.getD .skip) ⟨Tryd.f51.ntmps, slotsOf 0 (kHPad (ty, h)).avs, (kHPad (ty, h)).mem⟩ (finK Tryd.prog Tryd.f51.results.toList (postN (kHPad (ty, h))))) = (let x1 := IntKind.wrap IntKind.i64 ((9 : Int) + Int.tmod (IntKind.wrap IntKind.i64 ((64 : Int) - Int.tmod (IntKind.wrap IntKind.i64 ((↑(HS.c h) : Int) + (9 : Int))) (64 : Int))) (64 : Int)); let x2 := List.replicate (Int.toNat x1) (0 : Int); let x3 := IntKind.wrap IntKind.i64 ((↑(Int.toNat x1) : Int) - (8 : Int)); let x4 := IntKind.wrap IntKind.u64 (IntKind.wrap IntKind.u64 (↑(HS.c h) : Int) * (8 : Int)); let x5 := List.set x2 (0 : Nat) (128 : Int); (8 : Int) ≠ (0 : Int) ∧ (64 : Int) ≠ (0 : Int) ∧ (64 : Int) ≠ (0 : Int) ∧ (0 : Int) ≤ x1 ∧ x1 ≤ x1 ∧ (1 : Int) * x1 ≤ (281474976710656 : Int) ∧ x1 ≤ (9223372036854775807 : Int) ∧ (0 : Int) ≤ (0 : Int) ∧ (0 : Int) < (↑(Int.toNat x1) : Int) ∧ (0 : Nat) < List.length x2 ∧ (0 : Int) ≤ x3 ∧ Int.toNat x3 ≤ Int.toNat x1 ∧ true = true ∧ getL [Nat.add (Nat.add (Nat.add (1 : Nat) (0 : Nat)) (0 : Nat)) (0 : Nat)] (0 : Nat) = some (Nat.add (Nat.add (Nat.add (1 : Nat) (0 : Nat)) (0 : Nat)) (0 : Nat)) ∧ (0 : Nat) + Int.toNat x3 = (0 : Nat) + Int.toNat x3 ∧ Int.toNat x1 - Int.toNat x3 = Int.toNat x1 - Int.toNat x3 ∧ Value.int IntKind.u64 x4 = Value.int IntKind.u64 x4 ∧ (5 : Nat) = (5 : Nat) ∧ (1 : Nat) = (1 : Nat) ∧ x5 = x5 ∧ (8 : Nat) ≤ Int.toNat x1 - Int.toNat x3 ∧ Int.toNat x3 + (8 : Nat) ≤ List.length x5 ∧ true = true ∧ true = true ∧ (42 : Nat) = (42 : Nat) ∧ ty = ty ∧ (128 : Nat) = (128 : Nat) ∧ HS.rest h = HS.rest h ∧ Value.int IntKind.i64 (↑(HS.c h) : Int) = Value.int IntKind.i64 (↑(HS.c h) : Int) ∧ (8 : Nat) = (8 : Nat) ∧ HS.s h = HS.s h ∧ (5 : Nat) = (5 : Nat) ∧ (1 : Nat) = (1 : Nat) ∧ putB8 x5 (Int.toNat x3) x4 = padH (HS.c h) ∧ getL (ClN.ren (kHPad (ty, h))) (1 : Nat) = some (Nat.add (Nat.add (Nat.add (1 : Nat) (0 : Nat)) (0 : Nat)) (0 : Nat)) ∧ (1 : Nat) = (1 : Nat) ∧ Int.toNat x1 = (9 : Nat) + ((64 : Nat) - (HS.c h + (9 : Nat)) % (64 : Nat)) % (64 : Nat)) := by kernel_rfl

set_option maxHeartbeats 8000000 in
theorem wpHPad (ty : Nat) (h : HS) (h1 : h.c ≤ 140737488355328) : wpE FHPad (Tryd.f51.body.getD .skip) ⟨Tryd.f51.ntmps, slotsOf 0 (kHPad (ty, h)).avs, (kHPad (ty, h)).mem⟩ (finK Tryd.prog Tryd.f51.results.toList (postN (kHPad (ty, h)))) := by
  with_reducible refine Eq.mpr (vcHPad ty h) ?_
  intro x1 x2 x3 x4 x5
  have t1 : IntKind.wrap .i64 ((h.c : Int) + 9) = ((h.c + 9 : Nat) : Int) := by rw [IntKind.wrap_i64]; omega
  have t2 : Int.tmod ((h.c + 9 : Nat) : Int) 64 = (((h.c + 9) % 64 : Nat) : Int) := (Int.ofNat_tmod (h.c + 9) 64).symm
  have t3 : IntKind.wrap .i64 (64 - (((h.c + 9) % 64 : Nat) : Int)) = ((64 - (h.c + 9) % 64 : Nat) : Int) := by rw [IntKind.wrap_i64]; omega
  have t4 : Int.tmod ((64 - (h.c + 9) % 64 : Nat) : Int) 64 = (((64 - (h.c + 9) % 64) % 64 : Nat) : Int) := (Int.ofNat_tmod (64 - (h.c + 9) % 64) 64).symm
  have e1 : x1 = ((9 + (64 - (h.c + 9) % 64) % 64 : Nat) : Int) := by
    show IntKind.wrap .i64 (9 + Int.tmod (IntKind.wrap .i64 (64 - Int.tmod (IntKind.wrap .i64 ((h.c : Int) + 9)) 64)) 64) = _
    rw [t1, t2, t3, t4, IntKind.wrap_i64]; omega
  have e1' : x1.toNat = 9 + (64 - (h.c + 9) % 64) % 64 := by rw [e1]; exact Int.toNat_natCast _
  have e3 : x3 = ((1 + (64 - (h.c + 9) % 64) % 64 : Nat) : Int) := by
    show IntKind.wrap .i64 ((x1.toNat : Int) - 8) = _
    rw [e1', IntKind.wrap_i64]; omega
  have e3' : x3.toNat = 1 + (64 - (h.c + 9) % 64) % 64 := by rw [e3]; exact Int.toNat_natCast _
  have l2 : x2.length = 9 + (64 - (h.c + 9) % 64) % 64 := by
    show (List.replicate x1.toNat (0 : Int)).length = _
    rw [List.length_replicate, e1']
  have l5 : x5.length = 9 + (64 - (h.c + 9) % 64) % 64 := by
    show (x2.set 0 128).length = _
    rw [List.length_set, l2]
  have ep : putB8 x5 x3.toNat x4 = padH h.c := by
    show putB8 ((List.replicate x1.toNat (0 : Int)).set 0 128) x3.toNat _ = _
    rw [e1', e3']; rfl
  clear_value x5 x4 x3 x2 x1
  and_intros <;> first | omega | exact True.intro | exact ep | with_reducible rfl | kernel_rfl
set_option maxHeartbeats 8000000 in
theorem cHPad_ok : SpecOK Tryd.prog cHPad := by
  refine callG_ok (c := Tryd.f51.body.getD .skip) mixed Tryd.func51 (by kernel_rfl) rfl (fun x hob => ?_)
  obtain ⟨ty, h⟩ := x
  have hob : (h.c ≤ 140737488355328) := hob
  have h1 := hob
  exact ⟨FHPad, rfl, evOKs ⟨.inl ⟨cHPut64_ok, by kernel_rfl, gl_nil rfl⟩, trivial⟩, rfl, rfl, by with_reducible exact wpHPad ty h h1⟩

theorem padH_len (c : Nat) : (padH c).length = 9 + (64 - (c + 9) % 64) % 64 := by
  unfold padH putB8
  rw [putB_len, putB_len, List.length_set, List.length_replicate]
/-- Words as bytes. -/
def outW (s : List Int) : Nat → List Int
  | 0 => List.replicate 32 0
  | j + 1 => putB (outW s j) (4 * j) (s.getD j 0)
def sumH (h : HS) : List Int := outW (writeH h [padH h.c]).s 8
def kHSum : Nat × HS → ClN := fun (ty, h) => ⟨[.o (.c (.ptr 0 0 none))], [.fix ty [.many 128 (.i .u8 h.rest), .one (.v (.int .i64 (h.c : Int))), .many 8 (.i .u32 h.s)]], .o (.g [.many 32 (.i .u8 (sumH h))]), [.fix ty [.many 128 (.i .u8 h.rest), .one (.v (.int .i64 (h.c : Int))), .many 8 (.i .u32 h.s)]], [0], [h.c ≤ 140737488355328, h.rest.length = 128]⟩
noncomputable def FHSum : FnE := ⟨mkEv Tryd.prog tabH [cHWrite, cHPad, cHPut] 1, [0, 2, 3, 4, 5, 6, 17, 18, 19], fun _ _ => .rounds 9⟩
def mHSum : List AV → (Nat → Option MB) → Option (List Nat × (Nat × HS))
  | [.o (.c (.ptr i 0 none))], lk => match lk i with
      | some (.fix ty [.many 128 (.i .u8 rest), .one (.v (.int .i64 c)), .many 8 (.i .u32 s)]) => some ([i], ty, ⟨rest, c.toNat, s⟩)
      | _ => none
  | _, _ => none
noncomputable def cHSum : Spec := callG 30 Tryd.f30.ntmps mHSum kHSum (tabH)
theorem vcHSum (ty : Nat) (h : HS) : (wpE FHSum (Tryd.f30.body.getD .skip) ⟨Tryd.f30.ntmps, slotsOf 0 (kHSum (ty, h)).avs, (kHSum (ty, h)).mem⟩ (finK Tryd.prog Tryd.f30.results.toList (postN (kHSum (ty, h))))) = (let x1 := HS.rest { rest := HS.rest h, c := Int.toNat (↑(HS.c h) : Int), s := HS.s h }; let x2 := HS.s { rest := HS.rest h, c := Int.toNat (↑(HS.c h) : Int), s := HS.s h }; let x3 := padH (HS.c { rest := HS.rest h, c := Int.toNat (↑(HS.c h) : Int), s := HS.s h }); let x4 := [x3]; let x5 := HS.s (writeH { rest := HS.rest h, c := Int.toNat (↑(HS.c h) : Int), s := HS.s h } x4); let x6 := List.getD x5 (0 : Nat) (0 : Int); let x7 := List.getD x5 (1 : Nat) (0 : Int); let x8 := putB (List.replicate (32 : Nat) (0 : Int)) (0 : Nat) x6; let x9 := List.getD x5 (2 : Nat) (0 : Int); let x10 := putB x8 (4 : Nat) x7; let x11 := List.getD x5 (3 : Nat) (0 : Int); let x12 := putB x10 (8 : Nat) x9; let x13 := List.getD x5 (4 : Nat) (0 : Int); let x14 := putB x12 (12 : Nat) x11; let x15 := List.getD x5 (5 : Nat) (0 : Int); let x16 := putB x14 (16 : Nat) x13; let x17 := List.getD x5 (6 : Nat) (0 : Int); let x18 := putB x16 (20 : Nat) x15; let x19 := List.getD x5 (7 : Nat) (0 : Int); let x20 := putB x18 (24 : Nat) x17; true = true ∧ getL [(0 : Nat)] (0 : Nat) = some (0 : Nat) ∧ (0 : Nat) = (0 : Nat) ∧ Value.int IntKind.i64 (64 : Int) = Value.int IntKind.i64 (64 : Int) ∧ ty = ty ∧ (128 : Nat) = (128 : Nat) ∧ HS.rest h = x1 ∧ Value.int IntKind.i64 (↑(HS.c h) : Int) = Value.int IntKind.i64 (↑(HS.c { rest := HS.rest h, c := Int.toNat (↑(HS.c h) : Int), s := HS.s h }) : Int) ∧ (8 : Nat) = (8 : Nat) ∧ HS.s h = x2 ∧ HS.c { rest := HS.rest h, c := Int.toNat (↑(HS.c h) : Int), s := HS.s h } ≤ (140737488355328 : Nat) ∧ true = true ∧ getL [Nat.add (Nat.add (Nat.add (2 : Nat) (0 : Nat)) (0 : Nat)) (0 : Nat)] (0 : Nat) = some (Nat.add (Nat.add (Nat.add (2 : Nat) (0 : Nat)) (0 : Nat)) (0 : Nat)) ∧ (0 : Nat) = (0 : Nat) ∧ true = true ∧ x4 = x4 ∧ (1 : Nat) = (1 : Nat) ∧ List.length x3 = (9 : Nat) + ((64 : Nat) - (HS.c { rest := HS.rest h, c := Int.toNat (↑(HS.c h) : Int), s := HS.s h } + (9 : Nat)) % (64 : Nat)) % (64 : Nat) ∧ (74 : Nat) = (74 : Nat) ∧ (128 : Nat) = (128 : Nat) ∧ HS.rest h = x1 ∧ Value.int IntKind.i64 (↑(HS.c h) : Int) = Value.int IntKind.i64 (↑(HS.c { rest := HS.rest h, c := Int.toNat (↑(HS.c h) : Int), s := HS.s h }) : Int) ∧ (8 : Nat) = (8 : Nat) ∧ HS.s h = x2 ∧ (1 : Nat) ≤ (140737488355328 : Nat) ∧ List.length (List.flatten x4) ≤ (140737488355328 : Nat) ∧ HS.c { rest := HS.rest h, c := Int.toNat (↑(HS.c h) : Int), s := HS.s h } ≤ (140737488355328 : Nat) ∧ List.length x1 = (128 : Nat) ∧ (0 : Int) ≤ (0 : Int) ∧ (0 : Int) < (8 : Int) ∧ (0 : Int) ≤ (0 : Int) ∧ (0 : Nat) ≤ (32 : Nat) ∧ (32 : Nat) ≤ (9223372036854775807 : Nat) ∧ true = true ∧ getL [(5 : Nat)] (0 : Nat) = some (5 : Nat) ∧ (0 : Nat) = (0 : Nat) ∧ (32 : Nat) = (32 : Nat) ∧ Value.int IntKind.u32 x6 = Value.int IntKind.u32 x6 ∧ (25 : Nat) = (25 : Nat) ∧ (32 : Nat) = (32 : Nat) ∧ List.replicate (32 : Nat) (0 : Int) = List.replicate (32 : Nat) (0 : Int) ∧ (4 : Nat) ≤ (32 : Nat) ∧ (4 : Nat) ≤ (32 : Nat) ∧ (0 : Int) ≤ (1 : Int) ∧ (1 : Int) < (8 : Int) ∧ (0 : Int) ≤ (4 : Int) ∧ (4 : Nat) ≤ (32 : Nat) ∧ (32 : Nat) ≤ (9223372036854775807 : Nat) ∧ true = true ∧ getL [(5 : Nat)] (0 : Nat) = some (5 : Nat) ∧ (4 : Nat) = (4 : Nat) ∧ (28 : Nat) = (28 : Nat) ∧ Value.int IntKind.u32 x7 = Value.int IntKind.u32 x7 ∧ (25 : Nat) = (25 : Nat) ∧ (32 : Nat) = (32 : Nat) ∧ x8 = x8 ∧ (4 : Nat) ≤ (28 : Nat) ∧ (8 : Nat) ≤ (32 : Nat) ∧ (0 : Int) ≤ (2 : Int) ∧ (2 : Int) < (8 : Int) ∧ (0 : Int) ≤ (8 : Int) ∧ (8 : Nat) ≤ (32 : Nat) ∧ (32 : Nat) ≤ (9223372036854775807 : Nat) ∧ true = true ∧ getL [(5 : Nat)] (0 : Nat) = some (5 : Nat) ∧ (8 : Nat) = (8 : Nat) ∧ (24 : Nat) = (24 : Nat) ∧ Value.int IntKind.u32 x9 = Value.int IntKind.u32 x9 ∧ (25 : Nat) = (25 : Nat) ∧ (32 : Nat) = (32 : Nat) ∧ x10 = x10 ∧ (4 : Nat) ≤ (24 : Nat) ∧ (12 : Nat) ≤ (32 : Nat) ∧ (0 : Int) ≤ (3 : Int) ∧ (3 : Int) < (8 : Int) ∧ (0 : Int) ≤ (12 : Int) ∧ (12 : Nat) ≤ (32 : Nat) ∧ (32 : Nat) ≤ (9223372036854775807 : Nat) ∧ true = true ∧ getL [(5 : Nat)] (0 : Nat) = some (5 : Nat) ∧ (12 : Nat) = (12 : Nat) ∧ (20 : Nat) = (20 : Nat) ∧ Value.int IntKind.u32 x11 = Value.int IntKind.u32 x11 ∧ (25 : Nat) = (25 : Nat) ∧ (32 : Nat) = (32 : Nat) ∧ x12 = x12 ∧ (4 : Nat) ≤ (20 : Nat) ∧ (16 : Nat) ≤ (32 : Nat) ∧ (0 : Int) ≤ (4 : Int) ∧ (4 : Int) < (8 : Int) ∧ (0 : Int) ≤ (16 : Int) ∧ (16 : Nat) ≤ (32 : Nat) ∧ (32 : Nat) ≤ (9223372036854775807 : Nat) ∧ true = true ∧ getL [(5 : Nat)] (0 : Nat) = some (5 : Nat) ∧ (16 : Nat) = (16 : Nat) ∧ (16 : Nat) = (16 : Nat) ∧ Value.int IntKind.u32 x13 = Value.int IntKind.u32 x13 ∧ (25 : Nat) = (25 : Nat) ∧ (32 : Nat) = (32 : Nat) ∧ x14 = x14 ∧ (4 : Nat) ≤ (16 : Nat) ∧ (20 : Nat) ≤ (32 : Nat) ∧ (0 : Int) ≤ (5 : Int) ∧ (5 : Int) < (8 : Int) ∧ (0 : Int) ≤ (20 : Int) ∧ (20 : Nat) ≤ (32 : Nat) ∧ (32 : Nat) ≤ (9223372036854775807 : Nat) ∧ true = true ∧ getL [(5 : Nat)] (0 : Nat) = some (5 : Nat) ∧ (20 : Nat) = (20 : Nat) ∧ (12 : Nat) = (12 : Nat) ∧ Value.int IntKind.u32 x15 = Value.int IntKind.u32 x15 ∧ (25 : Nat) = (25 : Nat) ∧ (32 : Nat) = (32 : Nat) ∧ x16 = x16 ∧ (4 : Nat) ≤ (12 : Nat) ∧ (24 : Nat) ≤ (32 : Nat) ∧ (0 : Int) ≤ (6 : Int) ∧ (6 : Int) < (8 : Int) ∧ (0 : Int) ≤ (24 : Int) ∧ (24 : Nat) ≤ (32 : Nat) ∧ (32 : Nat) ≤ (9223372036854775807 : Nat) ∧ true = true ∧ getL [(5 : Nat)] (0 : Nat) = some (5 : Nat) ∧ (24 : Nat) = (24 : Nat) ∧ (8 : Nat) = (8 : Nat) ∧ Value.int IntKind.u32 x17 = Value.int IntKind.u32 x17 ∧ (25 : Nat) = (25 : Nat) ∧ (32 : Nat) = (32 : Nat) ∧ x18 = x18 ∧ (4 : Nat) ≤ (8 : Nat) ∧ (28 : Nat) ≤ (32 : Nat) ∧ (0 : Int) ≤ (7 : Int) ∧ (7 : Int) < (8 : Int) ∧ (0 : Int) ≤ (28 : Int) ∧ (28 : Nat) ≤ (32 : Nat) ∧ (32 : Nat) ≤ (9223372036854775807 : Nat) ∧ true = true ∧ getL [(5 : Nat)] (0 : Nat) = some (5 : Nat) ∧ (28 : Nat) = (28 : Nat) ∧ (4 : Nat) = (4 : Nat) ∧ Value.int IntKind.u32 x19 = Value.int IntKind.u32 x19 ∧ (25 : Nat) = (25 : Nat) ∧ (32 : Nat) = (32 : Nat) ∧ x20 = x20 ∧ (4 : Nat) ≤ (4 : Nat) ∧ (32 : Nat) ≤ (32 : Nat) ∧ true = true ∧ true = true ∧ (29 : Nat) = (29 : Nat) ∧ ty = ty ∧ (128 : Nat) = (128 : Nat) ∧ x1 = HS.rest h ∧ Value.int IntKind.i64 (↑(HS.c { rest := HS.rest h, c := Int.toNat (↑(HS.c h) : Int), s := HS.s h }) : Int) = Value.int IntKind.i64 (↑(HS.c h) : Int) ∧ (8 : Nat) = (8 : Nat) ∧ x2 = HS.s h ∧ (32 : Nat) = (32 : Nat) ∧ putB x20 (28 : Nat) x19 = sumH h) := by kernel_rfl

set_option maxHeartbeats 8000000 in
theorem wpHSum (ty : Nat) (h : HS) (h1 : h.c ≤ 140737488355328) (h2 : h.rest.length = 128) : wpE FHSum (Tryd.f30.body.getD .skip) ⟨Tryd.f30.ntmps, slotsOf 0 (kHSum (ty, h)).avs, (kHSum (ty, h)).mem⟩ (finK Tryd.prog Tryd.f30.results.toList (postN (kHSum (ty, h)))) := by
  with_reducible refine Eq.mpr (vcHSum ty h) ?_
  intro x1 x2 x3 x4
  have hp : x3.length = 9 + (64 - (HS.c { rest := HS.rest h, c := Int.toNat (h.c : Int), s := HS.s h } + 9) % 64) % 64 := padH_len h.c
  have hr : x1.length = 128 := h2
  have hf : x4.flatten.length ≤ 140737488355328 := by
    show (List.flatten [padH h.c]).length ≤ _
    rw [List.flatten_cons, List.flatten_nil, List.append_nil, padH_len]; omega
  have hc : HS.c { rest := HS.rest h, c := Int.toNat (h.c : Int), s := HS.s h } ≤ 140737488355328 := h1
  intros
  and_intros <;> first | omega | exact True.intro | with_reducible rfl | with_reducible assumption | kernel_rfl
set_option maxHeartbeats 8000000 in
theorem cHSum_ok : SpecOK Tryd.prog cHSum := by
  refine callG_ok (c := Tryd.f30.body.getD .skip) mixed Tryd.func30 (by kernel_rfl) rfl (fun x hob => ?_)
  obtain ⟨ty, h⟩ := x
  have hob : (h.c ≤ 140737488355328) ∧ (h.rest.length = 128) := hob
  obtain ⟨h1, h2⟩ := hob
  exact ⟨FHSum, rfl, evOKs ⟨.inl ⟨cHWrite_ok, by kernel_rfl, gl_sub (by first | exact .inl rfl | exact .inr rfl)⟩, ⟨.inl ⟨cHPad_ok, by kernel_rfl, gl_sub (by first | exact .inl rfl | exact .inr rfl)⟩, ⟨.inl ⟨cHPut_ok, by kernel_rfl, gl_sub (by first | exact .inl rfl | exact .inr rfl)⟩, trivial⟩⟩⟩, rfl, rfl, by with_reducible exact wpHSum ty h h1 h2⟩

def hs0 : HS := ⟨List.replicate 128 0, 0, h0L⟩
/-- The SHA-256 of parts. -/
def sum256 (ls : List (List Int)) : List Int := sumH (writeH hs0 ls)
def kHSum256 : (List (List Int)) → ClN := fun ls => ⟨[.o (.c (.rss ls))], [], .o (.g [.many 32 (.i .u8 (sum256 ls))]), [], [], [ls.length ≤ 140737488355328, ls.flatten.length ≤ 140737488355328]⟩
noncomputable def FHSum256 : FnE := ⟨mkEv Tryd.prog tabH [cHNew, cHWrite, cHSum] 0, [0, 2, 3], fun _ _ => .rounds 0⟩
def mHSum256 : List AV → (Nat → Option MB) → Option (List Nat × (List (List Int)))
  | [.o (.c x)], lk => match slS lk x with
    | some ls => some ([], ls)
    | none => none
  | _, _ => none
noncomputable def cHSum256 : Spec := callG 31 Tryd.f31.ntmps mHSum256 kHSum256 (tabH)
theorem vcHSum256 (ls : List (List Int)) : (wpE FHSum256 (Tryd.f31.body.getD .skip) ⟨Tryd.f31.ntmps, slotsOf 0 (kHSum256 ls).avs, (kHSum256 ls).mem⟩ (finK Tryd.prog Tryd.f31.results.toList (postN (kHSum256 ls)))) = (let x1 := HS.rest (writeH { rest := List.replicate (128 : Nat) (0 : Int), c := (0 : Nat), s := h0L } ls); let x2 := HS.s (writeH { rest := List.replicate (128 : Nat) (0 : Int), c := (0 : Nat), s := h0L } ls); let x3 := HS.rest { rest := x1, c := Int.toNat (↑(HS.c (writeH { rest := List.replicate (128 : Nat) (0 : Int), c := (0 : Nat), s := h0L } ls)) : Int), s := x2 }; true = true ∧ true = true ∧ getL [nameN [] (1 : Nat) (0 : Nat)] (0 : Nat) = some (nameN [] (1 : Nat) (0 : Nat)) ∧ (0 : Nat) = (0 : Nat) ∧ true = true ∧ ls = ls ∧ (74 : Nat) = (74 : Nat) ∧ (128 : Nat) = (128 : Nat) ∧ List.replicate (128 : Nat) (0 : Int) = HS.rest { rest := List.replicate (128 : Nat) (0 : Int), c := (0 : Nat), s := h0L } ∧ Value.int IntKind.i64 (0 : Int) = Value.int IntKind.i64 (0 : Int) ∧ (8 : Nat) = (8 : Nat) ∧ h0L = HS.s { rest := List.replicate (128 : Nat) (0 : Int), c := (0 : Nat), s := h0L } ∧ List.length ls ≤ (140737488355328 : Nat) ∧ List.length (List.flatten ls) ≤ (140737488355328 : Nat) ∧ (0 : Nat) ≤ (140737488355328 : Nat) ∧ (128 : Nat) = (128 : Nat) ∧ true = true ∧ getL [nameN [] (1 : Nat) (0 : Nat)] (0 : Nat) = some (nameN [] (1 : Nat) (0 : Nat)) ∧ (0 : Nat) = (0 : Nat) ∧ (74 : Nat) = (74 : Nat) ∧ (128 : Nat) = (128 : Nat) ∧ x1 = x3 ∧ Value.int IntKind.i64 (↑(HS.c (writeH { rest := List.replicate (128 : Nat) (0 : Int), c := (0 : Nat), s := h0L } ls)) : Int) = Value.int IntKind.i64 (↑(HS.c { rest := x1, c := Int.toNat (↑(HS.c (writeH { rest := List.replicate (128 : Nat) (0 : Int), c := (0 : Nat), s := h0L } ls)) : Int), s := x2 }) : Int) ∧ (8 : Nat) = (8 : Nat) ∧ x2 = HS.s { rest := x1, c := Int.toNat (↑(HS.c (writeH { rest := List.replicate (128 : Nat) (0 : Int), c := (0 : Nat), s := h0L } ls)) : Int), s := x2 } ∧ HS.c { rest := x1, c := Int.toNat (↑(HS.c (writeH { rest := List.replicate (128 : Nat) (0 : Int), c := (0 : Nat), s := h0L } ls)) : Int), s := x2 } ≤ (140737488355328 : Nat) ∧ List.length x3 = (128 : Nat) ∧ true = true ∧ true = true ∧ (10 : Nat) = (10 : Nat) ∧ (32 : Nat) = (32 : Nat) ∧ sumH { rest := x1, c := Int.toNat (↑(HS.c (writeH { rest := List.replicate (128 : Nat) (0 : Int), c := (0 : Nat), s := h0L } ls)) : Int), s := x2 } = sum256 ls) := by kernel_rfl

set_option maxHeartbeats 8000000 in
theorem wpHSum256 (ls : List (List Int)) (h1 : ls.length ≤ 140737488355328) (h2 : ls.flatten.length ≤ 140737488355328) : wpE FHSum256 (Tryd.f31.body.getD .skip) ⟨Tryd.f31.ntmps, slotsOf 0 (kHSum256 ls).avs, (kHSum256 ls).mem⟩ (finK Tryd.prog Tryd.f31.results.toList (postN (kHSum256 ls))) := by
  with_reducible refine Eq.mpr (vcHSum256 ls) ?_
  intro x1 x2 x3
  have hl : x3.length = 128 := writeH_rest ls rfl
  have hc : HS.c { rest := x1, c := Int.toNat ((HS.c (writeH { rest := List.replicate 128 0, c := 0, s := h0L } ls) : Nat) : Int), s := x2 } ≤ 140737488355328 := by
    show (writeH hs0 ls).c ≤ _
    rw [writeH_c]; show 0 + _ ≤ _; omega
  and_intros <;> first | omega | exact True.intro | with_reducible rfl | with_reducible assumption | kernel_rfl
set_option maxHeartbeats 8000000 in
theorem cHSum256_ok : SpecOK Tryd.prog cHSum256 := by
  refine callG_ok (c := Tryd.f31.body.getD .skip) mixed Tryd.func31 (by kernel_rfl) rfl (fun ls hob => ?_)
  have hob : (ls.length ≤ 140737488355328) ∧ (ls.flatten.length ≤ 140737488355328) := hob
  obtain ⟨h1, h2⟩ := hob
  exact ⟨FHSum256, rfl, evOKs ⟨.inl ⟨cHNew_ok, by kernel_rfl, gl_sub (by first | exact .inl rfl | exact .inr rfl)⟩, ⟨.inl ⟨cHWrite_ok, by kernel_rfl, gl_sub (by first | exact .inl rfl | exact .inr rfl)⟩, ⟨.inl ⟨cHSum_ok, by kernel_rfl, gl_sub (by first | exact .inl rfl | exact .inr rfl)⟩, trivial⟩⟩⟩, rfl, rfl, by with_reducible exact wpHSum256 ls h1 h2⟩
end Go.Proofs.YthhjcpiaoempfaaDoor
