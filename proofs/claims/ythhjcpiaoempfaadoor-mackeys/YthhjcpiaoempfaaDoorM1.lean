/-
  mac: sums with keys.
-/
import Derived.Test.YthhjcpiaoempfaaDoorSha
namespace Go.Proofs.YthhjcpiaoempfaaDoor
open Go.RowKit
set_option maxRecDepth 100000

theorem outW_len (s : List Int) : ∀ j, (outW s j).length = 32
  | 0 => by simp [outW]
  | j + 1 => by rw [outW, putB_len, outW_len s j]
theorem sumH_len (h : HS) : (sumH h).length = 32 := by unfold sumH; exact outW_len _ 8
theorem sum256_len (ls : List (List Int)) : (sum256 ls).length = 32 := by unfold sum256; exact sumH_len _
def keyB (key : List Int) : List Int := if 64 < key.length then sum256 [key] else key
theorem keyB_len (key : List Int) : (keyB key).length ≤ 64 := by
  unfold keyB
  split
  · rw [sum256_len]; omega
  · omega
/-- A key of as many bytes as a block has. -/
def fillL (key : List Int) : List Int := lay (List.replicate 64 0) 0 (keyB key)
theorem fillL_len (key : List Int) : (fillL key).length = 64 := by
  have := keyB_len key
  unfold fillL
  rw [lay_length _ _ _ (by rw [List.length_replicate]; omega), List.length_replicate]
def kMFill : Nat × (List Int) → ClN := fun (n, key) => ⟨[.o (.c (.rs 1 n (.i .u8 key)))], [], .o (.g [.many 64 (.i .u8 (fillL key))]), [], [], [key.length = n, n ≤ 140737488355328]⟩
noncomputable def FMFill : FnE := ⟨mkEv Tryd.prog tabH [cHSum256] 0, [0, 2, 3, 4, 7], fun _ _ => .rounds 0⟩
def mMFill : List AV → (Nat → Option MB) → Option (List Nat × (Nat × (List Int)))
  | [.o (.c x)], lk => match slI lk x with
    | some (n, l) => some ([], n, l)
    | none => none
  | _, _ => none
noncomputable def cMFill : Spec := callG 25 Tryd.f25.ntmps mMFill kMFill (tabH)
theorem vcMFill (n : Nat) (key : List Int) : (wpE FMFill (Tryd.f25.body.getD .skip) ⟨Tryd.f25.ntmps, slotsOf 0 (kMFill (n, key)).avs, (kMFill (n, key)).mem⟩ (finK Tryd.prog Tryd.f25.results.toList (postN (kMFill (n, key))))) = (bif decide ((64 : Int) < (↑n : Int)) then true = true ∧ true = true ∧ [key] = [key] ∧ (1 : Nat) = (1 : Nat) ∧ (1 : Nat) ≤ (140737488355328 : Nat) ∧ List.length (List.flatten [key]) ≤ (140737488355328 : Nat) ∧ (32 : Nat) ≤ (9223372036854775807 : Nat) ∧ (64 : Nat) ≤ (9223372036854775807 : Nat) ∧ (32 : Nat) ≤ (32 : Nat) ∧ (32 : Nat) ≤ (64 : Nat) ∧ true = true ∧ true = true ∧ (16 : Nat) = (16 : Nat) ∧ (64 : Nat) = (64 : Nat) ∧ lay (List.replicate (64 : Nat) (0 : Int)) (0 : Nat) (List.take (32 : Nat) (List.drop (0 : Nat) (List.take (32 : Nat) (List.drop (0 : Nat) (sum256 [key]))))) = fillL key else (64 : Nat) ≤ (9223372036854775807 : Nat) ∧ (0 : Nat) + Nat.min n (64 : Nat) ≤ (64 : Nat) ∧ true = true ∧ true = true ∧ (16 : Nat) = (16 : Nat) ∧ (64 : Nat) = (64 : Nat) ∧ lay (List.replicate (64 : Nat) (0 : Int)) (0 : Nat) (List.take (Nat.min n (64 : Nat)) (List.drop (0 : Nat) key)) = fillL key) := by kernel_rfl

set_option maxHeartbeats 8000000 in
theorem wpMFill (n : Nat) (key : List Int) (h1 : key.length = n) (h2 : n ≤ 140737488355328) : wpE FMFill (Tryd.f25.body.getD .skip) ⟨Tryd.f25.ntmps, slotsOf 0 (kMFill (n, key)).avs, (kMFill (n, key)).mem⟩ (finK Tryd.prog Tryd.f25.results.toList (postN (kMFill (n, key)))) := by
  with_reducible refine Eq.mpr (vcMFill n key) ?_
  subst h1
  have hf : (List.flatten [key]).length ≤ 140737488355328 := by rw [List.flatten_cons, List.flatten_nil, List.append_nil]; exact h2
  simp only [List.drop_zero]
  by_cases hg : (64 : Int) < (key.length : Int)
  · rw [decide_eq_true hg, cond_true]
    have ek : keyB key = sum256 [key] := if_pos (by omega)
    have ef : lay (List.replicate 64 0) 0 (List.take 32 (List.take 32 (sum256 [key]))) = fillL key := by
      unfold fillL
      rw [ek, List.take_of_length_le (l := sum256 [key]) (by rw [sum256_len]; omega), List.take_of_length_le (l := sum256 [key]) (by rw [sum256_len]; omega)]
    and_intros <;> first | omega | exact True.intro | with_reducible rfl | with_reducible assumption
  · rw [decide_eq_false hg, cond_false]
    have ek : keyB key = key := if_neg (by omega)
    have em : Nat.min key.length 64 = key.length := Nat.min_eq_left (by omega)
    have ef : lay (List.replicate 64 0) 0 (List.take key.length key) = fillL key := by
      unfold fillL
      rw [ek, List.take_length]
    rw [em]
    and_intros <;> first | omega | exact True.intro | with_reducible rfl | with_reducible assumption
set_option maxHeartbeats 8000000 in
theorem cMFill_ok : SpecOK Tryd.prog cMFill := by
  refine callG_ok (c := Tryd.f25.body.getD .skip) mixed Tryd.func25 (by kernel_rfl) rfl (fun x hob => ?_)
  obtain ⟨n, key⟩ := x
  have hob : (key.length = n) ∧ (n ≤ 140737488355328) := hob
  obtain ⟨h1, h2⟩ := hob
  exact ⟨FMFill, rfl, evOKs ⟨.inl ⟨cHSum256_ok, by kernel_rfl, gl_sub (by first | exact .inl rfl | exact .inr rfl)⟩, trivial⟩, rfl, rfl, by with_reducible exact wpMFill n key h1 h2⟩

def maskL (key : List Int) (x : Int) : Nat → List Int
  | 0 => key
  | i + 1 => (maskL key x i).set i (bits .xor .u8 ((maskL key x i).getD i 0) x)
theorem maskL_len (key : List Int) (x : Int) : ∀ i, (maskL key x i).length = key.length
  | 0 => rfl
  | i + 1 => by rw [maskL, List.length_set, maskL_len key x i]
noncomputable def stMask (key : List Int) (x : Int) (i : Nat) : St := ⟨Tryd.f26.ntmps, [(1, vv (.int .u8 x)), (2, .o (.c (.ptr 0 0 none))), (4, .o (.c (.ptr 1 0 none))), (6, vv (.int .i64 (i : Int)))], [.fix 31 [.many 64 (.i .u8 (maskL key x i))], .fix 31 [.many 64 (.i .u8 (List.replicate 64 0))]]⟩
def kMMask : (List Int) × Int → ClN := fun (key, x) => ⟨[.o (.g [.many 64 (.i .u8 key)]), vv (.int .u8 x)], [], .o (.g [.many 64 (.i .u8 (maskL key x 64))]), [], [], [key.length = 64]⟩
noncomputable def FMMask (key : List Int) (x : Int) : FnE := ⟨mkEv Tryd.prog tabH [] 0, [0, 1, 2, 4, 5, 6, 7], fun _ _ => .inv { i : Nat // i ≤ 64 } (fun i => stMask key x i.val) (fun i => 64 - i.val) [0, 1] [0, 1]⟩
def mMMask : List AV → (Nat → Option MB) → Option (List Nat × ((List Int) × Int))
  | [.o (.g [.many 64 (.i .u8 key)]), .o (.c (.v (.int .u8 x)))], _ => some ([], (key, x))
  | _, _ => none
noncomputable def cMMask : Spec := callG 26 Tryd.f26.ntmps mMMask kMMask (tabH)
theorem vcMMask (key : List Int) (x : Int) : (wpE (FMMask key x) (Tryd.f26.body.getD .skip) ⟨Tryd.f26.ntmps, slotsOf 0 (kMMask (key, x)).avs, (kMMask (key, x)).mem⟩ (finK Tryd.prog Tryd.f26.results.toList (postN (kMMask (key, x))))) = ((∃ (x_1 : { i : Nat // i ≤ (64 : Nat) }), true = true ∧ true = true ∧ (17 : Nat) = (17 : Nat) ∧ Value.int IntKind.u8 x = Value.int IntKind.u8 x ∧ getL [(0 : Nat), (1 : Nat)] (0 : Nat) = some (0 : Nat) ∧ (0 : Nat) = (0 : Nat) ∧ getL [(0 : Nat), (1 : Nat)] (1 : Nat) = some (Nat.add (0 : Nat) (1 : Nat)) ∧ (0 : Nat) = (0 : Nat) ∧ Value.int IntKind.i64 (0 : Int) = Value.int IntKind.i64 (↑(Subtype.val x_1) : Int) ∧ (31 : Nat) = (31 : Nat) ∧ (64 : Nat) = (64 : Nat) ∧ key = maskL key x (Subtype.val x_1) ∧ (31 : Nat) = (31 : Nat) ∧ (64 : Nat) = (64 : Nat) ∧ List.replicate (64 : Nat) (0 : Int) = List.replicate (64 : Nat) (0 : Int)) ∧ ∀ (x_1 : { i : Nat // i ≤ (64 : Nat) }), bif decide ((↑(Subtype.val x_1) : Int) < (64 : Int)) then (0 : Int) ≤ (↑(Subtype.val x_1) : Int) ∧ (↑(Subtype.val x_1) : Int) < (64 : Int) ∧ Int.toNat (↑(Subtype.val x_1) : Int) < (64 : Nat) ∧ (0 : Int) ≤ (↑(Subtype.val x_1) : Int) ∧ (↑(Subtype.val x_1) : Int) < (64 : Int) ∧ Int.toNat (↑(Subtype.val x_1) : Int) < (64 : Nat) ∧ ∃ (y : { i : Nat // i ≤ (64 : Nat) }), (true = true ∧ true = true ∧ (17 : Nat) = (17 : Nat) ∧ Value.int IntKind.u8 x = Value.int IntKind.u8 x ∧ getL [(0 : Nat), (1 : Nat)] (0 : Nat) = some (0 : Nat) ∧ (0 : Nat) = (0 : Nat) ∧ getL [(0 : Nat), (1 : Nat)] (1 : Nat) = some (1 : Nat) ∧ (0 : Nat) = (0 : Nat) ∧ Value.int IntKind.i64 (IntKind.wrap IntKind.i64 ((↑(Subtype.val x_1) : Int) + (1 : Int))) = Value.int IntKind.i64 (↑(Subtype.val y) : Int) ∧ (31 : Nat) = (31 : Nat) ∧ (64 : Nat) = (64 : Nat) ∧ List.set (maskL key x (Subtype.val x_1)) (Int.toNat (↑(Subtype.val x_1) : Int)) (bits BinOp.xor IntKind.u8 (List.getD (maskL key x (Subtype.val x_1)) (Int.toNat (↑(Subtype.val x_1) : Int)) (0 : Int)) x) = maskL key x (Subtype.val y) ∧ (31 : Nat) = (31 : Nat) ∧ (64 : Nat) = (64 : Nat) ∧ List.replicate (64 : Nat) (0 : Int) = List.replicate (64 : Nat) (0 : Int)) ∧ (64 : Nat) - Subtype.val y < (64 : Nat) - Subtype.val x_1 else true = true ∧ true = true ∧ (17 : Nat) = (17 : Nat) ∧ (64 : Nat) = (64 : Nat) ∧ maskL key x (Subtype.val x_1) = maskL key x (64 : Nat)) := by kernel_rfl

set_option maxHeartbeats 8000000 in
theorem wpMMask (key : List Int) (x : Int) (_h1 : key.length = 64) : wpE (FMMask key x) (Tryd.f26.body.getD .skip) ⟨Tryd.f26.ntmps, slotsOf 0 (kMMask (key, x)).avs, (kMMask (key, x)).mem⟩ (finK Tryd.prog Tryd.f26.results.toList (postN (kMMask (key, x)))) := by
  with_reducible refine Eq.mpr (vcMMask key x) ?_
  and_intros
  all_goals try omega
  all_goals try exact True.intro
  all_goals try rfl
  · refine ⟨⟨0, by omega⟩, ?_⟩
    and_intros <;> first | exact True.intro | rfl
  · rintro ⟨i, hi⟩
    have e1 : IntKind.wrap .i64 ((i : Int) + 1) = ((i + 1 : Nat) : Int) := by rw [IntKind.wrap_i64]; omega
    have hl := maskL_len key x i
    dsimp only
    by_cases h : ((i : Int) < 64)
    · rw [decide_eq_true h, cond_true]
      simp only [e1, Int.toNat_natCast]
      and_intros
      all_goals try omega
      all_goals try exact True.intro
      all_goals try rfl
      refine ⟨⟨i + 1, by omega⟩, ?_⟩
      and_intros
      all_goals first | exact True.intro | rfl | (show 64 - (i + 1) < 64 - i; omega)
    · rw [decide_eq_false h, cond_false]
      have e : i = 64 := by omega
      subst e
      and_intros <;> first | exact True.intro | omega | kernel_rfl
set_option maxHeartbeats 8000000 in
theorem cMMask_ok : SpecOK Tryd.prog cMMask := by
  refine callG_ok (c := Tryd.f26.body.getD .skip) mixed Tryd.func26 (by kernel_rfl) rfl (fun x hob => ?_)
  obtain ⟨key, x⟩ := x
  have hob : (key.length = 64) := hob
  have h1 := hob
  exact ⟨FMMask key x, rfl, evOKs trivial, rfl, rfl, by with_reducible exact wpMMask key x h1⟩

/-- What a sum with a key begins with. -/
def hIn (key : List Int) : HS := writeH hs0 [maskL (fillL key) 54 64]
def oIn (key : List Int) : List Int := maskL (fillL key) 92 64
theorem hIn_rest (key : List Int) : (hIn key).rest.length = 128 := writeH_rest _ (by show (List.replicate 128 (0 : Int)).length = 128; exact List.length_replicate)
theorem hIn_c (key : List Int) : (hIn key).c = 64 := by
  unfold hIn
  rw [writeH_c, List.flatten_cons, List.flatten_nil, List.append_nil, maskL_len, fillL_len]; rfl
theorem oIn_len (key : List Int) : (oIn key).length = 64 := by unfold oIn; rw [maskL_len, fillL_len]
def kMNew : Nat × (List Int) → ClN := fun (n, key) => ⟨[.o (.c (.rs 1 n (.i .u8 key)))], [], .o (.c (.ptr 1 0 none)), [.fix 74 [.many 128 (.i .u8 (hIn key).rest), .one (.v (.int .i64 ((hIn key).c : Int))), .many 8 (.i .u32 (hIn key).s)], .fix 33 [.one (.ptr 0 0 none), .many 64 (.i .u8 (oIn key))]], [2, 3], [key.length = n, n ≤ 140737488355328]⟩
noncomputable def FMNew : FnE := ⟨mkEv Tryd.prog tabH [cMFill, cMMask, cHNew, cHWrite] 0, [0, 2, 3, 4, 5], fun _ _ => .rounds 0⟩
def mMNew : List AV → (Nat → Option MB) → Option (List Nat × (Nat × (List Int)))
  | [.o (.c x)], lk => match slI lk x with
    | some (n, l) => some ([], n, l)
    | none => none
  | _, _ => none
noncomputable def cMNew : Spec := callG 9 Tryd.f9.ntmps mMNew kMNew (tabH)
theorem vcMNew (n : Nat) (key : List Int) : (wpE FMNew (Tryd.f9.body.getD .skip) ⟨Tryd.f9.ntmps, slotsOf 0 (kMNew (n, key)).avs, (kMNew (n, key)).mem⟩ (finK Tryd.prog Tryd.f9.results.toList (postN (kMNew (n, key))))) = (let x1 := [List.take (64 : Nat) (List.drop (0 : Nat) (maskL (fillL key) (54 : Int) (64 : Nat)))]; true = true ∧ true = true ∧ n = n ∧ key = key ∧ List.length key = n ∧ n ≤ (140737488355328 : Nat) ∧ true = true ∧ (64 : Nat) = (64 : Nat) ∧ fillL key = fillL key ∧ Value.int IntKind.u8 (54 : Int) = Value.int IntKind.u8 (54 : Int) ∧ List.length (fillL key) = (64 : Nat) ∧ true = true ∧ true = true ∧ (64 : Nat) = (64 : Nat) ∧ fillL key = fillL key ∧ Value.int IntKind.u8 (92 : Int) = Value.int IntKind.u8 (92 : Int) ∧ List.length (fillL key) = (64 : Nat) ∧ (64 : Nat) ≤ (9223372036854775807 : Nat) ∧ true = true ∧ getL [nameN [] (2 : Nat) (0 : Nat)] (0 : Nat) = some (nameN [] (2 : Nat) (0 : Nat)) ∧ (0 : Nat) = (0 : Nat) ∧ true = true ∧ x1 = x1 ∧ (1 : Nat) = (1 : Nat) ∧ (64 : Nat) ≤ (64 : Nat) ∧ (74 : Nat) = (74 : Nat) ∧ (128 : Nat) = (128 : Nat) ∧ List.replicate (128 : Nat) (0 : Int) = HS.rest { rest := List.replicate (128 : Nat) (0 : Int), c := (0 : Nat), s := h0L } ∧ Value.int IntKind.i64 (0 : Int) = Value.int IntKind.i64 (0 : Int) ∧ (8 : Nat) = (8 : Nat) ∧ h0L = HS.s { rest := List.replicate (128 : Nat) (0 : Int), c := (0 : Nat), s := h0L } ∧ (1 : Nat) ≤ (140737488355328 : Nat) ∧ List.length (List.flatten x1) ≤ (140737488355328 : Nat) ∧ (0 : Nat) ≤ (140737488355328 : Nat) ∧ (128 : Nat) = (128 : Nat) ∧ true = true ∧ true = true ∧ (23 : Nat) = (23 : Nat) ∧ (74 : Nat) = (74 : Nat) ∧ (128 : Nat) = (128 : Nat) ∧ HS.rest (writeH { rest := List.replicate (128 : Nat) (0 : Int), c := (0 : Nat), s := h0L } x1) = HS.rest (hIn key) ∧ Value.int IntKind.i64 (↑(HS.c (writeH { rest := List.replicate (128 : Nat) (0 : Int), c := (0 : Nat), s := h0L } x1)) : Int) = Value.int IntKind.i64 (↑(HS.c (hIn key)) : Int) ∧ (8 : Nat) = (8 : Nat) ∧ HS.s (writeH { rest := List.replicate (128 : Nat) (0 : Int), c := (0 : Nat), s := h0L } x1) = HS.s (hIn key) ∧ (33 : Nat) = (33 : Nat) ∧ getL (ClN.ren (kMNew (n, key))) (0 : Nat) = some (nameN [] (2 : Nat) (0 : Nat)) ∧ (0 : Nat) = (0 : Nat) ∧ (64 : Nat) = (64 : Nat) ∧ maskL (fillL key) (92 : Int) (64 : Nat) = oIn key ∧ getL (ClN.ren (kMNew (n, key))) (1 : Nat) = some (Nat.add (Nat.add (Nat.add (Nat.add (2 : Nat) (1 : Nat)) (0 : Nat)) (0 : Nat)) (0 : Nat)) ∧ (0 : Nat) = (0 : Nat)) := by kernel_rfl

set_option maxHeartbeats 8000000 in
theorem wpMNew (n : Nat) (key : List Int) (h1 : key.length = n) (h2 : n ≤ 140737488355328) : wpE FMNew (Tryd.f9.body.getD .skip) ⟨Tryd.f9.ntmps, slotsOf 0 (kMNew (n, key)).avs, (kMNew (n, key)).mem⟩ (finK Tryd.prog Tryd.f9.results.toList (postN (kMNew (n, key)))) := by
  with_reducible refine Eq.mpr (vcMNew n key) ?_
  intro x1
  have hl := fillL_len key
  have e : x1 = [maskL (fillL key) 54 64] := by
    show [List.take 64 (List.drop 0 (maskL (fillL key) 54 64))] = _
    rw [List.drop_zero, List.take_of_length_le (by rw [maskL_len, hl]; omega)]
  have hf : (List.flatten [maskL (fillL key) 54 64]).length ≤ 140737488355328 := by rw [List.flatten_cons, List.flatten_nil, List.append_nil, maskL_len, hl]; omega
  clear_value x1
  subst e
  and_intros <;> first | omega | exact True.intro | with_reducible rfl | with_reducible assumption | kernel_rfl
set_option maxHeartbeats 8000000 in
theorem cMNew_ok : SpecOK Tryd.prog cMNew := by
  refine callG_ok (c := Tryd.f9.body.getD .skip) mixed Tryd.func9 (by kernel_rfl) rfl (fun x hob => ?_)
  obtain ⟨n, key⟩ := x
  have hob : (key.length = n) ∧ (n ≤ 140737488355328) := hob
  obtain ⟨h1, h2⟩ := hob
  exact ⟨FMNew, rfl, evOKs ⟨.inl ⟨cMFill_ok, by kernel_rfl, gl_sub (by first | exact .inl rfl | exact .inr rfl)⟩, ⟨.inl ⟨cMMask_ok, by kernel_rfl, gl_sub (by first | exact .inl rfl | exact .inr rfl)⟩, ⟨.inl ⟨cHNew_ok, by kernel_rfl, gl_sub (by first | exact .inl rfl | exact .inr rfl)⟩, ⟨.inl ⟨cHWrite_ok, by kernel_rfl, gl_sub (by first | exact .inl rfl | exact .inr rfl)⟩, trivial⟩⟩⟩⟩, rfl, rfl, by with_reducible exact wpMNew n key h1 h2⟩

def kMSumM : Nat × Nat × HS × (List Int) → ClN := fun (th, tm, h, o) => ⟨[.o (.c (.ptr 1 0 none))], [.fix th [.many 128 (.i .u8 h.rest), .one (.v (.int .i64 (h.c : Int))), .many 8 (.i .u32 h.s)], .fix tm [.one (.ptr 0 0 none), .many 64 (.i .u8 o)]], .o (.g [.many 32 (.i .u8 (sum256 [o, sumH h]))]), [.fix th [.many 128 (.i .u8 h.rest), .one (.v (.int .i64 (h.c : Int))), .many 8 (.i .u32 h.s)], .fix tm [.one (.ptr 0 0 none), .many 64 (.i .u8 o)]], [0, 1], [h.c ≤ 140737488355328, h.rest.length = 128, o.length = 64]⟩
noncomputable def FMSumM : FnE := ⟨mkEv Tryd.prog tabH [cHSum, cHSum256] 2, [0, 2, 3], fun _ _ => .rounds 0⟩
def mMSumM : List AV → (Nat → Option MB) → Option (List Nat × (Nat × Nat × HS × (List Int)))
  | [.o (.c (.ptr j 0 none))], lk => match lk j with
    | some (.fix tm [.one (.ptr i 0 none), .many 64 (.i .u8 o)]) => match lk i with
      | some (.fix th [.many 128 (.i .u8 rest), .one (.v (.int .i64 c)), .many 8 (.i .u32 s)]) => some ([i, j], th, tm, ⟨rest, c.toNat, s⟩, o)
      | _ => none
    | _ => none
  | _, _ => none
noncomputable def cMSumM : Spec := callG 12 Tryd.f12.ntmps mMSumM kMSumM (tabH)
theorem vcMSumM (th tm : Nat) (h : HS) (o : List Int) : (wpE FMSumM (Tryd.f12.body.getD .skip) ⟨Tryd.f12.ntmps, slotsOf 0 (kMSumM (th, tm, h, o)).avs, (kMSumM (th, tm, h, o)).mem⟩ (finK Tryd.prog Tryd.f12.results.toList (postN (kMSumM (th, tm, h, o))))) = (let x1 := HS.rest { rest := HS.rest h, c := Int.toNat (↑(HS.c h) : Int), s := HS.s h }; let x2 := HS.s { rest := HS.rest h, c := Int.toNat (↑(HS.c h) : Int), s := HS.s h }; let x3 := [List.take (64 : Nat) (List.drop (0 : Nat) o), List.take (32 : Nat) (List.drop (0 : Nat) (sumH { rest := HS.rest h, c := Int.toNat (↑(HS.c h) : Int), s := HS.s h }))]; true = true ∧ getL [(0 : Nat)] (0 : Nat) = some (0 : Nat) ∧ (0 : Nat) = (0 : Nat) ∧ th = th ∧ (128 : Nat) = (128 : Nat) ∧ HS.rest h = x1 ∧ Value.int IntKind.i64 (↑(HS.c h) : Int) = Value.int IntKind.i64 (↑(HS.c { rest := HS.rest h, c := Int.toNat (↑(HS.c h) : Int), s := HS.s h }) : Int) ∧ (8 : Nat) = (8 : Nat) ∧ HS.s h = x2 ∧ HS.c { rest := HS.rest h, c := Int.toNat (↑(HS.c h) : Int), s := HS.s h } ≤ (140737488355328 : Nat) ∧ List.length x1 = (128 : Nat) ∧ (64 : Nat) ≤ (9223372036854775807 : Nat) ∧ (32 : Nat) ≤ (9223372036854775807 : Nat) ∧ true = true ∧ true = true ∧ x3 = x3 ∧ (2 : Nat) = (2 : Nat) ∧ (64 : Nat) ≤ (64 : Nat) ∧ (32 : Nat) ≤ (32 : Nat) ∧ (2 : Nat) ≤ (140737488355328 : Nat) ∧ List.length (List.flatten x3) ≤ (140737488355328 : Nat) ∧ true = true ∧ true = true ∧ (16 : Nat) = (16 : Nat) ∧ th = th ∧ (128 : Nat) = (128 : Nat) ∧ x1 = HS.rest h ∧ Value.int IntKind.i64 (↑(HS.c { rest := HS.rest h, c := Int.toNat (↑(HS.c h) : Int), s := HS.s h }) : Int) = Value.int IntKind.i64 (↑(HS.c h) : Int) ∧ (8 : Nat) = (8 : Nat) ∧ x2 = HS.s h ∧ tm = tm ∧ getL (ClN.ren (kMSumM (th, tm, h, o))) (0 : Nat) = some (0 : Nat) ∧ (0 : Nat) = (0 : Nat) ∧ (64 : Nat) = (64 : Nat) ∧ o = o ∧ (32 : Nat) = (32 : Nat) ∧ sum256 x3 = sum256 [o, sumH h]) := by kernel_rfl

set_option maxHeartbeats 8000000 in
theorem wpMSumM (th tm : Nat) (h : HS) (o : List Int) (h1 : h.c ≤ 140737488355328) (h2 : h.rest.length = 128) (h3 : o.length = 64) : wpE FMSumM (Tryd.f12.body.getD .skip) ⟨Tryd.f12.ntmps, slotsOf 0 (kMSumM (th, tm, h, o)).avs, (kMSumM (th, tm, h, o)).mem⟩ (finK Tryd.prog Tryd.f12.results.toList (postN (kMSumM (th, tm, h, o)))) := by
  with_reducible refine Eq.mpr (vcMSumM th tm h o) ?_
  intro x1 x2 x3
  have hr : x1.length = 128 := h2
  have e : x3 = [o, sumH h] := by
    show [List.take 64 (List.drop 0 o), List.take 32 (List.drop 0 (sumH h))] = _
    rw [List.drop_zero, List.drop_zero, List.take_of_length_le (by omega), List.take_of_length_le (by rw [sumH_len]; omega)]
  have hf : (List.flatten [o, sumH h]).length ≤ 140737488355328 := by
    rw [List.flatten_cons, List.flatten_cons, List.flatten_nil, List.append_nil, List.length_append, sumH_len]; omega
  clear_value x3
  subst e
  and_intros <;> first | omega | exact True.intro | with_reducible rfl | with_reducible assumption | (show h.c ≤ 140737488355328; exact h1) | kernel_rfl
set_option maxHeartbeats 8000000 in
theorem cMSumM_ok : SpecOK Tryd.prog cMSumM := by
  refine callG_ok (c := Tryd.f12.body.getD .skip) mixed Tryd.func12 (by kernel_rfl) rfl (fun x hob => ?_)
  obtain ⟨th, tm, h, o⟩ := x
  have hob : (h.c ≤ 140737488355328) ∧ (h.rest.length = 128) ∧ (o.length = 64) := hob
  obtain ⟨h1, h2, h3⟩ := hob
  exact ⟨FMSumM, rfl, evOKs ⟨.inl ⟨cHSum_ok, by kernel_rfl, gl_sub (by first | exact .inl rfl | exact .inr rfl)⟩, ⟨.inl ⟨cHSum256_ok, by kernel_rfl, gl_sub (by first | exact .inl rfl | exact .inr rfl)⟩, trivial⟩⟩, rfl, rfl, by with_reducible exact wpMSumM th tm h o h1 h2 h3⟩

/-- The sum with a key of parts. -/
def macL (key : List Int) (ls : List (List Int)) : List Int := sum256 [oIn key, sumH (writeH (hIn key) ls)]
def kMSum : Nat × (List Int) × (List (List Int)) → ClN := fun (n, key, ls) => ⟨[.o (.c (.rs 1 n (.i .u8 key))), .o (.c (.rss ls))], [], .o (.g [.many 32 (.i .u8 (macL key ls))]), [], [], [key.length = n, n ≤ 140737488355328, ls.length ≤ 140737488355328, ls.flatten.length ≤ 70368744177664]⟩
noncomputable def FMSum : FnE := ⟨mkEv Tryd.prog tabH [cMNew, cHWrite, cMSumM] 0, [0, 1, 4, 5], fun _ _ => .rounds 0⟩
def mMSum : List AV → (Nat → Option MB) → Option (List Nat × (Nat × (List Int) × (List (List Int))))
  | [.o (.c x), .o (.c y)], lk => match slI lk x with
    | some (n, l) => match slS lk y with
      | some ls => some ([], n, l, ls)
      | none => none
    | none => none
  | _, _ => none
noncomputable def cMSum : Spec := callG 11 Tryd.f11.ntmps mMSum kMSum (tabH)
theorem vcMSum (n : Nat) (key : List Int) (ls : List (List Int)) : (wpE FMSum (Tryd.f11.body.getD .skip) ⟨Tryd.f11.ntmps, slotsOf 0 (kMSum (n, key, ls)).avs, (kMSum (n, key, ls)).mem⟩ (finK Tryd.prog Tryd.f11.results.toList (postN (kMSum (n, key, ls))))) = (let x1 := HS.rest { rest := HS.rest (hIn key), c := Int.toNat (↑(HS.c (hIn key)) : Int), s := HS.s (hIn key) }; let x2 := HS.rest (writeH { rest := HS.rest (hIn key), c := Int.toNat (↑(HS.c (hIn key)) : Int), s := HS.s (hIn key) } ls); let x3 := HS.s (writeH { rest := HS.rest (hIn key), c := Int.toNat (↑(HS.c (hIn key)) : Int), s := HS.s (hIn key) } ls); let x4 := HS.rest { rest := x2, c := Int.toNat (↑(HS.c (writeH { rest := HS.rest (hIn key), c := Int.toNat (↑(HS.c (hIn key)) : Int), s := HS.s (hIn key) } ls)) : Int), s := x3 }; true = true ∧ true = true ∧ n = n ∧ key = key ∧ List.length key = n ∧ n ≤ (140737488355328 : Nat) ∧ true = true ∧ getL [nameN [] (Nat.add (1 : Nat) (0 : Nat)) (0 : Nat)] (0 : Nat) = some (nameN [] (Nat.add (1 : Nat) (0 : Nat)) (0 : Nat)) ∧ (0 : Nat) = (0 : Nat) ∧ true = true ∧ ls = ls ∧ (74 : Nat) = (74 : Nat) ∧ (128 : Nat) = (128 : Nat) ∧ HS.rest (hIn key) = x1 ∧ Value.int IntKind.i64 (↑(HS.c (hIn key)) : Int) = Value.int IntKind.i64 (↑(HS.c { rest := HS.rest (hIn key), c := Int.toNat (↑(HS.c (hIn key)) : Int), s := HS.s (hIn key) }) : Int) ∧ (8 : Nat) = (8 : Nat) ∧ HS.s (hIn key) = HS.s { rest := HS.rest (hIn key), c := Int.toNat (↑(HS.c (hIn key)) : Int), s := HS.s (hIn key) } ∧ List.length ls ≤ (140737488355328 : Nat) ∧ List.length (List.flatten ls) ≤ (140737488355328 : Nat) ∧ HS.c { rest := HS.rest (hIn key), c := Int.toNat (↑(HS.c (hIn key)) : Int), s := HS.s (hIn key) } ≤ (140737488355328 : Nat) ∧ List.length x1 = (128 : Nat) ∧ true = true ∧ getL [nameN [] (Nat.add (1 : Nat) (0 : Nat)) (0 : Nat), nameN [] (Nat.add (1 : Nat) (0 : Nat)) (1 : Nat)] (1 : Nat) = some (nameN [] (Nat.add (1 : Nat) (0 : Nat)) (1 : Nat)) ∧ (0 : Nat) = (0 : Nat) ∧ (74 : Nat) = (74 : Nat) ∧ (128 : Nat) = (128 : Nat) ∧ x2 = x4 ∧ Value.int IntKind.i64 (↑(HS.c (writeH { rest := HS.rest (hIn key), c := Int.toNat (↑(HS.c (hIn key)) : Int), s := HS.s (hIn key) } ls)) : Int) = Value.int IntKind.i64 (↑(HS.c { rest := x2, c := Int.toNat (↑(HS.c (writeH { rest := HS.rest (hIn key), c := Int.toNat (↑(HS.c (hIn key)) : Int), s := HS.s (hIn key) } ls)) : Int), s := x3 }) : Int) ∧ (8 : Nat) = (8 : Nat) ∧ x3 = HS.s { rest := x2, c := Int.toNat (↑(HS.c (writeH { rest := HS.rest (hIn key), c := Int.toNat (↑(HS.c (hIn key)) : Int), s := HS.s (hIn key) } ls)) : Int), s := x3 } ∧ (33 : Nat) = (33 : Nat) ∧ getL [nameN [] (Nat.add (1 : Nat) (0 : Nat)) (0 : Nat), nameN [] (Nat.add (1 : Nat) (0 : Nat)) (1 : Nat)] (0 : Nat) = some (nameN [] (Nat.add (1 : Nat) (0 : Nat)) (0 : Nat)) ∧ (0 : Nat) = (0 : Nat) ∧ (64 : Nat) = (64 : Nat) ∧ oIn key = oIn key ∧ HS.c { rest := x2, c := Int.toNat (↑(HS.c (writeH { rest := HS.rest (hIn key), c := Int.toNat (↑(HS.c (hIn key)) : Int), s := HS.s (hIn key) } ls)) : Int), s := x3 } ≤ (140737488355328 : Nat) ∧ List.length x4 = (128 : Nat) ∧ List.length (oIn key) = (64 : Nat) ∧ true = true ∧ true = true ∧ (16 : Nat) = (16 : Nat) ∧ (32 : Nat) = (32 : Nat) ∧ sum256 [oIn key, sumH { rest := x2, c := Int.toNat (↑(HS.c (writeH { rest := HS.rest (hIn key), c := Int.toNat (↑(HS.c (hIn key)) : Int), s := HS.s (hIn key) } ls)) : Int), s := x3 }] = macL key ls) := by kernel_rfl

set_option maxHeartbeats 8000000 in
theorem wpMSum (n : Nat) (key : List Int) (ls : List (List Int)) (h1 : key.length = n) (h2 : n ≤ 140737488355328) (h3 : ls.length ≤ 140737488355328) (h4 : ls.flatten.length ≤ 70368744177664) : wpE FMSum (Tryd.f11.body.getD .skip) ⟨Tryd.f11.ntmps, slotsOf 0 (kMSum (n, key, ls)).avs, (kMSum (n, key, ls)).mem⟩ (finK Tryd.prog Tryd.f11.results.toList (postN (kMSum (n, key, ls)))) := by
  with_reducible refine Eq.mpr (vcMSum n key ls) ?_
  have em : macL key ls = sum256 [oIn key, sumH (writeH (hIn key) ls)] := rfl
  rw [em]
  have hr := hIn_rest key
  have hc := hIn_c key
  have ho := oIn_len key
  have hr4 := writeH_rest ls hr
  have hc4 := writeH_c (hIn key) ls
  generalize hIn key = hI at *
  obtain ⟨r, c, t⟩ := hI
  simp only [Int.toNat_natCast]
  generalize writeH ⟨r, c, t⟩ ls = W at *
  obtain ⟨r2, c2, t2⟩ := W
  dsimp only at hr hc hr4 hc4 ⊢
  and_intros <;> first | omega | exact True.intro | with_reducible rfl | with_reducible assumption | kernel_rfl
set_option maxHeartbeats 8000000 in
theorem cMSum_ok : SpecOK Tryd.prog cMSum := by
  refine callG_ok (c := Tryd.f11.body.getD .skip) mixed Tryd.func11 (by kernel_rfl) rfl (fun x hob => ?_)
  obtain ⟨n, key, ls⟩ := x
  have hob : (key.length = n) ∧ (n ≤ 140737488355328) ∧ (ls.length ≤ 140737488355328) ∧ (ls.flatten.length ≤ 70368744177664) := hob
  obtain ⟨h1, h2, h3, h4⟩ := hob
  exact ⟨FMSum, rfl, evOKs ⟨.inl ⟨cMNew_ok, by kernel_rfl, gl_sub (by first | exact .inl rfl | exact .inr rfl)⟩, ⟨.inl ⟨cHWrite_ok, by kernel_rfl, gl_sub (by first | exact .inl rfl | exact .inr rfl)⟩, ⟨.inl ⟨cMSumM_ok, by kernel_rfl, gl_sub (by first | exact .inl rfl | exact .inr rfl)⟩, trivial⟩⟩⟩, rfl, rfl, by with_reducible exact wpMSum n key ls h1 h2 h3 h4⟩

def kMExtr : Nat × (List Int) × (List (List Int)) → ClN := fun (n, key, ls) => ⟨[.o (.c (.rs 1 n (.i .u8 key))), .o (.c (.rss ls))], [], .o (.g [.many 32 (.i .u8 (macL key ls))]), [], [], [key.length = n, n ≤ 140737488355328, ls.length ≤ 140737488355328, ls.flatten.length ≤ 70368744177664]⟩
noncomputable def FMExtr : FnE := ⟨mkEv Tryd.prog tabH [cMSum] 0, [0, 1, 4], fun _ _ => .rounds 0⟩
def mMExtr : List AV → (Nat → Option MB) → Option (List Nat × (Nat × (List Int) × (List (List Int))))
  | [.o (.c x), .o (.c y)], lk => match slI lk x with
    | some (n, l) => match slS lk y with
      | some ls => some ([], n, l, ls)
      | none => none
    | none => none
  | _, _ => none
noncomputable def cMExtr : Spec := callG 13 Tryd.f13.ntmps mMExtr kMExtr (tabH)
theorem vcMExtr (n : Nat) (key : List Int) (ls : List (List Int)) : (wpE FMExtr (Tryd.f13.body.getD .skip) ⟨Tryd.f13.ntmps, slotsOf 0 (kMExtr (n, key, ls)).avs, (kMExtr (n, key, ls)).mem⟩ (finK Tryd.prog Tryd.f13.results.toList (postN (kMExtr (n, key, ls))))) = (true = true ∧ true = true ∧ n = n ∧ key = key ∧ true = true ∧ ls = ls ∧ List.length key = n ∧ n ≤ (140737488355328 : Nat) ∧ List.length ls ≤ (140737488355328 : Nat) ∧ List.length (List.flatten ls) ≤ (70368744177664 : Nat) ∧ true = true ∧ true = true ∧ (8 : Nat) = (8 : Nat) ∧ (32 : Nat) = (32 : Nat) ∧ macL key ls = macL key ls) := by kernel_rfl

set_option maxHeartbeats 8000000 in
theorem wpMExtr (n : Nat) (key : List Int) (ls : List (List Int)) (h1 : key.length = n) (h2 : n ≤ 140737488355328) (h3 : ls.length ≤ 140737488355328) (h4 : ls.flatten.length ≤ 70368744177664) : wpE FMExtr (Tryd.f13.body.getD .skip) ⟨Tryd.f13.ntmps, slotsOf 0 (kMExtr (n, key, ls)).avs, (kMExtr (n, key, ls)).mem⟩ (finK Tryd.prog Tryd.f13.results.toList (postN (kMExtr (n, key, ls)))) := by
  with_reducible refine Eq.mpr (vcMExtr n key ls) ?_
  intros
  and_intros <;> first | omega | exact True.intro | kernel_rfl
set_option maxHeartbeats 8000000 in
theorem cMExtr_ok : SpecOK Tryd.prog cMExtr := by
  refine callG_ok (c := Tryd.f13.body.getD .skip) mixed Tryd.func13 (by kernel_rfl) rfl (fun x hob => ?_)
  obtain ⟨n, key, ls⟩ := x
  have hob : (key.length = n) ∧ (n ≤ 140737488355328) ∧ (ls.length ≤ 140737488355328) ∧ (ls.flatten.length ≤ 70368744177664) := hob
  obtain ⟨h1, h2, h3, h4⟩ := hob
  exact ⟨FMExtr, rfl, evOKs ⟨.inl ⟨cMSum_ok, by kernel_rfl, gl_sub (by first | exact .inl rfl | exact .inr rfl)⟩, trivial⟩, rfl, rfl, by with_reducible exact wpMExtr n key ls h1 h2 h3 h4⟩
end Go.Proofs.YthhjcpiaoempfaaDoor
