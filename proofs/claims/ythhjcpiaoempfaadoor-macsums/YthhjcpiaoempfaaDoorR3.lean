/-
  The references of layers 1 and 2: SHA-256 of a text, a key as a text, the sum with a key.
-/
import Derived.Test.YthhjcpiaoempfaaDoorR2
import Derived.Test.YthhjcpiaoempfaaDoorBst
namespace Go.Proofs.YthhjcpiaoempfaaDoor
open Go.RowKit
set_option maxRecDepth 100000

def cpyL (l : List Int) : Nat → List Int
  | 0 => List.replicate 32 0
  | i + 1 => (cpyL l i).set i (l.getD i 0)
theorem cpyL_len (l : List Int) : ∀ i, (cpyL l i).length = 32
  | 0 => rfl
  | i + 1 => by rw [cpyL, List.length_set, cpyL_len l i]
theorem shaR_len (s : List Int) : (shaR s).length = 32 := outK_len _ 8
theorem cpyL_eq {l : List Int} (h : l.length = 32) : ∀ i, i ≤ 32 → cpyL l i = l.take i ++ List.replicate (32 - i) 0
  | 0, _ => by rw [List.take_zero]; rfl
  | i + 1, hi => by
    have hl : (l.take i).length = i := by rw [List.length_take]; omega
    rw [cpyL, cpyL_eq h i (by omega), show 32 - i = (32 - (i + 1)) + 1 by omega, List.replicate_succ, List.set_append_right i _ (by omega), hl, Nat.sub_self, List.set_cons_zero, take_next (by omega), List.append_assoc]
    rfl
theorem cpyL_all {l : List Int} (h : l.length = 32) : cpyL l 32 = l := by
  rw [cpyL_eq h 32 (Nat.le_refl _), List.take_of_length_le (by omega), Nat.sub_self, List.replicate_zero, List.append_nil]
noncomputable def stS256 (l : List Int) (i : Nat) : St := ⟨Tryd.f24.ntmps, [(2, .o (.c (.ptr 0 0 none))), (4, .o (.c (.os 1 1 32))), (5, .o (.c (.ptr 2 0 none))), (6, vv (.int .i64 (i : Int)))], [.fix 25 [.many 32 (.i .u8 (List.replicate 32 0))], .grow 5 1 (.i .u8 l), .fix 25 [.many 32 (.i .u8 (cpyL l i))]]⟩
def kRSum256 : ByteArray → ClN := fun s => ⟨[vv (.string s)], [], .o (.g [.many 32 (.i .u8 (shaR (strL s)))]), [], [], [s.size ≤ 35184372088832]⟩
noncomputable def FRSum256 (s : ByteArray) : FnE := ⟨mkEv Tryd.prog [] [cRSum] 0, [0, 2, 3, 4, 5, 6, 17], fun _ _ => .inv { i : Nat // i ≤ 32 } (fun i => stS256 (shaR (strL s)) i.val) (fun i => 32 - i.val) [0, 3, 4] [0, 1, 2]⟩
def mRSum256 : List AV → (Nat → Option MB) → Option (List Nat × ByteArray)
  | [.o (.c (.v (.string s)))], _ => some ([], s)
  | _, _ => none
noncomputable def cRSum256 : Spec := callG 24 Tryd.f24.ntmps mRSum256 kRSum256
theorem vcRSum256 (s : ByteArray) : (wpE (FRSum256 s) (Tryd.f24.body.getD .skip) ⟨Tryd.f24.ntmps, slotsOf 0 (kRSum256 s).avs, (kRSum256 s).mem⟩ (finK Tryd.prog Tryd.f24.results.toList (postN (kRSum256 s)))) = (true = true ∧ Value.string s = Value.string s ∧ (Value.cells (Value.int IntKind.i64 (32 : Int)))[(0 : Nat)] = Value.int IntKind.i64 (32 : Int) ∧ (Value.cells (Value.int IntKind.i64 (64 : Int)))[(0 : Nat)] = Value.int IntKind.i64 (64 : Int) ∧ (Value.cells (Value.int IntKind.i64 (64 : Int)))[(0 : Nat)] = Value.int IntKind.i64 (64 : Int) ∧ getL [(2 : Nat)] (0 : Nat) = some (2 : Nat) ∧ (1 : Nat) = (1 : Nat) ∧ (8 : Nat) = (8 : Nat) ∧ (12 : Nat) = (12 : Nat) ∧ [(7 : Int), (18 : Int), (3 : Int), (17 : Int), (19 : Int), (10 : Int), (2 : Int), (13 : Int), (22 : Int), (6 : Int), (11 : Int), (25 : Int)] = trnL ∧ (86 : Nat) = (86 : Nat) ∧ (1 : Nat) = (1 : Nat) ∧ [(1779033703 : Int), (3144134277 : Int), (1013904242 : Int), (2773480762 : Int), (1359893119 : Int), (2600822924 : Int), (528734635 : Int), (1541459225 : Int)] = h0L ∧ ByteArray.size s ≤ (35184372088832 : Nat) ∧ (∃ (x : { i : Nat // i ≤ (32 : Nat) }), true = true ∧ true = true ∧ (27 : Nat) = (27 : Nat) ∧ getL [(0 : Nat), (3 : Nat), (4 : Nat)] (0 : Nat) = some (0 : Nat) ∧ (0 : Nat) = (0 : Nat) ∧ getL [(0 : Nat), (3 : Nat), (4 : Nat)] (1 : Nat) = some (nameN [(2 : Nat)] (Nat.add (Nat.add (3 : Nat) (0 : Nat)) (0 : Nat)) (1 : Nat)) ∧ (1 : Nat) = (1 : Nat) ∧ (32 : Nat) = (32 : Nat) ∧ getL [(0 : Nat), (3 : Nat), (4 : Nat)] (2 : Nat) = some (Nat.add (4 : Nat) (0 : Nat)) ∧ (0 : Nat) = (0 : Nat) ∧ Value.int IntKind.i64 (0 : Int) = Value.int IntKind.i64 (↑(Subtype.val x) : Int) ∧ (25 : Nat) = (25 : Nat) ∧ (32 : Nat) = (32 : Nat) ∧ List.replicate (32 : Nat) (0 : Int) = List.replicate (32 : Nat) (0 : Int) ∧ (5 : Nat) = (5 : Nat) ∧ (1 : Nat) = (1 : Nat) ∧ shaR (strL s) = shaR (strL s) ∧ (25 : Nat) = (25 : Nat) ∧ (32 : Nat) = (32 : Nat) ∧ [(0 : Int), (0 : Int), (0 : Int), (0 : Int), (0 : Int), (0 : Int), (0 : Int), (0 : Int), (0 : Int), (0 : Int), (0 : Int), (0 : Int), (0 : Int), (0 : Int), (0 : Int), (0 : Int), (0 : Int), (0 : Int), (0 : Int), (0 : Int), (0 : Int), (0 : Int), (0 : Int), (0 : Int), (0 : Int), (0 : Int), (0 : Int), (0 : Int), (0 : Int), (0 : Int), (0 : Int), (0 : Int)] = cpyL (shaR (strL s)) (Subtype.val x)) ∧ ∀ (x : { i : Nat // i ≤ (32 : Nat) }), bif decide ((↑(Subtype.val x) : Int) < (32 : Int)) then (0 : Int) ≤ (↑(Subtype.val x) : Int) ∧ (↑(Subtype.val x) : Int) < (32 : Int) ∧ Int.toNat (↑(Subtype.val x) : Int) < (32 : Nat) ∧ (0 : Int) ≤ (↑(Subtype.val x) : Int) ∧ (↑(Subtype.val x) : Int) < (32 : Int) ∧ Int.toNat (↑(Subtype.val x) : Int) < (32 : Nat) ∧ ∃ (y : { i : Nat // i ≤ (32 : Nat) }), (true = true ∧ true = true ∧ (27 : Nat) = (27 : Nat) ∧ getL [(0 : Nat), (1 : Nat), (2 : Nat)] (0 : Nat) = some (0 : Nat) ∧ (0 : Nat) = (0 : Nat) ∧ getL [(0 : Nat), (1 : Nat), (2 : Nat)] (1 : Nat) = some (1 : Nat) ∧ (1 : Nat) = (1 : Nat) ∧ (32 : Nat) = (32 : Nat) ∧ getL [(0 : Nat), (1 : Nat), (2 : Nat)] (2 : Nat) = some (2 : Nat) ∧ (0 : Nat) = (0 : Nat) ∧ Value.int IntKind.i64 (IntKind.wrap IntKind.i64 ((↑(Subtype.val x) : Int) + (1 : Int))) = Value.int IntKind.i64 (↑(Subtype.val y) : Int) ∧ (25 : Nat) = (25 : Nat) ∧ (32 : Nat) = (32 : Nat) ∧ List.replicate (32 : Nat) (0 : Int) = List.replicate (32 : Nat) (0 : Int) ∧ (5 : Nat) = (5 : Nat) ∧ (1 : Nat) = (1 : Nat) ∧ shaR (strL s) = shaR (strL s) ∧ (25 : Nat) = (25 : Nat) ∧ (32 : Nat) = (32 : Nat) ∧ List.set (cpyL (shaR (strL s)) (Subtype.val x)) (Int.toNat (↑(Subtype.val x) : Int)) (List.getD (shaR (strL s)) (Int.toNat (↑(Subtype.val x) : Int)) (0 : Int)) = cpyL (shaR (strL s)) (Subtype.val y)) ∧ (32 : Nat) - Subtype.val y < (32 : Nat) - Subtype.val x else true = true ∧ true = true ∧ (27 : Nat) = (27 : Nat) ∧ (32 : Nat) = (32 : Nat) ∧ cpyL (shaR (strL s)) (Subtype.val x) = shaR (strL s)) := by kernel_rfl

set_option maxHeartbeats 8000000 in
theorem wpRSum256 (s : ByteArray) (h1 : s.size ≤ 35184372088832) : wpE (FRSum256 s) (Tryd.f24.body.getD .skip) ⟨Tryd.f24.ntmps, slotsOf 0 (kRSum256 s).avs, (kRSum256 s).mem⟩ (finK Tryd.prog Tryd.f24.results.toList (postN (kRSum256 s))) := by
  with_reducible refine Eq.mpr (vcRSum256 s) ?_
  have hl := shaR_len (strL s)
  and_intros
  all_goals try exact True.intro
  all_goals try with_reducible rfl
  all_goals try omega
  all_goals try kernel_rfl
  · exact ⟨⟨0, Nat.zero_le _⟩, by and_intros <;> first | exact True.intro | with_reducible rfl | kernel_rfl⟩
  · rintro ⟨i, hi⟩
    dsimp only
    by_cases hg : (i : Int) < 32
    · rw [decide_eq_true hg, cond_true]
      have e1 : IntKind.wrap .i64 ((i : Int) + 1) = ((i + 1 : Nat) : Int) := by rw [IntKind.wrap_i64]; omega
      simp only [e1, Int.toNat_natCast]
      and_intros
      all_goals try exact True.intro
      all_goals try with_reducible rfl
      all_goals try omega
      refine ⟨⟨i + 1, by omega⟩, ?_⟩
      and_intros <;> first | exact True.intro | with_reducible rfl | (show 32 - (i + 1) < 32 - i; omega) | rfl
    · rw [decide_eq_false hg, cond_false]
      have e : i = 32 := by omega
      subst e
      have hc := cpyL_all hl
      and_intros <;> first | exact True.intro | with_reducible rfl | with_reducible exact hc | omega | kernel_rfl
set_option maxHeartbeats 8000000 in
theorem cRSum256_ok : SpecOK Tryd.prog cRSum256 := by
  refine callG_ok (c := Tryd.f24.body.getD .skip) mixed Tryd.func24 (by kernel_rfl) rfl (fun s hob => ?_)
  have hob : (s.size ≤ 35184372088832) := hob
  have h1 := hob
  exact ⟨FRSum256 s, rfl, evOKs ⟨.inl ⟨cRSum_ok, by kernel_rfl, gl_nil rfl⟩, trivial⟩, rfl, rfl, by with_reducible exact wpRSum256 s h1⟩

noncomputable def stText (k : List Int) (i : Nat) : St := ⟨Tryd.f23.ntmps, [(1, .o (.c (.ptr 0 0 none))), (3, vv (.string (bstr (k.take i)))), (4, vv (.int .i64 (i : Int)))], [.fix 25 [.many 32 (.i .u8 k)]]⟩
def kRText : (List Int) → ClN := fun k => ⟨[.o (.g [.many 32 (.i .u8 k)])], [], vv (.string (bstr k)), [], [], [k.length = 32]⟩
noncomputable def FRText (k : List Int) : FnE := ⟨mkEv Tryd.prog [] [] 0, [0, 1, 2, 3, 4, 6], fun _ _ => .inv { i : Nat // i ≤ 32 } (fun i => stText k i.val) (fun i => 32 - i.val) [0] [0]⟩
def mRText : List AV → (Nat → Option MB) → Option (List Nat × (List Int))
  | [.o (.g [.many 32 (.i .u8 k)])], _ => some ([], k)
  | _, _ => none
noncomputable def cRText : Spec := callG 23 Tryd.f23.ntmps mRText kRText
theorem vcRText (k : List Int) : (wpE (FRText k) (Tryd.f23.body.getD .skip) ⟨Tryd.f23.ntmps, slotsOf 0 (kRText k).avs, (kRText k).mem⟩ (finK Tryd.prog Tryd.f23.results.toList (postN (kRText k)))) = ((∃ (x : { i : Nat // i ≤ (32 : Nat) }), true = true ∧ true = true ∧ (17 : Nat) = (17 : Nat) ∧ getL [(0 : Nat)] (0 : Nat) = some (0 : Nat) ∧ (0 : Nat) = (0 : Nat) ∧ Value.string { data := #[] } = Value.string (bstr (List.take (Subtype.val x) k)) ∧ Value.int IntKind.i64 (0 : Int) = Value.int IntKind.i64 (↑(Subtype.val x) : Int) ∧ (25 : Nat) = (25 : Nat) ∧ (32 : Nat) = (32 : Nat) ∧ k = k) ∧ ∀ (x : { i : Nat // i ≤ (32 : Nat) }), bif decide ((↑(Subtype.val x) : Int) < (32 : Int)) then (0 : Int) ≤ (↑(Subtype.val x) : Int) ∧ (↑(Subtype.val x) : Int) < (32 : Int) ∧ Int.toNat (↑(Subtype.val x) : Int) < (32 : Nat) ∧ (1 : Nat) = (1 : Nat) ∧ ByteArray.size (bstr (List.take (Subtype.val x) k)) + ByteArray.size (bstr [List.getD k (Int.toNat (↑(Subtype.val x) : Int)) (0 : Int)]) ≤ (9223372036854775807 : Nat) ∧ ∃ (y : { i : Nat // i ≤ (32 : Nat) }), (true = true ∧ true = true ∧ (17 : Nat) = (17 : Nat) ∧ getL [(0 : Nat)] (0 : Nat) = some (0 : Nat) ∧ (0 : Nat) = (0 : Nat) ∧ Value.string (strAdd (bstr (List.take (Subtype.val x) k)) (bstr [List.getD k (Int.toNat (↑(Subtype.val x) : Int)) (0 : Int)])) = Value.string (bstr (List.take (Subtype.val y) k)) ∧ Value.int IntKind.i64 (IntKind.wrap IntKind.i64 ((↑(Subtype.val x) : Int) + (1 : Int))) = Value.int IntKind.i64 (↑(Subtype.val y) : Int) ∧ (25 : Nat) = (25 : Nat) ∧ (32 : Nat) = (32 : Nat) ∧ k = k) ∧ (32 : Nat) - Subtype.val y < (32 : Nat) - Subtype.val x else true = true ∧ true = true ∧ (17 : Nat) = (17 : Nat) ∧ Value.string (bstr (List.take (Subtype.val x) k)) = Value.string (bstr k)) := by kernel_rfl

set_option maxHeartbeats 8000000 in
theorem wpRText (k : List Int) (h1 : k.length = 32) : wpE (FRText k) (Tryd.f23.body.getD .skip) ⟨Tryd.f23.ntmps, slotsOf 0 (kRText k).avs, (kRText k).mem⟩ (finK Tryd.prog Tryd.f23.results.toList (postN (kRText k))) := by
  with_reducible refine Eq.mpr (vcRText k) ?_
  and_intros
  all_goals try exact True.intro
  all_goals try with_reducible rfl
  all_goals try omega
  · exact ⟨⟨0, Nat.zero_le _⟩, by and_intros <;> first | exact True.intro | with_reducible rfl | kernel_rfl⟩
  · rintro ⟨i, hi⟩
    dsimp only
    by_cases hg : (i : Int) < 32
    · rw [decide_eq_true hg, cond_true]
      have e1 : IntKind.wrap .i64 ((i : Int) + 1) = ((i + 1 : Nat) : Int) := by rw [IntKind.wrap_i64]; omega
      have hn : strAdd (bstr (k.take i)) (bstr [k.getD i 0]) = bstr (k.take (i + 1)) := by rw [bstr_add, ← take_next (by omega)]
      simp only [e1, Int.toNat_natCast, bstr_size, List.length_take, List.length_singleton]
      rw [hn]
      and_intros
      all_goals try exact True.intro
      all_goals try with_reducible rfl
      all_goals try omega
      refine ⟨⟨i + 1, by omega⟩, ?_⟩
      and_intros <;> first | exact True.intro | with_reducible rfl | (show 32 - (i + 1) < 32 - i; omega) | rfl
    · rw [decide_eq_false hg, cond_false]
      have e : i = 32 := by omega
      subst e
      rw [List.take_of_length_le (l := k) (by omega)]
      and_intros <;> first | exact True.intro | with_reducible rfl
set_option maxHeartbeats 8000000 in
theorem cRText_ok : SpecOK Tryd.prog cRText := by
  refine callG_ok (c := Tryd.f23.body.getD .skip) mixed Tryd.func23 (by kernel_rfl) rfl (fun k hob => ?_)
  have hob : (k.length = 32) := hob
  have h1 := hob
  exact ⟨FRText k, rfl, evOKs trivial, rfl, rfl, by with_reducible exact wpRText k h1⟩

/-- A key as the reference has it; its byte j; the first bytes of it, each taken together with x. -/
def keyS (key : ByteArray) : ByteArray := if 64 < key.size then bstr (shaR (strL key)) else key
def byteS (key : ByteArray) (j : Nat) : Int := if j < key.size then sGet key j else 0
def maskS (key : ByteArray) (x : Int) : Nat → List Int
  | 0 => []
  | j + 1 => maskS key x j ++ [bits .xor .u8 (byteS key j) x]
def macS (key s : ByteArray) : List Int := shaR (strL (strAdd (bstr (maskS (keyS key) 92 64)) (bstr (shaR (strL (strAdd (bstr (maskS (keyS key) 54 64)) s))))))
theorem maskS_len (key : ByteArray) (x : Int) : ∀ j, (maskS key x j).length = j
  | 0 => rfl
  | j + 1 => by rw [maskS, List.length_append, maskS_len key x j]; rfl
theorem maskS_next (key : ByteArray) (x : Int) (j : Nat) : strAdd (bstr (maskS key x j)) (bstr [bits .xor .u8 (byteS key j) x]) = bstr (maskS key x (j + 1)) := by rw [bstr_add]; rfl
noncomputable def stRMac (key s : ByteArray) (i : Nat) : St := ⟨Tryd.f8.ntmps, [(0, vv (.string (keyS key))), (1, vv (.string s)), (4, .o (.c (.ptr 0 0 none))), (5, vv (.string (bstr (maskS (keyS key) 54 i)))), (6, vv (.string (bstr (maskS (keyS key) 92 i)))), (7, vv (.int .i64 (i : Int)))], [.fix 25 [.many 32 (.i .u8 (List.replicate 32 0))]]⟩
def kRMac : ByteArray × ByteArray → ClN := fun (key, s) => ⟨[vv (.string key), vv (.string s)], [], .o (.g [.many 32 (.i .u8 (macS key s))]), [], [], [key.size ≤ 17592186044416, s.size ≤ 17592186044416]⟩
noncomputable def FRMac (key s : ByteArray) : FnE := ⟨mkEv Tryd.prog [] [cRSum256, cRText] 0, [0, 1, 4, 5, 6, 7, 8, 11, 16, 22], fun _ _ => .inv { i : Nat // i ≤ 64 } (fun i => stRMac key s i.val) (fun i => 64 - i.val) [0] [0]⟩
def mRMac : List AV → (Nat → Option MB) → Option (List Nat × (ByteArray × ByteArray))
  | [.o (.c (.v (.string key))), .o (.c (.v (.string s)))], _ => some ([], (key, s))
  | _, _ => none
noncomputable def cRMac : Spec := callG 8 Tryd.f8.ntmps mRMac kRMac
theorem vcRMac (key s : ByteArray) : (wpE (FRMac key s) (Tryd.f8.body.getD .skip) ⟨Tryd.f8.ntmps, slotsOf 0 (kRMac (key, s)).avs, (kRMac (key, s)).mem⟩ (finK Tryd.prog Tryd.f8.results.toList (postN (kRMac (key, s))))) = (bif decide ((64 : Int) < (↑(ByteArray.size key) : Int)) then true = true ∧ Value.string key = Value.string key ∧ ByteArray.size key ≤ (35184372088832 : Nat) ∧ true = true ∧ (32 : Nat) = (32 : Nat) ∧ shaR (strL key) = shaR (strL key) ∧ (32 : Nat) = (32 : Nat) ∧ (∃ (x : { i : Nat // i ≤ (64 : Nat) }), true = true ∧ true = true ∧ (46 : Nat) = (46 : Nat) ∧ Value.string (bstr (shaR (strL key))) = Value.string (keyS key) ∧ Value.string s = Value.string s ∧ getL [(0 : Nat)] (0 : Nat) = some (0 : Nat) ∧ (0 : Nat) = (0 : Nat) ∧ Value.string { data := #[] } = Value.string (bstr (maskS (keyS key) (54 : Int) (Subtype.val x))) ∧ Value.string { data := #[] } = Value.string (bstr (maskS (keyS key) (92 : Int) (Subtype.val x))) ∧ Value.int IntKind.i64 (0 : Int) = Value.int IntKind.i64 (↑(Subtype.val x) : Int) ∧ (25 : Nat) = (25 : Nat) ∧ (32 : Nat) = (32 : Nat) ∧ List.replicate (32 : Nat) (0 : Int) = List.replicate (32 : Nat) (0 : Int)) ∧ ∀ (x : { i : Nat // i ≤ (64 : Nat) }), bif decide ((↑(Subtype.val x) : Int) < (64 : Int)) then bif decide ((↑(Subtype.val x) : Int) < (↑(ByteArray.size (keyS key)) : Int)) then (0 : Int) ≤ (↑(Subtype.val x) : Int) ∧ (↑(Subtype.val x) : Int) < (↑(ByteArray.size (keyS key)) : Int) ∧ (1 : Nat) = (1 : Nat) ∧ ByteArray.size (bstr (maskS (keyS key) (54 : Int) (Subtype.val x))) + ByteArray.size (bstr [bits BinOp.xor IntKind.u8 (sGet (keyS key) (Int.toNat (↑(Subtype.val x) : Int))) (54 : Int)]) ≤ (9223372036854775807 : Nat) ∧ (1 : Nat) = (1 : Nat) ∧ ByteArray.size (bstr (maskS (keyS key) (92 : Int) (Subtype.val x))) + ByteArray.size (bstr [bits BinOp.xor IntKind.u8 (sGet (keyS key) (Int.toNat (↑(Subtype.val x) : Int))) (92 : Int)]) ≤ (9223372036854775807 : Nat) ∧ ∃ (y : { i : Nat // i ≤ (64 : Nat) }), (true = true ∧ true = true ∧ (46 : Nat) = (46 : Nat) ∧ Value.string (keyS key) = Value.string (keyS key) ∧ Value.string s = Value.string s ∧ getL [(0 : Nat)] (0 : Nat) = some (0 : Nat) ∧ (0 : Nat) = (0 : Nat) ∧ Value.string (strAdd (bstr (maskS (keyS key) (54 : Int) (Subtype.val x))) (bstr [bits BinOp.xor IntKind.u8 (sGet (keyS key) (Int.toNat (↑(Subtype.val x) : Int))) (54 : Int)])) = Value.string (bstr (maskS (keyS key) (54 : Int) (Subtype.val y))) ∧ Value.string (strAdd (bstr (maskS (keyS key) (92 : Int) (Subtype.val x))) (bstr [bits BinOp.xor IntKind.u8 (sGet (keyS key) (Int.toNat (↑(Subtype.val x) : Int))) (92 : Int)])) = Value.string (bstr (maskS (keyS key) (92 : Int) (Subtype.val y))) ∧ Value.int IntKind.i64 (IntKind.wrap IntKind.i64 ((↑(Subtype.val x) : Int) + (1 : Int))) = Value.int IntKind.i64 (↑(Subtype.val y) : Int) ∧ (25 : Nat) = (25 : Nat) ∧ (32 : Nat) = (32 : Nat) ∧ List.replicate (32 : Nat) (0 : Int) = List.replicate (32 : Nat) (0 : Int)) ∧ (64 : Nat) - Subtype.val y < (64 : Nat) - Subtype.val x else (1 : Nat) = (1 : Nat) ∧ ByteArray.size (bstr (maskS (keyS key) (54 : Int) (Subtype.val x))) + (1 : Nat) ≤ (9223372036854775807 : Nat) ∧ (1 : Nat) = (1 : Nat) ∧ ByteArray.size (bstr (maskS (keyS key) (92 : Int) (Subtype.val x))) + (1 : Nat) ≤ (9223372036854775807 : Nat) ∧ ∃ (y : { i : Nat // i ≤ (64 : Nat) }), (true = true ∧ true = true ∧ (46 : Nat) = (46 : Nat) ∧ Value.string (keyS key) = Value.string (keyS key) ∧ Value.string s = Value.string s ∧ getL [(0 : Nat)] (0 : Nat) = some (0 : Nat) ∧ (0 : Nat) = (0 : Nat) ∧ Value.string (strAdd (bstr (maskS (keyS key) (54 : Int) (Subtype.val x))) (bstr [(54 : Int)])) = Value.string (bstr (maskS (keyS key) (54 : Int) (Subtype.val y))) ∧ Value.string (strAdd (bstr (maskS (keyS key) (92 : Int) (Subtype.val x))) (bstr [(92 : Int)])) = Value.string (bstr (maskS (keyS key) (92 : Int) (Subtype.val y))) ∧ Value.int IntKind.i64 (IntKind.wrap IntKind.i64 ((↑(Subtype.val x) : Int) + (1 : Int))) = Value.int IntKind.i64 (↑(Subtype.val y) : Int) ∧ (25 : Nat) = (25 : Nat) ∧ (32 : Nat) = (32 : Nat) ∧ List.replicate (32 : Nat) (0 : Int) = List.replicate (32 : Nat) (0 : Int)) ∧ (64 : Nat) - Subtype.val y < (64 : Nat) - Subtype.val x else ByteArray.size (bstr (maskS (keyS key) (54 : Int) (Subtype.val x))) + ByteArray.size s ≤ (9223372036854775807 : Nat) ∧ true = true ∧ Value.string (strAdd (bstr (maskS (keyS key) (54 : Int) (Subtype.val x))) s) = Value.string (strAdd (bstr (maskS (keyS key) (54 : Int) (Subtype.val x))) s) ∧ ByteArray.size (strAdd (bstr (maskS (keyS key) (54 : Int) (Subtype.val x))) s) ≤ (35184372088832 : Nat) ∧ true = true ∧ (32 : Nat) = (32 : Nat) ∧ shaR (strL (strAdd (bstr (maskS (keyS key) (54 : Int) (Subtype.val x))) s)) = shaR (strL (strAdd (bstr (maskS (keyS key) (54 : Int) (Subtype.val x))) s)) ∧ (32 : Nat) = (32 : Nat) ∧ ByteArray.size (bstr (maskS (keyS key) (92 : Int) (Subtype.val x))) + ByteArray.size (bstr (shaR (strL (strAdd (bstr (maskS (keyS key) (54 : Int) (Subtype.val x))) s)))) ≤ (9223372036854775807 : Nat) ∧ true = true ∧ Value.string (strAdd (bstr (maskS (keyS key) (92 : Int) (Subtype.val x))) (bstr (shaR (strL (strAdd (bstr (maskS (keyS key) (54 : Int) (Subtype.val x))) s))))) = Value.string (strAdd (bstr (maskS (keyS key) (92 : Int) (Subtype.val x))) (bstr (shaR (strL (strAdd (bstr (maskS (keyS key) (54 : Int) (Subtype.val x))) s))))) ∧ ByteArray.size (strAdd (bstr (maskS (keyS key) (92 : Int) (Subtype.val x))) (bstr (shaR (strL (strAdd (bstr (maskS (keyS key) (54 : Int) (Subtype.val x))) s))))) ≤ (35184372088832 : Nat) ∧ true = true ∧ true = true ∧ (46 : Nat) = (46 : Nat) ∧ (32 : Nat) = (32 : Nat) ∧ shaR (strL (strAdd (bstr (maskS (keyS key) (92 : Int) (Subtype.val x))) (bstr (shaR (strL (strAdd (bstr (maskS (keyS key) (54 : Int) (Subtype.val x))) s)))))) = macS key s else (∃ (x : { i : Nat // i ≤ (64 : Nat) }), true = true ∧ true = true ∧ (46 : Nat) = (46 : Nat) ∧ Value.string key = Value.string (keyS key) ∧ Value.string s = Value.string s ∧ getL [(0 : Nat)] (0 : Nat) = some (0 : Nat) ∧ (0 : Nat) = (0 : Nat) ∧ Value.string { data := #[] } = Value.string (bstr (maskS (keyS key) (54 : Int) (Subtype.val x))) ∧ Value.string { data := #[] } = Value.string (bstr (maskS (keyS key) (92 : Int) (Subtype.val x))) ∧ Value.int IntKind.i64 (0 : Int) = Value.int IntKind.i64 (↑(Subtype.val x) : Int) ∧ (25 : Nat) = (25 : Nat) ∧ (32 : Nat) = (32 : Nat) ∧ List.replicate (32 : Nat) (0 : Int) = List.replicate (32 : Nat) (0 : Int)) ∧ ∀ (x : { i : Nat // i ≤ (64 : Nat) }), bif decide ((↑(Subtype.val x) : Int) < (64 : Int)) then bif decide ((↑(Subtype.val x) : Int) < (↑(ByteArray.size (keyS key)) : Int)) then (0 : Int) ≤ (↑(Subtype.val x) : Int) ∧ (↑(Subtype.val x) : Int) < (↑(ByteArray.size (keyS key)) : Int) ∧ (1 : Nat) = (1 : Nat) ∧ ByteArray.size (bstr (maskS (keyS key) (54 : Int) (Subtype.val x))) + ByteArray.size (bstr [bits BinOp.xor IntKind.u8 (sGet (keyS key) (Int.toNat (↑(Subtype.val x) : Int))) (54 : Int)]) ≤ (9223372036854775807 : Nat) ∧ (1 : Nat) = (1 : Nat) ∧ ByteArray.size (bstr (maskS (keyS key) (92 : Int) (Subtype.val x))) + ByteArray.size (bstr [bits BinOp.xor IntKind.u8 (sGet (keyS key) (Int.toNat (↑(Subtype.val x) : Int))) (92 : Int)]) ≤ (9223372036854775807 : Nat) ∧ ∃ (y : { i : Nat // i ≤ (64 : Nat) }), (true = true ∧ true = true ∧ (46 : Nat) = (46 : Nat) ∧ Value.string (keyS key) = Value.string (keyS key) ∧ Value.string s = Value.string s ∧ getL [(0 : Nat)] (0 : Nat) = some (0 : Nat) ∧ (0 : Nat) = (0 : Nat) ∧ Value.string (strAdd (bstr (maskS (keyS key) (54 : Int) (Subtype.val x))) (bstr [bits BinOp.xor IntKind.u8 (sGet (keyS key) (Int.toNat (↑(Subtype.val x) : Int))) (54 : Int)])) = Value.string (bstr (maskS (keyS key) (54 : Int) (Subtype.val y))) ∧ Value.string (strAdd (bstr (maskS (keyS key) (92 : Int) (Subtype.val x))) (bstr [bits BinOp.xor IntKind.u8 (sGet (keyS key) (Int.toNat (↑(Subtype.val x) : Int))) (92 : Int)])) = Value.string (bstr (maskS (keyS key) (92 : Int) (Subtype.val y))) ∧ Value.int IntKind.i64 (IntKind.wrap IntKind.i64 ((↑(Subtype.val x) : Int) + (1 : Int))) = Value.int IntKind.i64 (↑(Subtype.val y) : Int) ∧ (25 : Nat) = (25 : Nat) ∧ (32 : Nat) = (32 : Nat) ∧ List.replicate (32 : Nat) (0 : Int) = List.replicate (32 : Nat) (0 : Int)) ∧ (64 : Nat) - Subtype.val y < (64 : Nat) - Subtype.val x else (1 : Nat) = (1 : Nat) ∧ ByteArray.size (bstr (maskS (keyS key) (54 : Int) (Subtype.val x))) + (1 : Nat) ≤ (9223372036854775807 : Nat) ∧ (1 : Nat) = (1 : Nat) ∧ ByteArray.size (bstr (maskS (keyS key) (92 : Int) (Subtype.val x))) + (1 : Nat) ≤ (9223372036854775807 : Nat) ∧ ∃ (y : { i : Nat // i ≤ (64 : Nat) }), (true = true ∧ true = true ∧ (46 : Nat) = (46 : Nat) ∧ Value.string (keyS key) = Value.string (keyS key) ∧ Value.string s = Value.string s ∧ getL [(0 : Nat)] (0 : Nat) = some (0 : Nat) ∧ (0 : Nat) = (0 : Nat) ∧ Value.string (strAdd (bstr (maskS (keyS key) (54 : Int) (Subtype.val x))) (bstr [(54 : Int)])) = Value.string (bstr (maskS (keyS key) (54 : Int) (Subtype.val y))) ∧ Value.string (strAdd (bstr (maskS (keyS key) (92 : Int) (Subtype.val x))) (bstr [(92 : Int)])) = Value.string (bstr (maskS (keyS key) (92 : Int) (Subtype.val y))) ∧ Value.int IntKind.i64 (IntKind.wrap IntKind.i64 ((↑(Subtype.val x) : Int) + (1 : Int))) = Value.int IntKind.i64 (↑(Subtype.val y) : Int) ∧ (25 : Nat) = (25 : Nat) ∧ (32 : Nat) = (32 : Nat) ∧ List.replicate (32 : Nat) (0 : Int) = List.replicate (32 : Nat) (0 : Int)) ∧ (64 : Nat) - Subtype.val y < (64 : Nat) - Subtype.val x else ByteArray.size (bstr (maskS (keyS key) (54 : Int) (Subtype.val x))) + ByteArray.size s ≤ (9223372036854775807 : Nat) ∧ true = true ∧ Value.string (strAdd (bstr (maskS (keyS key) (54 : Int) (Subtype.val x))) s) = Value.string (strAdd (bstr (maskS (keyS key) (54 : Int) (Subtype.val x))) s) ∧ ByteArray.size (strAdd (bstr (maskS (keyS key) (54 : Int) (Subtype.val x))) s) ≤ (35184372088832 : Nat) ∧ true = true ∧ (32 : Nat) = (32 : Nat) ∧ shaR (strL (strAdd (bstr (maskS (keyS key) (54 : Int) (Subtype.val x))) s)) = shaR (strL (strAdd (bstr (maskS (keyS key) (54 : Int) (Subtype.val x))) s)) ∧ (32 : Nat) = (32 : Nat) ∧ ByteArray.size (bstr (maskS (keyS key) (92 : Int) (Subtype.val x))) + ByteArray.size (bstr (shaR (strL (strAdd (bstr (maskS (keyS key) (54 : Int) (Subtype.val x))) s)))) ≤ (9223372036854775807 : Nat) ∧ true = true ∧ Value.string (strAdd (bstr (maskS (keyS key) (92 : Int) (Subtype.val x))) (bstr (shaR (strL (strAdd (bstr (maskS (keyS key) (54 : Int) (Subtype.val x))) s))))) = Value.string (strAdd (bstr (maskS (keyS key) (92 : Int) (Subtype.val x))) (bstr (shaR (strL (strAdd (bstr (maskS (keyS key) (54 : Int) (Subtype.val x))) s))))) ∧ ByteArray.size (strAdd (bstr (maskS (keyS key) (92 : Int) (Subtype.val x))) (bstr (shaR (strL (strAdd (bstr (maskS (keyS key) (54 : Int) (Subtype.val x))) s))))) ≤ (35184372088832 : Nat) ∧ true = true ∧ true = true ∧ (46 : Nat) = (46 : Nat) ∧ (32 : Nat) = (32 : Nat) ∧ shaR (strL (strAdd (bstr (maskS (keyS key) (92 : Int) (Subtype.val x))) (bstr (shaR (strL (strAdd (bstr (maskS (keyS key) (54 : Int) (Subtype.val x))) s)))))) = macS key s) := by kernel_rfl

set_option maxHeartbeats 8000000 in
theorem wpRMac (key s : ByteArray) (h1 : key.size ≤ 17592186044416) (h2 : s.size ≤ 17592186044416) : wpE (FRMac key s) (Tryd.f8.body.getD .skip) ⟨Tryd.f8.ntmps, slotsOf 0 (kRMac (key, s)).avs, (kRMac (key, s)).mem⟩ (finK Tryd.prog Tryd.f8.results.toList (postN (kRMac (key, s)))) := by
  with_reducible refine Eq.mpr (vcRMac key s) ?_
  by_cases hk : (64 : Int) < (key.size : Int)
  · rw [decide_eq_true hk, cond_true]
    have ek : keyS key = bstr (shaR (strL key)) := if_pos (by omega)
    have hl := shaR_len (strL key)
    and_intros
    all_goals try exact True.intro
    all_goals try with_reducible rfl
    all_goals try omega
    · refine ⟨⟨0, Nat.zero_le _⟩, ?_⟩
      rw [ek]
      and_intros <;> first | exact True.intro | with_reducible rfl | kernel_rfl
    · rintro ⟨i, hi⟩
      dsimp only
      have m1 := maskS_len (keyS key) 54 i
      have m2 := maskS_len (keyS key) 92 i
      have n1 := maskS_next (keyS key) 54 i
      have n2 := maskS_next (keyS key) 92 i
      by_cases hg : (i : Int) < 64
      · rw [decide_eq_true hg, cond_true]
        have e1 : IntKind.wrap .i64 ((i : Int) + 1) = ((i + 1 : Nat) : Int) := by rw [IntKind.wrap_i64]; omega
        by_cases hb : (i : Int) < ((keyS key).size : Int)
        · rw [decide_eq_true hb, cond_true]
          have eb : byteS (keyS key) i = sGet (keyS key) i := if_pos (by omega)
          rw [eb] at n1 n2
          simp only [e1, Int.toNat_natCast, n1, n2, bstr_size, List.length_singleton, m1, m2]
          and_intros
          all_goals try exact True.intro
          all_goals try with_reducible rfl
          all_goals try omega
          refine ⟨⟨i + 1, by omega⟩, ?_⟩
          and_intros <;> first | exact True.intro | with_reducible rfl | (show 64 - (i + 1) < 64 - i; omega) | rfl
        · rw [decide_eq_false hb, cond_false]
          have eb : byteS (keyS key) i = 0 := if_neg (by omega)
          have x1 : bits .xor .u8 0 54 = 54 := by decide +kernel
          have x2 : bits .xor .u8 0 92 = 92 := by decide +kernel
          rw [eb, x1] at n1
          rw [eb, x2] at n2
          simp only [e1, n1, n2, bstr_size, m1, m2]
          and_intros
          all_goals try exact True.intro
          all_goals try with_reducible rfl
          all_goals try omega
          refine ⟨⟨i + 1, by omega⟩, ?_⟩
          and_intros <;> first | exact True.intro | with_reducible rfl | (show 64 - (i + 1) < 64 - i; omega) | rfl
      · rw [decide_eq_false hg, cond_false]
        have e : i = 64 := by omega
        subst e
        have lR := fun s => shaR_len s
        simp only [strAdd_size, bstr_size, m1, m2, lR]
        and_intros <;> first | exact True.intro | with_reducible rfl | omega | rfl
  · rw [decide_eq_false hk, cond_false]
    have ek : keyS key = key := if_neg (by omega)
    and_intros
    all_goals try exact True.intro
    all_goals try with_reducible rfl
    all_goals try omega
    · refine ⟨⟨0, Nat.zero_le _⟩, ?_⟩
      rw [ek]
      and_intros <;> first | exact True.intro | with_reducible rfl | kernel_rfl
    · rintro ⟨i, hi⟩
      dsimp only
      have m1 := maskS_len (keyS key) 54 i
      have m2 := maskS_len (keyS key) 92 i
      have n1 := maskS_next (keyS key) 54 i
      have n2 := maskS_next (keyS key) 92 i
      by_cases hg : (i : Int) < 64
      · rw [decide_eq_true hg, cond_true]
        have e1 : IntKind.wrap .i64 ((i : Int) + 1) = ((i + 1 : Nat) : Int) := by rw [IntKind.wrap_i64]; omega
        by_cases hb : (i : Int) < ((keyS key).size : Int)
        · rw [decide_eq_true hb, cond_true]
          have eb : byteS (keyS key) i = sGet (keyS key) i := if_pos (by omega)
          rw [eb] at n1 n2
          simp only [e1, Int.toNat_natCast, n1, n2, bstr_size, List.length_singleton, m1, m2]
          and_intros
          all_goals try exact True.intro
          all_goals try with_reducible rfl
          all_goals try omega
          refine ⟨⟨i + 1, by omega⟩, ?_⟩
          and_intros <;> first | exact True.intro | with_reducible rfl | (show 64 - (i + 1) < 64 - i; omega) | rfl
        · rw [decide_eq_false hb, cond_false]
          have eb : byteS (keyS key) i = 0 := if_neg (by omega)
          have x1 : bits .xor .u8 0 54 = 54 := by decide +kernel
          have x2 : bits .xor .u8 0 92 = 92 := by decide +kernel
          rw [eb, x1] at n1
          rw [eb, x2] at n2
          simp only [e1, n1, n2, bstr_size, m1, m2]
          and_intros
          all_goals try exact True.intro
          all_goals try with_reducible rfl
          all_goals try omega
          refine ⟨⟨i + 1, by omega⟩, ?_⟩
          and_intros <;> first | exact True.intro | with_reducible rfl | (show 64 - (i + 1) < 64 - i; omega) | rfl
      · rw [decide_eq_false hg, cond_false]
        have e : i = 64 := by omega
        subst e
        have lR := fun s => shaR_len s
        simp only [strAdd_size, bstr_size, m1, m2, lR]
        and_intros <;> first | exact True.intro | with_reducible rfl | omega | rfl
set_option maxHeartbeats 8000000 in
theorem cRMac_ok : SpecOK Tryd.prog cRMac := by
  refine callG_ok (c := Tryd.f8.body.getD .skip) mixed Tryd.func8 (by kernel_rfl) rfl (fun x hob => ?_)
  obtain ⟨key, s⟩ := x
  have hob : (key.size ≤ 17592186044416) ∧ (s.size ≤ 17592186044416) := hob
  obtain ⟨h1, h2⟩ := hob
  exact ⟨FRMac key s, rfl, evOKs ⟨.inl ⟨cRSum256_ok, by kernel_rfl, gl_nil rfl⟩, ⟨.inl ⟨cRText_ok, by kernel_rfl, gl_nil rfl⟩, trivial⟩⟩, rfl, rfl, by with_reducible exact wpRMac key s h1 h2⟩
end Go.Proofs.YthhjcpiaoempfaaDoor
