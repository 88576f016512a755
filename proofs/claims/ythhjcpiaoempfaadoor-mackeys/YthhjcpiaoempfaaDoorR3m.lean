/-
  Texts as lists of bytes. For any program.
-/
/-
  The references of layers 1 and 2: SHA-256 of a text, a key as a text, the sum with a key.
-/
/-
  The references' sums are the program's. No program.
-/
import Derived.Test.YthhjcpiaoempfaaDoorSym
import Derived.Test.YthhjcpiaoempfaaDoorMx
import Derived.Test.YthhjcpiaoempfaaDoorR2
import Derived.Test.YthhjcpiaoempfaaDoorM1
namespace Go.Proofs.YthhjcpiaoempfaaDoor
open Go.RowKit

theorem bstr_size (l : List Int) : (bstr l).size = l.length := by simp [bstr, ByteArray.size]
theorem bstr_add (a b : List Int) : strAdd (bstr a) (bstr b) = bstr (a ++ b) := by
  unfold strAdd
  apply ByteArray.ext
  rw [ByteArray.data_append]
  simp [bstr]
theorem strAdd_size (a b : ByteArray) : (strAdd a b).size = a.size + b.size := by unfold strAdd; exact ByteArray.size_append ..
theorem strL_add (a b : ByteArray) : strL (strAdd a b) = strL a ++ strL b := by
  unfold strL strAdd
  rw [ByteArray.data_append, Array.toList_append, List.map_append]
theorem strL_bstr {l : List Int} (h : ∀ x ∈ l, 0 ≤ x ∧ x < 256) : strL (bstr l) = l := by
  unfold strL bstr
  rw [List.map_map]
  conv => rhs; rw [← List.map_id l]
  apply List.map_congr_left
  intro x hx
  have := h x hx
  show ((UInt8.ofNat x.toNat).toNat : Int) = x
  rw [UInt8.toNat_ofNat']
  omega
theorem bstr_strL (s : ByteArray) : bstr (strL s) = s := by
  unfold strL bstr
  apply ByteArray.ext
  show ((s.data.toList.map fun b => (b.toNat : Int)).map fun n => UInt8.ofNat n.toNat).toArray = s.data
  rw [List.map_map]
  have : (s.data.toList.map ((fun n : Int => UInt8.ofNat n.toNat) ∘ fun b : UInt8 => (b.toNat : Int))) = s.data.toList := by
    conv => rhs; rw [← List.map_id s.data.toList]
    apply List.map_congr_left
    intro x _
    show UInt8.ofNat ((x.toNat : Int).toNat) = x
    rw [Int.toNat_natCast]
    exact UInt8.ofNat_toNat
  rw [this]
theorem sGet_eq (s : ByteArray) {j : Nat} (h : j < s.size) : sGet s j = (strL s).getD j 0 := by
  have h' : j < s.data.size := h
  unfold sGet strL
  rw [List.getD_eq_getElem?_getD, List.getElem?_map, Array.getElem?_toList, Array.getElem?_eq_getElem h']
  rfl
theorem take_next {l : List Int} {i : Nat} (h : i < l.length) : l.take (i + 1) = l.take i ++ [l.getD i 0] := by
  rw [List.take_add_one, List.getElem?_eq_getElem h, List.getD_eq_getElem?_getD, List.getElem?_eq_getElem h]; rfl
end Go.Proofs.YthhjcpiaoempfaaDoor
namespace Go.Proofs.YthhjcpiaoempfaaDoor
open Go.RowKit
set_option maxRecDepth 100000

def cpyL (l : List Int) : Nat → List Int
  | 0 => List.replicate 32 0
  | i + 1 => (cpyL l i).set i (l.getD i 0)
theorem cpyL_len (l : List Int) : ∀ i, (cpyL l i).length = 32
  | 0 => rfl
  | i + 1 => by rw [cpyL, List.length_set, cpyL_len l i]
theorem shaR_len (s : List Int) : (shaR s).length = 32 := outK_len _ 8
theorem cpyL_eq {l : List Int} (h : l.length = 32) : ∀ i, i ≤ 32 → cpyL l i = l.take i ++ List.replicate (32 - i) 0
  | 0, _ => by rw [List.take_zero]; rfl
  | i + 1, hi => by
    have hl : (l.take i).length = i := by rw [List.length_take]; omega
    rw [cpyL, cpyL_eq h i (by omega), show 32 - i = (32 - (i + 1)) + 1 by omega, List.replicate_succ, List.set_append_right i _ (by omega), hl, Nat.sub_self, List.set_cons_zero, take_next (by omega), List.append_assoc]
    rfl
theorem cpyL_all {l : List Int} (h : l.length = 32) : cpyL l 32 = l := by
  rw [cpyL_eq h 32 (Nat.le_refl _), List.take_of_length_le (by omega), Nat.sub_self, List.replicate_zero, List.append_nil]
noncomputable def stS256 (l : List Int) (i : Nat) : St := ⟨Tryd.f24.ntmps, [(2, .o (.c (.ptr 0 0 none))), (4, .o (.c (.os 1 1 32))), (5, .o (.c (.ptr 2 0 none))), (6, vv (.int .i64 (i : Int)))], [.fix 25 [.many 32 (.i .u8 (List.replicate 32 0))], .grow 5 1 (.i .u8 l), .fix 25 [.many 32 (.i .u8 (cpyL l i))]]⟩
def kRSum256 : ByteArray → ClN := fun s => ⟨[vv (.string s)], [], .o (.g [.many 32 (.i .u8 (shaR (strL s)))]), [], [], [s.size ≤ 35184372088832]⟩
noncomputable def FRSum256 (s : ByteArray) : FnE := ⟨mkEv Tryd.prog [] [cRSum] 0, [0, 2, 3, 4, 5, 6, 17], fun _ _ => .inv { i : Nat // i ≤ 32 } (fun i => stS256 (shaR (strL s)) i.val) (fun i => 32 - i.val) [0, 3, 4] [0, 1, 2]⟩
def mRSum256 : List AV → (Nat → Option MB) → Option (List Nat × ByteArray)
  | [.o (.c (.v (.string s)))], _ => some ([], s)
  | _, _ => none
noncomputable def cRSum256 : Spec := callG 24 Tryd.f24.ntmps mRSum256 kRSum256
theorem vcRSum256 (s : ByteArray) : (wpE (FRSum256 s) (Tryd.f24.body.getD .skip) ⟨Tryd.f24.ntmps, slotsOf 0 (kRSum256 s).avs, (kRSum256 s).mem⟩ (finK Tryd.prog Tryd.f24.results.toList (postN (kRSum256 s)))) = (true = true ∧ Value.string s = Value.string s ∧ (Value.cells (Value.int IntKind.i64 (32 : Int)))[(0 : Nat)] = Value.int IntKind.i64 (32 : Int) ∧ (Value.cells (Value.int IntKind.i64 (64 : Int)))[(0 : Nat)] = Value.int IntKind.i64 (64 : Int) ∧ (Value.cells (Value.int IntKind.i64 (64 : Int)))[(0 : Nat)] = Value.int IntKind.i64 (64 : Int) ∧ getL [(2 : Nat)] (0 : Nat) = some (2 : Nat) ∧ (1 : Nat) = (1 : Nat) ∧ (8 : Nat) = (8 : Nat) ∧ (12 : Nat) = (12 : Nat) ∧ [(7 : Int), (18 : Int), (3 : Int), (17 : Int), (19 : Int), (10 : Int), (2 : Int), (13 : Int), (22 : Int), (6 : Int), (11 : Int), (25 : Int)] = trnL ∧ (86 : Nat) = (86 : Nat) ∧ (1 : Nat) = (1 : Nat) ∧ [(1779033703 : Int), (3144134277 : Int), (1013904242 : Int), (2773480762 : Int), (1359893119 : Int), (2600822924 : Int), (528734635 : Int), (1541459225 : Int)] = h0L ∧ ByteArray.size s ≤ (35184372088832 : Nat) ∧ (∃ (x : { i : Nat // i ≤ (32 : Nat) }), true = true ∧ true = true ∧ (27 : Nat) = (27 : Nat) ∧ getL [(0 : Nat), (3 : Nat), (4 : Nat)] (0 : Nat) = some (0 : Nat) ∧ (0 : Nat) = (0 : Nat) ∧ getL [(0 : Nat), (3 : Nat), (4 : Nat)] (1 : Nat) = some (nameN [(2 : Nat)] (Nat.add (Nat.add (3 : Nat) (0 : Nat)) (0 : Nat)) (1 : Nat)) ∧ (1 : Nat) = (1 : Nat) ∧ (32 : Nat) = (32 : Nat) ∧ getL [(0 : Nat), (3 : Nat), (4 : Nat)] (2 : Nat) = some (Nat.add (4 : Nat) (0 : Nat)) ∧ (0 : Nat) = (0 : Nat) ∧ Value.int IntKind.i64 (0 : Int) = Value.int IntKind.i64 (↑(Subtype.val x) : Int) ∧ (25 : Nat) = (25 : Nat) ∧ (32 : Nat) = (32 : Nat) ∧ List.replicate (32 : Nat) (0 : Int) = List.replicate (32 : Nat) (0 : Int) ∧ (5 : Nat) = (5 : Nat) ∧ (1 : Nat) = (1 : Nat) ∧ shaR (strL s) = shaR (strL s) ∧ (25 : Nat) = (25 : Nat) ∧ (32 : Nat) = (32 : Nat) ∧ [(0 : Int), (0 : Int), (0 : Int), (0 : Int), (0 : Int), (0 : Int), (0 : Int), (0 : Int), (0 : Int), (0 : Int), (0 : Int), (0 : Int), (0 : Int), (0 : Int), (0 : Int), (0 : Int), (0 : Int), (0 : Int), (0 : Int), (0 : Int), (0 : Int), (0 : Int), (0 : Int), (0 : Int), (0 : Int), (0 : Int), (0 : Int), (0 : Int), (0 : Int), (0 : Int), (0 : Int), (0 : Int)] = cpyL (shaR (strL s)) (Subtype.val x)) ∧ ∀ (x : { i : Nat // i ≤ (32 : Nat) }), bif decide ((↑(Subtype.val x) : Int) < (32 : Int)) then (0 : Int) ≤ (↑(Subtype.val x) : Int) ∧ (↑(Subtype.val x) : Int) < (32 : Int) ∧ Int.toNat (↑(Subtype.val x) : Int) < (32 : Nat) ∧ (0 : Int) ≤ (↑(Subtype.val x) : Int) ∧ (↑(Subtype.val x) : Int) < (32 : Int) ∧ Int.toNat (↑(Subtype.val x) : Int) < (32 : Nat) ∧ ∃ (y : { i : Nat // i ≤ (32 : Nat) }), (true = true ∧ true = true ∧ (27 : Nat) = (27 : Nat) ∧ getL [(0 : Nat), (1 : Nat), (2 : Nat)] (0 : Nat) = some (0 : Nat) ∧ (0 : Nat) = (0 : Nat) ∧ getL [(0 : Nat), (1 : Nat), (2 : Nat)] (1 : Nat) = some (1 : Nat) ∧ (1 : Nat) = (1 : Nat) ∧ (32 : Nat) = (32 : Nat) ∧ getL [(0 : Nat), (1 : Nat), (2 : Nat)] (2 : Nat) = some (2 : Nat) ∧ (0 : Nat) = (0 : Nat) ∧ Value.int IntKind.i64 (IntKind.wrap IntKind.i64 ((↑(Subtype.val x) : Int) + (1 : Int))) = Value.int IntKind.i64 (↑(Subtype.val y) : Int) ∧ (25 : Nat) = (25 : Nat) ∧ (32 : Nat) = (32 : Nat) ∧ List.replicate (32 : Nat) (0 : Int) = List.replicate (32 : Nat) (0 : Int) ∧ (5 : Nat) = (5 : Nat) ∧ (1 : Nat) = (1 : Nat) ∧ shaR (strL s) = shaR (strL s) ∧ (25 : Nat) = (25 : Nat) ∧ (32 : Nat) = (32 : Nat) ∧ List.set (cpyL (shaR (strL s)) (Subtype.val x)) (Int.toNat (↑(Subtype.val x) : Int)) (List.getD (shaR (strL s)) (Int.toNat (↑(Subtype.val x) : Int)) (0 : Int)) = cpyL (shaR (strL s)) (Subtype.val y)) ∧ (32 : Nat) - Subtype.val y < (32 : Nat) - Subtype.val x else true = true ∧ true = true ∧ (27 : Nat) = (27 : Nat) ∧ (32 : Nat) = (32 : Nat) ∧ cpyL (shaR (strL s)) (Subtype.val x) = shaR (strL s)) := by kernel_rfl

set_option maxHeartbeats 8000000 in
theorem wpRSum256 (s : ByteArray) (h1 : s.size ≤ 35184372088832) : wpE (FRSum256 s) (Tryd.f24.body.getD .skip) ⟨Tryd.f24.ntmps, slotsOf 0 (kRSum256 s).avs, (kRSum256 s).mem⟩ (finK Tryd.prog Tryd.f24.results.toList (postN (kRSum256 s))) := by
  with_reducible refine Eq.mpr (vcRSum256 s) ?_
  have hl := shaR_len (strL s)
  and_intros
  all_goals try exact True.intro
  all_goals try with_reducible rfl
  all_goals try omega
  all_goals try kernel_rfl
  · exact ⟨⟨0, Nat.zero_le _⟩, by and_intros <;> first | exact True.intro | with_reducible rfl | kernel_rfl⟩
  · rintro ⟨i, hi⟩
    dsimp only
    by_cases hg : (i : Int) < 32
    · rw [decide_eq_true hg, cond_true]
      have e1 : IntKind.wrap .i64 ((i : Int) + 1) = ((i + 1 : Nat) : Int) := by rw [IntKind.wrap_i64]; omega
      simp only [e1, Int.toNat_natCast]
      and_intros
      all_goals try exact True.intro
      all_goals try with_reducible rfl
      all_goals try omega
      refine ⟨⟨i + 1, by omega⟩, ?_⟩
      and_intros <;> first | exact True.intro | with_reducible rfl | (show 32 - (i + 1) < 32 - i; omega) | rfl
    · rw [decide_eq_false hg, cond_false]
      have e : i = 32 := by omega
      subst e
      have hc := cpyL_all hl
      and_intros <;> first | exact True.intro | with_reducible rfl | with_reducible exact hc | omega | kernel_rfl
set_option maxHeartbeats 8000000 in
theorem cRSum256_ok : SpecOK Tryd.prog cRSum256 := by
  refine callG_ok (c := Tryd.f24.body.getD .skip) mixed Tryd.func24 (by kernel_rfl) rfl (fun s hob => ?_)
  have hob : (s.size ≤ 35184372088832) := hob
  have h1 := hob
  exact ⟨FRSum256 s, rfl, evOKs ⟨.inl ⟨cRSum_ok, by kernel_rfl, gl_nil rfl⟩, trivial⟩, rfl, rfl, by with_reducible exact wpRSum256 s h1⟩

noncomputable def stText (k : List Int) (i : Nat) : St := ⟨Tryd.f23.ntmps, [(1, .o (.c (.ptr 0 0 none))), (3, vv (.string (bstr (k.take i)))), (4, vv (.int .i64 (i : Int)))], [.fix 25 [.many 32 (.i .u8 k)]]⟩
def kRText : (List Int) → ClN := fun k => ⟨[.o (.g [.many 32 (.i .u8 k)])], [], vv (.string (bstr k)), [], [], [k.length = 32]⟩
noncomputable def FRText (k : List Int) : FnE := ⟨mkEv Tryd.prog [] [] 0, [0, 1, 2, 3, 4, 6], fun _ _ => .inv { i : Nat // i ≤ 32 } (fun i => stText k i.val) (fun i => 32 - i.val) [0] [0]⟩
def mRText : List AV → (Nat → Option MB) → Option (List Nat × (List Int))
  | [.o (.g [.many 32 (.i .u8 k)])], _ => some ([], k)
  | _, _ => none
noncomputable def cRText : Spec := callG 23 Tryd.f23.ntmps mRText kRText
theorem vcRText (k : List Int) : (wpE (FRText k) (Tryd.f23.body.getD .skip) ⟨Tryd.f23.ntmps, slotsOf 0 (kRText k).avs, (kRText k).mem⟩ (finK Tryd.prog Tryd.f23.results.toList (postN (kRText k)))) = ((∃ (x : { i : Nat // i ≤ (32 : Nat) }), true = true ∧ true = true ∧ (17 : Nat) = (17 : Nat) ∧ getL [(0 : Nat)] (0 : Nat) = some (0 : Nat) ∧ (0 : Nat) = (0 : Nat) ∧ Value.string { data := #[] } = Value.string (bstr (List.take (Subtype.val x) k)) ∧ Value.int IntKind.i64 (0 : Int) = Value.int IntKind.i64 (↑(Subtype.val x) : Int) ∧ (25 : Nat) = (25 : Nat) ∧ (32 : Nat) = (32 : Nat) ∧ k = k) ∧ ∀ (x : { i : Nat // i ≤ (32 : Nat) }), bif decide ((↑(Subtype.val x) : Int) < (32 : Int)) then (0 : Int) ≤ (↑(Subtype.val x) : Int) ∧ (↑(Subtype.val x) : Int) < (32 : Int) ∧ Int.toNat (↑(Subtype.val x) : Int) < (32 : Nat) ∧ (1 : Nat) = (1 : Nat) ∧ ByteArray.size (bstr (List.take (Subtype.val x) k)) + ByteArray.size (bstr [List.getD k (Int.toNat (↑(Subtype.val x) : Int)) (0 : Int)]) ≤ (9223372036854775807 : Nat) ∧ ∃ (y : { i : Nat // i ≤ (32 : Nat) }), (true = true ∧ true = true ∧ (17 : Nat) = (17 : Nat) ∧ getL [(0 : Nat)] (0 : Nat) = some (0 : Nat) ∧ (0 : Nat) = (0 : Nat) ∧ Value.string (strAdd (bstr (List.take (Subtype.val x) k)) (bstr [List.getD k (Int.toNat (↑(Subtype.val x) : Int)) (0 : Int)])) = Value.string (bstr (List.take (Subtype.val y) k)) ∧ Value.int IntKind.i64 (IntKind.wrap IntKind.i64 ((↑(Subtype.val x) : Int) + (1 : Int))) = Value.int IntKind.i64 (↑(Subtype.val y) : Int) ∧ (25 : Nat) = (25 : Nat) ∧ (32 : Nat) = (32 : Nat) ∧ k = k) ∧ (32 : Nat) - Subtype.val y < (32 : Nat) - Subtype.val x else true = true ∧ true = true ∧ (17 : Nat) = (17 : Nat) ∧ Value.string (bstr (List.take (Subtype.val x) k)) = Value.string (bstr k)) := by kernel_rfl

set_option maxHeartbeats 8000000 in
theorem wpRText (k : List Int) (h1 : k.length = 32) : wpE (FRText k) (Tryd.f23.body.getD .skip) ⟨Tryd.f23.ntmps, slotsOf 0 (kRText k).avs, (kRText k).mem⟩ (finK Tryd.prog Tryd.f23.results.toList (postN (kRText k))) := by
  with_reducible refine Eq.mpr (vcRText k) ?_
  and_intros
  all_goals try exact True.intro
  all_goals try with_reducible rfl
  all_goals try omega
  · exact ⟨⟨0, Nat.zero_le _⟩, by and_intros <;> first | exact True.intro | with_reducible rfl | kernel_rfl⟩
  · rintro ⟨i, hi⟩
    dsimp only
    by_cases hg : (i : Int) < 32
    · rw [decide_eq_true hg, cond_true]
      have e1 : IntKind.wrap .i64 ((i : Int) + 1) = ((i + 1 : Nat) : Int) := by rw [IntKind.wrap_i64]; omega
      have hn : strAdd (bstr (k.take i)) (bstr [k.getD i 0]) = bstr (k.take (i + 1)) := by rw [bstr_add, ← take_next (by omega)]
      simp only [e1, Int.toNat_natCast, bstr_size, List.length_take, List.length_singleton]
      rw [hn]
      and_intros
      all_goals try exact True.intro
      all_goals try with_reducible rfl
      all_goals try omega
      refine ⟨⟨i + 1, by omega⟩, ?_⟩
      and_intros <;> first | exact True.intro | with_reducible rfl | (show 32 - (i + 1) < 32 - i; omega) | rfl
    · rw [decide_eq_false hg, cond_false]
      have e : i = 32 := by omega
      subst e
      rw [List.take_of_length_le (l := k) (by omega)]
      and_intros <;> first | exact True.intro | with_reducible rfl
set_option maxHeartbeats 8000000 in
theorem cRText_ok : SpecOK Tryd.prog cRText := by
  refine callG_ok (c := Tryd.f23.body.getD .skip) mixed Tryd.func23 (by kernel_rfl) rfl (fun k hob => ?_)
  have hob : (k.length = 32) := hob
  have h1 := hob
  exact ⟨FRText k, rfl, evOKs trivial, rfl, rfl, by with_reducible exact wpRText k h1⟩

/-- A key as the reference has it; its byte j; the first bytes of it, each taken together with x. -/
def keyS (key : ByteArray) : ByteArray := if 64 < key.size then bstr (shaR (strL key)) else key
def byteS (key : ByteArray) (j : Nat) : Int := if j < key.size then sGet key j else 0
def maskS (key : ByteArray) (x : Int) : Nat → List Int
  | 0 => []
  | j + 1 => maskS key x j ++ [bits .xor .u8 (byteS key j) x]
def macS (key s : ByteArray) : List Int := shaR (strL (strAdd (bstr (maskS (keyS key) 92 64)) (bstr (shaR (strL (strAdd (bstr (maskS (keyS key) 54 64)) s))))))
theorem maskS_len (key : ByteArray) (x : Int) : ∀ j, (maskS key x j).length = j
  | 0 => rfl
  | j + 1 => by rw [maskS, List.length_append, maskS_len key x j]; rfl
theorem maskS_next (key : ByteArray) (x : Int) (j : Nat) : strAdd (bstr (maskS key x j)) (bstr [bits .xor .u8 (byteS key j) x]) = bstr (maskS key x (j + 1)) := by rw [bstr_add]; rfl
noncomputable def stRMac (key s : ByteArray) (i : Nat) : St := ⟨Tryd.f8.ntmps, [(0, vv (.string (keyS key))), (1, vv (.string s)), (4, .o (.c (.ptr 0 0 none))), (5, vv (.string (bstr (maskS (keyS key) 54 i)))), (6, vv (.string (bstr (maskS (keyS key) 92 i)))), (7, vv (.int .i64 (i : Int)))], [.fix 25 [.many 32 (.i .u8 (List.replicate 32 0))]]⟩
def kRMac : ByteArray × ByteArray → ClN := fun (key, s) => ⟨[vv (.string key), vv (.string s)], [], .o (.g [.many 32 (.i .u8 (macS key s))]), [], [], [key.size ≤ 17592186044416, s.size ≤ 17592186044416]⟩
noncomputable def FRMac (key s : ByteArray) : FnE := ⟨mkEv Tryd.prog [] [cRSum256, cRText] 0, [0, 1, 4, 5, 6, 7, 8, 11, 16, 22], fun _ _ => .inv { i : Nat // i ≤ 64 } (fun i => stRMac key s i.val) (fun i => 64 - i.val) [0] [0]⟩
def mRMac : List AV → (Nat → Option MB) → Option (List Nat × (ByteArray × ByteArray))
  | [.o (.c (.v (.string key))), .o (.c (.v (.string s)))], _ => some ([], (key, s))
  | _, _ => none
noncomputable def cRMac : Spec := callG 8 Tryd.f8.ntmps mRMac kRMac
theorem vcRMac (key s : ByteArray) : (wpE (FRMac key s) (Tryd.f8.body.getD .skip) ⟨Tryd.f8.ntmps, slotsOf 0 (kRMac (key, s)).avs, (kRMac (key, s)).mem⟩ (finK Tryd.prog Tryd.f8.results.toList (postN (kRMac (key, s))))) = (bif decide ((64 : Int) < (↑(ByteArray.size key) : Int)) then true = true ∧ Value.string key = Value.string key ∧ ByteArray.size key ≤ (35184372088832 : Nat) ∧ true = true ∧ (32 : Nat) = (32 : Nat) ∧ shaR (strL key) = shaR (strL key) ∧ (32 : Nat) = (32 : Nat) ∧ (∃ (x : { i : Nat // i ≤ (64 : Nat) }), true = true ∧ true = true ∧ (46 : Nat) = (46 : Nat) ∧ Value.string (bstr (shaR (strL key))) = Value.string (keyS key) ∧ Value.string s = Value.string s ∧ getL [(0 : Nat)] (0 : Nat) = some (0 : Nat) ∧ (0 : Nat) = (0 : Nat) ∧ Value.string { data := #[] } = Value.string (bstr (maskS (keyS key) (54 : Int) (Subtype.val x))) ∧ Value.string { data := #[] } = Value.string (bstr (maskS (keyS key) (92 : Int) (Subtype.val x))) ∧ Value.int IntKind.i64 (0 : Int) = Value.int IntKind.i64 (↑(Subtype.val x) : Int) ∧ (25 : Nat) = (25 : Nat) ∧ (32 : Nat) = (32 : Nat) ∧ List.replicate (32 : Nat) (0 : Int) = List.replicate (32 : Nat) (0 : Int)) ∧ ∀ (x : { i : Nat // i ≤ (64 : Nat) }), bif decide ((↑(Subtype.val x) : Int) < (64 : Int)) then bif decide ((↑(Subtype.val x) : Int) < (↑(ByteArray.size (keyS key)) : Int)) then (0 : Int) ≤ (↑(Subtype.val x) : Int) ∧ (↑(Subtype.val x) : Int) < (↑(ByteArray.size (keyS key)) : Int) ∧ (1 : Nat) = (1 : Nat) ∧ ByteArray.size (bstr (maskS (keyS key) (54 : Int) (Subtype.val x))) + ByteArray.size (bstr [bits BinOp.xor IntKind.u8 (sGet (keyS key) (Int.toNat (↑(Subtype.val x) : Int))) (54 : Int)]) ≤ (9223372036854775807 : Nat) ∧ (1 : Nat) = (1 : Nat) ∧ ByteArray.size (bstr (maskS (keyS key) (92 : Int) (Subtype.val x))) + ByteArray.size (bstr [bits BinOp.xor IntKind.u8 (sGet (keyS key) (Int.toNat (↑(Subtype.val x) : Int))) (92 : Int)]) ≤ (9223372036854775807 : Nat) ∧ ∃ (y : { i : Nat // i ≤ (64 : Nat) }), (true = true ∧ true = true ∧ (46 : Nat) = (46 : Nat) ∧ Value.string (keyS key) = Value.string (keyS key) ∧ Value.string s = Value.string s ∧ getL [(0 : Nat)] (0 : Nat) = some (0 : Nat) ∧ (0 : Nat) = (0 : Nat) ∧ Value.string (strAdd (bstr (maskS (keyS key) (54 : Int) (Subtype.val x))) (bstr [bits BinOp.xor IntKind.u8 (sGet (keyS key) (Int.toNat (↑(Subtype.val x) : Int))) (54 : Int)])) = Value.string (bstr (maskS (keyS key) (54 : Int) (Subtype.val y))) ∧ Value.string (strAdd (bstr (maskS (keyS key) (92 : Int) (Subtype.val x))) (bstr [bits BinOp.xor IntKind.u8 (sGet (keyS key) (Int.toNat (↑(Subtype.val x) : Int))) (92 : Int)])) = Value.string (bstr (maskS (keyS key) (92 : Int) (Subtype.val y))) ∧ Value.int IntKind.i64 (IntKind.wrap IntKind.i64 ((↑(Subtype.val x) : Int) + (1 : Int))) = Value.int IntKind.i64 (↑(Subtype.val y) : Int) ∧ (25 : Nat) = (25 : Nat) ∧ (32 : Nat) = (32 : Nat) ∧ List.replicate (32 : Nat) (0 : Int) = List.replicate (32 : Nat) (0 : Int)) ∧ (64 : Nat) - Subtype.val y < (64 : Nat) - Subtype.val x else (1 : Nat) = (1 : Nat) ∧ ByteArray.size (bstr (maskS (keyS key) (54 : Int) (Subtype.val x))) + (1 : Nat) ≤ (9223372036854775807 : Nat) ∧ (1 : Nat) = (1 : Nat) ∧ ByteArray.size (bstr (maskS (keyS key) (92 : Int) (Subtype.val x))) + (1 : Nat) ≤ (9223372036854775807 : Nat) ∧ ∃ (y : { i : Nat // i ≤ (64 : Nat) }), (true = true ∧ true = true ∧ (46 : Nat) = (46 : Nat) ∧ Value.string (keyS key) = Value.string (keyS key) ∧ Value.string s = Value.string s ∧ getL [(0 : Nat)] (0 : Nat) = some (0 : Nat) ∧ (0 : Nat) = (0 : Nat) ∧ Value.string (strAdd (bstr (maskS (keyS key) (54 : Int) (Subtype.val x))) (bstr [(54 : Int)])) = Value.string (bstr (maskS (keyS key) (54 : Int) (Subtype.val y))) ∧ Value.string (strAdd (bstr (maskS (keyS key) (92 : Int) (Subtype.val x))) (bstr [(92 : Int)])) = Value.string (bstr (maskS (keyS key) (92 : Int) (Subtype.val y))) ∧ Value.int IntKind.i64 (IntKind.wrap IntKind.i64 ((↑(Subtype.val x) : Int) + (1 : Int))) = Value.int IntKind.i64 (↑(Subtype.val y) : Int) ∧ (25 : Nat) = (25 : Nat) ∧ (32 : Nat) = (32 : Nat) ∧ List.replicate (32 : Nat) (0 : Int) = List.replicate (32 : Nat) (0 : Int)) ∧ (64 : Nat) - Subtype.val y < (64 : Nat) - Subtype.val x else ByteArray.size (bstr (maskS (keyS key) (54 : Int) (Subtype.val x))) + ByteArray.size s ≤ (9223372036854775807 : Nat) ∧ true = true ∧ Value.string (strAdd (bstr (maskS (keyS key) (54 : Int) (Subtype.val x))) s) = Value.string (strAdd (bstr (maskS (keyS key) (54 : Int) (Subtype.val x))) s) ∧ ByteArray.size (strAdd (bstr (maskS (keyS key) (54 : Int) (Subtype.val x))) s) ≤ (35184372088832 : Nat) ∧ true = true ∧ (32 : Nat) = (32 : Nat) ∧ shaR (strL (strAdd (bstr (maskS (keyS key) (54 : Int) (Subtype.val x))) s)) = shaR (strL (strAdd (bstr (maskS (keyS key) (54 : Int) (Subtype.val x))) s)) ∧ (32 : Nat) = (32 : Nat) ∧ ByteArray.size (bstr (maskS (keyS key) (92 : Int) (Subtype.val x))) + ByteArray.size (bstr (shaR (strL (strAdd (bstr (maskS (keyS key) (54 : Int) (Subtype.val x))) s)))) ≤ (9223372036854775807 : Nat) ∧ true = true ∧ Value.string (strAdd (bstr (maskS (keyS key) (92 : Int) (Subtype.val x))) (bstr (shaR (strL (strAdd (bstr (maskS (keyS key) (54 : Int) (Subtype.val x))) s))))) = Value.string (strAdd (bstr (maskS (keyS key) (92 : Int) (Subtype.val x))) (bstr (shaR (strL (strAdd (bstr (maskS (keyS key) (54 : Int) (Subtype.val x))) s))))) ∧ ByteArray.size (strAdd (bstr (maskS (keyS key) (92 : Int) (Subtype.val x))) (bstr (shaR (strL (strAdd (bstr (maskS (keyS key) (54 : Int) (Subtype.val x))) s))))) ≤ (35184372088832 : Nat) ∧ true = true ∧ true = true ∧ (46 : Nat) = (46 : Nat) ∧ (32 : Nat) = (32 : Nat) ∧ shaR (strL (strAdd (bstr (maskS (keyS key) (92 : Int) (Subtype.val x))) (bstr (shaR (strL (strAdd (bstr (maskS (keyS key) (54 : Int) (Subtype.val x))) s)))))) = macS key s else (∃ (x : { i : Nat // i ≤ (64 : Nat) }), true = true ∧ true = true ∧ (46 : Nat) = (46 : Nat) ∧ Value.string key = Value.string (keyS key) ∧ Value.string s = Value.string s ∧ getL [(0 : Nat)] (0 : Nat) = some (0 : Nat) ∧ (0 : Nat) = (0 : Nat) ∧ Value.string { data := #[] } = Value.string (bstr (maskS (keyS key) (54 : Int) (Subtype.val x))) ∧ Value.string { data := #[] } = Value.string (bstr (maskS (keyS key) (92 : Int) (Subtype.val x))) ∧ Value.int IntKind.i64 (0 : Int) = Value.int IntKind.i64 (↑(Subtype.val x) : Int) ∧ (25 : Nat) = (25 : Nat) ∧ (32 : Nat) = (32 : Nat) ∧ List.replicate (32 : Nat) (0 : Int) = List.replicate (32 : Nat) (0 : Int)) ∧ ∀ (x : { i : Nat // i ≤ (64 : Nat) }), bif decide ((↑(Subtype.val x) : Int) < (64 : Int)) then bif decide ((↑(Subtype.val x) : Int) < (↑(ByteArray.size (keyS key)) : Int)) then (0 : Int) ≤ (↑(Subtype.val x) : Int) ∧ (↑(Subtype.val x) : Int) < (↑(ByteArray.size (keyS key)) : Int) ∧ (1 : Nat) = (1 : Nat) ∧ ByteArray.size (bstr (maskS (keyS key) (54 : Int) (Subtype.val x))) + ByteArray.size (bstr [bits BinOp.xor IntKind.u8 (sGet (keyS key) (Int.toNat (↑(Subtype.val x) : Int))) (54 : Int)]) ≤ (9223372036854775807 : Nat) ∧ (1 : Nat) = (1 : Nat) ∧ ByteArray.size (bstr (maskS (keyS key) (92 : Int) (Subtype.val x))) + ByteArray.size (bstr [bits BinOp.xor IntKind.u8 (sGet (keyS key) (Int.toNat (↑(Subtype.val x) : Int))) (92 : Int)]) ≤ (9223372036854775807 : Nat) ∧ ∃ (y : { i : Nat // i ≤ (64 : Nat) }), (true = true ∧ true = true ∧ (46 : Nat) = (46 : Nat) ∧ Value.string (keyS key) = Value.string (keyS key) ∧ Value.string s = Value.string s ∧ getL [(0 : Nat)] (0 : Nat) = some (0 : Nat) ∧ (0 : Nat) = (0 : Nat) ∧ Value.string (strAdd (bstr (maskS (keyS key) (54 : Int) (Subtype.val x))) (bstr [bits BinOp.xor IntKind.u8 (sGet (keyS key) (Int.toNat (↑(Subtype.val x) : Int))) (54 : Int)])) = Value.string (bstr (maskS (keyS key) (54 : Int) (Subtype.val y))) ∧ Value.string (strAdd (bstr (maskS (keyS key) (92 : Int) (Subtype.val x))) (bstr [bits BinOp.xor IntKind.u8 (sGet (keyS key) (Int.toNat (↑(Subtype.val x) : Int))) (92 : Int)])) = Value.string (bstr (maskS (keyS key) (92 : Int) (Subtype.val y))) ∧ Value.int IntKind.i64 (IntKind.wrap IntKind.i64 ((↑(Subtype.val x) : Int) + (1 : Int))) = Value.int IntKind.i64 (↑(Subtype.val y) : Int) ∧ (25 : Nat) = (25 : Nat) ∧ (32 : Nat) = (32 : Nat) ∧ List.replicate (32 : Nat) (0 : Int) = List.replicate (32 : Nat) (0 : Int)) ∧ (64 : Nat) - Subtype.val y < (64 : Nat) - Subtype.val x else (1 : Nat) = (1 : Nat) ∧ ByteArray.size (bstr (maskS (keyS key) (54 : Int) (Subtype.val x))) + (1 : Nat) ≤ (9223372036854775807 : Nat) ∧ (1 : Nat) = (1 : Nat) ∧ ByteArray.size (bstr (maskS (keyS key) (92 : Int) (Subtype.val x))) + (1 : Nat) ≤ (9223372036854775807 : Nat) ∧ ∃ (y : { i : Nat // i ≤ (64 : Nat) }), (true = true ∧ true = true ∧ (46 : Nat) = (46 : Nat) ∧ Value.string (keyS key) = Value.string (keyS key) ∧ Value.string s = Value.string s ∧ getL [(0 : Nat)] (0 : Nat) = some (0 : Nat) ∧ (0 : Nat) = (0 : Nat) ∧ Value.string (strAdd (bstr (maskS (keyS key) (54 : Int) (Subtype.val x))) (bstr [(54 : Int)])) = Value.string (bstr (maskS (keyS key) (54 : Int) (Subtype.val y))) ∧ Value.string (strAdd (bstr (maskS (keyS key) (92 : Int) (Subtype.val x))) (bstr [(92 : Int)])) = Value.string (bstr (maskS (keyS key) (92 : Int) (Subtype.val y))) ∧ Value.int IntKind.i64 (IntKind.wrap IntKind.i64 ((↑(Subtype.val x) : Int) + (1 : Int))) = Value.int IntKind.i64 (↑(Subtype.val y) : Int) ∧ (25 : Nat) = (25 : Nat) ∧ (32 : Nat) = (32 : Nat) ∧ List.replicate (32 : Nat) (0 : Int) = List.replicate (32 : Nat) (0 : Int)) ∧ (64 : Nat) - Subtype.val y < (64 : Nat) - Subtype.val x else ByteArray.size (bstr (maskS (keyS key) (54 : Int) (Subtype.val x))) + ByteArray.size s ≤ (9223372036854775807 : Nat) ∧ true = true ∧ Value.string (strAdd (bstr (maskS (keyS key) (54 : Int) (Subtype.val x))) s) = Value.string (strAdd (bstr (maskS (keyS key) (54 : Int) (Subtype.val x))) s) ∧ ByteArray.size (strAdd (bstr (maskS (keyS key) (54 : Int) (Subtype.val x))) s) ≤ (35184372088832 : Nat) ∧ true = true ∧ (32 : Nat) = (32 : Nat) ∧ shaR (strL (strAdd (bstr (maskS (keyS key) (54 : Int) (Subtype.val x))) s)) = shaR (strL (strAdd (bstr (maskS (keyS key) (54 : Int) (Subtype.val x))) s)) ∧ (32 : Nat) = (32 : Nat) ∧ ByteArray.size (bstr (maskS (keyS key) (92 : Int) (Subtype.val x))) + ByteArray.size (bstr (shaR (strL (strAdd (bstr (maskS (keyS key) (54 : Int) (Subtype.val x))) s)))) ≤ (9223372036854775807 : Nat) ∧ true = true ∧ Value.string (strAdd (bstr (maskS (keyS key) (92 : Int) (Subtype.val x))) (bstr (shaR (strL (strAdd (bstr (maskS (keyS key) (54 : Int) (Subtype.val x))) s))))) = Value.string (strAdd (bstr (maskS (keyS key) (92 : Int) (Subtype.val x))) (bstr (shaR (strL (strAdd (bstr (maskS (keyS key) (54 : Int) (Subtype.val x))) s))))) ∧ ByteArray.size (strAdd (bstr (maskS (keyS key) (92 : Int) (Subtype.val x))) (bstr (shaR (strL (strAdd (bstr (maskS (keyS key) (54 : Int) (Subtype.val x))) s))))) ≤ (35184372088832 : Nat) ∧ true = true ∧ true = true ∧ (46 : Nat) = (46 : Nat) ∧ (32 : Nat) = (32 : Nat) ∧ shaR (strL (strAdd (bstr (maskS (keyS key) (92 : Int) (Subtype.val x))) (bstr (shaR (strL (strAdd (bstr (maskS (keyS key) (54 : Int) (Subtype.val x))) s)))))) = macS key s) := by kernel_rfl

set_option maxHeartbeats 8000000 in
theorem wpRMac (key s : ByteArray) (h1 : key.size ≤ 17592186044416) (h2 : s.size ≤ 17592186044416) : wpE (FRMac key s) (Tryd.f8.body.getD .skip) ⟨Tryd.f8.ntmps, slotsOf 0 (kRMac (key, s)).avs, (kRMac (key, s)).mem⟩ (finK Tryd.prog Tryd.f8.results.toList (postN (kRMac (key, s)))) := by
  with_reducible refine Eq.mpr (vcRMac key s) ?_
  by_cases hk : (64 : Int) < (key.size : Int)
  · rw [decide_eq_true hk, cond_true]
    have ek : keyS key = bstr (shaR (strL key)) := if_pos (by omega)
    have hl := shaR_len (strL key)
    and_intros
    all_goals try exact True.intro
    all_goals try with_reducible rfl
    all_goals try omega
    · refine ⟨⟨0, Nat.zero_le _⟩, ?_⟩
      rw [ek]
      and_intros <;> first | exact True.intro | with_reducible rfl | kernel_rfl
    · rintro ⟨i, hi⟩
      dsimp only
      have m1 := maskS_len (keyS key) 54 i
      have m2 := maskS_len (keyS key) 92 i
      have n1 := maskS_next (keyS key) 54 i
      have n2 := maskS_next (keyS key) 92 i
      by_cases hg : (i : Int) < 64
      · rw [decide_eq_true hg, cond_true]
        have e1 : IntKind.wrap .i64 ((i : Int) + 1) = ((i + 1 : Nat) : Int) := by rw [IntKind.wrap_i64]; omega
        by_cases hb : (i : Int) < ((keyS key).size : Int)
        · rw [decide_eq_true hb, cond_true]
          have eb : byteS (keyS key) i = sGet (keyS key) i := if_pos (by omega)
          rw [eb] at n1 n2
          simp only [e1, Int.toNat_natCast, n1, n2, bstr_size, List.length_singleton, m1, m2]
          and_intros
          all_goals try exact True.intro
          all_goals try with_reducible rfl
          all_goals try omega
          refine ⟨⟨i + 1, by omega⟩, ?_⟩
          and_intros <;> first | exact True.intro | with_reducible rfl | (show 64 - (i + 1) < 64 - i; omega) | rfl
        · rw [decide_eq_false hb, cond_false]
          have eb : byteS (keyS key) i = 0 := if_neg (by omega)
          have x1 : bits .xor .u8 0 54 = 54 := by decide +kernel
          have x2 : bits .xor .u8 0 92 = 92 := by decide +kernel
          rw [eb, x1] at n1
          rw [eb, x2] at n2
          simp only [e1, n1, n2, bstr_size, m1, m2]
          and_intros
          all_goals try exact True.intro
          all_goals try with_reducible rfl
          all_goals try omega
          refine ⟨⟨i + 1, by omega⟩, ?_⟩
          and_intros <;> first | exact True.intro | with_reducible rfl | (show 64 - (i + 1) < 64 - i; omega) | rfl
      · rw [decide_eq_false hg, cond_false]
        have e : i = 64 := by omega
        subst e
        have lR := fun s => shaR_len s
        simp only [strAdd_size, bstr_size, m1, m2, lR]
        and_intros <;> first | exact True.intro | with_reducible rfl | omega | rfl
  · rw [decide_eq_false hk, cond_false]
    have ek : keyS key = key := if_neg (by omega)
    and_intros
    all_goals try exact True.intro
    all_goals try with_reducible rfl
    all_goals try omega
    · refine ⟨⟨0, Nat.zero_le _⟩, ?_⟩
      rw [ek]
      and_intros <;> first | exact True.intro | with_reducible rfl | kernel_rfl
    · rintro ⟨i, hi⟩
      dsimp only
      have m1 := maskS_len (keyS key) 54 i
      have m2 := maskS_len (keyS key) 92 i
      have n1 := maskS_next (keyS key) 54 i
      have n2 := maskS_next (keyS key) 92 i
      by_cases hg : (i : Int) < 64
      · rw [decide_eq_true hg, cond_true]
        have e1 : IntKind.wrap .i64 ((i : Int) + 1) = ((i + 1 : Nat) : Int) := by rw [IntKind.wrap_i64]; omega
        by_cases hb : (i : Int) < ((keyS key).size : Int)
        · rw [decide_eq_true hb, cond_true]
          have eb : byteS (keyS key) i = sGet (keyS key) i := if_pos (by omega)
          rw [eb] at n1 n2
          simp only [e1, Int.toNat_natCast, n1, n2, bstr_size, List.length_singleton, m1, m2]
          and_intros
          all_goals try exact True.intro
          all_goals try with_reducible rfl
          all_goals try omega
          refine ⟨⟨i + 1, by omega⟩, ?_⟩
          and_intros <;> first | exact True.intro | with_reducible rfl | (show 64 - (i + 1) < 64 - i; omega) | rfl
        · rw [decide_eq_false hb, cond_false]
          have eb : byteS (keyS key) i = 0 := if_neg (by omega)
          have x1 : bits .xor .u8 0 54 = 54 := by decide +kernel
          have x2 : bits .xor .u8 0 92 = 92 := by decide +kernel
          rw [eb, x1] at n1
          rw [eb, x2] at n2
          simp only [e1, n1, n2, bstr_size, m1, m2]
          and_intros
          all_goals try exact True.intro
          all_goals try with_reducible rfl
          all_goals try omega
          refine ⟨⟨i + 1, by omega⟩, ?_⟩
          and_intros <;> first | exact True.intro | with_reducible rfl | (show 64 - (i + 1) < 64 - i; omega) | rfl
      · rw [decide_eq_false hg, cond_false]
        have e : i = 64 := by omega
        subst e
        have lR := fun s => shaR_len s
        simp only [strAdd_size, bstr_size, m1, m2, lR]
        and_intros <;> first | exact True.intro | with_reducible rfl | omega | rfl
set_option maxHeartbeats 8000000 in
theorem cRMac_ok : SpecOK Tryd.prog cRMac := by
  refine callG_ok (c := Tryd.f8.body.getD .skip) mixed Tryd.func8 (by kernel_rfl) rfl (fun x hob => ?_)
  obtain ⟨key, s⟩ := x
  have hob : (key.size ≤ 17592186044416) ∧ (s.size ≤ 17592186044416) := hob
  obtain ⟨h1, h2⟩ := hob
  exact ⟨FRMac key s, rfl, evOKs ⟨.inl ⟨cRSum256_ok, by kernel_rfl, gl_nil rfl⟩, ⟨.inl ⟨cRText_ok, by kernel_rfl, gl_nil rfl⟩, trivial⟩⟩, rfl, rfl, by with_reducible exact wpRMac key s h1 h2⟩
end Go.Proofs.YthhjcpiaoempfaaDoor
namespace Go.Proofs.YthhjcpiaoempfaaDoor
open Go.RowKit
set_option maxRecDepth 100000

theorem putB_app (A Z : List Int) (a b c d x : Int) {k : Nat} (h : A.length = k) : putB (A ++ a :: b :: c :: d :: Z) k x = A ++ IntKind.wrap .u8 (sShr .u32 x 24) :: IntKind.wrap .u8 (sShr .u32 x 16) :: IntKind.wrap .u8 (sShr .u32 x 8) :: IntKind.wrap .u8 x :: Z := by
  subst h
  unfold putB
  rw [List.set_append_right _ _ (by omega), List.set_append_right _ _ (by omega), List.set_append_right _ _ (by omega), List.set_append_right _ _ (by omega)]
  simp only [Nat.add_sub_cancel_left]
  rfl
theorem out_byte {x : Int} (hx : W32 x) (k : Nat) (hk : k ≤ 32) : IntKind.wrap .u8 (sShr .u32 x (k : Int)) = IntKind.wrap .u8 (Int.tmod (IntKind.wrap .u64 (Int.tdiv x (pw k))) 256) := by
  have h := shr_nat k hk hx
  rw [h.1]
  have h2 := h.2
  generalize sShr .u32 x (k : Int) = y at *
  have h3 := h2.1
  rw [Int.tmod_eq_emod_of_nonneg h3, wrapU8, wrapU8]
  omega
theorem outW_eq {s : List Int} (hs : AllW s) : ∀ j, j ≤ 8 → outW s j = outK s j ++ List.replicate (32 - 4 * j) 0
  | 0, _ => rfl
  | j + 1, h => by
    have b0 := out_byte (hs j) 24 (by omega)
    have b1 := out_byte (hs j) 16 (by omega)
    have b2 := out_byte (hs j) 8 (by omega)
    have b3 : IntKind.wrap .u8 (s.getD j 0) = IntKind.wrap .u8 (Int.tmod (IntKind.wrap .u64 (Int.tdiv (s.getD j 0) (pw 0))) 256) := by
      have h3 := (hs j).1
      have h4 := (hs j).2
      rw [show pw 0 = 1 from rfl, Int.tdiv_one, wrapU64, Int.tmod_eq_emod_of_nonneg (Int.emod_nonneg _ (by omega)), wrapU8, wrapU8]
      omega
    have e : List.replicate (32 - 4 * j) (0 : Int) = 0 :: 0 :: 0 :: 0 :: List.replicate (32 - 4 * (j + 1)) 0 := by
      rw [show 32 - 4 * j = 32 - 4 * (j + 1) + 1 + 1 + 1 + 1 by omega]
      rfl
    rw [outW, outW_eq hs j (by omega), e, putB_app _ _ _ _ _ _ _ (outK_len s j), outK, List.append_assoc]
    refine congrArg (outK s j ++ ·) ?_
    show _ = outR (s.getD j 0) ++ _
    unfold outR
    rw [← b0, ← b1, ← b2, ← b3]
    rfl
theorem cnum_at (n : Nat) (hn : n ≤ 35184372088832) : cnum n 0 = (n : Int) ∧ cnum n 1 = (n : Int) / 32 ∧ cnum n 2 = (n : Int) / 32 / 256 ∧ cnum n 3 = (n : Int) / 32 / 256 / 256 ∧ cnum n 4 = (n : Int) / 32 / 256 / 256 / 256 ∧ cnum n 5 = (n : Int) / 32 / 256 / 256 / 256 / 256 ∧ cnum n 6 = (n : Int) / 32 / 256 / 256 / 256 / 256 / 256 ∧ cnum n 7 = (n : Int) / 32 / 256 / 256 / 256 / 256 / 256 / 256 := by
  have h0 : cnum n 0 = (n : Int) := by unfold cnum; rw [wrapU64]; omega
  have st : ∀ x : Int, 0 ≤ x → x ≤ 35184372088832 → IntKind.wrap .u64 (Int.tdiv x 256) = x / 256 := fun x h1 h2 => by
    rw [Int.tdiv_eq_ediv_of_nonneg h1, wrapU64]; omega
  have h1 : cnum n 1 = (n : Int) / 32 := by
    show IntKind.wrap .u64 (Int.tdiv (IntKind.wrap .u64 (n : Int)) 32) = _
    rw [show IntKind.wrap .u64 (n : Int) = (n : Int) from h0, Int.tdiv_eq_ediv_of_nonneg (by omega), wrapU64]; omega
  have h2 : cnum n 2 = (n : Int) / 32 / 256 := by
    show IntKind.wrap .u64 (Int.tdiv (cnum n 1) 256) = _
    rw [h1, st _ (by omega) (by omega)]
  have h3 : cnum n 3 = (n : Int) / 32 / 256 / 256 := by
    show IntKind.wrap .u64 (Int.tdiv (cnum n 2) 256) = _
    rw [h2, st _ (by omega) (by omega)]
  have h4 : cnum n 4 = (n : Int) / 32 / 256 / 256 / 256 := by
    show IntKind.wrap .u64 (Int.tdiv (cnum n 3) 256) = _
    rw [h3, st _ (by omega) (by omega)]
  have h5 : cnum n 5 = (n : Int) / 32 / 256 / 256 / 256 / 256 := by
    show IntKind.wrap .u64 (Int.tdiv (cnum n 4) 256) = _
    rw [h4, st _ (by omega) (by omega)]
  have h6 : cnum n 6 = (n : Int) / 32 / 256 / 256 / 256 / 256 / 256 := by
    show IntKind.wrap .u64 (Int.tdiv (cnum n 5) 256) = _
    rw [h5, st _ (by omega) (by omega)]
  have h7 : cnum n 7 = (n : Int) / 32 / 256 / 256 / 256 / 256 / 256 / 256 := by
    show IntKind.wrap .u64 (Int.tdiv (cnum n 6) 256) = _
    rw [h6, st _ (by omega) (by omega)]
  exact ⟨h0, h1, h2, h3, h4, h5, h6, h7⟩
theorem shr_lit (K : IntKind) {x : Int} (k : Int) (p : Int) (hp : (2 : Int) ^ min k.toNat K.bits = p) (h : 0 < p) : sShr K x k = x / p := by
  unfold sShr
  rw [hp, Int.fdiv_eq_ediv_of_nonneg _ (by omega)]
theorem pad_eq (n : Nat) (hn : n ≤ 35184372088832) : [128] ++ List.replicate (msgK n) 0 ++ cbuf n 8 = padH n := by
  obtain ⟨c0, c1, c2, c3, c4, c5, c6, c7⟩ := cnum_at n hn
  have hX : IntKind.wrap .u64 (IntKind.wrap .u64 (n : Int) * 8) = (n : Int) * 8 := by rw [wrapU64, wrapU64]; omega
  have hB : (List.replicate (9 + (64 - (n + 9) % 64) % 64) (0 : Int)).set 0 128 = ([128] ++ List.replicate (msgK n) 0) ++ 0 :: 0 :: 0 :: 0 :: [0, 0, 0, 0] := by
    show (List.replicate (9 + msgK n) (0 : Int)).set 0 128 = _
    rw [show 9 + msgK n = msgK n + 8 + 1 by omega, List.replicate_succ, List.set_cons_zero, ← List.replicate_append_replicate]
    rfl
  have hl : ([128] ++ List.replicate (msgK n) (0 : Int)).length = 1 + msgK n := by rw [List.length_append, List.length_replicate]; rfl
  unfold padH putB8
  rw [hX, hB]
  show _ = putB (putB _ (1 + msgK n) _) (1 + msgK n + 4) _
  rw [putB_app _ _ _ _ _ _ _ hl]
  generalize hA : [128] ++ List.replicate (msgK n) (0 : Int) = A at *
  have eA : ∀ a b c d : Int, A ++ a :: b :: c :: d :: [0, 0, 0, 0] = (A ++ [a, b, c, d]) ++ 0 :: 0 :: 0 :: 0 :: [] := fun a b c d => by rw [List.append_assoc]; rfl
  rw [eA, putB_app _ _ _ _ _ _ _ (by rw [List.length_append, hl]; rfl), List.append_assoc]
  refine congrArg (A ++ ·) ?_
  show [cbt n 7, cbt n 6, cbt n 5, cbt n 4, cbt n 3, cbt n 2, cbt n 1, cbt n 0] = _
  have nz : 0 ≤ (n : Int) := by omega
  have s32 : sShr .u64 ((n : Int) * 8) 32 = (n : Int) * 8 / 4294967296 := shr_lit .u64 32 4294967296 (by decide) (by omega)
  have s24 : ∀ x : Int, sShr .u32 x 24 = x / 16777216 := fun x => shr_lit .u32 24 16777216 (by decide) (by omega)
  have s16 : ∀ x : Int, sShr .u32 x 16 = x / 65536 := fun x => shr_lit .u32 16 65536 (by decide) (by omega)
  have s8 : ∀ x : Int, sShr .u32 x 8 = x / 256 := fun x => shr_lit .u32 8 256 (by decide) (by omega)
  have tm : ∀ x m : Int, 0 ≤ x → Int.tmod x m = x % m := fun x m h => Int.tmod_eq_emod_of_nonneg h
  have q0 : cbt n 0 = IntKind.wrap .u8 (IntKind.wrap .u32 ((n : Int) * 8)) := by
    show IntKind.wrap .u8 (IntKind.wrap .u64 (Int.tmod (cnum n 0) 32 * 8)) = _
    rw [c0, tm _ _ nz, wrapU8, wrapU8, wrapU64, wrapU32]; omega
  have q1 : cbt n 1 = IntKind.wrap .u8 (IntKind.wrap .u32 ((n : Int) * 8) / 256) := by
    show IntKind.wrap .u8 (Int.tmod (cnum n 1) 256) = _
    rw [c1, tm _ _ (by omega), wrapU8, wrapU8, wrapU32]; omega
  have q2 : cbt n 2 = IntKind.wrap .u8 (IntKind.wrap .u32 ((n : Int) * 8) / 65536) := by
    show IntKind.wrap .u8 (Int.tmod (cnum n 2) 256) = _
    rw [c2, tm _ _ (by omega), wrapU8, wrapU8, wrapU32]; omega
  have q3 : cbt n 3 = IntKind.wrap .u8 (IntKind.wrap .u32 ((n : Int) * 8) / 16777216) := by
    show IntKind.wrap .u8 (Int.tmod (cnum n 3) 256) = _
    rw [c3, tm _ _ (by omega), wrapU8, wrapU8, wrapU32]; omega
  have q4 : cbt n 4 = IntKind.wrap .u8 (IntKind.wrap .u32 ((n : Int) * 8 / 4294967296)) := by
    show IntKind.wrap .u8 (Int.tmod (cnum n 4) 256) = _
    rw [c4, tm _ _ (by omega), wrapU8, wrapU8, wrapU32]; omega
  have q5 : cbt n 5 = IntKind.wrap .u8 (IntKind.wrap .u32 ((n : Int) * 8 / 4294967296) / 256) := by
    show IntKind.wrap .u8 (Int.tmod (cnum n 5) 256) = _
    rw [c5, tm _ _ (by omega), wrapU8, wrapU8, wrapU32]; omega
  have q6 : cbt n 6 = IntKind.wrap .u8 (IntKind.wrap .u32 ((n : Int) * 8 / 4294967296) / 65536) := by
    show IntKind.wrap .u8 (Int.tmod (cnum n 6) 256) = _
    rw [c6, tm _ _ (by omega), wrapU8, wrapU8, wrapU32]; omega
  have q7 : cbt n 7 = IntKind.wrap .u8 (IntKind.wrap .u32 ((n : Int) * 8 / 4294967296) / 16777216) := by
    show IntKind.wrap .u8 (Int.tmod (cnum n 7) 256) = _
    rw [c7, tm _ _ (by omega), wrapU8, wrapU8, wrapU32]; omega
  rw [s32, s24, s16, s8, s24, s16, s8, q0, q1, q2, q3, q4, q5, q6, q7]
  rfl
theorem msgR_eq (m : List Int) (hm : m.length ≤ 35184372088832) : msgR m = m ++ padH m.length := by
  unfold msgR msgA
  rw [← pad_eq _ hm]
  simp only [List.append_assoc]
theorem shaR_eq (m : List Int) (hm : m.length ≤ 35184372088832) : shaR m = shaL m := by
  unfold shaR shaL endR
  rw [outW_eq (blkN_all _ _) 8 (Nat.le_refl _), msgR_eq m hm]
  show _ = _ ++ []
  rw [List.append_nil]
theorem outK_B8 (s : List Int) : ∀ k, ∀ x ∈ outK s k, B8 x
  | 0, x, h => by cases h
  | k + 1, x, h => by
    rw [outK] at h
    rcases List.mem_append.1 h with h | h
    · exact outK_B8 s k x h
    · unfold outR at h
      simp only [List.mem_cons, List.not_mem_nil, or_false] at h
      rcases h with rfl | rfl | rfl | rfl <;> exact B8.wrap _
theorem shaR_B8 (m : List Int) : ∀ x ∈ shaR m, B8 x := outK_B8 _ 8
/-- The sum with a key, by the bytes alone. -/
theorem mac_rch {key : List Int} {h : HS} {m : List Int} (R : Rch h (maskL (fillL key) 54 64 ++ m)) : sum256 [oIn key, sumH h] = shaL (maskL (fillL key) 92 64 ++ shaL (maskL (fillL key) 54 64 ++ m)) := by
  rw [sumH_eq R, sum256_eq]
  rw [List.flatten_cons, List.flatten_cons, List.flatten_nil, List.append_nil]
  rfl
theorem hIn_rch (key : List Int) : Rch (hIn key) (maskL (fillL key) 54 64) := by
  have := write_rch [maskL (fillL key) 54 64] rch0
  rw [List.flatten_cons, List.flatten_nil, List.append_nil, List.nil_append] at this
  exact this
def macN (key m : List Int) : List Int := shaL (maskL (fillL key) 92 64 ++ shaL (maskL (fillL key) 54 64 ++ m))
theorem macL_eq (key : List Int) (ls : List (List Int)) : macL key ls = macN key ls.flatten := mac_rch (write_rch ls (hIn_rch key))
theorem maskL_at (l : List Int) (x : Int) : ∀ i, i ≤ l.length → maskL l x i = (l.take i).map (fun y => bits .xor .u8 y x) ++ l.drop i
  | 0, _ => rfl
  | i + 1, h => by
    have e := maskL_at l x i (by omega)
    have lt : ((l.take i).map (fun y => bits .xor .u8 y x)).length = i := by rw [List.length_map, List.length_take]; omega
    have hg : (maskL l x i).getD i 0 = l.getD i 0 := by
      rw [e, List.getD_eq_getElem?_getD, List.getElem?_append_right (by omega), lt, Nat.sub_self, List.getElem?_drop, Nat.add_zero, ← List.getD_eq_getElem?_getD]
    rw [maskL, hg, e, List.set_append_right _ _ (by omega), lt, Nat.sub_self, List.drop_eq_getElem_cons (show i < l.length by omega), List.set_cons_zero, take_next (show i < l.length by omega), List.map_append, List.append_assoc]
    rfl
theorem maskS_at (K : ByteArray) (l : List Int) (x : Int) (h : ∀ j, j < l.length → byteS K j = l.getD j 0) : ∀ i, i ≤ l.length → maskS K x i = (l.take i).map (fun y => bits .xor .u8 y x)
  | 0, _ => rfl
  | i + 1, hi => by
    rw [maskS, maskS_at K l x h i (by omega), take_next (show i < l.length by omega), List.map_append, h i (by omega)]
    rfl
theorem fillL_at (key : List Int) {j : Nat} (_h : j < 64) : (fillL key).getD j 0 = if j < (keyB key).length then (keyB key).getD j 0 else 0 := by
  have hk := keyB_len key
  unfold fillL lay
  rw [List.take_zero, List.nil_append, Nat.zero_add, List.drop_replicate, List.getD_eq_getElem?_getD]
  split
  · rename_i hj
    rw [List.getElem?_append_left hj, List.getD_eq_getElem?_getD]
  · rename_i hj
    rw [List.getElem?_append_right (by omega), List.getElem?_replicate]
    split <;> rfl
theorem bits_B8 (x y : Int) : B8 (bits .xor .u8 x y) := ⟨bits_lo_u8 _ _ _, by have := bits_hi_u8 .xor x y; omega⟩
theorem keyS_eq (key : ByteArray) (h : key.size ≤ 35184372088832) : strL (keyS key) = keyB (strL key) := by
  have hs := strL_len key
  unfold keyS keyB
  by_cases hk : 64 < key.size
  · rw [if_pos hk, if_pos (by omega), strL_bstr (shaR_B8 _), shaR_eq _ (by omega), sum256_eq, List.flatten_cons, List.flatten_nil, List.append_nil]
  · rw [if_neg hk, if_neg (by omega)]
theorem mask_eq (key : ByteArray) (x : Int) (h : key.size ≤ 35184372088832) : maskS (keyS key) x 64 = maskL (fillL (strL key)) x 64 ∧ ∀ y ∈ maskS (keyS key) x 64, B8 y := by
  have lf := fillL_len (strL key)
  have e := maskS_at (keyS key) (fillL (strL key)) x (fun j hj => by
    rw [lf] at hj
    rw [fillL_at _ hj, ← keyS_eq key h]
    unfold byteS
    rw [strL_len]
    split
    · rename_i hj2; exact sGet_eq _ hj2
    · rfl) 64 (by omega)
  refine ⟨?_, fun y hy => ?_⟩
  · rw [e, maskL_at _ _ 64 (by omega), List.drop_of_length_le (by omega), List.append_nil]
  · rw [e] at hy
    obtain ⟨z, _, rfl⟩ := List.mem_map.1 hy
    exact bits_B8 _ _
theorem macS_eq (key s : ByteArray) (hk : key.size ≤ 17592186044416) (hs : s.size ≤ 17592186044416) : macS key s = macN (strL key) (strL s) := by
  obtain ⟨e1, b1⟩ := mask_eq key 54 (by omega)
  obtain ⟨e2, b2⟩ := mask_eq key 92 (by omega)
  have l1 := maskS_len (keyS key) 54 64
  have l2 := maskS_len (keyS key) 92 64
  have ls := strL_len s
  unfold macS macN
  rw [strL_add, strL_bstr b2, strL_bstr (shaR_B8 _), strL_add, strL_bstr b1]
  rw [shaR_eq (maskS (keyS key) 54 64 ++ strL s) (by rw [List.length_append]; omega), shaR_eq, e1, e2]
  rw [List.length_append, ← shaR_eq (maskS (keyS key) 54 64 ++ strL s) (by rw [List.length_append]; omega), shaR_len]; omega
end Go.Proofs.YthhjcpiaoempfaaDoor
