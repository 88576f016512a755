/-
  chacha beside the reference: what the laws know; ChachaBlocks; ChachaMixes.
-/
import Derived.Test.YthlleheeghiljaaS8c
import Derived.Test.YthlleheeghiljaaOw
namespace Go.Proofs.Ythlleheeghiljaa
open Go.RowKit
set_option maxRecDepth 100000

def kKnown : Unit → ClN := fun _ => ⟨[], [], vv (.bool true), [], [], []⟩
noncomputable def FKnown : FnE := ⟨mkEv Try.prog [] [cBlock] 0, [0, 1], fun _ _ => .rounds 0⟩
def mKnown : List AV → (Nat → Option MB) → Option (List Nat × Unit)
  | [], _ => some ([], ())
  | _, _ => none
noncomputable def cKnown : Spec := callG 10 Try.f10.ntmps mKnown kKnown
theorem vcKnown (_ : Unit) : (wpE FKnown (Try.f10.body.getD .skip) ⟨Try.f10.ntmps, slotsOf 0 (kKnown ()).avs, (kKnown ()).mem⟩ (finK Try.prog Try.f10.results.toList (postN (kKnown ())))) = (true = true ∧ (32 : Nat) = (32 : Nat) ∧ [(0 : Int), (0 : Int), (0 : Int), (0 : Int), (0 : Int), (0 : Int), (0 : Int), (0 : Int), (0 : Int), (0 : Int), (0 : Int), (0 : Int), (0 : Int), (0 : Int), (0 : Int), (0 : Int), (0 : Int), (0 : Int), (0 : Int), (0 : Int), (0 : Int), (0 : Int), (0 : Int), (0 : Int), (0 : Int), (0 : Int), (0 : Int), (0 : Int), (0 : Int), (0 : Int), (0 : Int), (0 : Int)] = [(0 : Int), (0 : Int), (0 : Int), (0 : Int), (0 : Int), (0 : Int), (0 : Int), (0 : Int), (0 : Int), (0 : Int), (0 : Int), (0 : Int), (0 : Int), (0 : Int), (0 : Int), (0 : Int), (0 : Int), (0 : Int), (0 : Int), (0 : Int), (0 : Int), (0 : Int), (0 : Int), (0 : Int), (0 : Int), (0 : Int), (0 : Int), (0 : Int), (0 : Int), (0 : Int), (0 : Int), (0 : Int)] ∧ (12 : Nat) = (12 : Nat) ∧ [(0 : Int), (0 : Int), (0 : Int), (0 : Int), (0 : Int), (0 : Int), (0 : Int), (0 : Int), (0 : Int), (0 : Int), (0 : Int), (0 : Int)] = [(0 : Int), (0 : Int), (0 : Int), (0 : Int), (0 : Int), (0 : Int), (0 : Int), (0 : Int), (0 : Int), (0 : Int), (0 : Int), (0 : Int)] ∧ Value.int IntKind.u32 (0 : Int) = Value.int IntKind.u32 (0 : Int) ∧ (32 : Nat) = (32 : Nat) ∧ (12 : Nat) = (12 : Nat) ∧ (0 : Int) ≤ (0 : Int) ∧ (0 : Int) < (64 : Int) ∧ (0 : Nat) < (64 : Nat) ∧ (0 : Int) ≤ (1 : Int) ∧ (1 : Int) < (64 : Int) ∧ (1 : Nat) < (64 : Nat) ∧ (0 : Int) ≤ (2 : Int) ∧ (2 : Int) < (64 : Int) ∧ (2 : Nat) < (64 : Nat) ∧ (0 : Int) ≤ (63 : Int) ∧ (63 : Int) < (64 : Int) ∧ (63 : Nat) < (64 : Nat) ∧ true = true ∧ true = true ∧ (25 : Nat) = (25 : Nat) ∧ (bif decide ((134 : Int) = (134 : Int)) then Value.bool true else Value.bool false) = Value.bool true) := by kernel_rfl

set_option maxHeartbeats 8000000 in
theorem wpKnown  : wpE FKnown (Try.f10.body.getD .skip) ⟨Try.f10.ntmps, slotsOf 0 (kKnown ()).avs, (kKnown ()).mem⟩ (finK Try.prog Try.f10.results.toList (postN (kKnown ()))) := by
  with_reducible refine Eq.mpr (vcKnown ()) ?_
  intros
  and_intros <;> first | omega | exact True.intro | kernel_rfl
set_option maxHeartbeats 8000000 in
theorem cKnown_ok : SpecOK Try.prog cKnown := by
  refine callG_ok (c := Try.f10.body.getD .skip) mixed Try.func10 (by kernel_rfl) rfl (fun x hob => ?_)
  exact ⟨FKnown, rfl, evOKs ⟨.inl ⟨cBlock_ok, by kernel_rfl, gl_nil rfl⟩, trivial⟩, rfl, rfl, by with_reducible exact wpKnown  ⟩

def kLBlocks : (List Int) × (List Int) × Int → ClN := fun (key, nonce, x) => ⟨[.o (.g [.many 32 (.i .u8 key)]), .o (.g [.many 12 (.i .u8 nonce)]), vv (.int .u32 x)], [], vv (.bool true), [], [], [key.length = 32, nonce.length = 12, Bys key, Bys nonce, 0 ≤ x ∧ x < 4294967296]⟩
noncomputable def FLBlocks : FnE := ⟨mkEv Try.prog [] [cKnown, cBlock, cSBlock] 0, [0, 1, 2, 3, 4, 6, 8], fun _ _ => .rounds 0⟩
theorem vcLBlocks (key nonce : List Int) (x : Int) : (wpE FLBlocks (Try.f3.body.getD .skip) ⟨Try.f3.ntmps, slotsOf 0 (kLBlocks (key, nonce, x)).avs, (kLBlocks (key, nonce, x)).mem⟩ (finK Try.prog Try.f3.results.toList (postN (kLBlocks (key, nonce, x))))) = (true = true ∧ true = true ∧ (32 : Nat) = (32 : Nat) ∧ key = key ∧ (12 : Nat) = (12 : Nat) ∧ nonce = nonce ∧ Value.int IntKind.u32 x = Value.int IntKind.u32 x ∧ List.length key = (32 : Nat) ∧ List.length nonce = (12 : Nat) ∧ true = true ∧ (32 : Nat) = (32 : Nat) ∧ key = key ∧ (12 : Nat) = (12 : Nat) ∧ nonce = nonce ∧ Value.int IntKind.u64 (IntKind.wrap IntKind.u64 x) = Value.int IntKind.u64 (IntKind.wrap IntKind.u64 x) ∧ List.length key = (32 : Nat) ∧ List.length nonce = (12 : Nat) ∧ Bys key ∧ Bys nonce ∧ true = true ∧ true = true ∧ (19 : Nat) = (19 : Nat) ∧ Value.bool (decide (chachaL key nonce x = blkR key nonce (IntKind.wrap IntKind.u64 x))) = Value.bool true) := by kernel_rfl

set_option maxHeartbeats 8000000 in
theorem wpLBlocks (key nonce : List Int) (x : Int) (h1 : key.length = 32) (h2 : nonce.length = 12) (h3 : Bys key) (h4 : Bys nonce) (h5 : 0 ≤ x ∧ x < 4294967296) : wpE FLBlocks (Try.f3.body.getD .skip) ⟨Try.f3.ntmps, slotsOf 0 (kLBlocks (key, nonce, x)).avs, (kLBlocks (key, nonce, x)).mem⟩ (finK Try.prog Try.f3.results.toList (postN (kLBlocks (key, nonce, x)))) := by
  with_reducible refine Eq.mpr (vcLBlocks key nonce x) ?_
  have e : IntKind.wrap .u64 x = x := by rw [wU64]; omega
  have eb := blkR_eq h1 h2 h3 h4 h5
  have d : decide (chachaL key nonce x = blkR key nonce (IntKind.wrap .u64 x)) = true := decide_eq_true (by rw [e, eb])
  and_intros <;> first | exact True.intro | with_reducible assumption | with_reducible rfl | exact congrArg Value.bool d | rfl
set_option maxHeartbeats 8000000 in
theorem lwLBlocks (key nonce : List Int) (x : Int) (h1 : key.length = 32) (h2 : nonce.length = 12) (h3 : Bys key) (h4 : Bys nonce) (h5 : 0 ≤ x ∧ x < 4294967296) {W : World} {vs : List Value} (hD : All2 (DA (cxL W ([])) be0) (kLBlocks (key, nonce, x)).avs vs) : Calls Try.prog 3 vs.toArray W (fun e W' => e = .returned (.bool true) ∧ Upd (fun _ => False) W W') :=
  law_calls (F := FLBlocks) (fn := Try.f3) (c := Try.f3.body.getD .skip) (k := kLBlocks (key, nonce, x)) rfl (evOKs ⟨.inl ⟨cKnown_ok, by kernel_rfl, gl_nil rfl⟩, ⟨.inl ⟨cBlock_ok, by kernel_rfl, gl_nil rfl⟩, ⟨.inl ⟨cSBlock_ok, by kernel_rfl, gl_nil rfl⟩, trivial⟩⟩⟩) mixed rfl (fun _ _ h => by cases h) Try.func3 (by kernel_rfl) rfl rfl hD (by kernel_rfl) (by with_reducible exact wpLBlocks key nonce x h1 h2 h3 h4 h5)
theorem chachaBlocks_any (key nonce : List Int) (x : Int) (hk : key.length = 32) (hn : nonce.length = 12) (bk : Bys key) (bn : Bys nonce) (hx : 0 ≤ x ∧ x < 4294967296) {W : World} : Calls Try.prog 3 #[.agg (key.map (Value.int .u8)).toArray, .agg (nonce.map (Value.int .u8)).toArray, .int .u32 x] W (fun e W' => e = .returned (.bool true) ∧ Upd (fun _ => False) W W') :=
  lwLBlocks key nonce x hk hn bk bn hx (vs := [_, _, _]) ⟨da_arr hk, da_arr hn, da_int, trivial⟩

/-- The parts that the law takes, cut. -/
def ownM (ls : List (List Int)) (i : Nat) : List (List Int) := (ls.take (min i 6)).map (fun l => l.take 200)
theorem ownM_next {ls : List (List Int)} {i : Nat} (h : i < ls.length) (h6 : i < 6) : ownM ls i ++ [(ls.getD i []).take 200] = ownM ls (i + 1) := by
  unfold ownM
  have e : ls.take (i + 1) = ls.take i ++ [ls.getD i []] := by rw [List.take_add_one, List.getElem?_eq_getElem h, getD_at h]; rfl
  rw [Nat.min_eq_left (by omega : i ≤ 6), Nat.min_eq_left (by omega : i + 1 ≤ 6), e, List.map_append]
  rfl
theorem ownM_stay {ls : List (List Int)} {i : Nat} (h6 : ¬ i < 6) : ownM ls i = ownM ls (i + 1) := by
  unfold ownM
  rw [show min i 6 = 6 by omega, show min (i + 1) 6 = 6 by omega]
theorem ownM_len {ls : List (List Int)} {i : Nat} (h : i ≤ ls.length) : (ownM ls i).length = min i 6 := by
  unfold ownM
  rw [List.length_map, List.length_take]; omega
theorem flat_short : ∀ (ms : List (List Int)), (∀ l ∈ ms, l.length ≤ 200) → ms.flatten.length ≤ 200 * ms.length
  | [], _ => Nat.zero_le _
  | a :: r, h => by
    have h1 := h a (by simp)
    have h2 := flat_short r (fun l hl => h l (by simp [hl]))
    rw [List.flatten_cons, List.length_append, List.length_cons]; omega
theorem ownM_flat {ls : List (List Int)} {i : Nat} (h : i ≤ ls.length) : (ownM ls i).flatten.length ≤ 1200 := by
  have h1 := flat_short (ownM ls i) (fun l hl => by
    unfold ownM at hl
    obtain ⟨m, _, rfl⟩ := List.mem_map.1 hl
    rw [List.length_take]; omega)
  rw [ownM_len h] at h1; omega
theorem ownM_bys {ls : List (List Int)} (hb : ∀ l ∈ ls, Bys l) (i : Nat) : Bys (ownM ls i).flatten := by
  intro x hx
  obtain ⟨l, hl, hxl⟩ := List.mem_flatten.1 hx
  unfold ownM at hl
  obtain ⟨m, hm, rfl⟩ := List.mem_map.1 hl
  exact hb m (List.mem_of_mem_take hm) x (List.mem_of_mem_take hxl)
theorem take_min (p : List Int) : (p.drop 0).take (min p.length 200) = p.take 200 := by
  rw [List.drop_zero]
  rcases Nat.le_total p.length 200 with h | h
  · rw [Nat.min_eq_left h, List.take_of_length_le (Nat.le_refl _), List.take_of_length_le h]
  · rw [Nat.min_eq_right h]
theorem if_min (p : List Int) : (if (200 : Int) < (p.length : Int) then (200 : Int) else (p.length : Int)) = ((min p.length 200 : Nat) : Int) := by split <;> omega
theorem bys12 : Bys [1, 2, 3, 0, 0, 0, 0, 0, 0, 0, 0, 0] := by unfold Bys; decide
theorem strEq_same (s : ByteArray) : strEq s s = true := by unfold strEq; simp
noncomputable def stMx (key : List Int) (x : Int) (ls : List (List Int)) (i : Nat) : St := ⟨Try.f4.ntmps, [(1, vv (.int .u32 x)), (3, .o (.c (.ptr 0 0 none))), (7, .o (.c (.os 1 1 (min i 6)))), (8, vv (.string (bstr (ownM ls i).flatten))), (17, .o (.c (.rss ls))), (18, vv (.int .i64 (ls.length : Int))), (19, vv (.int .i64 (i : Int)))], [.fix 23 [.many 32 (.i .u8 key)], .gs 34 [.rsv (ownM ls i)]]⟩
def kLMixes : (List Int) × Int × (List (List Int)) → ClN := fun (key, x, ls) => ⟨[.o (.g [.many 32 (.i .u8 key)]), vv (.int .u32 x), .o (.c (.rss ls))], [], vv (.bool true), [], [], [key.length = 32, Bys key, 0 ≤ x ∧ x < 4294967296, ls.length ≤ 140737488355328, (∀ l ∈ ls, Bys l)]⟩
noncomputable def FLMixes (key : List Int) (x : Int) (ls : List (List Int)) : FnE := ⟨mkEv Try.prog [] [cKnown, cMix, cSMix] 0, [0, 1, 2, 3, 6, 7, 8, 9, 10, 11, 12, 13, 14, 16, 17, 18, 19, 20, 25], fun g _ => bif Nat.beq g 6 then .peel { i : Nat // 1 ≤ i ∧ i ≤ ls.length } (fun i => stMx key x ls i.val) (fun i => ls.length - i.val) [0, 2] [0, 5000007] else bif Nat.beq g 1000015 then .alt 61 else .rounds 0⟩
theorem vcLMixes (key : List Int) (x : Int) (ls : List (List Int)) : (wpE (FLMixes key x ls) (Try.f4.body.getD .skip) ⟨Try.f4.ntmps, slotsOf 0 (kLMixes (key, x, ls)).avs, (kLMixes (key, x, ls)).mem⟩ (finK Try.prog Try.f4.results.toList (postN (kLMixes (key, x, ls))))) = (let x1 := if (200 : Int) < (↑(List.length (List.getD ls (Int.toNat (0 : Int)) [])) : Int) then (200 : Int) else (↑(List.length (List.getD ls (0 : Nat) [])) : Int); let x2 := List.take (Int.toNat x1) (List.drop (0 : Nat) (List.getD ls (0 : Nat) [])); let x3 := bstr x2; true = true ∧ (bif decide ((0 : Int) < (↑(List.length ls) : Int)) then (0 : Int) ≤ (0 : Int) ∧ (0 : Int) < (↑(List.length ls) : Int) ∧ (0 : Int) ≤ x1 ∧ Int.toNat x1 ≤ List.length (List.getD ls (0 : Nat) []) ∧ (1 : Nat) = segsLen (onesC [C.rs (1 : Nat) (Int.toNat x1) (L.i IntKind.u8 x2)]) ∧ (24 : Nat) ≤ (140737488355328 : Nat) ∧ (1 : Nat) ≤ (9223372036854775807 : Nat) ∧ (0 : Nat) + ByteArray.size x3 ≤ (9223372036854775807 : Nat) ∧ ∃ (x_1 : { i : Nat // (1 : Nat) ≤ i ∧ i ≤ List.length ls }), true = true ∧ true = true ∧ (66 : Nat) = (66 : Nat) ∧ Value.int IntKind.u32 x = Value.int IntKind.u32 x ∧ getL [(0 : Nat), (2 : Nat)] (0 : Nat) = some (0 : Nat) ∧ (0 : Nat) = (0 : Nat) ∧ getL [(0 : Nat), (2 : Nat)] (1 : Nat) = some (Nat.add (Nat.add (Nat.add (1 : Nat) (0 : Nat)) (0 : Nat)) (1 : Nat)) ∧ (1 : Nat) = (1 : Nat) ∧ (1 : Nat) = min (Subtype.val x_1) (6 : Nat) ∧ Value.string (strAdd { data := #[] } x3) = Value.string (bstr (List.flatten (ownM ls (Subtype.val x_1)))) ∧ ls = ls ∧ Value.int IntKind.i64 (↑(List.length ls) : Int) = Value.int IntKind.i64 (↑(List.length ls) : Int) ∧ Value.int IntKind.i64 (1 : Int) = Value.int IntKind.i64 (↑(Subtype.val x_1) : Int) ∧ (23 : Nat) = (23 : Nat) ∧ (32 : Nat) = (32 : Nat) ∧ key = key ∧ (34 : Nat) = (34 : Nat) ∧ [x2] = ownM ls (Subtype.val x_1) ∧ Int.toNat x1 = List.length x2 else true = true ∧ (32 : Nat) = (32 : Nat) ∧ key = key ∧ (12 : Nat) = (12 : Nat) ∧ [(1 : Int), (2 : Int), (3 : Int), (0 : Int), (0 : Int), (0 : Int), (0 : Int), (0 : Int), (0 : Int), (0 : Int), (0 : Int), (0 : Int)] = [(1 : Int), (2 : Int), (3 : Int), (0 : Int), (0 : Int), (0 : Int), (0 : Int), (0 : Int), (0 : Int), (0 : Int), (0 : Int), (0 : Int)] ∧ Value.int IntKind.u32 x = Value.int IntKind.u32 x ∧ true = true ∧ nilSS = [] ∧ (0 : Nat) ≤ (16777216 : Nat) ∧ (0 : Nat) ≤ (140737488355328 : Nat) ∧ List.length key = (32 : Nat) ∧ (12 : Nat) = (12 : Nat) ∧ true = true ∧ (32 : Nat) = (32 : Nat) ∧ key = key ∧ (12 : Nat) = (12 : Nat) ∧ [(1 : Int), (2 : Int), (3 : Int), (0 : Int), (0 : Int), (0 : Int), (0 : Int), (0 : Int), (0 : Int), (0 : Int), (0 : Int), (0 : Int)] = [(1 : Int), (2 : Int), (3 : Int), (0 : Int), (0 : Int), (0 : Int), (0 : Int), (0 : Int), (0 : Int), (0 : Int), (0 : Int), (0 : Int)] ∧ Value.int IntKind.u64 (IntKind.wrap IntKind.u64 x) = Value.int IntKind.u64 (IntKind.wrap IntKind.u64 x) ∧ Value.string { data := #[] } = Value.string (bstr (strL { data := #[] })) ∧ (0 : Nat) ≤ (16777216 : Nat) ∧ List.length key = (32 : Nat) ∧ (12 : Nat) = (12 : Nat) ∧ Bys key ∧ Bys [(1 : Int), (2 : Int), (3 : Int), (0 : Int), (0 : Int), (0 : Int), (0 : Int), (0 : Int), (0 : Int), (0 : Int), (0 : Int), (0 : Int)] ∧ Bys (strL { data := #[] }) ∧ Alt2 ((0 : Nat) = (0 : Nat) ∧ strEq (bstr (mixA key [(1 : Int), (2 : Int), (3 : Int), (0 : Int), (0 : Int), (0 : Int), (0 : Int), (0 : Int), (0 : Int), (0 : Int), (0 : Int), (0 : Int)] x (List.flatten []))) (bstr (mixA key [(1 : Int), (2 : Int), (3 : Int), (0 : Int), (0 : Int), (0 : Int), (0 : Int), (0 : Int), (0 : Int), (0 : Int), (0 : Int), (0 : Int)] (IntKind.wrap IntKind.u64 x) (strL { data := #[] }))) = true ∧ true = true ∧ true = true ∧ (66 : Nat) = (66 : Nat) ∧ (bif true then Value.bool (decide ((0 : Int) = (0 : Int))) else Value.bool false) = Value.bool true) ((0 : Nat) = (0 : Nat) ∧ strEq (bstr (mixA key [(1 : Int), (2 : Int), (3 : Int), (0 : Int), (0 : Int), (0 : Int), (0 : Int), (0 : Int), (0 : Int), (0 : Int), (0 : Int), (0 : Int)] x (List.flatten []))) (bstr (mixA key [(1 : Int), (2 : Int), (3 : Int), (0 : Int), (0 : Int), (0 : Int), (0 : Int), (0 : Int), (0 : Int), (0 : Int), (0 : Int), (0 : Int)] (IntKind.wrap IntKind.u64 x) (strL { data := #[] }))) = false ∧ true = true ∧ true = true ∧ (66 : Nat) = (66 : Nat) ∧ (bif false then undef else Value.bool false) = Value.bool true)) ∧ ∀ (x_1 : { i : Nat // (1 : Nat) ≤ i ∧ i ≤ List.length ls }), bif decide ((↑(Subtype.val x_1) : Int) < (↑(List.length ls) : Int)) then (0 : Int) ≤ (↑(Subtype.val x_1) : Int) ∧ (↑(Subtype.val x_1) : Int) < (↑(List.length ls) : Int) ∧ bif decide ((↑(Subtype.val x_1) : Int) < (6 : Int)) then ((0 : Int) ≤ if (200 : Int) < (↑(List.length (List.getD ls (Int.toNat (↑(Subtype.val x_1) : Int)) [])) : Int) then (200 : Int) else (↑(List.length (List.getD ls (Int.toNat (↑(Subtype.val x_1) : Int)) [])) : Int)) ∧ Int.toNat (if (200 : Int) < (↑(List.length (List.getD ls (Int.toNat (↑(Subtype.val x_1) : Int)) [])) : Int) then (200 : Int) else (↑(List.length (List.getD ls (Int.toNat (↑(Subtype.val x_1) : Int)) [])) : Int)) ≤ List.length (List.getD ls (Int.toNat (↑(Subtype.val x_1) : Int)) []) ∧ (1 : Nat) = segsLen (onesC [C.rs (1 : Nat) (Int.toNat (if (200 : Int) < (↑(List.length (List.getD ls (Int.toNat (↑(Subtype.val x_1) : Int)) [])) : Int) then (200 : Int) else (↑(List.length (List.getD ls (Int.toNat (↑(Subtype.val x_1) : Int)) [])) : Int))) (L.i IntKind.u8 (List.take (Int.toNat (if (200 : Int) < (↑(List.length (List.getD ls (Int.toNat (↑(Subtype.val x_1) : Int)) [])) : Int) then (200 : Int) else (↑(List.length (List.getD ls (Int.toNat (↑(Subtype.val x_1) : Int)) [])) : Int))) (List.drop (0 : Nat) (List.getD ls (Int.toNat (↑(Subtype.val x_1) : Int)) []))))]) ∧ segsLen [Seg.rsv (ownM ls (Subtype.val x_1))] = min (Subtype.val x_1) (6 : Nat) ∧ (min (Subtype.val x_1) (6 : Nat) + (1 : Nat)) * (24 : Nat) ≤ (140737488355328 : Nat) ∧ min (Subtype.val x_1) (6 : Nat) + (1 : Nat) ≤ (9223372036854775807 : Nat) ∧ ByteArray.size (bstr (List.flatten (ownM ls (Subtype.val x_1)))) + ByteArray.size (bstr (List.take (Int.toNat (if (200 : Int) < (↑(List.length (List.getD ls (Int.toNat (↑(Subtype.val x_1) : Int)) [])) : Int) then (200 : Int) else (↑(List.length (List.getD ls (Int.toNat (↑(Subtype.val x_1) : Int)) [])) : Int))) (List.drop (0 : Nat) (List.getD ls (Int.toNat (↑(Subtype.val x_1) : Int)) [])))) ≤ (9223372036854775807 : Nat) ∧ ∃ (y : { i : Nat // (1 : Nat) ≤ i ∧ i ≤ List.length ls }), (true = true ∧ true = true ∧ (66 : Nat) = (66 : Nat) ∧ Value.int IntKind.u32 x = Value.int IntKind.u32 x ∧ getL [(0 : Nat), (3 : Nat)] (0 : Nat) = some (0 : Nat) ∧ (0 : Nat) = (0 : Nat) ∧ getL [(0 : Nat), (3 : Nat)] (1 : Nat) = some (Nat.add (Nat.add (Nat.add (2 : Nat) (0 : Nat)) (0 : Nat)) (1 : Nat)) ∧ (1 : Nat) = (1 : Nat) ∧ min (Subtype.val x_1) (6 : Nat) + (1 : Nat) = min (Subtype.val y) (6 : Nat) ∧ Value.string (strAdd (bstr (List.flatten (ownM ls (Subtype.val x_1)))) (bstr (List.take (Int.toNat (if (200 : Int) < (↑(List.length (List.getD ls (Int.toNat (↑(Subtype.val x_1) : Int)) [])) : Int) then (200 : Int) else (↑(List.length (List.getD ls (Int.toNat (↑(Subtype.val x_1) : Int)) [])) : Int))) (List.drop (0 : Nat) (List.getD ls (Int.toNat (↑(Subtype.val x_1) : Int)) []))))) = Value.string (bstr (List.flatten (ownM ls (Subtype.val y)))) ∧ ls = ls ∧ Value.int IntKind.i64 (↑(List.length ls) : Int) = Value.int IntKind.i64 (↑(List.length ls) : Int) ∧ Value.int IntKind.i64 (IntKind.wrap IntKind.i64 ((↑(Subtype.val x_1) : Int) + (1 : Int))) = Value.int IntKind.i64 (↑(Subtype.val y) : Int) ∧ (23 : Nat) = (23 : Nat) ∧ (32 : Nat) = (32 : Nat) ∧ key = key ∧ (34 : Nat) = (34 : Nat) ∧ ownM ls (Subtype.val x_1) ++ [List.take (Int.toNat (if (200 : Int) < (↑(List.length (List.getD ls (Int.toNat (↑(Subtype.val x_1) : Int)) [])) : Int) then (200 : Int) else (↑(List.length (List.getD ls (Int.toNat (↑(Subtype.val x_1) : Int)) [])) : Int))) (List.drop (0 : Nat) (List.getD ls (Int.toNat (↑(Subtype.val x_1) : Int)) []))] = ownM ls (Subtype.val y) ∧ Int.toNat (if (200 : Int) < (↑(List.length (List.getD ls (Int.toNat (↑(Subtype.val x_1) : Int)) [])) : Int) then (200 : Int) else (↑(List.length (List.getD ls (Int.toNat (↑(Subtype.val x_1) : Int)) [])) : Int)) = List.length (List.take (Int.toNat (if (200 : Int) < (↑(List.length (List.getD ls (Int.toNat (↑(Subtype.val x_1) : Int)) [])) : Int) then (200 : Int) else (↑(List.length (List.getD ls (Int.toNat (↑(Subtype.val x_1) : Int)) [])) : Int))) (List.drop (0 : Nat) (List.getD ls (Int.toNat (↑(Subtype.val x_1) : Int)) [])))) ∧ List.length ls - Subtype.val y < List.length ls - Subtype.val x_1 else ∃ (y : { i : Nat // (1 : Nat) ≤ i ∧ i ≤ List.length ls }), (true = true ∧ true = true ∧ (66 : Nat) = (66 : Nat) ∧ Value.int IntKind.u32 x = Value.int IntKind.u32 x ∧ getL [(0 : Nat), (1 : Nat)] (0 : Nat) = some (0 : Nat) ∧ (0 : Nat) = (0 : Nat) ∧ getL [(0 : Nat), (1 : Nat)] (1 : Nat) = some (1 : Nat) ∧ (1 : Nat) = (1 : Nat) ∧ min (Subtype.val x_1) (6 : Nat) = min (Subtype.val y) (6 : Nat) ∧ Value.string (bstr (List.flatten (ownM ls (Subtype.val x_1)))) = Value.string (bstr (List.flatten (ownM ls (Subtype.val y)))) ∧ ls = ls ∧ Value.int IntKind.i64 (↑(List.length ls) : Int) = Value.int IntKind.i64 (↑(List.length ls) : Int) ∧ Value.int IntKind.i64 (IntKind.wrap IntKind.i64 ((↑(Subtype.val x_1) : Int) + (1 : Int))) = Value.int IntKind.i64 (↑(Subtype.val y) : Int) ∧ (23 : Nat) = (23 : Nat) ∧ (32 : Nat) = (32 : Nat) ∧ key = key ∧ (34 : Nat) = (34 : Nat) ∧ ownM ls (Subtype.val x_1) = ownM ls (Subtype.val y)) ∧ List.length ls - Subtype.val y < List.length ls - Subtype.val x_1 else true = true ∧ (32 : Nat) = (32 : Nat) ∧ key = key ∧ (12 : Nat) = (12 : Nat) ∧ [(1 : Int), (2 : Int), (3 : Int), (0 : Int), (0 : Int), (0 : Int), (0 : Int), (0 : Int), (0 : Int), (0 : Int), (0 : Int), (0 : Int)] = [(1 : Int), (2 : Int), (3 : Int), (0 : Int), (0 : Int), (0 : Int), (0 : Int), (0 : Int), (0 : Int), (0 : Int), (0 : Int), (0 : Int)] ∧ Value.int IntKind.u32 x = Value.int IntKind.u32 x ∧ true = true ∧ ownM ls (Subtype.val x_1) ++ [] = ownM ls (Subtype.val x_1) ++ [] ∧ min (Subtype.val x_1) (6 : Nat) = List.length (ownM ls (Subtype.val x_1) ++ []) ∧ List.length (List.flatten (ownM ls (Subtype.val x_1) ++ [])) ≤ (16777216 : Nat) ∧ List.length (ownM ls (Subtype.val x_1) ++ []) ≤ (140737488355328 : Nat) ∧ List.length key = (32 : Nat) ∧ (12 : Nat) = (12 : Nat) ∧ true = true ∧ (32 : Nat) = (32 : Nat) ∧ key = key ∧ (12 : Nat) = (12 : Nat) ∧ [(1 : Int), (2 : Int), (3 : Int), (0 : Int), (0 : Int), (0 : Int), (0 : Int), (0 : Int), (0 : Int), (0 : Int), (0 : Int), (0 : Int)] = [(1 : Int), (2 : Int), (3 : Int), (0 : Int), (0 : Int), (0 : Int), (0 : Int), (0 : Int), (0 : Int), (0 : Int), (0 : Int), (0 : Int)] ∧ Value.int IntKind.u64 (IntKind.wrap IntKind.u64 x) = Value.int IntKind.u64 (IntKind.wrap IntKind.u64 x) ∧ Value.string (bstr (List.flatten (ownM ls (Subtype.val x_1)))) = Value.string (bstr (strL (bstr (List.flatten (ownM ls (Subtype.val x_1)))))) ∧ List.length (strL (bstr (List.flatten (ownM ls (Subtype.val x_1))))) ≤ (16777216 : Nat) ∧ List.length key = (32 : Nat) ∧ (12 : Nat) = (12 : Nat) ∧ Bys key ∧ Bys [(1 : Int), (2 : Int), (3 : Int), (0 : Int), (0 : Int), (0 : Int), (0 : Int), (0 : Int), (0 : Int), (0 : Int), (0 : Int), (0 : Int)] ∧ Bys (strL (bstr (List.flatten (ownM ls (Subtype.val x_1))))) ∧ Alt2 (List.length (mixA key [(1 : Int), (2 : Int), (3 : Int), (0 : Int), (0 : Int), (0 : Int), (0 : Int), (0 : Int), (0 : Int), (0 : Int), (0 : Int), (0 : Int)] x (List.flatten (ownM ls (Subtype.val x_1) ++ []))) = List.length (List.flatten (ownM ls (Subtype.val x_1) ++ [])) ∧ strEq (bstr (mixA key [(1 : Int), (2 : Int), (3 : Int), (0 : Int), (0 : Int), (0 : Int), (0 : Int), (0 : Int), (0 : Int), (0 : Int), (0 : Int), (0 : Int)] x (List.flatten (ownM ls (Subtype.val x_1) ++ [])))) (bstr (mixA key [(1 : Int), (2 : Int), (3 : Int), (0 : Int), (0 : Int), (0 : Int), (0 : Int), (0 : Int), (0 : Int), (0 : Int), (0 : Int), (0 : Int)] (IntKind.wrap IntKind.u64 x) (strL (bstr (List.flatten (ownM ls (Subtype.val x_1))))))) = true ∧ true = true ∧ true = true ∧ (66 : Nat) = (66 : Nat) ∧ (bif true then Value.bool (decide ((0 : Int) = (0 : Int))) else Value.bool false) = Value.bool true) (List.length (mixA key [(1 : Int), (2 : Int), (3 : Int), (0 : Int), (0 : Int), (0 : Int), (0 : Int), (0 : Int), (0 : Int), (0 : Int), (0 : Int), (0 : Int)] x (List.flatten (ownM ls (Subtype.val x_1) ++ []))) = List.length (List.flatten (ownM ls (Subtype.val x_1) ++ [])) ∧ strEq (bstr (mixA key [(1 : Int), (2 : Int), (3 : Int), (0 : Int), (0 : Int), (0 : Int), (0 : Int), (0 : Int), (0 : Int), (0 : Int), (0 : Int), (0 : Int)] x (List.flatten (ownM ls (Subtype.val x_1) ++ [])))) (bstr (mixA key [(1 : Int), (2 : Int), (3 : Int), (0 : Int), (0 : Int), (0 : Int), (0 : Int), (0 : Int), (0 : Int), (0 : Int), (0 : Int), (0 : Int)] (IntKind.wrap IntKind.u64 x) (strL (bstr (List.flatten (ownM ls (Subtype.val x_1))))))) = false ∧ true = true ∧ true = true ∧ (66 : Nat) = (66 : Nat) ∧ (bif false then undef else Value.bool false) = Value.bool true)) := by kernel_rfl

set_option maxHeartbeats 8000000 in
theorem wpLMixes (key : List Int) (x : Int) (ls : List (List Int)) (h1 : key.length = 32) (h2 : Bys key) (h3 : 0 ≤ x ∧ x < 4294967296) (h4 : ls.length ≤ 140737488355328) (h5 : (∀ l ∈ ls, Bys l)) : wpE (FLMixes key x ls) (Try.f4.body.getD .skip) ⟨Try.f4.ntmps, slotsOf 0 (kLMixes (key, x, ls)).avs, (kLMixes (key, x, ls)).mem⟩ (finK Try.prog Try.f4.results.toList (postN (kLMixes (key, x, ls)))) := by
  with_reducible refine Eq.mpr (vcLMixes key x ls) ?_
  have hw : IntKind.wrap .u64 x = x := by rw [wU64]; omega
  have e0 : Int.toNat 0 = 0 := rfl
  simp only [if_min, take_min, hw, e0, Int.toNat_natCast, List.append_nil, bstr_size, List.length_take]
  and_intros
  all_goals try exact True.intro
  · by_cases h0 : (0 : Int) < (ls.length : Int)
    · rw [decide_eq_true h0, cond_true]
      have hn := ownM_next (ls := ls) (i := 0) (by omega) (by omega)
      have hn2 : [(ls.getD 0 []).take 200] = ownM ls 1 := hn
      have hf : Value.string (strAdd { data := #[] } (bstr ((ls.getD 0 []).take 200))) = Value.string (bstr (ownM ls 1).flatten) := by
        rw [← hn2, List.flatten_cons, List.flatten_nil, List.append_nil]
        have := bstr_add [] ((ls.getD 0 []).take 200)
        rw [List.nil_append] at this
        rw [← this]; rfl
      and_intros
      all_goals try exact True.intro
      all_goals try omega
      all_goals try with_reducible rfl
      all_goals try kernel_rfl
      refine ⟨⟨1, by omega, by omega⟩, ?_⟩
      and_intros <;> first | exact True.intro | with_reducible rfl | with_reducible exact hf | with_reducible exact hn2 | omega | rfl
    · rw [decide_eq_false h0, cond_false]
      and_intros
      all_goals try exact True.intro
      all_goals try with_reducible assumption
      all_goals try with_reducible exact bys12
      all_goals try omega
      all_goals try with_reducible rfl
      all_goals try exact (show Bys [] from fun y hy => by cases hy)
      all_goals try kernel_rfl
      refine .l ?_
      and_intros <;> first | exact True.intro | kernel_rfl
  · rintro ⟨i, hi, hi'⟩
    dsimp only
    have ol := ownM_len hi'
    have of := ownM_flat hi'
    have ob := ownM_bys h5 i
    by_cases hg : (i : Int) < (ls.length : Int)
    · rw [decide_eq_true hg, cond_true]
      have w1 : IntKind.wrap .i64 ((i : Int) + 1) = ((i + 1 : Nat) : Int) := by rw [IntKind.wrap_i64]; omega
      simp only [w1]
      by_cases h6 : (i : Int) < 6
      · rw [decide_eq_true h6, cond_true]
        have hn := ownM_next (ls := ls) (i := i) (by omega) (by omega)
        have hf : Value.string (strAdd (bstr (ownM ls i).flatten) (bstr ((ls.getD i []).take 200))) = Value.string (bstr (ownM ls (i + 1)).flatten) := by
          rw [← hn, bstr_add, List.flatten_append, List.flatten_cons, List.flatten_nil, List.append_nil]
        and_intros
        all_goals try exact True.intro
        all_goals try omega
        all_goals try with_reducible rfl
        all_goals try (show (ownM ls i).length + 0 = _; omega)
        all_goals try kernel_rfl
        refine ⟨⟨i + 1, by omega, by omega⟩, ?_⟩
        and_intros <;> first | exact True.intro | with_reducible rfl | with_reducible exact hf | with_reducible exact hn | (show min i 6 + 1 = min (i + 1) 6; omega) | (show ls.length - (i + 1) < ls.length - i; omega) | (show _ = min _ _; omega) | omega | rfl
      · rw [decide_eq_false h6, cond_false]
        have hn := ownM_stay (ls := ls) (i := i) (by omega)
        and_intros
        all_goals try omega
        refine ⟨⟨i + 1, by omega, by omega⟩, ?_⟩
        have hf : Value.string (bstr (ownM ls i).flatten) = Value.string (bstr (ownM ls (i + 1)).flatten) := by rw [hn]
        and_intros <;> first | exact True.intro | with_reducible rfl | with_reducible exact hf | with_reducible exact hn | (show min i 6 = min (i + 1) 6; omega) | (show ls.length - (i + 1) < ls.length - i; omega) | rfl
    · rw [decide_eq_false hg, cond_false]
      have es := strL_bstr ob
      have lm := mixA_len key [1, 2, 3, 0, 0, 0, 0, 0, 0, 0, 0, 0] x (ownM ls i).flatten
      simp only [es, lm]
      and_intros
      all_goals try exact True.intro
      all_goals try with_reducible assumption
      all_goals try with_reducible exact bys12
      all_goals try omega
      all_goals try with_reducible rfl
      all_goals try kernel_rfl
      refine .l ?_
      and_intros <;> first | exact True.intro | with_reducible rfl | exact strEq_same _ | kernel_rfl
set_option maxHeartbeats 8000000 in
theorem lwLMixes (key : List Int) (x : Int) (ls : List (List Int)) (h1 : key.length = 32) (h2 : Bys key) (h3 : 0 ≤ x ∧ x < 4294967296) (h4 : ls.length ≤ 140737488355328) (h5 : (∀ l ∈ ls, Bys l)) {W : World} {vs : List Value} (hD : All2 (DA (cxL W ([])) be0) (kLMixes (key, x, ls)).avs vs) : Calls Try.prog 4 vs.toArray W (fun e W' => e = .returned (.bool true) ∧ Upd (fun _ => False) W W') :=
  law_calls (F := FLMixes key x ls) (fn := Try.f4) (c := Try.f4.body.getD .skip) (k := kLMixes (key, x, ls)) rfl (evOKs ⟨.inl ⟨cKnown_ok, by kernel_rfl, gl_nil rfl⟩, ⟨.inl ⟨cMix_ok, by kernel_rfl, gl_nil rfl⟩, ⟨.inl ⟨cSMix_ok, by kernel_rfl, gl_nil rfl⟩, trivial⟩⟩⟩) mixed rfl (fun _ _ h => by cases h) Try.func4 (by kernel_rfl) rfl rfl hD (by kernel_rfl) (by with_reducible exact wpLMixes key x ls h1 h2 h3 h4 h5)
theorem chachaMixes_any (key : List Int) (x : Int) (ls : List (List Int)) (hk : key.length = 32) (bk : Bys key) (hx : 0 ≤ x ∧ x < 4294967296) (hl : ls.length ≤ 140737488355328) (hb : ∀ l ∈ ls, Bys l) {W : World} {v : Value} (hv : DA (cxL W []) be0 (.o (.c (.rss ls))) v) : Calls Try.prog 4 #[.agg (key.map (Value.int .u8)).toArray, .int .u32 x, v] W (fun e W' => e = .returned (.bool true) ∧ Upd (fun _ => False) W W') :=
  lwLMixes key x ls hk bk hx hl hb (vs := [_, _, _]) ⟨da_arr hk, da_int, hv, trivial⟩
end Go.Proofs.Ythlleheeghiljaa
