/-
  aead beside the reference: AeadSeals, AeadOpens.
-/
import Derived.Test.YthlleheeghiljaaS10b
import Derived.Test.YthlleheeghiljaaA3k
namespace Go.Proofs.Ythlleheeghiljaa
open Go.RowKit
set_option maxRecDepth 100000

theorem tagS_tagR (key n m b : List Int) : tagS key n [b] m b.length = tagR key n m b := by
  unfold tagS tagR
  congr 1
  simp only [List.flatten_append, List.flatten_cons, List.flatten_nil, List.append_nil, List.append_assoc]
theorem min300 (n : Nat) : (if (300 : Int) < (n : Int) then (300 : Int) else (n : Int)) = ((min n 300 : Nat) : Int) := by split <;> omega
theorem flat1 (l : List Int) : List.flatten [l] = l := by rw [List.flatten_cons, List.flatten_nil, List.append_nil]
def fcLS (d : Nat) : Option Bool := bif Nat.beq d 46 then some true else none
def kLSeals : (List Int) × (List Int) × Nat × (List Int) × Nat × (List Int) → ClN := fun (key, nonce, n, t, m, b) => ⟨[.o (.g [.many 32 (.i .u8 key), .many 12 (.i .u8 nonce)]), .o (.c (.rs 1 n (.i .u8 t))), .o (.c (.rs 1 m (.i .u8 b)))], [], vv (.bool true), [], [], [key.length = 32, nonce.length = 12, t.length = n, n ≤ 140737488355328, b.length = m, m ≤ 140737488355328, Bys key, Bys nonce, Bys t, Bys b]⟩
noncomputable def FLSeals : FnE := ⟨mkEv Try.prog [] [cOpens, cASeal, cSSeal] 0 fcLS, [0, 1, 2, 3, 6, 7, 8, 9, 10, 12], fun _ _ => .rounds 0⟩
theorem vcLSeals (key nonce : List Int) (n : Nat) (t : List Int) (m : Nat) (b : List Int) : (wpE FLSeals (Try.f7.body.getD .skip) ⟨Try.f7.ntmps, slotsOf 0 (kLSeals (key, nonce, n, t, m, b)).avs, (kLSeals (key, nonce, n, t, m, b)).mem⟩ (finK Try.prog Try.f7.results.toList (postN (kLSeals (key, nonce, n, t, m, b))))) = (let x1 := if (300 : Int) < (↑n : Int) then (300 : Int) else (↑n : Int); let x2 := if (300 : Int) < (↑m : Int) then (300 : Int) else (↑m : Int); let x3 := List.take (Int.toNat x1) (List.drop (0 : Nat) t); let x4 := List.take (Int.toNat x2) (List.drop (0 : Nat) b); let x5 := [x4]; let x6 := bstr x3; let x7 := strL x6; let x8 := bstr x4; let x9 := strL x8; let x10 := sealT key nonce x5 x3; let x11 := mixA key nonce (1 : Int) x7; true = true ∧ (0 : Int) ≤ x1 ∧ Int.toNat x1 ≤ n ∧ (0 : Int) ≤ x2 ∧ Int.toNat x2 ≤ m ∧ true = true ∧ (32 : Nat) = (32 : Nat) ∧ key = key ∧ (12 : Nat) = (12 : Nat) ∧ nonce = nonce ∧ true = true ∧ Int.toNat x1 = Int.toNat x1 ∧ x3 = x3 ∧ true = true ∧ x5 = x5 ∧ (1 : Nat) = (1 : Nat) ∧ List.length x3 = Int.toNat x1 ∧ Int.toNat x1 ≤ (1048576 : Nat) ∧ List.length (List.flatten x5) ≤ (1048576 : Nat) ∧ (1 : Nat) ≤ (16777216 : Nat) ∧ List.length key = (32 : Nat) ∧ List.length nonce = (12 : Nat) ∧ true = true ∧ (32 : Nat) = (32 : Nat) ∧ key = key ∧ (12 : Nat) = (12 : Nat) ∧ nonce = nonce ∧ Value.string x6 = Value.string (bstr x7) ∧ Value.string x8 = Value.string (bstr x9) ∧ List.length key = (32 : Nat) ∧ List.length nonce = (12 : Nat) ∧ Bys key ∧ Bys nonce ∧ Bys x7 ∧ Bys x9 ∧ List.length x7 ≤ (1048576 : Nat) ∧ List.length x9 ≤ (1048576 : Nat) ∧ List.length x10 = Int.toNat x1 + (16 : Nat) ∧ strEq (bstr x10) (bstr (x11 ++ tagR key nonce x11 x9)) = true ∧ true = true ∧ true = true ∧ (52 : Nat) = (52 : Nat) ∧ (bif true then Value.bool (decide ((0 : Int) = (0 : Int))) else Value.bool false) = Value.bool true) := by kernel_rfl

set_option maxHeartbeats 8000000 in
theorem wpLSeals (key nonce : List Int) (n : Nat) (t : List Int) (m : Nat) (b : List Int) (h1 : key.length = 32) (h2 : nonce.length = 12) (h3 : t.length = n) (h4 : n ≤ 140737488355328) (h5 : b.length = m) (h6 : m ≤ 140737488355328) (h7 : Bys key) (h8 : Bys nonce) (h9 : Bys t) (h10 : Bys b) : wpE FLSeals (Try.f7.body.getD .skip) ⟨Try.f7.ntmps, slotsOf 0 (kLSeals (key, nonce, n, t, m, b)).avs, (kLSeals (key, nonce, n, t, m, b)).mem⟩ (finK Try.prog Try.f7.results.toList (postN (kLSeals (key, nonce, n, t, m, b)))) := by
  with_reducible refine Eq.mpr (vcLSeals key nonce n t m b) ?_
  have bt : Bys (t.take (min n 300)) := h9.take _
  have bb : Bys (b.take (min m 300)) := h10.take _
  have lt : (t.take (min n 300)).length = min n 300 := by rw [List.length_take]; omega
  have lb : (b.take (min m 300)).length = min m 300 := by rw [List.length_take]; omega
  have et := strL_bstr bt
  have eb := strL_bstr bb
  have es : sealT key nonce [b.take (min m 300)] (t.take (min n 300)) = mixA key nonce 1 (t.take (min n 300)) ++ tagR key nonce (mixA key nonce 1 (t.take (min n 300))) (b.take (min m 300)) := by unfold sealT; rw [flat1, tagS_tagR]
  have lw : (mixA key nonce 1 (t.take (min n 300)) ++ tagR key nonce (mixA key nonce 1 (t.take (min n 300))) (b.take (min m 300))).length = min n 300 + 16 := by
    have l2 : (tagR key nonce (mixA key nonce 1 (t.take (min n 300))) (b.take (min m 300))).length = 16 := (sumL_bys _ _).2
    rw [List.length_append, mixA_len, lt, l2]
  simp only [min300, Int.toNat_natCast, List.drop_zero, flat1, et, eb, es, lt, lb]
  and_intros
  all_goals try exact True.intro
  all_goals try with_reducible assumption
  all_goals try omega
  all_goals try with_reducible rfl
  all_goals try exact strEq_refl _
  all_goals kernel_rfl
set_option maxHeartbeats 8000000 in
theorem lwLSeals (key nonce : List Int) (n : Nat) (t : List Int) (m : Nat) (b : List Int) (h1 : key.length = 32) (h2 : nonce.length = 12) (h3 : t.length = n) (h4 : n ≤ 140737488355328) (h5 : b.length = m) (h6 : m ≤ 140737488355328) (h7 : Bys key) (h8 : Bys nonce) (h9 : Bys t) (h10 : Bys b) {W : World} {vs : List Value} (hD : All2 (DA (cxL W ([])) be0) (kLSeals (key, nonce, n, t, m, b)).avs vs) : Calls Try.prog 7 vs.toArray W (fun e W' => e = .returned (.bool true) ∧ Upd (fun _ => False) W W') :=
  law_calls (F := FLSeals) (fn := Try.f7) (c := Try.f7.body.getD .skip) (k := kLSeals (key, nonce, n, t, m, b)) rfl (evOKs ⟨.inl ⟨cOpens_ok, by kernel_rfl, gl_nil rfl⟩, ⟨.inl ⟨cASeal_ok, by kernel_rfl, gl_nil rfl⟩, ⟨.inl ⟨cSSeal_ok, by kernel_rfl, gl_nil rfl⟩, trivial⟩⟩⟩) mixed rfl (fun _ _ h => by cases h) Try.func7 (by kernel_rfl) rfl rfl hD (by kernel_rfl) (by with_reducible exact wpLSeals key nonce n t m b h1 h2 h3 h4 h5 h6 h7 h8 h9 h10)
theorem aeadSeals_any (key nonce t b : List Int) (n m : Nat) (hk : key.length = 32) (hn : nonce.length = 12) (bk : Bys key) (bn : Bys nonce) (bt : Bys t) (bb : Bys b) (ht : t.length = n) (hb : b.length = m) (hnn : n ≤ 140737488355328) (hm : m ≤ 140737488355328) {W : World} {v w : Value}
    (hv : DA (cxL W []) be0 (.o (.c (.rs 1 n (.i .u8 t)))) v) (hw : DA (cxL W []) be0 (.o (.c (.rs 1 m (.i .u8 b)))) w) : Calls Try.prog 7 #[.agg ((key ++ nonce).map (Value.int .u8)).toArray, v, w] W (fun e W' => e = .returned (.bool true) ∧ Upd (fun _ => False) W W') :=
  lwLSeals key nonce n t m b hk hn ht hnn hb hm bk bn bt bb (vs := [_, _, _]) ⟨da_two hk hn, hv, hw, trivial⟩

def kLOpensA : (List Int) × (List Int) × Nat × (List Int) × Nat × (List Int) → ClN := fun (key, nonce, n, t, m, b) => ⟨[.o (.g [.many 32 (.i .u8 key), .many 12 (.i .u8 nonce)]), .o (.c (.rs 1 n (.i .u8 t))), .o (.c (.rs 1 m (.i .u8 b)))], [], vv (.bool true), [], [], [key.length = 32, nonce.length = 12, t.length = n, n ≤ 140737488355328, b.length = m, m ≤ 140737488355328, Bys key, Bys nonce, Bys t, Bys b, 16 ≤ n, tagR key nonce ((t.take (min n 300)).take (min n 300 - 16)) (b.take (min m 300)) = (t.take (min n 300)).drop (min n 300 - 16)]⟩
noncomputable def FLOpensA : FnE := ⟨mkEv Try.prog [] [cOpens, cAOpen, cSOpen] 0 fcLS, [0, 1, 2, 3, 6, 7, 8, 9, 10, 12], fun _ _ => .rounds 0⟩
theorem vcLOpensA (key nonce : List Int) (n : Nat) (t : List Int) (m : Nat) (b : List Int) : (wpE FLOpensA (Try.f8.body.getD .skip) ⟨Try.f8.ntmps, slotsOf 0 (kLOpensA (key, nonce, n, t, m, b)).avs, (kLOpensA (key, nonce, n, t, m, b)).mem⟩ (finK Try.prog Try.f8.results.toList (postN (kLOpensA (key, nonce, n, t, m, b))))) = (let x1 := if (300 : Int) < (↑n : Int) then (300 : Int) else (↑n : Int); let x2 := if (300 : Int) < (↑m : Int) then (300 : Int) else (↑m : Int); let x3 := List.take (Int.toNat x1) (List.drop (0 : Nat) t); let x4 := List.take (Int.toNat x2) (List.drop (0 : Nat) b); let x5 := [x4]; let x6 := List.take (Int.toNat x1 - (16 : Nat)) x3; let x7 := bstr x3; let x8 := strL x7; let x9 := bstr x4; let x10 := strL x9; let x11 := List.take (List.length x8 - (16 : Nat)) x8; let x12 := mixA key nonce (1 : Int) x6; true = true ∧ (0 : Int) ≤ x1 ∧ Int.toNat x1 ≤ n ∧ (0 : Int) ≤ x2 ∧ Int.toNat x2 ≤ m ∧ true = true ∧ (32 : Nat) = (32 : Nat) ∧ key = key ∧ (12 : Nat) = (12 : Nat) ∧ nonce = nonce ∧ true = true ∧ Int.toNat x1 = Int.toNat x1 ∧ x3 = x3 ∧ true = true ∧ x5 = x5 ∧ (1 : Nat) = (1 : Nat) ∧ List.length x3 = Int.toNat x1 ∧ Int.toNat x1 ≤ (1048592 : Nat) ∧ List.length (List.flatten x5) ≤ (1048576 : Nat) ∧ (1 : Nat) ≤ (16777216 : Nat) ∧ List.length key = (32 : Nat) ∧ List.length nonce = (12 : Nat) ∧ (16 : Nat) ≤ Int.toNat x1 ∧ Bys x3 ∧ tagS key nonce x5 x6 (List.length (List.flatten x5)) = List.drop (Int.toNat x1 - (16 : Nat)) x3 ∧ true = true ∧ (32 : Nat) = (32 : Nat) ∧ key = key ∧ (12 : Nat) = (12 : Nat) ∧ nonce = nonce ∧ Value.string x7 = Value.string (bstr x8) ∧ Value.string x9 = Value.string (bstr x10) ∧ List.length key = (32 : Nat) ∧ List.length nonce = (12 : Nat) ∧ Bys key ∧ Bys nonce ∧ Bys x8 ∧ Bys x10 ∧ List.length x8 ≤ (1048592 : Nat) ∧ List.length x10 ≤ (1048576 : Nat) ∧ (16 : Nat) ≤ List.length x8 ∧ tagR key nonce x11 x10 = List.drop (List.length x8 - (16 : Nat)) x8 ∧ List.length x12 = Int.toNat x1 - (16 : Nat) ∧ strEq (bstr x12) (bstr (mixA key nonce (1 : Int) x11)) = true ∧ true = true ∧ true = true ∧ (52 : Nat) = (52 : Nat) ∧ (bif true then Value.bool (decide ((0 : Int) = (0 : Int))) else Value.bool false) = Value.bool true) := by kernel_rfl

set_option maxHeartbeats 8000000 in
theorem wpLOpensA (key nonce : List Int) (n : Nat) (t : List Int) (m : Nat) (b : List Int) (h1 : key.length = 32) (h2 : nonce.length = 12) (h3 : t.length = n) (h4 : n ≤ 140737488355328) (h5 : b.length = m) (h6 : m ≤ 140737488355328) (h7 : Bys key) (h8 : Bys nonce) (h9 : Bys t) (h10 : Bys b) (h11 : 16 ≤ n) (h12 : tagR key nonce ((t.take (min n 300)).take (min n 300 - 16)) (b.take (min m 300)) = (t.take (min n 300)).drop (min n 300 - 16)) : wpE FLOpensA (Try.f8.body.getD .skip) ⟨Try.f8.ntmps, slotsOf 0 (kLOpensA (key, nonce, n, t, m, b)).avs, (kLOpensA (key, nonce, n, t, m, b)).mem⟩ (finK Try.prog Try.f8.results.toList (postN (kLOpensA (key, nonce, n, t, m, b)))) := by
  with_reducible refine Eq.mpr (vcLOpensA key nonce n t m b) ?_
  have bt : Bys (t.take (min n 300)) := h9.take _
  have bb : Bys (b.take (min m 300)) := h10.take _
  have lt : (t.take (min n 300)).length = min n 300 := by rw [List.length_take]; omega
  have lb : (b.take (min m 300)).length = min m 300 := by rw [List.length_take]; omega
  have et := strL_bstr bt
  have eb := strL_bstr bb
  have hq : tagS key nonce [b.take (min m 300)] ((t.take (min n 300)).take (min n 300 - 16)) (min m 300) = (t.take (min n 300)).drop (min n 300 - 16) := by
    have := tagS_tagR key nonce ((t.take (min n 300)).take (min n 300 - 16)) (b.take (min m 300))
    rw [lb] at this
    rw [this, h12]
  have lm : (mixA key nonce 1 ((t.take (min n 300)).take (min n 300 - 16))).length = min n 300 - 16 := by rw [mixA_len, List.length_take, lt]; omega
  simp only [min300, Int.toNat_natCast, List.drop_zero, flat1, et, eb, lt, lb]
  generalize t.take (min n 300) = T at *
  generalize b.take (min m 300) = B at *
  and_intros
  all_goals try exact True.intro
  all_goals try with_reducible assumption
  all_goals try omega
  all_goals try with_reducible rfl
  all_goals try exact strEq_refl _
  all_goals kernel_rfl
set_option maxHeartbeats 8000000 in
theorem lwLOpensA (key nonce : List Int) (n : Nat) (t : List Int) (m : Nat) (b : List Int) (h1 : key.length = 32) (h2 : nonce.length = 12) (h3 : t.length = n) (h4 : n ≤ 140737488355328) (h5 : b.length = m) (h6 : m ≤ 140737488355328) (h7 : Bys key) (h8 : Bys nonce) (h9 : Bys t) (h10 : Bys b) (h11 : 16 ≤ n) (h12 : tagR key nonce ((t.take (min n 300)).take (min n 300 - 16)) (b.take (min m 300)) = (t.take (min n 300)).drop (min n 300 - 16)) {W : World} {vs : List Value} (hD : All2 (DA (cxL W ([])) be0) (kLOpensA (key, nonce, n, t, m, b)).avs vs) : Calls Try.prog 8 vs.toArray W (fun e W' => e = .returned (.bool true) ∧ Upd (fun _ => False) W W') :=
  law_calls (F := FLOpensA) (fn := Try.f8) (c := Try.f8.body.getD .skip) (k := kLOpensA (key, nonce, n, t, m, b)) rfl (evOKs ⟨.inl ⟨cOpens_ok, by kernel_rfl, gl_nil rfl⟩, ⟨.inl ⟨cAOpen_ok, by kernel_rfl, gl_nil rfl⟩, ⟨.inl ⟨cSOpen_ok, by kernel_rfl, gl_nil rfl⟩, trivial⟩⟩⟩) mixed rfl (fun _ _ h => by cases h) Try.func8 (by kernel_rfl) rfl rfl hD (by kernel_rfl) (by with_reducible exact wpLOpensA key nonce n t m b h1 h2 h3 h4 h5 h6 h7 h8 h9 h10 h11 h12)
def kLOpensT : (List Int) × (List Int) × Nat × (List Int) × Nat × (List Int) → ClN := fun (key, nonce, n, t, m, b) => ⟨[.o (.g [.many 32 (.i .u8 key), .many 12 (.i .u8 nonce)]), .o (.c (.rs 1 n (.i .u8 t))), .o (.c (.rs 1 m (.i .u8 b)))], [], vv (.bool true), [], [], [key.length = 32, nonce.length = 12, t.length = n, n ≤ 140737488355328, b.length = m, m ≤ 140737488355328, Bys key, Bys nonce, Bys t, Bys b, 16 ≤ n, tagR key nonce ((t.take (min n 300)).take (min n 300 - 16)) (b.take (min m 300)) ≠ (t.take (min n 300)).drop (min n 300 - 16)]⟩
noncomputable def FLOpensT : FnE := ⟨mkEv Try.prog [] [cOpens, cAOpenT, cSOpenT] 0 fcLS, [0, 1, 2, 3, 6, 7, 8, 9, 10, 12], fun _ _ => .rounds 0⟩
theorem vcLOpensT (key nonce : List Int) (n : Nat) (t : List Int) (m : Nat) (b : List Int) : (wpE FLOpensT (Try.f8.body.getD .skip) ⟨Try.f8.ntmps, slotsOf 0 (kLOpensT (key, nonce, n, t, m, b)).avs, (kLOpensT (key, nonce, n, t, m, b)).mem⟩ (finK Try.prog Try.f8.results.toList (postN (kLOpensT (key, nonce, n, t, m, b))))) = (let x1 := if (300 : Int) < (↑n : Int) then (300 : Int) else (↑n : Int); let x2 := if (300 : Int) < (↑m : Int) then (300 : Int) else (↑m : Int); let x3 := List.take (Int.toNat x1) (List.drop (0 : Nat) t); let x4 := List.take (Int.toNat x2) (List.drop (0 : Nat) b); let x5 := [x4]; let x6 := bstr x3; let x7 := strL x6; let x8 := bstr x4; let x9 := strL x8; true = true ∧ (0 : Int) ≤ x1 ∧ Int.toNat x1 ≤ n ∧ (0 : Int) ≤ x2 ∧ Int.toNat x2 ≤ m ∧ true = true ∧ (32 : Nat) = (32 : Nat) ∧ key = key ∧ (12 : Nat) = (12 : Nat) ∧ nonce = nonce ∧ true = true ∧ Int.toNat x1 = Int.toNat x1 ∧ x3 = x3 ∧ true = true ∧ x5 = x5 ∧ (1 : Nat) = (1 : Nat) ∧ List.length x3 = Int.toNat x1 ∧ Int.toNat x1 ≤ (1048592 : Nat) ∧ List.length (List.flatten x5) ≤ (1048576 : Nat) ∧ (1 : Nat) ≤ (16777216 : Nat) ∧ List.length key = (32 : Nat) ∧ List.length nonce = (12 : Nat) ∧ (16 : Nat) ≤ Int.toNat x1 ∧ Bys x3 ∧ tagS key nonce x5 (List.take (Int.toNat x1 - (16 : Nat)) x3) (List.length (List.flatten x5)) ≠ List.drop (Int.toNat x1 - (16 : Nat)) x3 ∧ true = true ∧ (32 : Nat) = (32 : Nat) ∧ key = key ∧ (12 : Nat) = (12 : Nat) ∧ nonce = nonce ∧ Value.string x6 = Value.string (bstr x7) ∧ Value.string x8 = Value.string (bstr x9) ∧ List.length key = (32 : Nat) ∧ List.length nonce = (12 : Nat) ∧ Bys key ∧ Bys nonce ∧ Bys x7 ∧ Bys x9 ∧ List.length x7 ≤ (1048592 : Nat) ∧ List.length x9 ≤ (1048576 : Nat) ∧ (16 : Nat) ≤ List.length x7 ∧ tagR key nonce (List.take (List.length x7 - (16 : Nat)) x7) x9 ≠ List.drop (List.length x7 - (16 : Nat)) x7 ∧ true = true ∧ true = true ∧ true = true ∧ (52 : Nat) = (52 : Nat) ∧ (bif true then Value.bool (decide ((100 : Int) = (100 : Int))) else Value.bool false) = Value.bool true) := by kernel_rfl

set_option maxHeartbeats 8000000 in
theorem wpLOpensT (key nonce : List Int) (n : Nat) (t : List Int) (m : Nat) (b : List Int) (h1 : key.length = 32) (h2 : nonce.length = 12) (h3 : t.length = n) (h4 : n ≤ 140737488355328) (h5 : b.length = m) (h6 : m ≤ 140737488355328) (h7 : Bys key) (h8 : Bys nonce) (h9 : Bys t) (h10 : Bys b) (h11 : 16 ≤ n) (h12 : tagR key nonce ((t.take (min n 300)).take (min n 300 - 16)) (b.take (min m 300)) ≠ (t.take (min n 300)).drop (min n 300 - 16)) : wpE FLOpensT (Try.f8.body.getD .skip) ⟨Try.f8.ntmps, slotsOf 0 (kLOpensT (key, nonce, n, t, m, b)).avs, (kLOpensT (key, nonce, n, t, m, b)).mem⟩ (finK Try.prog Try.f8.results.toList (postN (kLOpensT (key, nonce, n, t, m, b)))) := by
  with_reducible refine Eq.mpr (vcLOpensT key nonce n t m b) ?_
  have bt : Bys (t.take (min n 300)) := h9.take _
  have bb : Bys (b.take (min m 300)) := h10.take _
  have lt : (t.take (min n 300)).length = min n 300 := by rw [List.length_take]; omega
  have lb : (b.take (min m 300)).length = min m 300 := by rw [List.length_take]; omega
  have et := strL_bstr bt
  have eb := strL_bstr bb
  have hq : tagS key nonce [b.take (min m 300)] ((t.take (min n 300)).take (min n 300 - 16)) (min m 300) ≠ (t.take (min n 300)).drop (min n 300 - 16) := by
    have := tagS_tagR key nonce ((t.take (min n 300)).take (min n 300 - 16)) (b.take (min m 300))
    rw [lb] at this
    rw [this]; exact h12
  simp only [min300, Int.toNat_natCast, List.drop_zero, flat1, et, eb, lt, lb]
  generalize t.take (min n 300) = T at *
  generalize b.take (min m 300) = B at *
  and_intros
  all_goals try exact True.intro
  all_goals try with_reducible assumption
  all_goals try omega
  all_goals try with_reducible rfl
  all_goals kernel_rfl
set_option maxHeartbeats 8000000 in
theorem lwLOpensT (key nonce : List Int) (n : Nat) (t : List Int) (m : Nat) (b : List Int) (h1 : key.length = 32) (h2 : nonce.length = 12) (h3 : t.length = n) (h4 : n ≤ 140737488355328) (h5 : b.length = m) (h6 : m ≤ 140737488355328) (h7 : Bys key) (h8 : Bys nonce) (h9 : Bys t) (h10 : Bys b) (h11 : 16 ≤ n) (h12 : tagR key nonce ((t.take (min n 300)).take (min n 300 - 16)) (b.take (min m 300)) ≠ (t.take (min n 300)).drop (min n 300 - 16)) {W : World} {vs : List Value} (hD : All2 (DA (cxL W ([])) be0) (kLOpensT (key, nonce, n, t, m, b)).avs vs) : Calls Try.prog 8 vs.toArray W (fun e W' => e = .returned (.bool true) ∧ Upd (fun _ => False) W W') :=
  law_calls (F := FLOpensT) (fn := Try.f8) (c := Try.f8.body.getD .skip) (k := kLOpensT (key, nonce, n, t, m, b)) rfl (evOKs ⟨.inl ⟨cOpens_ok, by kernel_rfl, gl_nil rfl⟩, ⟨.inl ⟨cAOpenT_ok, by kernel_rfl, gl_nil rfl⟩, ⟨.inl ⟨cSOpenT_ok, by kernel_rfl, gl_nil rfl⟩, trivial⟩⟩⟩) mixed rfl (fun _ _ h => by cases h) Try.func8 (by kernel_rfl) rfl rfl hD (by kernel_rfl) (by with_reducible exact wpLOpensT key nonce n t m b h1 h2 h3 h4 h5 h6 h7 h8 h9 h10 h11 h12)
def kLOpensS : (List Int) × (List Int) × Nat × (List Int) × Nat × (List Int) → ClN := fun (key, nonce, n, t, m, b) => ⟨[.o (.g [.many 32 (.i .u8 key), .many 12 (.i .u8 nonce)]), .o (.c (.rs 1 n (.i .u8 t))), .o (.c (.rs 1 m (.i .u8 b)))], [], vv (.bool true), [], [], [t.length = n, b.length = m, m ≤ 140737488355328, Bys t, Bys b, n < 16]⟩
noncomputable def FLOpensS : FnE := ⟨mkEv Try.prog [] [cOpens, cAOpenS, cSOpenS] 0 fcLS, [0, 1, 2, 3, 6, 7, 8, 9, 10, 12], fun _ _ => .rounds 0⟩
theorem vcLOpensS (key nonce : List Int) (n : Nat) (t : List Int) (m : Nat) (b : List Int) : (wpE FLOpensS (Try.f8.body.getD .skip) ⟨Try.f8.ntmps, slotsOf 0 (kLOpensS (key, nonce, n, t, m, b)).avs, (kLOpensS (key, nonce, n, t, m, b)).mem⟩ (finK Try.prog Try.f8.results.toList (postN (kLOpensS (key, nonce, n, t, m, b))))) = (let x1 := if (300 : Int) < (↑n : Int) then (300 : Int) else (↑n : Int); let x2 := if (300 : Int) < (↑m : Int) then (300 : Int) else (↑m : Int); let x3 := List.take (Int.toNat x1) (List.drop (0 : Nat) t); let x4 := List.take (Int.toNat x2) (List.drop (0 : Nat) b); let x5 := [x4]; let x6 := bstr x3; let x7 := strL x6; let x8 := bstr x4; let x9 := strL x8; true = true ∧ (0 : Int) ≤ x1 ∧ Int.toNat x1 ≤ n ∧ (0 : Int) ≤ x2 ∧ Int.toNat x2 ≤ m ∧ true = true ∧ (32 : Nat) = (32 : Nat) ∧ key = key ∧ (12 : Nat) = (12 : Nat) ∧ nonce = nonce ∧ true = true ∧ Int.toNat x1 = Int.toNat x1 ∧ x3 = x3 ∧ true = true ∧ x5 = x5 ∧ (1 : Nat) = (1 : Nat) ∧ List.length x3 = Int.toNat x1 ∧ Int.toNat x1 < (16 : Nat) ∧ List.length (List.flatten x5) ≤ (1048576 : Nat) ∧ (1 : Nat) ≤ (16777216 : Nat) ∧ true = true ∧ (32 : Nat) = (32 : Nat) ∧ key = key ∧ (12 : Nat) = (12 : Nat) ∧ nonce = nonce ∧ Value.string x6 = Value.string (bstr x7) ∧ Value.string x8 = Value.string (bstr x9) ∧ List.length x9 ≤ (1048576 : Nat) ∧ List.length x7 < (16 : Nat) ∧ true = true ∧ true = true ∧ true = true ∧ (52 : Nat) = (52 : Nat) ∧ (bif true then Value.bool (decide ((111 : Int) = (111 : Int))) else Value.bool false) = Value.bool true) := by kernel_rfl

set_option maxHeartbeats 8000000 in
theorem wpLOpensS (key nonce : List Int) (n : Nat) (t : List Int) (m : Nat) (b : List Int) (h1 : t.length = n) (h2 : b.length = m) (h3 : m ≤ 140737488355328) (h4 : Bys t) (h5 : Bys b) (h6 : n < 16) : wpE FLOpensS (Try.f8.body.getD .skip) ⟨Try.f8.ntmps, slotsOf 0 (kLOpensS (key, nonce, n, t, m, b)).avs, (kLOpensS (key, nonce, n, t, m, b)).mem⟩ (finK Try.prog Try.f8.results.toList (postN (kLOpensS (key, nonce, n, t, m, b)))) := by
  with_reducible refine Eq.mpr (vcLOpensS key nonce n t m b) ?_
  have bt : Bys (t.take (min n 300)) := h4.take _
  have bb : Bys (b.take (min m 300)) := h5.take _
  have lt : (t.take (min n 300)).length = min n 300 := by rw [List.length_take]; omega
  have lb : (b.take (min m 300)).length = min m 300 := by rw [List.length_take]; omega
  have et := strL_bstr bt
  have eb := strL_bstr bb
  simp only [min300, Int.toNat_natCast, List.drop_zero, flat1, et, eb, lt, lb]
  generalize t.take (min n 300) = T at *
  generalize b.take (min m 300) = B at *
  and_intros
  all_goals try exact True.intro
  all_goals try with_reducible assumption
  all_goals try omega
  all_goals try with_reducible rfl
  all_goals kernel_rfl
set_option maxHeartbeats 8000000 in
theorem lwLOpensS (key nonce : List Int) (n : Nat) (t : List Int) (m : Nat) (b : List Int) (h1 : t.length = n) (h2 : b.length = m) (h3 : m ≤ 140737488355328) (h4 : Bys t) (h5 : Bys b) (h6 : n < 16) {W : World} {vs : List Value} (hD : All2 (DA (cxL W ([])) be0) (kLOpensS (key, nonce, n, t, m, b)).avs vs) : Calls Try.prog 8 vs.toArray W (fun e W' => e = .returned (.bool true) ∧ Upd (fun _ => False) W W') :=
  law_calls (F := FLOpensS) (fn := Try.f8) (c := Try.f8.body.getD .skip) (k := kLOpensS (key, nonce, n, t, m, b)) rfl (evOKs ⟨.inl ⟨cOpens_ok, by kernel_rfl, gl_nil rfl⟩, ⟨.inl ⟨cAOpenS_ok, by kernel_rfl, gl_nil rfl⟩, ⟨.inl ⟨cSOpenS_ok, by kernel_rfl, gl_nil rfl⟩, trivial⟩⟩⟩) mixed rfl (fun _ _ h => by cases h) Try.func8 (by kernel_rfl) rfl rfl hD (by kernel_rfl) (by with_reducible exact wpLOpensS key nonce n t m b h1 h2 h3 h4 h5 h6)
theorem aeadOpens_any (key nonce t b : List Int) (n m : Nat) (hk : key.length = 32) (hn : nonce.length = 12) (bk : Bys key) (bn : Bys nonce) (bt : Bys t) (bb : Bys b) (ht : t.length = n) (hb : b.length = m) (hnn : n ≤ 140737488355328) (hm : m ≤ 140737488355328) {W : World} {v w : Value}
    (hv : DA (cxL W []) be0 (.o (.c (.rs 1 n (.i .u8 t)))) v) (hw : DA (cxL W []) be0 (.o (.c (.rs 1 m (.i .u8 b)))) w) : Calls Try.prog 8 #[.agg ((key ++ nonce).map (Value.int .u8)).toArray, v, w] W (fun e W' => e = .returned (.bool true) ∧ Upd (fun _ => False) W W') := by
  by_cases h16 : 16 ≤ n
  · by_cases hq : tagR key nonce ((t.take (min n 300)).take (min n 300 - 16)) (b.take (min m 300)) = (t.take (min n 300)).drop (min n 300 - 16)
    · exact lwLOpensA key nonce n t m b hk hn ht hnn hb hm bk bn bt bb h16 hq (vs := [_, _, _]) ⟨da_two hk hn, hv, hw, trivial⟩
    · exact lwLOpensT key nonce n t m b hk hn ht hnn hb hm bk bn bt bb h16 hq (vs := [_, _, _]) ⟨da_two hk hn, hv, hw, trivial⟩
  · exact lwLOpensS key nonce n t m b ht hb hm bt bb (by omega) (vs := [_, _, _]) ⟨da_two hk hn, hv, hw, trivial⟩
end Go.Proofs.Ythlleheeghiljaa
