/-
  aead: AeadTells.
-/
import Derived.Test.YtdbgnkmmjjgbpaaA3
namespace Go.Proofs.Ytdbgnkmmjjgbpaa
open Go.RowKit
set_option maxRecDepth 100000

theorem bstr_eq {a b : List Int} (ha : Bys a) (hb : Bys b) : strEq (bstr a) (bstr b) = decide (a = b) := by
  have key : ∀ {l : List Int}, Bys l → (l.map fun n => UInt8.ofNat n.toNat).map (fun u => (u.toNat : Int)) = l := by
    intro l hl
    rw [List.map_map]
    conv => rhs; rw [← List.map_id l]
    refine List.map_congr_left fun x hx => ?_
    have := hl x hx
    show ((UInt8.ofNat x.toNat).toNat : Int) = x
    rw [UInt8.toNat_ofNat']
    omega
  unfold strEq
  rw [ByteArray.toList_eq, ByteArray.toList_eq]
  show ((a.map fun n => UInt8.ofNat n.toNat) == (b.map fun n => UInt8.ofNat n.toNat)) = _
  by_cases h : a = b
  · subst h; simp
  · rw [decide_eq_false h]
    simp only [beq_eq_false_iff_ne, ne_eq]
    intro e
    apply h
    rw [← key ha, ← key hb, e]
def fcTellS (d : Nat) : Option Bool := bif Nat.beq d 27 then some false else bif Nat.beq d 37 || Nat.beq d 53 || Nat.beq d 60 then some true else none
def fcTellN (d : Nat) : Option Bool := bif Nat.beq d 27 || Nat.beq d 37 then some false else bif Nat.beq d 67 || Nat.beq d 72 then some true else none
def kTellS : (List Int) × (List Int) × Nat × (List Int) × (List Int) → ClN := fun (key, nonce, n, t, s) => ⟨[.o (.g [.many 32 (.i .u8 key), .many 12 (.i .u8 nonce)]), .o (.c (.rs 1 n (.i .u8 t))), .o (.g [.many 16 (.i .u8 s)])], [], vv (.bool true), [], [], [key.length = 32, nonce.length = 12, t.length = n, n ≤ 140737488355328, Bys t, s.length = 16, Bys s, tagS key nonce [] (mixA key nonce 1 (t.take (min n 1000))) 0 = s]⟩
noncomputable def FTellS : FnE := ⟨mkEv Try.prog [] [cASeal, cAOpen, cOpens] 0 fcTellS, [0, 1, 2, 3, 5, 6, 7, 8, 9, 10, 11, 12, 14, 27], fun _ _ => .rounds 0⟩
theorem vcTellS (key nonce : List Int) (n : Nat) (t s : List Int) : (wpE FTellS (Try.f11.body.getD .skip) ⟨Try.f11.ntmps, slotsOf 0 (kTellS (key, nonce, n, t, s)).avs, (kTellS (key, nonce, n, t, s)).mem⟩ (finK Try.prog Try.f11.results.toList (postN (kTellS (key, nonce, n, t, s))))) = (let x1 := if (1000 : Int) < (↑n : Int) then (1000 : Int) else (↑n : Int); let x2 := List.take (Int.toNat x1) (List.drop (0 : Nat) t); let x3 := IntKind.wrap IntKind.i64 ((↑(Int.toNat x1 + (16 : Nat)) : Int) - (16 : Int)); let x4 := sealT key nonce [] x2; let x5 := List.take (16 : Nat) (List.drop (0 : Nat) s); let x6 := [] ++ List.take (Int.toNat x3) (List.drop (0 : Nat) x4); let x7 := x6 ++ x5; let x8 := List.take ((0 : Nat) + Int.toNat x3 + (16 : Nat) - (16 : Nat)) x7; let x9 := mixA key nonce (1 : Int) x8; true = true ∧ (0 : Int) ≤ x1 ∧ Int.toNat x1 ≤ n ∧ true = true ∧ (32 : Nat) = (32 : Nat) ∧ key = key ∧ (12 : Nat) = (12 : Nat) ∧ nonce = nonce ∧ true = true ∧ Int.toNat x1 = Int.toNat x1 ∧ x2 = x2 ∧ true = true ∧ nilSS = [] ∧ List.length x2 = Int.toNat x1 ∧ Int.toNat x1 ≤ (1048576 : Nat) ∧ (0 : Nat) ≤ (1048576 : Nat) ∧ (0 : Nat) ≤ (16777216 : Nat) ∧ List.length key = (32 : Nat) ∧ List.length nonce = (12 : Nat) ∧ false = false ∧ (0 : Int) ≤ x3 ∧ Int.toNat x3 ≤ Int.toNat x1 + (16 : Nat) ∧ Int.toNat x3 + (Int.toNat x1 + (16 : Nat) - Int.toNat x3) ≤ List.length x4 ∧ (16 : Nat) ≤ (9223372036854775807 : Nat) ∧ (16 : Nat) ≤ (16 : Nat) ∧ strEq (bstr (List.take (Int.toNat x1 + (16 : Nat) - Int.toNat x3) (List.drop (Int.toNat x3) x4))) (bstr x5) = true ∧ (0 : Int) ≤ x3 ∧ Int.toNat x3 ≤ Int.toNat x1 + (16 : Nat) ∧ (0 : Nat) + Int.toNat x3 ≤ List.length x4 ∧ (0 : Nat) = (0 : Nat) ∧ ((0 : Nat) + Int.toNat x3) * (1 : Nat) ≤ (140737488355328 : Nat) ∧ (0 : Nat) + Int.toNat x3 ≤ (9223372036854775807 : Nat) ∧ (16 : Nat) ≤ (9223372036854775807 : Nat) ∧ (16 : Nat) ≤ (16 : Nat) ∧ List.length x6 = (0 : Nat) + Int.toNat x3 ∧ ((0 : Nat) + Int.toNat x3 + (16 : Nat)) * (1 : Nat) ≤ (140737488355328 : Nat) ∧ (0 : Nat) + Int.toNat x3 + (16 : Nat) ≤ (9223372036854775807 : Nat) ∧ true = true ∧ (32 : Nat) = (32 : Nat) ∧ key = key ∧ (12 : Nat) = (12 : Nat) ∧ nonce = nonce ∧ true = true ∧ (0 : Nat) + Int.toNat x3 + (16 : Nat) = (0 : Nat) + Int.toNat x3 + (16 : Nat) ∧ x7 = x7 ∧ List.length x7 = (0 : Nat) + Int.toNat x3 + (16 : Nat) ∧ true = true ∧ nilSS = [] ∧ List.length x7 = (0 : Nat) + Int.toNat x3 + (16 : Nat) ∧ (0 : Nat) + Int.toNat x3 + (16 : Nat) ≤ (1048592 : Nat) ∧ (0 : Nat) ≤ (1048576 : Nat) ∧ (0 : Nat) ≤ (16777216 : Nat) ∧ List.length key = (32 : Nat) ∧ List.length nonce = (12 : Nat) ∧ (16 : Nat) ≤ (0 : Nat) + Int.toNat x3 + (16 : Nat) ∧ Bys x7 ∧ tagS key nonce [] x8 (0 : Nat) = List.drop ((0 : Nat) + Int.toNat x3 + (16 : Nat) - (16 : Nat)) x7 ∧ decide ((0 : Int) = (0 : Int)) = true ∧ List.length x9 = (0 : Nat) + Int.toNat x3 + (16 : Nat) - (16 : Nat) ∧ strEq (bstr x9) (bstr x2) = true ∧ true = true ∧ true = true ∧ (75 : Nat) = (75 : Nat) ∧ (bif true then Value.bool true else undef) = Value.bool true) := by kernel_rfl

set_option maxHeartbeats 8000000 in
theorem wpTellS (key nonce : List Int) (n : Nat) (t s : List Int) (h1 : key.length = 32) (h2 : nonce.length = 12) (h3 : t.length = n) (h4 : n ≤ 140737488355328) (h5 : Bys t) (h6 : s.length = 16) (h7 : Bys s) (h8 : tagS key nonce [] (mixA key nonce 1 (t.take (min n 1000))) 0 = s) : wpE FTellS (Try.f11.body.getD .skip) ⟨Try.f11.ntmps, slotsOf 0 (kTellS (key, nonce, n, t, s)).avs, (kTellS (key, nonce, n, t, s)).mem⟩ (finK Try.prog Try.f11.results.toList (postN (kTellS (key, nonce, n, t, s)))) := by
  with_reducible refine Eq.mpr (vcTellS key nonce n t s) ?_
  have hx : ∀ k : Nat, (if (1000 : Int) < (k : Int) then (1000 : Int) else (k : Int)) = ((min k 1000 : Nat) : Int) := fun k => by split <;> omega
  intro x1 x2 x3 x4 x5 x6 x7 x8 x9
  have e1 : x1 = ((min n 1000 : Nat) : Int) := hx n
  have e1' : x1.toNat = min n 1000 := by rw [e1]; exact Int.toNat_natCast _
  have l2 : x2.length = x1.toNat := by
    show (List.take _ (List.drop 0 t)).length = _
    rw [List.length_take, List.length_drop]; omega
  have b2 : Bys x2 := (h5.drop 0).take _
  have hx2 : x2 = t.take (min n 1000) := by
    show List.take x1.toNat (List.drop 0 t) = _
    rw [e1', List.drop_zero]
  have e3 : x3 = ((x1.toNat : Nat) : Int) := by
    show IntKind.wrap .i64 (((x1.toNat + 16 : Nat) : Int) - 16) = _
    rw [IntKind.wrap_i64]; omega
  have e3' : x3.toNat = x1.toNat := by rw [e3]; exact Int.toNat_natCast _
  rw [← hx2] at h8
  have lm : (mixA key nonce 1 x2).length = x1.toNat := by rw [mixA_len, l2]
  have bm : Bys (mixA key nonce 1 x2) := mixA_bys
  have bT := tagS_bys key nonce [] (mixA key nonce 1 x2) 0
  have e4 : x4 = mixA key nonce 1 x2 ++ tagS key nonce [] (mixA key nonce 1 x2) 0 := rfl
  generalize hT : tagS key nonce [] (mixA key nonce 1 x2) 0 = T at *
  have l4 : x4.length = x1.toNat + 16 := by rw [e4, List.length_append, lm, bT.2]
  have d4 : List.take (x1.toNat + 16 - x3.toNat) (List.drop x3.toNat x4) = T := by
    rw [e3', e4, List.drop_left' lm]
    exact List.take_of_length_le (by rw [bT.2]; omega)
  have e5 : x5 = s := by
    show List.take 16 (List.drop 0 s) = s
    exact List.take_of_length_le (by rw [List.drop_zero]; omega)
  have e6 : x6 = mixA key nonce 1 x2 := by
    show List.take x3.toNat (List.drop 0 x4) = _
    rw [e3', e4, List.drop_zero]
    exact List.take_left' lm
  have e7 : x7 = mixA key nonce 1 x2 ++ s := by show x6 ++ x5 = _; rw [e6, e5]
  have l7 : x7.length = x1.toNat + 16 := by rw [e7, List.length_append, lm, h6]
  have b7 : Bys x7 := by
    rw [e7]
    intro y hy
    rcases List.mem_append.1 hy with hy | hy
    · exact bm y hy
    · exact h7 y hy
  have t7 : List.take (0 + x3.toNat + 16 - 16) x7 = mixA key nonce 1 x2 := by rw [e7, e3']; exact List.take_left' (by omega)
  have d7 : List.drop (0 + x3.toNat + 16 - 16) x7 = s := by rw [e7, e3']; exact List.drop_left' (by omega)
  have l6 : x6.length = x1.toNat := by rw [e6, lm]
  have e9 : x9 = x2 := by show mixA key nonce 1 x8 = _; rw [show x8 = mixA key nonce 1 x2 from t7, mixA_back _ _ _ b2]
  have e8 : x8 = mixA key nonce 1 x2 := t7
  have g1 : strEq (bstr (List.take (x1.toNat + 16 - x3.toNat) (List.drop x3.toNat x4))) (bstr x5) = true := by rw [d4, e5, h8]; exact strEq_refl _
  have g2 : strEq (bstr x9) (bstr x2) = true := by rw [e9]; exact strEq_refl _
  have g3 : tagS key nonce [] x8 0 = List.drop (0 + x3.toNat + 16 - 16) x7 := by rw [d7, e8, hT, h8]
  have l9 : x9.length = x1.toNat := by rw [e9, l2]
  clear_value x9 x8 x7 x6 x5 x4 x3 x2 x1
  and_intros <;> first | omega | exact True.intro | with_reducible assumption | with_reducible rfl | kernel_rfl
set_option maxHeartbeats 8000000 in
theorem lwTellS (key nonce : List Int) (n : Nat) (t s : List Int) (h1 : key.length = 32) (h2 : nonce.length = 12) (h3 : t.length = n) (h4 : n ≤ 140737488355328) (h5 : Bys t) (h6 : s.length = 16) (h7 : Bys s) (h8 : tagS key nonce [] (mixA key nonce 1 (t.take (min n 1000))) 0 = s) {W : World} {vs : List Value} (hD : All2 (DA (cxL W ([])) be0) (kTellS (key, nonce, n, t, s)).avs vs) : Calls Try.prog 11 vs.toArray W (fun e W' => e = .returned (.bool true) ∧ Upd (fun _ => False) W W') :=
  law_calls (F := FTellS) (fn := Try.f11) (c := Try.f11.body.getD .skip) (k := kTellS (key, nonce, n, t, s)) rfl (evOKs ⟨.inl ⟨cASeal_ok, by kernel_rfl, gl_nil rfl⟩, ⟨.inl ⟨cAOpen_ok, by kernel_rfl, gl_nil rfl⟩, ⟨.inl ⟨cOpens_ok, by kernel_rfl, gl_nil rfl⟩, trivial⟩⟩⟩) mixed rfl (fun _ _ h => by cases h) Try.func11 (by kernel_rfl) rfl rfl hD (by kernel_rfl) (by with_reducible exact wpTellS key nonce n t s h1 h2 h3 h4 h5 h6 h7 h8)

def kTellN : (List Int) × (List Int) × Nat × (List Int) × (List Int) → ClN := fun (key, nonce, n, t, s) => ⟨[.o (.g [.many 32 (.i .u8 key), .many 12 (.i .u8 nonce)]), .o (.c (.rs 1 n (.i .u8 t))), .o (.g [.many 16 (.i .u8 s)])], [], vv (.bool true), [], [], [key.length = 32, nonce.length = 12, t.length = n, n ≤ 140737488355328, Bys t, s.length = 16, Bys s, tagS key nonce [] (mixA key nonce 1 (t.take (min n 1000))) 0 ≠ s]⟩
noncomputable def FTellN : FnE := ⟨mkEv Try.prog [] [cASeal, cAOpenT, cOpens] 0 fcTellN, [0, 1, 2, 3, 5, 6, 7, 8, 9, 10, 11, 12, 14, 27], fun _ _ => .rounds 0⟩
theorem vcTellN (key nonce : List Int) (n : Nat) (t s : List Int) : (wpE FTellN (Try.f11.body.getD .skip) ⟨Try.f11.ntmps, slotsOf 0 (kTellN (key, nonce, n, t, s)).avs, (kTellN (key, nonce, n, t, s)).mem⟩ (finK Try.prog Try.f11.results.toList (postN (kTellN (key, nonce, n, t, s))))) = (let x1 := if (1000 : Int) < (↑n : Int) then (1000 : Int) else (↑n : Int); let x2 := List.take (Int.toNat x1) (List.drop (0 : Nat) t); let x3 := IntKind.wrap IntKind.i64 ((↑(Int.toNat x1 + (16 : Nat)) : Int) - (16 : Int)); let x4 := sealT key nonce [] x2; let x5 := List.take (16 : Nat) (List.drop (0 : Nat) s); let x6 := [] ++ List.take (Int.toNat x3) (List.drop (0 : Nat) x4); let x7 := x6 ++ x5; true = true ∧ (0 : Int) ≤ x1 ∧ Int.toNat x1 ≤ n ∧ true = true ∧ (32 : Nat) = (32 : Nat) ∧ key = key ∧ (12 : Nat) = (12 : Nat) ∧ nonce = nonce ∧ true = true ∧ Int.toNat x1 = Int.toNat x1 ∧ x2 = x2 ∧ true = true ∧ nilSS = [] ∧ List.length x2 = Int.toNat x1 ∧ Int.toNat x1 ≤ (1048576 : Nat) ∧ (0 : Nat) ≤ (1048576 : Nat) ∧ (0 : Nat) ≤ (16777216 : Nat) ∧ List.length key = (32 : Nat) ∧ List.length nonce = (12 : Nat) ∧ false = false ∧ (0 : Int) ≤ x3 ∧ Int.toNat x3 ≤ Int.toNat x1 + (16 : Nat) ∧ Int.toNat x3 + (Int.toNat x1 + (16 : Nat) - Int.toNat x3) ≤ List.length x4 ∧ (16 : Nat) ≤ (9223372036854775807 : Nat) ∧ (16 : Nat) ≤ (16 : Nat) ∧ strEq (bstr (List.take (Int.toNat x1 + (16 : Nat) - Int.toNat x3) (List.drop (Int.toNat x3) x4))) (bstr x5) = false ∧ (0 : Int) ≤ x3 ∧ Int.toNat x3 ≤ Int.toNat x1 + (16 : Nat) ∧ (0 : Nat) + Int.toNat x3 ≤ List.length x4 ∧ (0 : Nat) = (0 : Nat) ∧ ((0 : Nat) + Int.toNat x3) * (1 : Nat) ≤ (140737488355328 : Nat) ∧ (0 : Nat) + Int.toNat x3 ≤ (9223372036854775807 : Nat) ∧ (16 : Nat) ≤ (9223372036854775807 : Nat) ∧ (16 : Nat) ≤ (16 : Nat) ∧ List.length x6 = (0 : Nat) + Int.toNat x3 ∧ ((0 : Nat) + Int.toNat x3 + (16 : Nat)) * (1 : Nat) ≤ (140737488355328 : Nat) ∧ (0 : Nat) + Int.toNat x3 + (16 : Nat) ≤ (9223372036854775807 : Nat) ∧ true = true ∧ (32 : Nat) = (32 : Nat) ∧ key = key ∧ (12 : Nat) = (12 : Nat) ∧ nonce = nonce ∧ true = true ∧ (0 : Nat) + Int.toNat x3 + (16 : Nat) = (0 : Nat) + Int.toNat x3 + (16 : Nat) ∧ x7 = x7 ∧ List.length x7 = (0 : Nat) + Int.toNat x3 + (16 : Nat) ∧ true = true ∧ nilSS = [] ∧ List.length x7 = (0 : Nat) + Int.toNat x3 + (16 : Nat) ∧ (0 : Nat) + Int.toNat x3 + (16 : Nat) ≤ (1048592 : Nat) ∧ (0 : Nat) ≤ (1048576 : Nat) ∧ (0 : Nat) ≤ (16777216 : Nat) ∧ List.length key = (32 : Nat) ∧ List.length nonce = (12 : Nat) ∧ (16 : Nat) ≤ (0 : Nat) + Int.toNat x3 + (16 : Nat) ∧ Bys x7 ∧ tagS key nonce [] (List.take ((0 : Nat) + Int.toNat x3 + (16 : Nat) - (16 : Nat)) x7) (0 : Nat) ≠ List.drop ((0 : Nat) + Int.toNat x3 + (16 : Nat) - (16 : Nat)) x7 ∧ decide ((100 : Int) = (100 : Int)) = true ∧ decide ((0 : Int) = (0 : Int)) = true ∧ true = true ∧ true = true ∧ (75 : Nat) = (75 : Nat) ∧ (bif false then Value.bool true else bif true then Value.bool true else Value.bool false) = Value.bool true) := by kernel_rfl

set_option maxHeartbeats 8000000 in
theorem wpTellN (key nonce : List Int) (n : Nat) (t s : List Int) (h1 : key.length = 32) (h2 : nonce.length = 12) (h3 : t.length = n) (h4 : n ≤ 140737488355328) (h5 : Bys t) (h6 : s.length = 16) (h7 : Bys s) (h8 : tagS key nonce [] (mixA key nonce 1 (t.take (min n 1000))) 0 ≠ s) : wpE FTellN (Try.f11.body.getD .skip) ⟨Try.f11.ntmps, slotsOf 0 (kTellN (key, nonce, n, t, s)).avs, (kTellN (key, nonce, n, t, s)).mem⟩ (finK Try.prog Try.f11.results.toList (postN (kTellN (key, nonce, n, t, s)))) := by
  with_reducible refine Eq.mpr (vcTellN key nonce n t s) ?_
  have hx : ∀ k : Nat, (if (1000 : Int) < (k : Int) then (1000 : Int) else (k : Int)) = ((min k 1000 : Nat) : Int) := fun k => by split <;> omega
  intro x1 x2 x3 x4 x5 x6 x7
  have e1 : x1 = ((min n 1000 : Nat) : Int) := hx n
  have e1' : x1.toNat = min n 1000 := by rw [e1]; exact Int.toNat_natCast _
  have l2 : x2.length = x1.toNat := by
    show (List.take _ (List.drop 0 t)).length = _
    rw [List.length_take, List.length_drop]; omega
  have b2 : Bys x2 := (h5.drop 0).take _
  have hx2 : x2 = t.take (min n 1000) := by
    show List.take x1.toNat (List.drop 0 t) = _
    rw [e1', List.drop_zero]
  have e3 : x3 = ((x1.toNat : Nat) : Int) := by
    show IntKind.wrap .i64 (((x1.toNat + 16 : Nat) : Int) - 16) = _
    rw [IntKind.wrap_i64]; omega
  have e3' : x3.toNat = x1.toNat := by rw [e3]; exact Int.toNat_natCast _
  rw [← hx2] at h8
  have lm : (mixA key nonce 1 x2).length = x1.toNat := by rw [mixA_len, l2]
  have bm : Bys (mixA key nonce 1 x2) := mixA_bys
  have bT := tagS_bys key nonce [] (mixA key nonce 1 x2) 0
  have e4 : x4 = mixA key nonce 1 x2 ++ tagS key nonce [] (mixA key nonce 1 x2) 0 := rfl
  generalize hT : tagS key nonce [] (mixA key nonce 1 x2) 0 = T at *
  have l4 : x4.length = x1.toNat + 16 := by rw [e4, List.length_append, lm, bT.2]
  have d4 : List.take (x1.toNat + 16 - x3.toNat) (List.drop x3.toNat x4) = T := by
    rw [e3', e4, List.drop_left' lm]
    exact List.take_of_length_le (by rw [bT.2]; omega)
  have e5 : x5 = s := by
    show List.take 16 (List.drop 0 s) = s
    exact List.take_of_length_le (by rw [List.drop_zero]; omega)
  have e6 : x6 = mixA key nonce 1 x2 := by
    show List.take x3.toNat (List.drop 0 x4) = _
    rw [e3', e4, List.drop_zero]
    exact List.take_left' lm
  have e7 : x7 = mixA key nonce 1 x2 ++ s := by show x6 ++ x5 = _; rw [e6, e5]
  have l7 : x7.length = x1.toNat + 16 := by rw [e7, List.length_append, lm, h6]
  have b7 : Bys x7 := by
    rw [e7]
    intro y hy
    rcases List.mem_append.1 hy with hy | hy
    · exact bm y hy
    · exact h7 y hy
  have t7 : List.take (0 + x3.toNat + 16 - 16) x7 = mixA key nonce 1 x2 := by rw [e7, e3']; exact List.take_left' (by omega)
  have d7 : List.drop (0 + x3.toNat + 16 - 16) x7 = s := by rw [e7, e3']; exact List.drop_left' (by omega)
  have l6 : x6.length = x1.toNat := by rw [e6, lm]
  have g1 : strEq (bstr (List.take (x1.toNat + 16 - x3.toNat) (List.drop x3.toNat x4))) (bstr x5) = false := by rw [d4, e5, bstr_eq bT.1 h7, decide_eq_false h8]
  have g3 : tagS key nonce [] (List.take (0 + x3.toNat + 16 - 16) x7) 0 ≠ List.drop (0 + x3.toNat + 16 - 16) x7 := by rw [d7, t7, hT]; exact h8
  clear_value x7 x6 x5 x4 x3 x2 x1
  and_intros <;> first | omega | exact True.intro | with_reducible assumption | with_reducible rfl | kernel_rfl
set_option maxHeartbeats 8000000 in
theorem lwTellN (key nonce : List Int) (n : Nat) (t s : List Int) (h1 : key.length = 32) (h2 : nonce.length = 12) (h3 : t.length = n) (h4 : n ≤ 140737488355328) (h5 : Bys t) (h6 : s.length = 16) (h7 : Bys s) (h8 : tagS key nonce [] (mixA key nonce 1 (t.take (min n 1000))) 0 ≠ s) {W : World} {vs : List Value} (hD : All2 (DA (cxL W ([])) be0) (kTellN (key, nonce, n, t, s)).avs vs) : Calls Try.prog 11 vs.toArray W (fun e W' => e = .returned (.bool true) ∧ Upd (fun _ => False) W W') :=
  law_calls (F := FTellN) (fn := Try.f11) (c := Try.f11.body.getD .skip) (k := kTellN (key, nonce, n, t, s)) rfl (evOKs ⟨.inl ⟨cASeal_ok, by kernel_rfl, gl_nil rfl⟩, ⟨.inl ⟨cAOpenT_ok, by kernel_rfl, gl_nil rfl⟩, ⟨.inl ⟨cOpens_ok, by kernel_rfl, gl_nil rfl⟩, trivial⟩⟩⟩) mixed rfl (fun _ _ h => by cases h) Try.func11 (by kernel_rfl) rfl rfl hD (by kernel_rfl) (by with_reducible exact wpTellN key nonce n t s h1 h2 h3 h4 h5 h6 h7 h8)
theorem aeadTells_any (key nonce t s : List Int) (n : Nat) (hk : key.length = 32) (hn : nonce.length = 12) (ht : t.length = n) (hn2 : n ≤ 140737488355328) (hd : Bys t) (hs : s.length = 16) (hb : Bys s) {W : World} {v : Value}
    (hv : DA (cxL W []) be0 (.o (.c (.rs 1 n (.i .u8 t)))) v) : Calls Try.prog 11 #[.agg ((key ++ nonce).map (Value.int .u8)).toArray, v, .agg (s.map (Value.int .u8)).toArray] W (fun e W' => e = .returned (.bool true) ∧ Upd (fun _ => False) W W') := by
  by_cases h : tagS key nonce [] (mixA key nonce 1 (t.take (min n 1000))) 0 = s
  · exact lwTellS key nonce n t s hk hn ht hn2 hd hs hb h (vs := [_, _, _]) ⟨da_two hk hn, hv, da_arr hs, trivial⟩
  · exact lwTellN key nonce n t s hk hn ht hn2 hd hs hb h (vs := [_, _, _]) ⟨da_two hk hn, hv, da_arr hs, trivial⟩
end Go.Proofs.Ytdbgnkmmjjgbpaa
