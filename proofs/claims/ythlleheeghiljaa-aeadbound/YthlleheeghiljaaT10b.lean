/-
  aead beside the reference: AeadBound.
-/
import Derived.Test.YthlleheeghiljaaT10
namespace Go.Proofs.Ythlleheeghiljaa
open Go.RowKit
set_option maxRecDepth 100000

/-- The error's number of Open. -/
def codeS (key nonce : List Int) (ls : List (List Int)) (s : List Int) (n : Nat) : Int := if tagS key nonce ls (s.take (n - 16)) ls.flatten.length = s.drop (n - 16) then 0 else 100
def codeR (key nonce s b : List Int) : Int := if tagR key nonce (s.take (s.length - 16)) b = s.drop (s.length - 16) then 0 else 100
theorem codeS_eq (key nonce s b : List Int) : codeS key nonce [b] s s.length = codeR key nonce s b := by
  unfold codeS codeR
  rw [flat1, tagS_tagR]
def fcOpenQ (d : Nat) : Option Bool := bif Nat.beq d 16 || Nat.beq d 19 || Nat.beq d 23 then some false else none
def kAOpenQ : (List Int) × (List Int) × Nat × (List Int) × (List (List Int)) → ClN := fun (key, nonce, n, s, ls) => ⟨[.o (.g [.many 32 (.i .u8 key), .many 12 (.i .u8 nonce)]), .o (.c (.rs 1 n (.i .u8 s))), .o (.c (.rss ls))], [], .t [.c (.q (fun _ => True)), .c (.v (.int .i64 (codeS key nonce ls s n)))], [], [], [s.length = n, n ≤ 1048592, ls.flatten.length ≤ 1048576, ls.length ≤ 16777216, key.length = 32, nonce.length = 12, 16 ≤ n, Bys s]⟩
noncomputable def FAOpenQ : FnE := ⟨mkEv Try.prog [] [cATotal, cAMix, cATag, cEqual] 0 fcOpenQ, [0, 1, 2, 3, 6, 7, 8, 9, 10, 11, 20, 23, 42], fun _ _ => .rounds 0⟩
def mAOpenQ : List AV → (Nat → Option MB) → Option (List Nat × ((List Int) × (List Int) × Nat × (List Int) × (List (List Int))))
  | [.o (.g [.many 32 (.i .u8 key), .many 12 (.i .u8 nonce)]), .o (.c c), .o (.c d)], lk => match slI lk c with
    | some (n, t) => match slS lk d with
      | some ls => some ([], key, nonce, n, t, ls)
      | none => none
    | none => none
  | _, _ => none
noncomputable def cAOpenQ : Spec := callG 21 Try.f21.ntmps mAOpenQ kAOpenQ
theorem vcAOpenQ (key nonce : List Int) (n : Nat) (s : List Int) (ls : List (List Int)) : (wpE FAOpenQ (Try.f21.body.getD .skip) ⟨Try.f21.ntmps, slotsOf 0 (kAOpenQ (key, nonce, n, s, ls)).avs, (kAOpenQ (key, nonce, n, s, ls)).mem⟩ (finK Try.prog Try.f21.results.toList (postN (kAOpenQ (key, nonce, n, s, ls))))) = (let x1 := IntKind.wrap IntKind.i64 ((↑n : Int) - (16 : Int)); let x2 := List.take (Int.toNat x1) (List.drop (0 : Nat) s); let x3 := List.take (16 : Nat) (List.drop (0 : Nat) (tagS key nonce ls x2 (Int.toNat (↑(totA (1048576 : Nat) (0 : Nat) ls) : Int)))); let x4 := List.take (n - Int.toNat x1) (List.drop (Int.toNat x1) s); true = true ∧ true = true ∧ ls = ls ∧ (∀ (l : List Int), l ∈ ls → List.length l ≤ (140737488355328 : Nat)) ∧ List.length ls ≤ (9223372036854775807 : Nat) ∧ decide ((1048592 : Int) < (↑n : Int)) = false ∧ decide ((1048576 : Int) < (↑(totA (1048576 : Nat) (0 : Nat) ls) : Int)) = false ∧ decide ((↑n : Int) < (16 : Int)) = false ∧ (0 : Int) ≤ x1 ∧ Int.toNat x1 ≤ n ∧ (0 : Int) ≤ x1 ∧ Int.toNat x1 ≤ n ∧ true = true ∧ (32 : Nat) = (32 : Nat) ∧ key = key ∧ (12 : Nat) = (12 : Nat) ∧ nonce = nonce ∧ true = true ∧ Int.toNat x1 = Int.toNat x1 ∧ x2 = x2 ∧ true = true ∧ ls = ls ∧ Value.int IntKind.i64 (↑(totA (1048576 : Nat) (0 : Nat) ls) : Int) = Value.int IntKind.i64 (↑(Int.toNat (↑(totA (1048576 : Nat) (0 : Nat) ls) : Int)) : Int) ∧ List.length x2 = Int.toNat x1 ∧ Int.toNat x1 ≤ (16777216 : Nat) ∧ List.length key = (32 : Nat) ∧ List.length nonce = (12 : Nat) ∧ Int.toNat (↑(totA (1048576 : Nat) (0 : Nat) ls) : Int) ≤ (16777216 : Nat) ∧ List.length ls ≤ (16777216 : Nat) ∧ (16 : Nat) ≤ (9223372036854775807 : Nat) ∧ true = true ∧ true = true ∧ (16 : Nat) = (16 : Nat) ∧ x3 = x3 ∧ (16 : Nat) ≤ (16 : Nat) ∧ true = true ∧ n - Int.toNat x1 = n - Int.toNat x1 ∧ x4 = x4 ∧ (16 : Nat) = (16 : Nat) ∧ List.length x4 = n - Int.toNat x1 ∧ (16 : Nat) = n - Int.toNat x1 ∧ (16 : Nat) ≤ (140737488355328 : Nat) ∧ Bys x3 ∧ Bys x4 ∧ bif !decide (x3 = x4) then true = true ∧ true = true ∧ (46 : Nat) = (46 : Nat) ∧ True ∧ Value.int IntKind.i64 (100 : Int) = Value.int IntKind.i64 (codeS key nonce ls s n) else true = true ∧ (32 : Nat) = (32 : Nat) ∧ key = key ∧ (12 : Nat) = (12 : Nat) ∧ nonce = nonce ∧ true = true ∧ Int.toNat x1 = Int.toNat x1 ∧ x2 = x2 ∧ List.length x2 = Int.toNat x1 ∧ Int.toNat x1 ≤ (16777216 : Nat) ∧ List.length key = (32 : Nat) ∧ List.length nonce = (12 : Nat) ∧ true = true ∧ true = true ∧ (46 : Nat) = (46 : Nat) ∧ (∀ (_ : Value), True) ∧ Value.int IntKind.i64 (0 : Int) = Value.int IntKind.i64 (codeS key nonce ls s n)) := by kernel_rfl

set_option maxHeartbeats 8000000 in
theorem wpAOpenQ (key nonce : List Int) (n : Nat) (s : List Int) (ls : List (List Int)) (h1 : s.length = n) (h2 : n ≤ 1048592) (h3 : ls.flatten.length ≤ 1048576) (h4 : ls.length ≤ 16777216) (h5 : key.length = 32) (h6 : nonce.length = 12) (h7 : 16 ≤ n) (h8 : Bys s) : wpE FAOpenQ (Try.f21.body.getD .skip) ⟨Try.f21.ntmps, slotsOf 0 (kAOpenQ (key, nonce, n, s, ls)).avs, (kAOpenQ (key, nonce, n, s, ls)).mem⟩ (finK Try.prog Try.f21.results.toList (postN (kAOpenQ (key, nonce, n, s, ls)))) := by
  with_reducible refine Eq.mpr (vcAOpenQ key nonce n s ls) ?_
  have ht : totA 1048576 0 ls = ls.flatten.length := by rw [totA_le (by omega)]; omega
  have hx : IntKind.wrap .i64 ((n : Int) - 16) = ((n - 16 : Nat) : Int) := by rw [IntKind.wrap_i64]; omega
  have l4 : List.take (n - (n - 16)) (List.drop (n - 16) s) = List.drop (n - 16) s := List.take_of_length_le (by rw [List.length_drop]; omega)
  simp only [ht, hx, Int.toNat_natCast, List.drop_zero, l4, take16 (tagS_bys ..).2]
  have l2 : (List.take (n - 16) s).length = n - 16 := by rw [List.length_take]; omega
  have l3 : (List.drop (n - 16) s).length = n - (n - 16) := by rw [List.length_drop]; omega
  have b3 : Bys (List.drop (n - 16) s) := h8.drop _
  have b4 := (tagS_bys key nonce ls (List.take (n - 16) s) ls.flatten.length).1
  by_cases h9 : tagS key nonce ls (List.take (n - 16) s) ls.flatten.length = List.drop (n - 16) s
  · have ec : codeS key nonce ls s n = 0 := if_pos h9
    rw [ec, decide_eq_true h9]
    and_intros <;> first | omega | exact True.intro | with_reducible assumption | exact decide_eq_false (by omega) | (intro l hl; have := mem_flat l hl; omega) | with_reducible rfl | exact (fun _ => trivial) | kernel_rfl
  · have ec : codeS key nonce ls s n = 100 := if_neg h9
    rw [ec, decide_eq_false h9]
    and_intros <;> first | omega | exact True.intro | with_reducible assumption | exact decide_eq_false (by omega) | (intro l hl; have := mem_flat l hl; omega) | with_reducible rfl | kernel_rfl
set_option maxHeartbeats 8000000 in
theorem cAOpenQ_ok : SpecOK Try.prog cAOpenQ := by
  refine callG_ok (c := Try.f21.body.getD .skip) mixed Try.func21 (by kernel_rfl) rfl (fun x hob => ?_)
  obtain ⟨key, nonce, n, s, ls⟩ := x
  have hob : (s.length = n) ∧ (n ≤ 1048592) ∧ (ls.flatten.length ≤ 1048576) ∧ (ls.length ≤ 16777216) ∧ (key.length = 32) ∧ (nonce.length = 12) ∧ (16 ≤ n) ∧ (Bys s) := hob
  obtain ⟨h1, h2, h3, h4, h5, h6, h7, h8⟩ := hob
  exact ⟨FAOpenQ, rfl, evOKs ⟨.inl ⟨cATotal_ok, by kernel_rfl, gl_nil rfl⟩, ⟨.inl ⟨cAMix_ok, by kernel_rfl, gl_nil rfl⟩, ⟨.inl ⟨cATag_ok, by kernel_rfl, gl_nil rfl⟩, ⟨.inl ⟨cEqual_ok, by kernel_rfl, gl_nil rfl⟩, trivial⟩⟩⟩⟩, rfl, rfl, by with_reducible exact wpAOpenQ key nonce n s ls h1 h2 h3 h4 h5 h6 h7 h8⟩
def fcSQ (d : Nat) : Option Bool := bif Nat.beq d 15 || Nat.beq d 19 || Nat.beq d 22 then some false else none
def kSOpenQ : (List Int) × (List Int) × (List Int) × (List Int) → ClN := fun (key, n, s, b) => ⟨[.o (.g [.many 32 (.i .u8 key)]), .o (.g [.many 12 (.i .u8 n)]), vv (.string (bstr s)), vv (.string (bstr b))], [], .t [.c (.q (fun _ => True)), .c (.v (.int .i64 (codeR key n s b)))], [], [], [key.length = 32, n.length = 12, Bys key, Bys n, Bys s, Bys b, s.length ≤ 1048592, b.length ≤ 1048576, 16 ≤ s.length]⟩
noncomputable def FSOpenQ : FnE := ⟨mkEv Try.prog [] [cSMix, cSTag] 0 fcSQ, [0, 1, 2, 3, 4, 5, 8, 9, 10, 20, 22, 33], fun _ _ => .rounds 0⟩
def mSOpenQ : List AV → (Nat → Option MB) → Option (List Nat × ((List Int) × (List Int) × (List Int) × (List Int)))
  | [.o (.g [.many 32 (.i .u8 key)]), .o (.g [.many 12 (.i .u8 n)]), .o (.c (.v (.string s))), .o (.c (.v (.string t)))], _ => some ([], key, n, strL s, strL t)
  | _, _ => none
noncomputable def cSOpenQ : Spec := callG 22 Try.f22.ntmps mSOpenQ kSOpenQ
theorem vcSOpenQ (key n s b : List Int) : (wpE FSOpenQ (Try.f22.body.getD .skip) ⟨Try.f22.ntmps, slotsOf 0 (kSOpenQ (key, n, s, b)).avs, (kSOpenQ (key, n, s, b)).mem⟩ (finK Try.prog Try.f22.results.toList (postN (kSOpenQ (key, n, s, b))))) = (let x1 := IntKind.wrap IntKind.i64 ((↑(ByteArray.size (bstr s)) : Int) - (16 : Int)); let x2 := ByteArray.extract (bstr s) (0 : Nat) (Int.toNat x1); let x3 := strL x2; decide ((1048576 : Int) < x1) = false ∧ decide ((1048576 : Int) < (↑(ByteArray.size (bstr b)) : Int)) = false ∧ decide (x1 < (0 : Int)) = false ∧ (0 : Int) ≤ x1 ∧ Int.toNat x1 ≤ ByteArray.size (bstr s) ∧ true = true ∧ (32 : Nat) = (32 : Nat) ∧ key = key ∧ (12 : Nat) = (12 : Nat) ∧ n = n ∧ Value.string x2 = Value.string (bstr x3) ∧ Value.string (bstr b) = Value.string (bstr (strL (bstr b))) ∧ List.length key = (32 : Nat) ∧ List.length n = (12 : Nat) ∧ Bys key ∧ Bys n ∧ Bys x3 ∧ Bys (strL (bstr b)) ∧ List.length x3 ≤ (16777216 : Nat) ∧ List.length (strL (bstr b)) ≤ (16777216 : Nat) ∧ (0 : Int) ≤ x1 ∧ Int.toNat x1 ≤ ByteArray.size (bstr s) ∧ bif !strEq (bstr (tagR key n x3 (strL (bstr b)))) (ByteArray.extract (bstr s) (Int.toNat x1) (ByteArray.size (bstr s))) then true = true ∧ true = true ∧ (42 : Nat) = (42 : Nat) ∧ True ∧ Value.int IntKind.i64 (100 : Int) = Value.int IntKind.i64 (codeR key n s b) else (0 : Int) ≤ x1 ∧ Int.toNat x1 ≤ ByteArray.size (bstr s) ∧ true = true ∧ (32 : Nat) = (32 : Nat) ∧ key = key ∧ (12 : Nat) = (12 : Nat) ∧ n = n ∧ Value.int IntKind.u64 (1 : Int) = Value.int IntKind.u64 (1 : Int) ∧ Value.string x2 = Value.string (bstr x3) ∧ List.length x3 ≤ (16777216 : Nat) ∧ List.length key = (32 : Nat) ∧ List.length n = (12 : Nat) ∧ Bys key ∧ Bys n ∧ Bys x3 ∧ true = true ∧ true = true ∧ (42 : Nat) = (42 : Nat) ∧ True ∧ Value.int IntKind.i64 (0 : Int) = Value.int IntKind.i64 (codeR key n s b)) := by kernel_rfl

set_option maxHeartbeats 8000000 in
theorem wpSOpenQ (key n s b : List Int) (h1 : key.length = 32) (h2 : n.length = 12) (h3 : Bys key) (h4 : Bys n) (h5 : Bys s) (h6 : Bys b) (h7 : s.length ≤ 1048592) (h8 : b.length ≤ 1048576) (h9 : 16 ≤ s.length) : wpE FSOpenQ (Try.f22.body.getD .skip) ⟨Try.f22.ntmps, slotsOf 0 (kSOpenQ (key, n, s, b)).avs, (kSOpenQ (key, n, s, b)).mem⟩ (finK Try.prog Try.f22.results.toList (postN (kSOpenQ (key, n, s, b)))) := by
  with_reducible refine Eq.mpr (vcSOpenQ key n s b) ?_
  have eb := strL_bstr h6
  have w : IntKind.wrap .i64 ((s.length : Int) - 16) = ((s.length - 16 : Nat) : Int) := by rw [IntKind.wrap_i64]; omega
  have b1 : Bys (s.take (s.length - 16)) := h5.take _
  have e1 := strL_bstr b1
  have l1 : (s.take (s.length - 16)).length = s.length - 16 := by rw [List.length_take]; omega
  have x1 : (bstr s).extract 0 (s.length - 16) = bstr (s.take (s.length - 16)) := by rw [bstr_extract, List.drop_zero]
  have x2 : (bstr s).extract (s.length - 16) s.length = bstr (s.drop (s.length - 16)) := by rw [bstr_extract, List.take_of_length_le (Nat.le_refl _)]
  have d1 : decide ((1048576 : Int) < ((s.length - 16 : Nat) : Int)) = false := decide_eq_false (by omega)
  have d2 : decide ((1048576 : Int) < (b.length : Int)) = false := decide_eq_false (by omega)
  have d3 : decide (((s.length - 16 : Nat) : Int) < 0) = false := decide_eq_false (by omega)
  have bT : Bys (tagR key n (s.take (s.length - 16)) b) := (sumL_bys _ _).1
  simp only [bstr_size, w, Int.toNat_natCast, x1, x2, e1, eb, l1]
  by_cases h10 : tagR key n (s.take (s.length - 16)) b = s.drop (s.length - 16)
  · have ec : codeR key n s b = 0 := if_pos h10
    have d4 : (!strEq (bstr (tagR key n (s.take (s.length - 16)) b)) (bstr (s.drop (s.length - 16)))) = false := by rw [h10, strEq_refl]; rfl
    rw [ec, d4]
    and_intros
    all_goals try exact True.intro
    all_goals try with_reducible assumption
    all_goals try omega
    all_goals try with_reducible rfl
    all_goals try (intros; exact True.intro)
    all_goals kernel_rfl
  · have ec : codeR key n s b = 100 := if_neg h10
    have d4 : (!strEq (bstr (tagR key n (s.take (s.length - 16)) b)) (bstr (s.drop (s.length - 16)))) = true := by rw [strEq_bstr bT (h5.drop _) h10]; rfl
    rw [ec, d4]
    and_intros
    all_goals try exact True.intro
    all_goals try with_reducible assumption
    all_goals try omega
    all_goals try with_reducible rfl
    all_goals try (intros; exact True.intro)
    all_goals kernel_rfl
set_option maxHeartbeats 8000000 in
theorem cSOpenQ_ok : SpecOK Try.prog cSOpenQ := by
  refine callG_ok (c := Try.f22.body.getD .skip) mixed Try.func22 (by kernel_rfl) rfl (fun x hob => ?_)
  obtain ⟨key, n, s, b⟩ := x
  have hob : (key.length = 32) ∧ (n.length = 12) ∧ (Bys key) ∧ (Bys n) ∧ (Bys s) ∧ (Bys b) ∧ (s.length ≤ 1048592) ∧ (b.length ≤ 1048576) ∧ (16 ≤ s.length) := hob
  obtain ⟨h1, h2, h3, h4, h5, h6, h7, h8, h9⟩ := hob
  exact ⟨FSOpenQ, rfl, evOKs ⟨.inl ⟨cSMix_ok, by kernel_rfl, gl_nil rfl⟩, ⟨.inl ⟨cSTag_ok, by kernel_rfl, gl_nil rfl⟩, trivial⟩⟩, rfl, rfl, by with_reducible exact wpSOpenQ key n s b h1 h2 h3 h4 h5 h6 h7 h8 h9⟩
def kLBound : (List Int) × (List Int) × Nat × (List Int) × Nat × (List Int) → ClN := fun (key, nonce, n, t, m, b) => ⟨[.o (.g [.many 32 (.i .u8 key), .many 12 (.i .u8 nonce)]), .o (.c (.rs 1 n (.i .u8 t))), .o (.c (.rs 1 m (.i .u8 b)))], [], vv (.bool true), [], [], [key.length = 32, nonce.length = 12, t.length = n, n ≤ 140737488355328, b.length = m, m ≤ 140737488355328, Bys key, Bys nonce, Bys b]⟩
noncomputable def FLBound : FnE := ⟨mkEv Try.prog [] [cOpens, cASeal, cAOpenQ, cSOpenQ] 0, [0, 1, 2, 3, 6, 7, 8, 9, 10, 11, 13, 15, 17, 19, 21, 23, 43, 65, 66, 67, 68, 93], fun _ _ => .rounds 3⟩
theorem vcLBound (key nonce : List Int) (n : Nat) (t : List Int) (m : Nat) (b : List Int) : (wpE FLBound (Try.f9.body.getD .skip) ⟨Try.f9.ntmps, slotsOf 0 (kLBound (key, nonce, n, t, m, b)).avs, (kLBound (key, nonce, n, t, m, b)).mem⟩ (finK Try.prog Try.f9.results.toList (postN (kLBound (key, nonce, n, t, m, b))))) = (let x1 := if (200 : Int) < (↑n : Int) then (200 : Int) else (↑n : Int); let x2 := if (100 : Int) < (↑m : Int) then (100 : Int) else (↑m : Int); let x3 := List.take (Int.toNat x1) (List.drop (0 : Nat) t); let x4 := List.take (Int.toNat x2) (List.drop (0 : Nat) b); let x5 := [x4]; let x6 := [] ++ x4; let x7 := List.set key (0 : Nat) (IntKind.wrap IntKind.u8 (List.getD key (0 : Nat) (0 : Int) + (1 : Int))); let x8 := sealT key nonce x5 x3; let x9 := bstr x8; let x10 := strL x9; let x11 := bstr x4; let x12 := strL x11; let x19 := List.set nonce (0 : Nat) (IntKind.wrap IntKind.u8 (List.getD nonce (0 : Nat) (0 : Int) + (1 : Int))); let x21 := x6 ++ [(0 : Int)]; let x22 := [x21]; let x23 := bstr x21; let x24 := strL x23; true = true ∧ (0 : Int) ≤ x1 ∧ Int.toNat x1 ≤ n ∧ (0 : Int) ≤ x2 ∧ Int.toNat x2 ≤ m ∧ true = true ∧ (32 : Nat) = (32 : Nat) ∧ key = key ∧ (12 : Nat) = (12 : Nat) ∧ nonce = nonce ∧ true = true ∧ Int.toNat x1 = Int.toNat x1 ∧ x3 = x3 ∧ true = true ∧ x5 = x5 ∧ (1 : Nat) = (1 : Nat) ∧ List.length x3 = Int.toNat x1 ∧ Int.toNat x1 ≤ (1048576 : Nat) ∧ List.length (List.flatten x5) ≤ (1048576 : Nat) ∧ (1 : Nat) ≤ (16777216 : Nat) ∧ List.length key = (32 : Nat) ∧ List.length nonce = (12 : Nat) ∧ (0 : Nat) = (0 : Nat) ∧ ((0 : Nat) + Int.toNat x2) * (1 : Nat) ≤ (140737488355328 : Nat) ∧ (0 : Nat) + Int.toNat x2 ≤ (9223372036854775807 : Nat) ∧ (1 : Nat) = (1 : Nat) ∧ List.length x6 = (0 : Nat) + Int.toNat x2 ∧ ((0 : Nat) + Int.toNat x2 + (1 : Nat)) * (1 : Nat) ≤ (140737488355328 : Nat) ∧ (0 : Nat) + Int.toNat x2 + (1 : Nat) ≤ (9223372036854775807 : Nat) ∧ (0 : Int) ≤ (0 : Int) ∧ (0 : Int) < (32 : Int) ∧ (0 : Nat) < (32 : Nat) ∧ (0 : Int) ≤ (0 : Int) ∧ (0 : Int) < (32 : Int) ∧ (0 : Nat) < (32 : Nat) ∧ (0 : Int) ≤ (0 : Int) ∧ (0 : Int) < (12 : Int) ∧ (0 : Nat) < (12 : Nat) ∧ (0 : Int) ≤ (0 : Int) ∧ (0 : Int) < (12 : Int) ∧ (0 : Nat) < (12 : Nat) ∧ (0 : Int) ≤ (0 : Int) ∧ (0 : Int) < (2 : Int) ∧ true = true ∧ (32 : Nat) = (32 : Nat) ∧ x7 = x7 ∧ (12 : Nat) = (12 : Nat) ∧ nonce = nonce ∧ true = true ∧ Int.toNat x1 + (16 : Nat) = Int.toNat x1 + (16 : Nat) ∧ x8 = x8 ∧ List.length x8 = Int.toNat x1 + (16 : Nat) ∧ true = true ∧ x5 = x5 ∧ (1 : Nat) = (1 : Nat) ∧ List.length x8 = Int.toNat x1 + (16 : Nat) ∧ Int.toNat x1 + (16 : Nat) ≤ (1048592 : Nat) ∧ List.length (List.flatten x5) ≤ (1048576 : Nat) ∧ (1 : Nat) ≤ (16777216 : Nat) ∧ List.length x7 = (32 : Nat) ∧ List.length nonce = (12 : Nat) ∧ (16 : Nat) ≤ Int.toNat x1 + (16 : Nat) ∧ Bys x8 ∧ List.length x8 = Int.toNat x1 + (16 : Nat) ∧ true = true ∧ (32 : Nat) = (32 : Nat) ∧ x7 = x7 ∧ (12 : Nat) = (12 : Nat) ∧ nonce = nonce ∧ Value.string x9 = Value.string (bstr x10) ∧ Value.string x11 = Value.string (bstr x12) ∧ List.length x7 = (32 : Nat) ∧ List.length nonce = (12 : Nat) ∧ Bys x7 ∧ Bys nonce ∧ Bys x10 ∧ Bys x12 ∧ List.length x10 ≤ (1048592 : Nat) ∧ List.length x12 ≤ (1048576 : Nat) ∧ (16 : Nat) ≤ List.length x10 ∧ bif !decide (codeS x7 nonce x5 x8 (Int.toNat x1 + (16 : Nat)) = codeR x7 nonce x10 x12) then true = true ∧ true = true ∧ (118 : Nat) = (118 : Nat) ∧ Value.bool false = Value.bool true else (0 : Int) ≤ (1 : Int) ∧ (1 : Int) < (2 : Int) ∧ true = true ∧ (32 : Nat) = (32 : Nat) ∧ key = key ∧ (12 : Nat) = (12 : Nat) ∧ x19 = x19 ∧ true = true ∧ Int.toNat x1 + (16 : Nat) = Int.toNat x1 + (16 : Nat) ∧ x8 = x8 ∧ List.length x8 = Int.toNat x1 + (16 : Nat) ∧ true = true ∧ x5 = x5 ∧ (1 : Nat) = (1 : Nat) ∧ List.length x8 = Int.toNat x1 + (16 : Nat) ∧ Int.toNat x1 + (16 : Nat) ≤ (1048592 : Nat) ∧ List.length (List.flatten x5) ≤ (1048576 : Nat) ∧ (1 : Nat) ≤ (16777216 : Nat) ∧ List.length key = (32 : Nat) ∧ List.length x19 = (12 : Nat) ∧ (16 : Nat) ≤ Int.toNat x1 + (16 : Nat) ∧ Bys x8 ∧ List.length x8 = Int.toNat x1 + (16 : Nat) ∧ true = true ∧ (32 : Nat) = (32 : Nat) ∧ key = key ∧ (12 : Nat) = (12 : Nat) ∧ x19 = x19 ∧ Value.string x9 = Value.string (bstr x10) ∧ Value.string x11 = Value.string (bstr x12) ∧ List.length key = (32 : Nat) ∧ List.length x19 = (12 : Nat) ∧ Bys key ∧ Bys x19 ∧ Bys x10 ∧ Bys x12 ∧ List.length x10 ≤ (1048592 : Nat) ∧ List.length x12 ≤ (1048576 : Nat) ∧ (16 : Nat) ≤ List.length x10 ∧ bif !decide (codeS key x19 x5 x8 (Int.toNat x1 + (16 : Nat)) = codeR key x19 x10 x12) then true = true ∧ true = true ∧ (118 : Nat) = (118 : Nat) ∧ Value.bool false = Value.bool true else true = true ∧ (32 : Nat) = (32 : Nat) ∧ key = key ∧ (12 : Nat) = (12 : Nat) ∧ nonce = nonce ∧ true = true ∧ Int.toNat x1 + (16 : Nat) = Int.toNat x1 + (16 : Nat) ∧ x8 = x8 ∧ List.length x8 = Int.toNat x1 + (16 : Nat) ∧ true = true ∧ x22 = x22 ∧ (1 : Nat) = (1 : Nat) ∧ List.length x21 = (0 : Nat) + Int.toNat x2 + (1 : Nat) ∧ List.length x8 = Int.toNat x1 + (16 : Nat) ∧ Int.toNat x1 + (16 : Nat) ≤ (1048592 : Nat) ∧ List.length (List.flatten x22) ≤ (1048576 : Nat) ∧ (1 : Nat) ≤ (16777216 : Nat) ∧ List.length key = (32 : Nat) ∧ List.length nonce = (12 : Nat) ∧ (16 : Nat) ≤ Int.toNat x1 + (16 : Nat) ∧ Bys x8 ∧ List.length x8 = Int.toNat x1 + (16 : Nat) ∧ List.length x21 = (0 : Nat) + Int.toNat x2 + (1 : Nat) ∧ true = true ∧ (32 : Nat) = (32 : Nat) ∧ key = key ∧ (12 : Nat) = (12 : Nat) ∧ nonce = nonce ∧ Value.string x9 = Value.string (bstr x10) ∧ Value.string x23 = Value.string (bstr x24) ∧ List.length key = (32 : Nat) ∧ List.length nonce = (12 : Nat) ∧ Bys key ∧ Bys nonce ∧ Bys x10 ∧ Bys x24 ∧ List.length x10 ≤ (1048592 : Nat) ∧ List.length x24 ≤ (1048576 : Nat) ∧ (16 : Nat) ≤ List.length x10 ∧ true = true ∧ true = true ∧ (118 : Nat) = (118 : Nat) ∧ Value.bool (decide (codeS key nonce x22 x8 (Int.toNat x1 + (16 : Nat)) = codeR key nonce x10 x24)) = Value.bool true) := by kernel_rfl

set_option maxHeartbeats 8000000 in
theorem wpLBound (key nonce : List Int) (n : Nat) (t : List Int) (m : Nat) (b : List Int) (h1 : key.length = 32) (h2 : nonce.length = 12) (h3 : t.length = n) (h4 : n ≤ 140737488355328) (h5 : b.length = m) (h6 : m ≤ 140737488355328) (h7 : Bys key) (h8 : Bys nonce) (h9 : Bys b) : wpE FLBound (Try.f9.body.getD .skip) ⟨Try.f9.ntmps, slotsOf 0 (kLBound (key, nonce, n, t, m, b)).avs, (kLBound (key, nonce, n, t, m, b)).mem⟩ (finK Try.prog Try.f9.results.toList (postN (kLBound (key, nonce, n, t, m, b)))) := by
  with_reducible refine Eq.mpr (vcLBound key nonce n t m b) ?_
  have e200 : ∀ k : Nat, (if (200 : Int) < (k : Int) then (200 : Int) else (k : Int)) = ((min k 200 : Nat) : Int) := fun k => by split <;> omega
  have e100 : ∀ k : Nat, (if (100 : Int) < (k : Int) then (100 : Int) else (k : Int)) = ((min k 100 : Nat) : Int) := fun k => by split <;> omega
  have lt : (t.take (min n 200)).length = min n 200 := by rw [List.length_take]; omega
  have lb : (b.take (min m 100)).length = min m 100 := by rw [List.length_take]; omega
  have bb : Bys (b.take (min m 100)) := h9.take _
  simp only [e200, e100, Int.toNat_natCast, List.drop_zero, List.nil_append]
  generalize t.take (min n 200) = T at *
  generalize b.take (min m 100) = B at *
  have lS : (sealT key nonce [B] T).length = min n 200 + 16 := by unfold sealT; rw [List.length_append, mixA_len, lt, (tagS_bys ..).2]
  have bS : Bys (sealT key nonce [B] T) := by unfold sealT; exact app_bys mixA_bys (tagS_bys ..).1
  generalize sealT key nonce [B] T = S at *
  have hk0 : (0 : Int) ≤ IntKind.wrap .u8 (key.getD 0 0 + 1) ∧ IntKind.wrap .u8 (key.getD 0 0 + 1) < 256 := wrapU8_in _
  have hn0 : (0 : Int) ≤ IntKind.wrap .u8 (nonce.getD 0 0 + 1) ∧ IntKind.wrap .u8 (nonce.getD 0 0 + 1) < 256 := wrapU8_in _
  have bk := h7.set 0 hk0
  have bn := h8.set 0 hn0
  have lk : (key.set 0 (IntKind.wrap .u8 (key.getD 0 0 + 1))).length = 32 := by rw [List.length_set]; exact h1
  have ln : (nonce.set 0 (IntKind.wrap .u8 (nonce.getD 0 0 + 1))).length = 12 := by rw [List.length_set]; exact h2
  generalize key.set 0 (IntKind.wrap .u8 (key.getD 0 0 + 1)) = K at *
  generalize nonce.set 0 (IntKind.wrap .u8 (nonce.getD 0 0 + 1)) = N at *
  have b1 : Bys (B ++ [0]) := app_bys bb (fun y hy => by rw [List.mem_singleton] at hy; subst hy; omega)
  have l1 : (B ++ [0]).length = min m 100 + 1 := by rw [List.length_append, lb]; rfl
  have eS := strL_bstr bS
  have eB := strL_bstr bb
  have e1 := strL_bstr b1
  have cE : ∀ (x y z : List Int), codeS x y [z] S (min n 200 + 16) = codeR x y S z := fun x y z => by rw [← lS]; exact codeS_eq x y S z
  have cD : ∀ (x y z : List Int), decide (codeS x y [z] S (min n 200 + 16) = codeR x y S z) = true := fun x y z => decide_eq_true (cE x y z)
  have v1 := congrArg Value.bool (cD key nonce (B ++ [0]))
  simp only [eS, eB, e1, flat1, Nat.zero_add, lS, lb, l1]
  generalize B ++ [0] = Z at *
  rw [cD K nonce B, cD key N B, Bool.not_true, cond_false, cond_false]
  and_intros
  all_goals try exact True.intro
  all_goals try with_reducible assumption
  all_goals try omega
  all_goals try with_reducible rfl
  all_goals kernel_rfl
set_option maxHeartbeats 8000000 in
theorem lwLBound (key nonce : List Int) (n : Nat) (t : List Int) (m : Nat) (b : List Int) (h1 : key.length = 32) (h2 : nonce.length = 12) (h3 : t.length = n) (h4 : n ≤ 140737488355328) (h5 : b.length = m) (h6 : m ≤ 140737488355328) (h7 : Bys key) (h8 : Bys nonce) (h9 : Bys b) {W : World} {vs : List Value} (hD : All2 (DA (cxL W ([])) be0) (kLBound (key, nonce, n, t, m, b)).avs vs) : Calls Try.prog 9 vs.toArray W (fun e W' => e = .returned (.bool true) ∧ Upd (fun _ => False) W W') :=
  law_calls (F := FLBound) (fn := Try.f9) (c := Try.f9.body.getD .skip) (k := kLBound (key, nonce, n, t, m, b)) rfl (evOKs ⟨.inl ⟨cOpens_ok, by kernel_rfl, gl_nil rfl⟩, ⟨.inl ⟨cASeal_ok, by kernel_rfl, gl_nil rfl⟩, ⟨.inl ⟨cAOpenQ_ok, by kernel_rfl, gl_nil rfl⟩, ⟨.inl ⟨cSOpenQ_ok, by kernel_rfl, gl_nil rfl⟩, trivial⟩⟩⟩⟩) mixed rfl (fun _ _ h => by cases h) Try.func9 (by kernel_rfl) rfl rfl hD (by kernel_rfl) (by with_reducible exact wpLBound key nonce n t m b h1 h2 h3 h4 h5 h6 h7 h8 h9)
theorem aeadBound_any (key nonce t b : List Int) (n m : Nat) (hk : key.length = 32) (hn : nonce.length = 12) (bk : Bys key) (bn : Bys nonce) (bb : Bys b) (ht : t.length = n) (hb : b.length = m) (hnn : n ≤ 140737488355328) (hm : m ≤ 140737488355328) {W : World} {v w : Value}
    (hv : DA (cxL W []) be0 (.o (.c (.rs 1 n (.i .u8 t)))) v) (hw : DA (cxL W []) be0 (.o (.c (.rs 1 m (.i .u8 b)))) w) : Calls Try.prog 9 #[.agg ((key ++ nonce).map (Value.int .u8)).toArray, v, w] W (fun e W' => e = .returned (.bool true) ∧ Upd (fun _ => False) W W') :=
  lwLBound key nonce n t m b hk hn ht hnn hb hm bk bn bb (vs := [_, _, _]) ⟨da_two hk hn, hv, hw, trivial⟩
end Go.Proofs.Ythlleheeghiljaa
