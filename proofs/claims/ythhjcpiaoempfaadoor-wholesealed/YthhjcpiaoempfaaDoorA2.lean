/-
  aead: sealed and opened.
-/
import Derived.Test.YthhjcpiaoempfaaDoorA1
namespace Go.Proofs.YthhjcpiaoempfaaDoor
open Go.RowKit
set_option maxRecDepth 100000

theorem or8_nat (a b : Nat) (ha : a < 256) (hb : b < 256) : bits .or .u8 (a : Int) (b : Int) = ((a ||| b : Nat) : Int) := by
  have ha' : a % 2 ^ IntKind.bits .u8 = a := Nat.mod_eq_of_lt ha
  have hb' : b % 2 ^ IntKind.bits .u8 = b := Nat.mod_eq_of_lt hb
  have hx : a ||| b < 256 := Nat.or_lt_two_pow (n := 8) ha hb
  simp only [bits, BitVec.ofInt_natCast, BitVec.toNat_or, BitVec.toNat_ofNat, ha', hb']
  rw [wrapU8]; omega
theorem or8_zero (a b : Int) (ha : 0 ≤ a ∧ a < 256) (hb : 0 ≤ b ∧ b < 256) : 0 ≤ bits .or .u8 a b ∧ bits .or .u8 a b < 256 ∧ (bits .or .u8 a b = 0 ↔ a = 0 ∧ b = 0) := by
  obtain ⟨m, rfl⟩ := Int.eq_ofNat_of_zero_le ha.1
  obtain ⟨n, rfl⟩ := Int.eq_ofNat_of_zero_le hb.1
  rw [or8_nat m n (by omega) (by omega)]
  have h1 : m ||| n < 2 ^ 8 := Nat.or_lt_two_pow (by omega) (by omega)
  have h2 : m ||| n = 0 ↔ m = 0 ∧ n = 0 := Nat.or_eq_zero_iff
  refine ⟨by omega, by omega, fun h => ?_, fun h => ?_⟩
  · have := h2.1 (by omega)
    omega
  · have := h2.2 (by omega)
    omega
theorem xorB_eq {a b : Int} (ha : 0 ≤ a ∧ a < 256) (hb : 0 ≤ b ∧ b < 256) : xorB a b = 0 ↔ a = b := by
  constructor
  · intro h
    have := xorB_back ha hb
    rw [h, xorB_zero hb] at this
    exact this.symm
  · rintro rfl
    obtain ⟨m, rfl⟩ := Int.eq_ofNat_of_zero_le ha.1
    rw [xorB_nat m m (by omega) (by omega), Nat.xor_self]; rfl
/-- What two lists of bytes differ in, up to there. -/
def dz (p q : List Int) : Nat → Int
  | 0 => 0
  | k + 1 => bits .or .u8 (dz p q k) (bits .xor .u8 (p.getD k 0) (q.getD k 0))
theorem dz_spec (p q : List Int) (hp : Bys p) (hq : Bys q) : ∀ k, 0 ≤ dz p q k ∧ dz p q k < 256 ∧ (dz p q k = 0 ↔ ∀ j, j < k → p.getD j 0 = q.getD j 0)
  | 0 => ⟨by simp [dz], by simp [dz], by simp [dz]⟩
  | k + 1 => by
    have ih := dz_spec p q hp hq k
    obtain ⟨o0, o1, o2⟩ := or8_zero (dz p q k) _ ⟨ih.1, ih.2.1⟩ (xorB_in (p.getD k 0) (q.getD k 0))
    refine ⟨o0, o1, ?_⟩
    show bits .or .u8 (dz p q k) (xorB _ _) = 0 ↔ _
    rw [o2, ih.2.2, xorB_eq (hp.at k) (hq.at k)]
    constructor
    · intro h j hj
      by_cases e : j = k
      · rw [e]; exact h.2
      · exact h.1 j (by omega)
    · intro h
      exact ⟨fun j hj => h j (by omega), h k (by omega)⟩
theorem dz_eq {p q : List Int} (hp : Bys p) (hq : Bys q) (hl : p.length = q.length) : dz p q p.length = 0 ↔ p = q := by
  rw [(dz_spec p q hp hq _).2.2]
  exact ⟨fun h => ext_getD hl h, fun h j _ => by rw [h]⟩
noncomputable def stEq (n m : Nat) (a b : List Int) (i : Nat) : St := ⟨Tryd.f35.ntmps, [(1, .o (.c (.rs 1 m (.i .u8 b)))), (5, vv (.int .u8 (dz a b i))), (13, .o (.c (.rs 1 n (.i .u8 a)))), (14, vv (.int .i64 (n : Int))), (15, vv (.int .i64 (i : Int)))], []⟩
def fcEq (d : Nat) : Option Bool := bif Nat.beq d 12 then some false else none
def kEqual : Nat × Nat × (List Int) × (List Int) → ClN := fun (n, m, a, b) => ⟨[.o (.c (.rs 1 n (.i .u8 a))), .o (.c (.rs 1 m (.i .u8 b)))], [], vv (.bool (decide (a = b))), [], [], [a.length = n, b.length = m, n = m, n ≤ 140737488355328, Bys a, Bys b]⟩
noncomputable def FEqual (n m : Nat) (a b : List Int) : FnE := ⟨mkEv Tryd.prog [] [] 0 fcEq, [0, 1, 4, 5, 6, 7, 12, 13, 14, 15, 16], fun _ _ => .inv { i : Nat // i ≤ n } (fun i => stEq n m a b i.val) (fun i => n - i.val) [] []⟩
def mEqual : List AV → (Nat → Option MB) → Option (List Nat × (Nat × Nat × (List Int) × (List Int)))
  | [.o (.c x), .o (.c y)], lk => match slI lk x with
    | some (n, a) => match slI lk y with
      | some (m, b) => some ([], n, m, a, b)
      | none => none
    | none => none
  | _, _ => none
noncomputable def cEqual : Spec := callG 35 Tryd.f35.ntmps mEqual kEqual
theorem vcEqual (n m : Nat) (a b : List Int) : (wpE (FEqual n m a b) (Tryd.f35.body.getD .skip) ⟨Tryd.f35.ntmps, slotsOf 0 (kEqual (n, m, a, b)).avs, (kEqual (n, m, a, b)).mem⟩ (finK Tryd.prog Tryd.f35.results.toList (postN (kEqual (n, m, a, b))))) = ((!decide ((↑n : Int) = (↑m : Int))) = false ∧ (∃ (x : { i : Nat // i ≤ n }), true = true ∧ true = true ∧ (31 : Nat) = (31 : Nat) ∧ (1 : Nat) = (1 : Nat) ∧ m = m ∧ b = b ∧ Value.int IntKind.u8 (0 : Int) = Value.int IntKind.u8 (dz a b (Subtype.val x)) ∧ (1 : Nat) = (1 : Nat) ∧ n = n ∧ a = a ∧ Value.int IntKind.i64 (↑n : Int) = Value.int IntKind.i64 (↑n : Int) ∧ Value.int IntKind.i64 (0 : Int) = Value.int IntKind.i64 (↑(Subtype.val x) : Int)) ∧ ∀ (x : { i : Nat // i ≤ n }), bif decide ((↑(Subtype.val x) : Int) < (↑n : Int)) then (0 : Int) ≤ (↑(Subtype.val x) : Int) ∧ (↑(Subtype.val x) : Int) < (↑n : Int) ∧ Int.toNat (↑(Subtype.val x) : Int) < List.length a ∧ (0 : Int) ≤ (↑(Subtype.val x) : Int) ∧ (↑(Subtype.val x) : Int) < (↑m : Int) ∧ Int.toNat (↑(Subtype.val x) : Int) < List.length b ∧ ∃ (y : { i : Nat // i ≤ n }), (true = true ∧ true = true ∧ (31 : Nat) = (31 : Nat) ∧ (1 : Nat) = (1 : Nat) ∧ m = m ∧ b = b ∧ Value.int IntKind.u8 (bits BinOp.or IntKind.u8 (dz a b (Subtype.val x)) (bits BinOp.xor IntKind.u8 (List.getD a (Int.toNat (↑(Subtype.val x) : Int)) (0 : Int)) (List.getD b (Int.toNat (↑(Subtype.val x) : Int)) (0 : Int)))) = Value.int IntKind.u8 (dz a b (Subtype.val y)) ∧ (1 : Nat) = (1 : Nat) ∧ n = n ∧ a = a ∧ Value.int IntKind.i64 (↑n : Int) = Value.int IntKind.i64 (↑n : Int) ∧ Value.int IntKind.i64 (IntKind.wrap IntKind.i64 ((↑(Subtype.val x) : Int) + (1 : Int))) = Value.int IntKind.i64 (↑(Subtype.val y) : Int)) ∧ n - Subtype.val y < n - Subtype.val x else true = true ∧ true = true ∧ (31 : Nat) = (31 : Nat) ∧ Value.bool (decide (dz a b (Subtype.val x) = (0 : Int))) = Value.bool (decide (a = b))) := by kernel_rfl

set_option maxHeartbeats 8000000 in
theorem wpEqual (n m : Nat) (a b : List Int) (h1 : a.length = n) (h2 : b.length = m) (h3 : n = m) (h4 : n ≤ 140737488355328) (h5 : Bys a) (h6 : Bys b) : wpE (FEqual n m a b) (Tryd.f35.body.getD .skip) ⟨Tryd.f35.ntmps, slotsOf 0 (kEqual (n, m, a, b)).avs, (kEqual (n, m, a, b)).mem⟩ (finK Tryd.prog Tryd.f35.results.toList (postN (kEqual (n, m, a, b)))) := by
  with_reducible refine Eq.mpr (vcEqual n m a b) ?_
  have hd : decide (dz a b n = 0) = decide (a = b) := by
    have := dz_eq h5 h6 (by omega)
    rw [h1] at this
    simp only [this]
  simp only [Bool.cond_decide, Int.toNat_natCast]
  refine ⟨by rw [decide_eq_true (by omega)]; rfl, ⟨⟨0, Nat.zero_le _⟩, by and_intros <;> first | exact True.intro | rfl⟩, ?_⟩
  rintro ⟨i, hi⟩
  dsimp only at hi ⊢
  split
  · rename_i hin
    have hin' : i < n := by omega
    simp only [wrapS (i := i) (by omega)]
    and_intros
    all_goals first | omega | exact True.intro | skip
    exact ⟨⟨i + 1, hin'⟩, by and_intros <;> first | exact True.intro | rfl, by show n - (i + 1) < n - i; omega⟩
  · rename_i hin
    obtain rfl : i = n := by omega
    and_intros <;> first | exact True.intro | rfl | exact congrArg Value.bool hd
set_option maxHeartbeats 8000000 in
theorem cEqual_ok : SpecOK Tryd.prog cEqual := by
  refine callG_ok (c := Tryd.f35.body.getD .skip) mixed Tryd.func35 (by kernel_rfl) rfl (fun x hob => ?_)
  obtain ⟨n, m, a, b⟩ := x
  have hob : (a.length = n) ∧ (b.length = m) ∧ (n = m) ∧ (n ≤ 140737488355328) ∧ (Bys a) ∧ (Bys b) := hob
  obtain ⟨h1, h2, h3, h4, h5, h6⟩ := hob
  exact ⟨FEqual n m a b, rfl, evOKs trivial, rfl, rfl, by with_reducible exact wpEqual n m a b h1 h2 h3 h4 h5 h6⟩

theorem tagS_bys (key nonce : List Int) (ls : List (List Int)) (m : List Int) (k : Nat) : Bys (tagS key nonce ls m k) ∧ (tagS key nonce ls m k).length = 16 := sumL_bys _ _
theorem take16 {l : List Int} (h : l.length = 16) : List.take 16 l = l := List.take_of_length_le (by omega)
def sealT (key nonce : List Int) (ls : List (List Int)) (t : List Int) : List Int := mixA key nonce 1 t ++ tagS key nonce ls (mixA key nonce 1 t) ls.flatten.length
def fcSeal (d : Nat) : Option Bool := bif Nat.beq d 15 || Nat.beq d 18 then some false else none
def kASeal : (List Int) × (List Int) × Nat × (List Int) × (List (List Int)) → ClN := fun (key, nonce, n, t, ls) => ⟨[.o (.g [.many 32 (.i .u8 key), .many 12 (.i .u8 nonce)]), .o (.c (.rs 1 n (.i .u8 t))), .o (.c (.rss ls))], [], .t [.c (.os 0 1 (n + 16)), .c (.v (.int .i64 0))], [.grow 5 1 (.i .u8 (sealT key nonce ls t))], [3], [t.length = n, n ≤ 1048576, ls.flatten.length ≤ 1048576, ls.length ≤ 16777216, key.length = 32, nonce.length = 12]⟩
noncomputable def FASeal : FnE := ⟨mkEv Tryd.prog [] [cATotal, cAMix, cATag] 0 fcSeal, [0, 1, 2, 3, 6, 7, 8, 9, 10, 19], fun _ _ => .rounds 0⟩
def mASeal : List AV → (Nat → Option MB) → Option (List Nat × ((List Int) × (List Int) × Nat × (List Int) × (List (List Int))))
  | [.o (.g [.many 32 (.i .u8 key), .many 12 (.i .u8 nonce)]), .o (.c c), .o (.c d)], lk => match slI lk c with
    | some (n, t) => match slS lk d with
      | some ls => some ([], key, nonce, n, t, ls)
      | none => none
    | none => none
  | _, _ => none
noncomputable def cASeal : Spec := callG 18 Tryd.f18.ntmps mASeal kASeal
theorem vcASeal (key nonce : List Int) (n : Nat) (t : List Int) (ls : List (List Int)) : (wpE FASeal (Tryd.f18.body.getD .skip) ⟨Tryd.f18.ntmps, slotsOf 0 (kASeal (key, nonce, n, t, ls)).avs, (kASeal (key, nonce, n, t, ls)).mem⟩ (finK Tryd.prog Tryd.f18.results.toList (postN (kASeal (key, nonce, n, t, ls))))) = (true = true ∧ true = true ∧ ls = ls ∧ (∀ (l : List Int), l ∈ ls → List.length l ≤ (140737488355328 : Nat)) ∧ List.length ls ≤ (9223372036854775807 : Nat) ∧ decide ((1048576 : Int) < (↑n : Int)) = false ∧ decide ((1048576 : Int) < (↑(totA (1048576 : Nat) (0 : Nat) ls) : Int)) = false ∧ true = true ∧ (32 : Nat) = (32 : Nat) ∧ key = key ∧ (12 : Nat) = (12 : Nat) ∧ nonce = nonce ∧ true = true ∧ n = n ∧ t = t ∧ List.length t = n ∧ n ≤ (16777216 : Nat) ∧ List.length key = (32 : Nat) ∧ List.length nonce = (12 : Nat) ∧ true = true ∧ (32 : Nat) = (32 : Nat) ∧ key = key ∧ (12 : Nat) = (12 : Nat) ∧ nonce = nonce ∧ true = true ∧ List.length t = List.length t ∧ mixA key nonce (1 : Int) t = mixA key nonce (1 : Int) t ∧ List.length (mixA key nonce (1 : Int) t) = List.length t ∧ true = true ∧ ls = ls ∧ Value.int IntKind.i64 (↑(totA (1048576 : Nat) (0 : Nat) ls) : Int) = Value.int IntKind.i64 (↑(Int.toNat (↑(totA (1048576 : Nat) (0 : Nat) ls) : Int)) : Int) ∧ List.length (mixA key nonce (1 : Int) t) = List.length t ∧ List.length t ≤ (16777216 : Nat) ∧ List.length key = (32 : Nat) ∧ List.length nonce = (12 : Nat) ∧ Int.toNat (↑(totA (1048576 : Nat) (0 : Nat) ls) : Int) ≤ (16777216 : Nat) ∧ List.length ls ≤ (16777216 : Nat) ∧ (16 : Nat) ≤ (9223372036854775807 : Nat) ∧ (16 : Nat) ≤ (16 : Nat) ∧ List.length (mixA key nonce (1 : Int) t) = List.length t ∧ (List.length t + (16 : Nat)) * (1 : Nat) ≤ (140737488355328 : Nat) ∧ List.length t + (16 : Nat) ≤ (9223372036854775807 : Nat) ∧ true = true ∧ true = true ∧ (31 : Nat) = (31 : Nat) ∧ (5 : Nat) = (5 : Nat) ∧ (1 : Nat) = (1 : Nat) ∧ mixA key nonce (1 : Int) t ++ List.take (16 : Nat) (List.drop (0 : Nat) (tagS key nonce ls (mixA key nonce (1 : Int) t) (Int.toNat (↑(totA (1048576 : Nat) (0 : Nat) ls) : Int)))) = sealT key nonce ls t ∧ getL (ClN.ren (kASeal (key, nonce, n, t, ls))) (0 : Nat) = some (Nat.add (Nat.add (3 : Nat) (0 : Nat)) (0 : Nat)) ∧ (1 : Nat) = (1 : Nat) ∧ List.length t + (16 : Nat) = n + (16 : Nat) ∧ Value.int IntKind.i64 (0 : Int) = Value.int IntKind.i64 (0 : Int)) := by kernel_rfl

set_option maxHeartbeats 8000000 in
theorem wpASeal (key nonce : List Int) (n : Nat) (t : List Int) (ls : List (List Int)) (h1 : t.length = n) (h2 : n ≤ 1048576) (h3 : ls.flatten.length ≤ 1048576) (h4 : ls.length ≤ 16777216) (h5 : key.length = 32) (h6 : nonce.length = 12) : wpE FASeal (Tryd.f18.body.getD .skip) ⟨Tryd.f18.ntmps, slotsOf 0 (kASeal (key, nonce, n, t, ls)).avs, (kASeal (key, nonce, n, t, ls)).mem⟩ (finK Tryd.prog Tryd.f18.results.toList (postN (kASeal (key, nonce, n, t, ls)))) := by
  with_reducible refine Eq.mpr (vcASeal key nonce n t ls) ?_
  have ht : totA 1048576 0 ls = ls.flatten.length := by rw [totA_le (by omega)]; omega
  have l1 := mixA_len key nonce 1 t
  simp only [ht, Int.toNat_natCast, List.drop_zero]
  have e9 : mixA key nonce 1 t ++ List.take 16 (tagS key nonce ls (mixA key nonce 1 t) ls.flatten.length) = sealT key nonce ls t := by rw [take16 (tagS_bys ..).2]; rfl
  and_intros <;> first | omega | exact True.intro | exact decide_eq_false (by omega) | (intro l hl; have := mem_flat l hl; omega) | with_reducible assumption | with_reducible rfl | kernel_rfl
set_option maxHeartbeats 8000000 in
theorem cASeal_ok : SpecOK Tryd.prog cASeal := by
  refine callG_ok (c := Tryd.f18.body.getD .skip) mixed Tryd.func18 (by kernel_rfl) rfl (fun x hob => ?_)
  obtain ⟨key, nonce, n, t, ls⟩ := x
  have hob : (t.length = n) ∧ (n ≤ 1048576) ∧ (ls.flatten.length ≤ 1048576) ∧ (ls.length ≤ 16777216) ∧ (key.length = 32) ∧ (nonce.length = 12) := hob
  obtain ⟨h1, h2, h3, h4, h5, h6⟩ := hob
  exact ⟨FASeal, rfl, evOKs ⟨.inl ⟨cATotal_ok, by kernel_rfl, gl_nil rfl⟩, ⟨.inl ⟨cAMix_ok, by kernel_rfl, gl_nil rfl⟩, ⟨.inl ⟨cATag_ok, by kernel_rfl, gl_nil rfl⟩, trivial⟩⟩⟩, rfl, rfl, by with_reducible exact wpASeal key nonce n t ls h1 h2 h3 h4 h5 h6⟩

def fcOpen (d : Nat) : Option Bool := bif Nat.beq d 16 || Nat.beq d 19 || Nat.beq d 23 then some false else bif Nat.beq d 41 then some true else none
def kAOpen : (List Int) × (List Int) × Nat × (List Int) × (List (List Int)) → ClN := fun (key, nonce, n, s, ls) => ⟨[.o (.g [.many 32 (.i .u8 key), .many 12 (.i .u8 nonce)]), .o (.c (.rs 1 n (.i .u8 s))), .o (.c (.rss ls))], [], .t [.c (.os 0 1 (n - 16)), .c (.v (.int .i64 0))], [.grow 5 1 (.i .u8 (mixA key nonce 1 (s.take (n - 16))))], [2], [s.length = n, n ≤ 1048592, ls.flatten.length ≤ 1048576, ls.length ≤ 16777216, key.length = 32, nonce.length = 12, 16 ≤ n, Bys s, tagS key nonce ls (s.take (n - 16)) ls.flatten.length = s.drop (n - 16)]⟩
noncomputable def FAOpen : FnE := ⟨mkEv Tryd.prog [] [cATotal, cAMix, cATag, cEqual] 0 fcOpen, [0, 1, 2, 3, 6, 7, 8, 9, 10, 11, 20, 23, 42], fun _ _ => .rounds 0⟩
def mAOpen : List AV → (Nat → Option MB) → Option (List Nat × ((List Int) × (List Int) × Nat × (List Int) × (List (List Int))))
  | [.o (.g [.many 32 (.i .u8 key), .many 12 (.i .u8 nonce)]), .o (.c c), .o (.c d)], lk => match slI lk c with
    | some (n, t) => match slS lk d with
      | some ls => some ([], key, nonce, n, t, ls)
      | none => none
    | none => none
  | _, _ => none
noncomputable def cAOpen : Spec := callG 19 Tryd.f19.ntmps mAOpen kAOpen
theorem vcAOpen (key nonce : List Int) (n : Nat) (s : List Int) (ls : List (List Int)) : (wpE FAOpen (Tryd.f19.body.getD .skip) ⟨Tryd.f19.ntmps, slotsOf 0 (kAOpen (key, nonce, n, s, ls)).avs, (kAOpen (key, nonce, n, s, ls)).mem⟩ (finK Tryd.prog Tryd.f19.results.toList (postN (kAOpen (key, nonce, n, s, ls))))) = (let x1 := IntKind.wrap IntKind.i64 ((↑n : Int) - (16 : Int)); let x2 := List.take (Int.toNat x1) (List.drop (0 : Nat) s); let x3 := List.take (16 : Nat) (List.drop (0 : Nat) (tagS key nonce ls x2 (Int.toNat (↑(totA (1048576 : Nat) (0 : Nat) ls) : Int)))); let x4 := List.take (n - Int.toNat x1) (List.drop (Int.toNat x1) s); true = true ∧ true = true ∧ ls = ls ∧ (∀ (l : List Int), l ∈ ls → List.length l ≤ (140737488355328 : Nat)) ∧ List.length ls ≤ (9223372036854775807 : Nat) ∧ decide ((1048592 : Int) < (↑n : Int)) = false ∧ decide ((1048576 : Int) < (↑(totA (1048576 : Nat) (0 : Nat) ls) : Int)) = false ∧ decide ((↑n : Int) < (16 : Int)) = false ∧ (0 : Int) ≤ x1 ∧ Int.toNat x1 ≤ n ∧ (0 : Int) ≤ x1 ∧ Int.toNat x1 ≤ n ∧ true = true ∧ (32 : Nat) = (32 : Nat) ∧ key = key ∧ (12 : Nat) = (12 : Nat) ∧ nonce = nonce ∧ true = true ∧ Int.toNat x1 = Int.toNat x1 ∧ x2 = x2 ∧ true = true ∧ ls = ls ∧ Value.int IntKind.i64 (↑(totA (1048576 : Nat) (0 : Nat) ls) : Int) = Value.int IntKind.i64 (↑(Int.toNat (↑(totA (1048576 : Nat) (0 : Nat) ls) : Int)) : Int) ∧ List.length x2 = Int.toNat x1 ∧ Int.toNat x1 ≤ (16777216 : Nat) ∧ List.length key = (32 : Nat) ∧ List.length nonce = (12 : Nat) ∧ Int.toNat (↑(totA (1048576 : Nat) (0 : Nat) ls) : Int) ≤ (16777216 : Nat) ∧ List.length ls ≤ (16777216 : Nat) ∧ (16 : Nat) ≤ (9223372036854775807 : Nat) ∧ decide (x3 = x4) = true ∧ true = true ∧ true = true ∧ (16 : Nat) = (16 : Nat) ∧ x3 = x3 ∧ (16 : Nat) ≤ (16 : Nat) ∧ true = true ∧ n - Int.toNat x1 = n - Int.toNat x1 ∧ x4 = x4 ∧ (16 : Nat) = (16 : Nat) ∧ List.length x4 = n - Int.toNat x1 ∧ (16 : Nat) = n - Int.toNat x1 ∧ (16 : Nat) ≤ (140737488355328 : Nat) ∧ Bys x3 ∧ Bys x4 ∧ true = true ∧ (32 : Nat) = (32 : Nat) ∧ key = key ∧ (12 : Nat) = (12 : Nat) ∧ nonce = nonce ∧ true = true ∧ Int.toNat x1 = Int.toNat x1 ∧ x2 = x2 ∧ List.length x2 = Int.toNat x1 ∧ Int.toNat x1 ≤ (16777216 : Nat) ∧ List.length key = (32 : Nat) ∧ List.length nonce = (12 : Nat) ∧ true = true ∧ true = true ∧ (46 : Nat) = (46 : Nat) ∧ (5 : Nat) = (5 : Nat) ∧ (1 : Nat) = (1 : Nat) ∧ mixA key nonce (1 : Int) x2 = mixA key nonce (1 : Int) (List.take (n - (16 : Nat)) s) ∧ getL (ClN.ren (kAOpen (key, nonce, n, s, ls))) (0 : Nat) = some (nameN [] (Nat.add (Nat.add (2 : Nat) (0 : Nat)) (0 : Nat)) (0 : Nat)) ∧ (1 : Nat) = (1 : Nat) ∧ List.length x2 = n - (16 : Nat) ∧ Value.int IntKind.i64 (0 : Int) = Value.int IntKind.i64 (0 : Int)) := by kernel_rfl

set_option maxHeartbeats 8000000 in
theorem wpAOpen (key nonce : List Int) (n : Nat) (s : List Int) (ls : List (List Int)) (h1 : s.length = n) (h2 : n ≤ 1048592) (h3 : ls.flatten.length ≤ 1048576) (h4 : ls.length ≤ 16777216) (h5 : key.length = 32) (h6 : nonce.length = 12) (h7 : 16 ≤ n) (h8 : Bys s) (h9 : tagS key nonce ls (s.take (n - 16)) ls.flatten.length = s.drop (n - 16)) : wpE FAOpen (Tryd.f19.body.getD .skip) ⟨Tryd.f19.ntmps, slotsOf 0 (kAOpen (key, nonce, n, s, ls)).avs, (kAOpen (key, nonce, n, s, ls)).mem⟩ (finK Tryd.prog Tryd.f19.results.toList (postN (kAOpen (key, nonce, n, s, ls)))) := by
  with_reducible refine Eq.mpr (vcAOpen key nonce n s ls) ?_
  have ht : totA 1048576 0 ls = ls.flatten.length := by rw [totA_le (by omega)]; omega
  have hx : IntKind.wrap .i64 ((n : Int) - 16) = ((n - 16 : Nat) : Int) := by rw [IntKind.wrap_i64]; omega
  have l4 : List.take (n - (n - 16)) (List.drop (n - 16) s) = List.drop (n - 16) s := List.take_of_length_le (by rw [List.length_drop]; omega)
  simp only [ht, hx, Int.toNat_natCast, List.drop_zero, l4, take16 (tagS_bys ..).2]
  have l2 : (List.take (n - 16) s).length = n - 16 := by rw [List.length_take]; omega
  have l3 : (List.drop (n - 16) s).length = n - (n - 16) := by rw [List.length_drop]; omega
  have b3 : Bys (List.drop (n - 16) s) := h8.drop _
  have b4 := (tagS_bys key nonce ls (List.take (n - 16) s) ls.flatten.length).1
  have d9 : decide (tagS key nonce ls (List.take (n - 16) s) ls.flatten.length = List.drop (n - 16) s) = true := decide_eq_true h9
  and_intros <;> first | omega | exact True.intro | with_reducible assumption | exact decide_eq_false (by omega) | (intro l hl; have := mem_flat l hl; omega) | with_reducible rfl | kernel_rfl
set_option maxHeartbeats 8000000 in
theorem cAOpen_ok : SpecOK Tryd.prog cAOpen := by
  refine callG_ok (c := Tryd.f19.body.getD .skip) mixed Tryd.func19 (by kernel_rfl) rfl (fun x hob => ?_)
  obtain ⟨key, nonce, n, s, ls⟩ := x
  have hob : (s.length = n) ∧ (n ≤ 1048592) ∧ (ls.flatten.length ≤ 1048576) ∧ (ls.length ≤ 16777216) ∧ (key.length = 32) ∧ (nonce.length = 12) ∧ (16 ≤ n) ∧ (Bys s) ∧ (tagS key nonce ls (s.take (n - 16)) ls.flatten.length = s.drop (n - 16)) := hob
  obtain ⟨h1, h2, h3, h4, h5, h6, h7, h8, h9⟩ := hob
  exact ⟨FAOpen, rfl, evOKs ⟨.inl ⟨cATotal_ok, by kernel_rfl, gl_nil rfl⟩, ⟨.inl ⟨cAMix_ok, by kernel_rfl, gl_nil rfl⟩, ⟨.inl ⟨cATag_ok, by kernel_rfl, gl_nil rfl⟩, ⟨.inl ⟨cEqual_ok, by kernel_rfl, gl_nil rfl⟩, trivial⟩⟩⟩⟩, rfl, rfl, by with_reducible exact wpAOpen key nonce n s ls h1 h2 h3 h4 h5 h6 h7 h8 h9⟩

def fcOpenT (d : Nat) : Option Bool := bif Nat.beq d 16 || Nat.beq d 19 || Nat.beq d 23 || Nat.beq d 41 then some false else none
def kAOpenT : (List Int) × (List Int) × Nat × (List Int) × (List (List Int)) → ClN := fun (key, nonce, n, s, ls) => ⟨[.o (.g [.many 32 (.i .u8 key), .many 12 (.i .u8 nonce)]), .o (.c (.rs 1 n (.i .u8 s))), .o (.c (.rss ls))], [], .t [.c (.v (.slice none 0 0)), .c (.v (.int .i64 100))], [], [], [s.length = n, n ≤ 1048592, ls.flatten.length ≤ 1048576, ls.length ≤ 16777216, key.length = 32, nonce.length = 12, 16 ≤ n, Bys s, tagS key nonce ls (s.take (n - 16)) ls.flatten.length ≠ s.drop (n - 16)]⟩
noncomputable def FAOpenT : FnE := ⟨mkEv Tryd.prog [] [cATotal, cAMix, cATag, cEqual] 0 fcOpenT, [0, 1, 2, 3, 6, 7, 8, 9, 10, 11, 20, 23, 42], fun _ _ => .rounds 0⟩
def mAOpenT : List AV → (Nat → Option MB) → Option (List Nat × ((List Int) × (List Int) × Nat × (List Int) × (List (List Int))))
  | [.o (.g [.many 32 (.i .u8 key), .many 12 (.i .u8 nonce)]), .o (.c c), .o (.c d)], lk => match slI lk c with
    | some (n, t) => match slS lk d with
      | some ls => some ([], key, nonce, n, t, ls)
      | none => none
    | none => none
  | _, _ => none
noncomputable def cAOpenT : Spec := callG 19 Tryd.f19.ntmps mAOpenT kAOpenT
theorem vcAOpenT (key nonce : List Int) (n : Nat) (s : List Int) (ls : List (List Int)) : (wpE FAOpenT (Tryd.f19.body.getD .skip) ⟨Tryd.f19.ntmps, slotsOf 0 (kAOpenT (key, nonce, n, s, ls)).avs, (kAOpenT (key, nonce, n, s, ls)).mem⟩ (finK Tryd.prog Tryd.f19.results.toList (postN (kAOpenT (key, nonce, n, s, ls))))) = (let x1 := IntKind.wrap IntKind.i64 ((↑n : Int) - (16 : Int)); let x2 := List.take (Int.toNat x1) (List.drop (0 : Nat) s); let x3 := List.take (16 : Nat) (List.drop (0 : Nat) (tagS key nonce ls x2 (Int.toNat (↑(totA (1048576 : Nat) (0 : Nat) ls) : Int)))); let x4 := List.take (n - Int.toNat x1) (List.drop (Int.toNat x1) s); true = true ∧ true = true ∧ ls = ls ∧ (∀ (l : List Int), l ∈ ls → List.length l ≤ (140737488355328 : Nat)) ∧ List.length ls ≤ (9223372036854775807 : Nat) ∧ decide ((1048592 : Int) < (↑n : Int)) = false ∧ decide ((1048576 : Int) < (↑(totA (1048576 : Nat) (0 : Nat) ls) : Int)) = false ∧ decide ((↑n : Int) < (16 : Int)) = false ∧ (0 : Int) ≤ x1 ∧ Int.toNat x1 ≤ n ∧ (0 : Int) ≤ x1 ∧ Int.toNat x1 ≤ n ∧ true = true ∧ (32 : Nat) = (32 : Nat) ∧ key = key ∧ (12 : Nat) = (12 : Nat) ∧ nonce = nonce ∧ true = true ∧ Int.toNat x1 = Int.toNat x1 ∧ x2 = x2 ∧ true = true ∧ ls = ls ∧ Value.int IntKind.i64 (↑(totA (1048576 : Nat) (0 : Nat) ls) : Int) = Value.int IntKind.i64 (↑(Int.toNat (↑(totA (1048576 : Nat) (0 : Nat) ls) : Int)) : Int) ∧ List.length x2 = Int.toNat x1 ∧ Int.toNat x1 ≤ (16777216 : Nat) ∧ List.length key = (32 : Nat) ∧ List.length nonce = (12 : Nat) ∧ Int.toNat (↑(totA (1048576 : Nat) (0 : Nat) ls) : Int) ≤ (16777216 : Nat) ∧ List.length ls ≤ (16777216 : Nat) ∧ (16 : Nat) ≤ (9223372036854775807 : Nat) ∧ decide (x3 = x4) = false ∧ true = true ∧ true = true ∧ (16 : Nat) = (16 : Nat) ∧ x3 = x3 ∧ (16 : Nat) ≤ (16 : Nat) ∧ true = true ∧ n - Int.toNat x1 = n - Int.toNat x1 ∧ x4 = x4 ∧ (16 : Nat) = (16 : Nat) ∧ List.length x4 = n - Int.toNat x1 ∧ (16 : Nat) = n - Int.toNat x1 ∧ (16 : Nat) ≤ (140737488355328 : Nat) ∧ Bys x3 ∧ Bys x4 ∧ true = true ∧ true = true ∧ (46 : Nat) = (46 : Nat) ∧ Value.slice none (0 : Nat) (0 : Nat) = Value.slice none (0 : Nat) (0 : Nat) ∧ Value.int IntKind.i64 (100 : Int) = Value.int IntKind.i64 (100 : Int)) := by kernel_rfl

set_option maxHeartbeats 8000000 in
theorem wpAOpenT (key nonce : List Int) (n : Nat) (s : List Int) (ls : List (List Int)) (h1 : s.length = n) (h2 : n ≤ 1048592) (h3 : ls.flatten.length ≤ 1048576) (h4 : ls.length ≤ 16777216) (h5 : key.length = 32) (h6 : nonce.length = 12) (h7 : 16 ≤ n) (h8 : Bys s) (h9 : tagS key nonce ls (s.take (n - 16)) ls.flatten.length ≠ s.drop (n - 16)) : wpE FAOpenT (Tryd.f19.body.getD .skip) ⟨Tryd.f19.ntmps, slotsOf 0 (kAOpenT (key, nonce, n, s, ls)).avs, (kAOpenT (key, nonce, n, s, ls)).mem⟩ (finK Tryd.prog Tryd.f19.results.toList (postN (kAOpenT (key, nonce, n, s, ls)))) := by
  with_reducible refine Eq.mpr (vcAOpenT key nonce n s ls) ?_
  have ht : totA 1048576 0 ls = ls.flatten.length := by rw [totA_le (by omega)]; omega
  have hx : IntKind.wrap .i64 ((n : Int) - 16) = ((n - 16 : Nat) : Int) := by rw [IntKind.wrap_i64]; omega
  have l4 : List.take (n - (n - 16)) (List.drop (n - 16) s) = List.drop (n - 16) s := List.take_of_length_le (by rw [List.length_drop]; omega)
  simp only [ht, hx, Int.toNat_natCast, List.drop_zero, l4, take16 (tagS_bys ..).2]
  have l2 : (List.take (n - 16) s).length = n - 16 := by rw [List.length_take]; omega
  have l3 : (List.drop (n - 16) s).length = n - (n - 16) := by rw [List.length_drop]; omega
  have b3 : Bys (List.drop (n - 16) s) := h8.drop _
  have b4 := (tagS_bys key nonce ls (List.take (n - 16) s) ls.flatten.length).1
  have d9 : decide (tagS key nonce ls (List.take (n - 16) s) ls.flatten.length = List.drop (n - 16) s) = false := decide_eq_false h9
  and_intros <;> first | omega | exact True.intro | with_reducible assumption | exact decide_eq_false (by omega) | (intro l hl; have := mem_flat l hl; omega) | with_reducible rfl | kernel_rfl
set_option maxHeartbeats 8000000 in
theorem cAOpenT_ok : SpecOK Tryd.prog cAOpenT := by
  refine callG_ok (c := Tryd.f19.body.getD .skip) mixed Tryd.func19 (by kernel_rfl) rfl (fun x hob => ?_)
  obtain ⟨key, nonce, n, s, ls⟩ := x
  have hob : (s.length = n) ∧ (n ≤ 1048592) ∧ (ls.flatten.length ≤ 1048576) ∧ (ls.length ≤ 16777216) ∧ (key.length = 32) ∧ (nonce.length = 12) ∧ (16 ≤ n) ∧ (Bys s) ∧ (tagS key nonce ls (s.take (n - 16)) ls.flatten.length ≠ s.drop (n - 16)) := hob
  obtain ⟨h1, h2, h3, h4, h5, h6, h7, h8, h9⟩ := hob
  exact ⟨FAOpenT, rfl, evOKs ⟨.inl ⟨cATotal_ok, by kernel_rfl, gl_nil rfl⟩, ⟨.inl ⟨cAMix_ok, by kernel_rfl, gl_nil rfl⟩, ⟨.inl ⟨cATag_ok, by kernel_rfl, gl_nil rfl⟩, ⟨.inl ⟨cEqual_ok, by kernel_rfl, gl_nil rfl⟩, trivial⟩⟩⟩⟩, rfl, rfl, by with_reducible exact wpAOpenT key nonce n s ls h1 h2 h3 h4 h5 h6 h7 h8 h9⟩

def fcOpenS (d : Nat) : Option Bool := bif Nat.beq d 16 || Nat.beq d 19 then some false else bif Nat.beq d 23 then some true else none
def kAOpenS : (List Int) × (List Int) × Nat × (List Int) × (List (List Int)) → ClN := fun (key, nonce, n, s, ls) => ⟨[.o (.g [.many 32 (.i .u8 key), .many 12 (.i .u8 nonce)]), .o (.c (.rs 1 n (.i .u8 s))), .o (.c (.rss ls))], [], .t [.c (.v (.slice none 0 0)), .c (.v (.int .i64 111))], [], [], [s.length = n, n < 16, ls.flatten.length ≤ 1048576, ls.length ≤ 16777216]⟩
noncomputable def FAOpenS : FnE := ⟨mkEv Tryd.prog [] [cATotal] 0 fcOpenS, [0, 1, 2, 3, 6, 7, 8, 9, 10, 11, 20, 23, 42], fun _ _ => .rounds 0⟩
def mAOpenS : List AV → (Nat → Option MB) → Option (List Nat × ((List Int) × (List Int) × Nat × (List Int) × (List (List Int))))
  | [.o (.g [.many 32 (.i .u8 key), .many 12 (.i .u8 nonce)]), .o (.c c), .o (.c d)], lk => match slI lk c with
    | some (n, t) => match slS lk d with
      | some ls => some ([], key, nonce, n, t, ls)
      | none => none
    | none => none
  | _, _ => none
noncomputable def cAOpenS : Spec := callG 19 Tryd.f19.ntmps mAOpenS kAOpenS
theorem vcAOpenS (key nonce : List Int) (n : Nat) (s : List Int) (ls : List (List Int)) : (wpE FAOpenS (Tryd.f19.body.getD .skip) ⟨Tryd.f19.ntmps, slotsOf 0 (kAOpenS (key, nonce, n, s, ls)).avs, (kAOpenS (key, nonce, n, s, ls)).mem⟩ (finK Tryd.prog Tryd.f19.results.toList (postN (kAOpenS (key, nonce, n, s, ls))))) = (true = true ∧ true = true ∧ ls = ls ∧ (∀ (l : List Int), l ∈ ls → List.length l ≤ (140737488355328 : Nat)) ∧ List.length ls ≤ (9223372036854775807 : Nat) ∧ decide ((1048592 : Int) < (↑n : Int)) = false ∧ decide ((1048576 : Int) < (↑(totA (1048576 : Nat) (0 : Nat) ls) : Int)) = false ∧ decide ((↑n : Int) < (16 : Int)) = true ∧ true = true ∧ true = true ∧ (46 : Nat) = (46 : Nat) ∧ Value.slice none (0 : Nat) (0 : Nat) = Value.slice none (0 : Nat) (0 : Nat) ∧ Value.int IntKind.i64 (111 : Int) = Value.int IntKind.i64 (111 : Int)) := by kernel_rfl

set_option maxHeartbeats 8000000 in
theorem wpAOpenS (key nonce : List Int) (n : Nat) (s : List Int) (ls : List (List Int)) (h1 : s.length = n) (h2 : n < 16) (h3 : ls.flatten.length ≤ 1048576) (h4 : ls.length ≤ 16777216) : wpE FAOpenS (Tryd.f19.body.getD .skip) ⟨Tryd.f19.ntmps, slotsOf 0 (kAOpenS (key, nonce, n, s, ls)).avs, (kAOpenS (key, nonce, n, s, ls)).mem⟩ (finK Tryd.prog Tryd.f19.results.toList (postN (kAOpenS (key, nonce, n, s, ls)))) := by
  with_reducible refine Eq.mpr (vcAOpenS key nonce n s ls) ?_
  have ht : totA 1048576 0 ls = ls.flatten.length := by rw [totA_le (by omega)]; omega
  simp only [ht]
  and_intros <;> first | omega | exact True.intro | exact decide_eq_false (by omega) | exact decide_eq_true (by omega) | (intro l hl; have := mem_flat l hl; omega) | with_reducible rfl | kernel_rfl
set_option maxHeartbeats 8000000 in
theorem cAOpenS_ok : SpecOK Tryd.prog cAOpenS := by
  refine callG_ok (c := Tryd.f19.body.getD .skip) mixed Tryd.func19 (by kernel_rfl) rfl (fun x hob => ?_)
  obtain ⟨key, nonce, n, s, ls⟩ := x
  have hob : (s.length = n) ∧ (n < 16) ∧ (ls.flatten.length ≤ 1048576) ∧ (ls.length ≤ 16777216) := hob
  obtain ⟨h1, h2, h3, h4⟩ := hob
  exact ⟨FAOpenS, rfl, evOKs ⟨.inl ⟨cATotal_ok, by kernel_rfl, gl_nil rfl⟩, trivial⟩, rfl, rfl, by with_reducible exact wpAOpenS key nonce n s ls h1 h2 h3 h4⟩
end Go.Proofs.YthhjcpiaoempfaaDoor
