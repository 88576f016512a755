/-
  aead: AeadLimits.
-/
import Derived.Test.YtdbgnkmmjjgbpaaA3
namespace Go.Proofs.Ytdbgnkmmjjgbpaa
open Go.RowKit
set_option maxRecDepth 100000

/-- No list is longer than memory bears. -/
def Lens (ls : List (List Int)) : Prop := ∀ l ∈ ls, l.length ≤ 140737488355328
def fcSealA (d : Nat) : Option Bool := bif Nat.beq d 15 then some true else none
def kSealA : (List Int) × (List Int) × Nat × (List Int) × (List (List Int)) → ClN := fun (key, nonce, n, t, ls) => ⟨[.o (.g [.many 32 (.i .u8 key), .many 12 (.i .u8 nonce)]), .o (.c (.rs 1 n (.i .u8 t))), .o (.c (.rss ls))], [], .t [.c (.v (.slice none 0 0)), .c (.v (.int .i64 2))], [], [], [1048576 < n, ls.length ≤ 16777216, Lens ls]⟩
noncomputable def FSealA : FnE := ⟨mkEv Try.prog [] [cATotal] 0 fcSealA, [0, 1, 2, 3, 6, 7, 8, 9, 10, 19], fun _ _ => .rounds 0⟩
def mSealA : List AV → (Nat → Option MB) → Option (List Nat × ((List Int) × (List Int) × Nat × (List Int) × (List (List Int))))
  | [.o (.g [.many 32 (.i .u8 key), .many 12 (.i .u8 nonce)]), .o (.c c), .o (.c d)], lk => match slI lk c with
    | some (n, t) => match slS lk d with
      | some ls => some ([], key, nonce, n, t, ls)
      | none => none
    | none => none
  | _, _ => none
noncomputable def cSealA : Spec := callG 23 Try.f23.ntmps mSealA kSealA
theorem vcSealA (key nonce : List Int) (n : Nat) (t : List Int) (ls : List (List Int)) : (wpE FSealA (Try.f23.body.getD .skip) ⟨Try.f23.ntmps, slotsOf 0 (kSealA (key, nonce, n, t, ls)).avs, (kSealA (key, nonce, n, t, ls)).mem⟩ (finK Try.prog Try.f23.results.toList (postN (kSealA (key, nonce, n, t, ls))))) = (true = true ∧ true = true ∧ ls = ls ∧ (∀ (l : List Int), l ∈ ls → List.length l ≤ (140737488355328 : Nat)) ∧ List.length ls ≤ (9223372036854775807 : Nat) ∧ decide ((1048576 : Int) < (↑n : Int)) = true ∧ true = true ∧ true = true ∧ (31 : Nat) = (31 : Nat) ∧ Value.slice none (0 : Nat) (0 : Nat) = Value.slice none (0 : Nat) (0 : Nat) ∧ Value.int IntKind.i64 (2 : Int) = Value.int IntKind.i64 (2 : Int)) := by kernel_rfl

set_option maxHeartbeats 8000000 in
theorem wpSealA (key nonce : List Int) (n : Nat) (t : List Int) (ls : List (List Int)) (h1 : 1048576 < n) (h2 : ls.length ≤ 16777216) (h3 : Lens ls) : wpE FSealA (Try.f23.body.getD .skip) ⟨Try.f23.ntmps, slotsOf 0 (kSealA (key, nonce, n, t, ls)).avs, (kSealA (key, nonce, n, t, ls)).mem⟩ (finK Try.prog Try.f23.results.toList (postN (kSealA (key, nonce, n, t, ls)))) := by
  with_reducible refine Eq.mpr (vcSealA key nonce n t ls) ?_
  and_intros <;> first | omega | exact True.intro | exact h3 | with_reducible assumption | exact decide_eq_true (by omega) | with_reducible rfl | kernel_rfl
set_option maxHeartbeats 8000000 in
theorem cSealA_ok : SpecOK Try.prog cSealA := by
  refine callG_ok (c := Try.f23.body.getD .skip) mixed Try.func23 (by kernel_rfl) rfl (fun x hob => ?_)
  obtain ⟨key, nonce, n, t, ls⟩ := x
  have hob : (1048576 < n) ∧ (ls.length ≤ 16777216) ∧ (Lens ls) := hob
  obtain ⟨h1, h2, h3⟩ := hob
  exact ⟨FSealA, rfl, evOKs ⟨.inl ⟨cATotal_ok, by kernel_rfl, gl_nil rfl⟩, trivial⟩, rfl, rfl, by with_reducible exact wpSealA key nonce n t ls h1 h2 h3⟩

def fcSealB (d : Nat) : Option Bool := bif Nat.beq d 15 then some false else bif Nat.beq d 18 then some true else none
def kSealB : (List Int) × (List Int) × Nat × (List Int) × (List (List Int)) → ClN := fun (key, nonce, n, t, ls) => ⟨[.o (.g [.many 32 (.i .u8 key), .many 12 (.i .u8 nonce)]), .o (.c (.rs 1 n (.i .u8 t))), .o (.c (.rss ls))], [], .t [.c (.v (.slice none 0 0)), .c (.v (.int .i64 2))], [], [], [n ≤ 1048576, ls.length ≤ 16777216, Lens ls, 1048576 < ls.flatten.length]⟩
noncomputable def FSealB : FnE := ⟨mkEv Try.prog [] [cATotal] 0 fcSealB, [0, 1, 2, 3, 6, 7, 8, 9, 10, 19], fun _ _ => .rounds 0⟩
def mSealB : List AV → (Nat → Option MB) → Option (List Nat × ((List Int) × (List Int) × Nat × (List Int) × (List (List Int))))
  | [.o (.g [.many 32 (.i .u8 key), .many 12 (.i .u8 nonce)]), .o (.c c), .o (.c d)], lk => match slI lk c with
    | some (n, t) => match slS lk d with
      | some ls => some ([], key, nonce, n, t, ls)
      | none => none
    | none => none
  | _, _ => none
noncomputable def cSealB : Spec := callG 23 Try.f23.ntmps mSealB kSealB
theorem vcSealB (key nonce : List Int) (n : Nat) (t : List Int) (ls : List (List Int)) : (wpE FSealB (Try.f23.body.getD .skip) ⟨Try.f23.ntmps, slotsOf 0 (kSealB (key, nonce, n, t, ls)).avs, (kSealB (key, nonce, n, t, ls)).mem⟩ (finK Try.prog Try.f23.results.toList (postN (kSealB (key, nonce, n, t, ls))))) = (true = true ∧ true = true ∧ ls = ls ∧ (∀ (l : List Int), l ∈ ls → List.length l ≤ (140737488355328 : Nat)) ∧ List.length ls ≤ (9223372036854775807 : Nat) ∧ decide ((1048576 : Int) < (↑n : Int)) = false ∧ decide ((1048576 : Int) < (↑(totA (1048576 : Nat) (0 : Nat) ls) : Int)) = true ∧ true = true ∧ true = true ∧ (31 : Nat) = (31 : Nat) ∧ Value.slice none (0 : Nat) (0 : Nat) = Value.slice none (0 : Nat) (0 : Nat) ∧ Value.int IntKind.i64 (2 : Int) = Value.int IntKind.i64 (2 : Int)) := by kernel_rfl

set_option maxHeartbeats 8000000 in
theorem wpSealB (key nonce : List Int) (n : Nat) (t : List Int) (ls : List (List Int)) (h1 : n ≤ 1048576) (h2 : ls.length ≤ 16777216) (h3 : Lens ls) (h4 : 1048576 < ls.flatten.length) : wpE FSealB (Try.f23.body.getD .skip) ⟨Try.f23.ntmps, slotsOf 0 (kSealB (key, nonce, n, t, ls)).avs, (kSealB (key, nonce, n, t, ls)).mem⟩ (finK Try.prog Try.f23.results.toList (postN (kSealB (key, nonce, n, t, ls)))) := by
  with_reducible refine Eq.mpr (vcSealB key nonce n t ls) ?_
  have ht := totA_gt (M := 1048576) (ls := ls) (s := 0) (by omega) (by omega)
  and_intros <;> first | omega | exact True.intro | exact h3 | with_reducible assumption | exact decide_eq_false (by omega) | exact decide_eq_true (by omega) | with_reducible rfl | kernel_rfl
set_option maxHeartbeats 8000000 in
theorem cSealB_ok : SpecOK Try.prog cSealB := by
  refine callG_ok (c := Try.f23.body.getD .skip) mixed Try.func23 (by kernel_rfl) rfl (fun x hob => ?_)
  obtain ⟨key, nonce, n, t, ls⟩ := x
  have hob : (n ≤ 1048576) ∧ (ls.length ≤ 16777216) ∧ (Lens ls) ∧ (1048576 < ls.flatten.length) := hob
  obtain ⟨h1, h2, h3, h4⟩ := hob
  exact ⟨FSealB, rfl, evOKs ⟨.inl ⟨cATotal_ok, by kernel_rfl, gl_nil rfl⟩, trivial⟩, rfl, rfl, by with_reducible exact wpSealB key nonce n t ls h1 h2 h3 h4⟩

def fcOpenA (d : Nat) : Option Bool := bif Nat.beq d 16 then some true else none
def kOpenA : (List Int) × (List Int) × Nat × (List Int) × (List (List Int)) → ClN := fun (key, nonce, n, t, ls) => ⟨[.o (.g [.many 32 (.i .u8 key), .many 12 (.i .u8 nonce)]), .o (.c (.rs 1 n (.i .u8 t))), .o (.c (.rss ls))], [], .t [.c (.v (.slice none 0 0)), .c (.v (.int .i64 2))], [], [], [1048592 < n, ls.length ≤ 16777216, Lens ls]⟩
noncomputable def FOpenA : FnE := ⟨mkEv Try.prog [] [cATotal] 0 fcOpenA, [0, 1, 2, 3, 6, 7, 8, 9, 10, 11, 20, 23, 42], fun _ _ => .rounds 0⟩
def mOpenA : List AV → (Nat → Option MB) → Option (List Nat × ((List Int) × (List Int) × Nat × (List Int) × (List (List Int))))
  | [.o (.g [.many 32 (.i .u8 key), .many 12 (.i .u8 nonce)]), .o (.c c), .o (.c d)], lk => match slI lk c with
    | some (n, t) => match slS lk d with
      | some ls => some ([], key, nonce, n, t, ls)
      | none => none
    | none => none
  | _, _ => none
noncomputable def cOpenA : Spec := callG 25 Try.f25.ntmps mOpenA kOpenA
theorem vcOpenA (key nonce : List Int) (n : Nat) (t : List Int) (ls : List (List Int)) : (wpE FOpenA (Try.f25.body.getD .skip) ⟨Try.f25.ntmps, slotsOf 0 (kOpenA (key, nonce, n, t, ls)).avs, (kOpenA (key, nonce, n, t, ls)).mem⟩ (finK Try.prog Try.f25.results.toList (postN (kOpenA (key, nonce, n, t, ls))))) = (true = true ∧ true = true ∧ ls = ls ∧ (∀ (l : List Int), l ∈ ls → List.length l ≤ (140737488355328 : Nat)) ∧ List.length ls ≤ (9223372036854775807 : Nat) ∧ decide ((1048592 : Int) < (↑n : Int)) = true ∧ true = true ∧ true = true ∧ (46 : Nat) = (46 : Nat) ∧ Value.slice none (0 : Nat) (0 : Nat) = Value.slice none (0 : Nat) (0 : Nat) ∧ Value.int IntKind.i64 (2 : Int) = Value.int IntKind.i64 (2 : Int)) := by kernel_rfl

set_option maxHeartbeats 8000000 in
theorem wpOpenA (key nonce : List Int) (n : Nat) (t : List Int) (ls : List (List Int)) (h1 : 1048592 < n) (h2 : ls.length ≤ 16777216) (h3 : Lens ls) : wpE FOpenA (Try.f25.body.getD .skip) ⟨Try.f25.ntmps, slotsOf 0 (kOpenA (key, nonce, n, t, ls)).avs, (kOpenA (key, nonce, n, t, ls)).mem⟩ (finK Try.prog Try.f25.results.toList (postN (kOpenA (key, nonce, n, t, ls)))) := by
  with_reducible refine Eq.mpr (vcOpenA key nonce n t ls) ?_
  and_intros <;> first | omega | exact True.intro | exact h3 | with_reducible assumption | exact decide_eq_true (by omega) | with_reducible rfl | kernel_rfl
set_option maxHeartbeats 8000000 in
theorem cOpenA_ok : SpecOK Try.prog cOpenA := by
  refine callG_ok (c := Try.f25.body.getD .skip) mixed Try.func25 (by kernel_rfl) rfl (fun x hob => ?_)
  obtain ⟨key, nonce, n, t, ls⟩ := x
  have hob : (1048592 < n) ∧ (ls.length ≤ 16777216) ∧ (Lens ls) := hob
  obtain ⟨h1, h2, h3⟩ := hob
  exact ⟨FOpenA, rfl, evOKs ⟨.inl ⟨cATotal_ok, by kernel_rfl, gl_nil rfl⟩, trivial⟩, rfl, rfl, by with_reducible exact wpOpenA key nonce n t ls h1 h2 h3⟩

def fcOpenBb (d : Nat) : Option Bool := bif Nat.beq d 16 then some false else bif Nat.beq d 19 then some true else none
def kOpenBb : (List Int) × (List Int) × Nat × (List Int) × (List (List Int)) → ClN := fun (key, nonce, n, t, ls) => ⟨[.o (.g [.many 32 (.i .u8 key), .many 12 (.i .u8 nonce)]), .o (.c (.rs 1 n (.i .u8 t))), .o (.c (.rss ls))], [], .t [.c (.v (.slice none 0 0)), .c (.v (.int .i64 2))], [], [], [n ≤ 1048592, ls.length ≤ 16777216, Lens ls, 1048576 < ls.flatten.length]⟩
noncomputable def FOpenBb : FnE := ⟨mkEv Try.prog [] [cATotal] 0 fcOpenBb, [0, 1, 2, 3, 6, 7, 8, 9, 10, 11, 20, 23, 42], fun _ _ => .rounds 0⟩
def mOpenBb : List AV → (Nat → Option MB) → Option (List Nat × ((List Int) × (List Int) × Nat × (List Int) × (List (List Int))))
  | [.o (.g [.many 32 (.i .u8 key), .many 12 (.i .u8 nonce)]), .o (.c c), .o (.c d)], lk => match slI lk c with
    | some (n, t) => match slS lk d with
      | some ls => some ([], key, nonce, n, t, ls)
      | none => none
    | none => none
  | _, _ => none
noncomputable def cOpenBb : Spec := callG 25 Try.f25.ntmps mOpenBb kOpenBb
theorem vcOpenBb (key nonce : List Int) (n : Nat) (t : List Int) (ls : List (List Int)) : (wpE FOpenBb (Try.f25.body.getD .skip) ⟨Try.f25.ntmps, slotsOf 0 (kOpenBb (key, nonce, n, t, ls)).avs, (kOpenBb (key, nonce, n, t, ls)).mem⟩ (finK Try.prog Try.f25.results.toList (postN (kOpenBb (key, nonce, n, t, ls))))) = (true = true ∧ true = true ∧ ls = ls ∧ (∀ (l : List Int), l ∈ ls → List.length l ≤ (140737488355328 : Nat)) ∧ List.length ls ≤ (9223372036854775807 : Nat) ∧ decide ((1048592 : Int) < (↑n : Int)) = false ∧ decide ((1048576 : Int) < (↑(totA (1048576 : Nat) (0 : Nat) ls) : Int)) = true ∧ true = true ∧ true = true ∧ (46 : Nat) = (46 : Nat) ∧ Value.slice none (0 : Nat) (0 : Nat) = Value.slice none (0 : Nat) (0 : Nat) ∧ Value.int IntKind.i64 (2 : Int) = Value.int IntKind.i64 (2 : Int)) := by kernel_rfl

set_option maxHeartbeats 8000000 in
theorem wpOpenBb (key nonce : List Int) (n : Nat) (t : List Int) (ls : List (List Int)) (h1 : n ≤ 1048592) (h2 : ls.length ≤ 16777216) (h3 : Lens ls) (h4 : 1048576 < ls.flatten.length) : wpE FOpenBb (Try.f25.body.getD .skip) ⟨Try.f25.ntmps, slotsOf 0 (kOpenBb (key, nonce, n, t, ls)).avs, (kOpenBb (key, nonce, n, t, ls)).mem⟩ (finK Try.prog Try.f25.results.toList (postN (kOpenBb (key, nonce, n, t, ls)))) := by
  with_reducible refine Eq.mpr (vcOpenBb key nonce n t ls) ?_
  have ht := totA_gt (M := 1048576) (ls := ls) (s := 0) (by omega) (by omega)
  and_intros <;> first | omega | exact True.intro | exact h3 | with_reducible assumption | exact decide_eq_false (by omega) | exact decide_eq_true (by omega) | with_reducible rfl | kernel_rfl
set_option maxHeartbeats 8000000 in
theorem cOpenBb_ok : SpecOK Try.prog cOpenBb := by
  refine callG_ok (c := Try.f25.body.getD .skip) mixed Try.func25 (by kernel_rfl) rfl (fun x hob => ?_)
  obtain ⟨key, nonce, n, t, ls⟩ := x
  have hob : (n ≤ 1048592) ∧ (ls.length ≤ 16777216) ∧ (Lens ls) ∧ (1048576 < ls.flatten.length) := hob
  obtain ⟨h1, h2, h3, h4⟩ := hob
  exact ⟨FOpenBb, rfl, evOKs ⟨.inl ⟨cATotal_ok, by kernel_rfl, gl_nil rfl⟩, trivial⟩, rfl, rfl, by with_reducible exact wpOpenBb key nonce n t ls h1 h2 h3 h4⟩

def fcLimD1 (d : Nat) : Option Bool := bif Nat.beq d 15 then some true else none
def kLimD1 : (List Int) × (List Int) × Int × Int → ClN := fun (key, nonce, p, q) => ⟨[.o (.g [.many 2 (.i .i64 [p, q])]), .o (.g [.many 32 (.i .u8 key), .many 12 (.i .u8 nonce)])], [], vv (.bool true), [], [], [key.length = 32, nonce.length = 12, p < -2]⟩
noncomputable def FLimD1 : FnE := ⟨mkEv Try.prog [] [cOpens] 0 fcLimD1, [0, 1, 2, 3, 4, 5, 6, 7, 8, 10, 12, 30, 57], fun _ _ => .rounds 0⟩
theorem vcLimD1 (key nonce : List Int) (p q : Int) : (wpE FLimD1 (Try.f12.body.getD .skip) ⟨Try.f12.ntmps, slotsOf 0 (kLimD1 (key, nonce, p, q)).avs, (kLimD1 (key, nonce, p, q)).mem⟩ (finK Try.prog Try.f12.results.toList (postN (kLimD1 (key, nonce, p, q))))) = (true = true ∧ (0 : Int) ≤ (0 : Int) ∧ (0 : Int) < (2 : Int) ∧ (0 : Nat) < (2 : Nat) ∧ decide (p < (-2 : Int)) = true ∧ true = true ∧ true = true ∧ (90 : Nat) = (90 : Nat) ∧ Value.bool true = Value.bool true) := by kernel_rfl

set_option maxHeartbeats 8000000 in
theorem wpLimD1 (key nonce : List Int) (p q : Int) (h1 : key.length = 32) (h2 : nonce.length = 12) (h3 : p < -2) : wpE FLimD1 (Try.f12.body.getD .skip) ⟨Try.f12.ntmps, slotsOf 0 (kLimD1 (key, nonce, p, q)).avs, (kLimD1 (key, nonce, p, q)).mem⟩ (finK Try.prog Try.f12.results.toList (postN (kLimD1 (key, nonce, p, q)))) := by
  with_reducible refine Eq.mpr (vcLimD1 key nonce p q) ?_
  have _ := h1
  have _ := h2
  and_intros <;> first | omega | exact True.intro | exact decide_eq_false (by omega) | exact decide_eq_true (by omega) | with_reducible rfl | kernel_rfl
set_option maxHeartbeats 8000000 in
theorem lwLimD1 (key nonce : List Int) (p q : Int) (h1 : key.length = 32) (h2 : nonce.length = 12) (h3 : p < -2) {W : World} {vs : List Value} (hD : All2 (DA (cxL W ([])) be0) (kLimD1 (key, nonce, p, q)).avs vs) : Calls Try.prog 12 vs.toArray W (fun e W' => e = .returned (.bool true) ∧ Upd (fun _ => False) W W') :=
  law_calls (F := FLimD1) (fn := Try.f12) (c := Try.f12.body.getD .skip) (k := kLimD1 (key, nonce, p, q)) rfl (evOKs ⟨.inl ⟨cOpens_ok, by kernel_rfl, gl_nil rfl⟩, trivial⟩) mixed rfl (fun _ _ h => by cases h) Try.func12 (by kernel_rfl) rfl rfl hD (by kernel_rfl) (by with_reducible exact wpLimD1 key nonce p q h1 h2 h3)

def fcLimD2 (d : Nat) : Option Bool := bif Nat.beq d 15 then some false else bif Nat.beq d 19 then some true else none
def kLimD2 : (List Int) × (List Int) × Int × Int → ClN := fun (key, nonce, p, q) => ⟨[.o (.g [.many 2 (.i .i64 [p, q])]), .o (.g [.many 32 (.i .u8 key), .many 12 (.i .u8 nonce)])], [], vv (.bool true), [], [], [key.length = 32, nonce.length = 12, ¬ p < -2, 2 < p]⟩
noncomputable def FLimD2 : FnE := ⟨mkEv Try.prog [] [cOpens] 0 fcLimD2, [0, 1, 2, 3, 4, 5, 6, 7, 8, 10, 12, 30, 57], fun _ _ => .rounds 0⟩
theorem vcLimD2 (key nonce : List Int) (p q : Int) : (wpE FLimD2 (Try.f12.body.getD .skip) ⟨Try.f12.ntmps, slotsOf 0 (kLimD2 (key, nonce, p, q)).avs, (kLimD2 (key, nonce, p, q)).mem⟩ (finK Try.prog Try.f12.results.toList (postN (kLimD2 (key, nonce, p, q))))) = (true = true ∧ (0 : Int) ≤ (0 : Int) ∧ (0 : Int) < (2 : Int) ∧ (0 : Nat) < (2 : Nat) ∧ decide (p < (-2 : Int)) = false ∧ (0 : Int) ≤ (0 : Int) ∧ (0 : Int) < (2 : Int) ∧ (0 : Nat) < (2 : Nat) ∧ decide ((2 : Int) < p) = true ∧ true = true ∧ true = true ∧ (90 : Nat) = (90 : Nat) ∧ Value.bool true = Value.bool true) := by kernel_rfl

set_option maxHeartbeats 8000000 in
theorem wpLimD2 (key nonce : List Int) (p q : Int) (h1 : key.length = 32) (h2 : nonce.length = 12) (h3 : ¬ p < -2) (h4 : 2 < p) : wpE FLimD2 (Try.f12.body.getD .skip) ⟨Try.f12.ntmps, slotsOf 0 (kLimD2 (key, nonce, p, q)).avs, (kLimD2 (key, nonce, p, q)).mem⟩ (finK Try.prog Try.f12.results.toList (postN (kLimD2 (key, nonce, p, q)))) := by
  with_reducible refine Eq.mpr (vcLimD2 key nonce p q) ?_
  have _ := h1
  have _ := h2
  and_intros <;> first | omega | exact True.intro | exact decide_eq_false (by omega) | exact decide_eq_true (by omega) | with_reducible rfl | kernel_rfl
set_option maxHeartbeats 8000000 in
theorem lwLimD2 (key nonce : List Int) (p q : Int) (h1 : key.length = 32) (h2 : nonce.length = 12) (h3 : ¬ p < -2) (h4 : 2 < p) {W : World} {vs : List Value} (hD : All2 (DA (cxL W ([])) be0) (kLimD2 (key, nonce, p, q)).avs vs) : Calls Try.prog 12 vs.toArray W (fun e W' => e = .returned (.bool true) ∧ Upd (fun _ => False) W W') :=
  law_calls (F := FLimD2) (fn := Try.f12) (c := Try.f12.body.getD .skip) (k := kLimD2 (key, nonce, p, q)) rfl (evOKs ⟨.inl ⟨cOpens_ok, by kernel_rfl, gl_nil rfl⟩, trivial⟩) mixed rfl (fun _ _ h => by cases h) Try.func12 (by kernel_rfl) rfl rfl hD (by kernel_rfl) (by with_reducible exact wpLimD2 key nonce p q h1 h2 h3 h4)

def fcLimD3 (d : Nat) : Option Bool := bif Nat.beq d 15 || Nat.beq d 19 then some false else bif Nat.beq d 24 then some true else none
def kLimD3 : (List Int) × (List Int) × Int × Int → ClN := fun (key, nonce, p, q) => ⟨[.o (.g [.many 2 (.i .i64 [p, q])]), .o (.g [.many 32 (.i .u8 key), .many 12 (.i .u8 nonce)])], [], vv (.bool true), [], [], [key.length = 32, nonce.length = 12, ¬ p < -2, ¬ 2 < p, q < -2]⟩
noncomputable def FLimD3 : FnE := ⟨mkEv Try.prog [] [cOpens] 0 fcLimD3, [0, 1, 2, 3, 4, 5, 6, 7, 8, 10, 12, 30, 57], fun _ _ => .rounds 0⟩
theorem vcLimD3 (key nonce : List Int) (p q : Int) : (wpE FLimD3 (Try.f12.body.getD .skip) ⟨Try.f12.ntmps, slotsOf 0 (kLimD3 (key, nonce, p, q)).avs, (kLimD3 (key, nonce, p, q)).mem⟩ (finK Try.prog Try.f12.results.toList (postN (kLimD3 (key, nonce, p, q))))) = (true = true ∧ (0 : Int) ≤ (0 : Int) ∧ (0 : Int) < (2 : Int) ∧ (0 : Nat) < (2 : Nat) ∧ decide (p < (-2 : Int)) = false ∧ (0 : Int) ≤ (0 : Int) ∧ (0 : Int) < (2 : Int) ∧ (0 : Nat) < (2 : Nat) ∧ decide ((2 : Int) < p) = false ∧ (0 : Int) ≤ (1 : Int) ∧ (1 : Int) < (2 : Int) ∧ (1 : Nat) < (2 : Nat) ∧ decide (q < (-2 : Int)) = true ∧ true = true ∧ true = true ∧ (90 : Nat) = (90 : Nat) ∧ Value.bool true = Value.bool true) := by kernel_rfl

set_option maxHeartbeats 8000000 in
theorem wpLimD3 (key nonce : List Int) (p q : Int) (h1 : key.length = 32) (h2 : nonce.length = 12) (h3 : ¬ p < -2) (h4 : ¬ 2 < p) (h5 : q < -2) : wpE FLimD3 (Try.f12.body.getD .skip) ⟨Try.f12.ntmps, slotsOf 0 (kLimD3 (key, nonce, p, q)).avs, (kLimD3 (key, nonce, p, q)).mem⟩ (finK Try.prog Try.f12.results.toList (postN (kLimD3 (key, nonce, p, q)))) := by
  with_reducible refine Eq.mpr (vcLimD3 key nonce p q) ?_
  have _ := h1
  have _ := h2
  and_intros <;> first | omega | exact True.intro | exact decide_eq_false (by omega) | exact decide_eq_true (by omega) | with_reducible rfl | kernel_rfl
set_option maxHeartbeats 8000000 in
theorem lwLimD3 (key nonce : List Int) (p q : Int) (h1 : key.length = 32) (h2 : nonce.length = 12) (h3 : ¬ p < -2) (h4 : ¬ 2 < p) (h5 : q < -2) {W : World} {vs : List Value} (hD : All2 (DA (cxL W ([])) be0) (kLimD3 (key, nonce, p, q)).avs vs) : Calls Try.prog 12 vs.toArray W (fun e W' => e = .returned (.bool true) ∧ Upd (fun _ => False) W W') :=
  law_calls (F := FLimD3) (fn := Try.f12) (c := Try.f12.body.getD .skip) (k := kLimD3 (key, nonce, p, q)) rfl (evOKs ⟨.inl ⟨cOpens_ok, by kernel_rfl, gl_nil rfl⟩, trivial⟩) mixed rfl (fun _ _ h => by cases h) Try.func12 (by kernel_rfl) rfl rfl hD (by kernel_rfl) (by with_reducible exact wpLimD3 key nonce p q h1 h2 h3 h4 h5)

def fcLimD4 (d : Nat) : Option Bool := bif Nat.beq d 15 || Nat.beq d 19 || Nat.beq d 24 then some false else bif Nat.beq d 29 then some true else none
def kLimD4 : (List Int) × (List Int) × Int × Int → ClN := fun (key, nonce, p, q) => ⟨[.o (.g [.many 2 (.i .i64 [p, q])]), .o (.g [.many 32 (.i .u8 key), .many 12 (.i .u8 nonce)])], [], vv (.bool true), [], [], [key.length = 32, nonce.length = 12, ¬ p < -2, ¬ 2 < p, ¬ q < -2, 2 < q]⟩
noncomputable def FLimD4 : FnE := ⟨mkEv Try.prog [] [cOpens] 0 fcLimD4, [0, 1, 2, 3, 4, 5, 6, 7, 8, 10, 12, 30, 57], fun _ _ => .rounds 0⟩
theorem vcLimD4 (key nonce : List Int) (p q : Int) : (wpE FLimD4 (Try.f12.body.getD .skip) ⟨Try.f12.ntmps, slotsOf 0 (kLimD4 (key, nonce, p, q)).avs, (kLimD4 (key, nonce, p, q)).mem⟩ (finK Try.prog Try.f12.results.toList (postN (kLimD4 (key, nonce, p, q))))) = (true = true ∧ (0 : Int) ≤ (0 : Int) ∧ (0 : Int) < (2 : Int) ∧ (0 : Nat) < (2 : Nat) ∧ decide (p < (-2 : Int)) = false ∧ (0 : Int) ≤ (0 : Int) ∧ (0 : Int) < (2 : Int) ∧ (0 : Nat) < (2 : Nat) ∧ decide ((2 : Int) < p) = false ∧ (0 : Int) ≤ (1 : Int) ∧ (1 : Int) < (2 : Int) ∧ (1 : Nat) < (2 : Nat) ∧ decide (q < (-2 : Int)) = false ∧ (0 : Int) ≤ (1 : Int) ∧ (1 : Int) < (2 : Int) ∧ (1 : Nat) < (2 : Nat) ∧ decide ((2 : Int) < q) = true ∧ true = true ∧ true = true ∧ (90 : Nat) = (90 : Nat) ∧ Value.bool true = Value.bool true) := by kernel_rfl

set_option maxHeartbeats 8000000 in
theorem wpLimD4 (key nonce : List Int) (p q : Int) (h1 : key.length = 32) (h2 : nonce.length = 12) (h3 : ¬ p < -2) (h4 : ¬ 2 < p) (h5 : ¬ q < -2) (h6 : 2 < q) : wpE FLimD4 (Try.f12.body.getD .skip) ⟨Try.f12.ntmps, slotsOf 0 (kLimD4 (key, nonce, p, q)).avs, (kLimD4 (key, nonce, p, q)).mem⟩ (finK Try.prog Try.f12.results.toList (postN (kLimD4 (key, nonce, p, q)))) := by
  with_reducible refine Eq.mpr (vcLimD4 key nonce p q) ?_
  have _ := h1
  have _ := h2
  and_intros <;> first | omega | exact True.intro | exact decide_eq_false (by omega) | exact decide_eq_true (by omega) | with_reducible rfl | kernel_rfl
set_option maxHeartbeats 8000000 in
theorem lwLimD4 (key nonce : List Int) (p q : Int) (h1 : key.length = 32) (h2 : nonce.length = 12) (h3 : ¬ p < -2) (h4 : ¬ 2 < p) (h5 : ¬ q < -2) (h6 : 2 < q) {W : World} {vs : List Value} (hD : All2 (DA (cxL W ([])) be0) (kLimD4 (key, nonce, p, q)).avs vs) : Calls Try.prog 12 vs.toArray W (fun e W' => e = .returned (.bool true) ∧ Upd (fun _ => False) W W') :=
  law_calls (F := FLimD4) (fn := Try.f12) (c := Try.f12.body.getD .skip) (k := kLimD4 (key, nonce, p, q)) rfl (evOKs ⟨.inl ⟨cOpens_ok, by kernel_rfl, gl_nil rfl⟩, trivial⟩) mixed rfl (fun _ _ h => by cases h) Try.func12 (by kernel_rfl) rfl rfl hD (by kernel_rfl) (by with_reducible exact wpLimD4 key nonce p q h1 h2 h3 h4 h5 h6)

def fcLimA (d : Nat) : Option Bool := bif Nat.beq d 15 || Nat.beq d 19 || Nat.beq d 24 || Nat.beq d 29 then some false else bif Nat.beq d 52 || Nat.beq d 70 || Nat.beq d 73 || Nat.beq d 78 then some true else none
def kLimA : (List Int) × (List Int) × Int × Int → ClN := fun (key, nonce, p, q) => ⟨[.o (.g [.many 2 (.i .i64 [p, q])]), .o (.g [.many 32 (.i .u8 key), .many 12 (.i .u8 nonce)])], [], vv (.bool true), [], [], [key.length = 32, nonce.length = 12, ¬ p < -2, ¬ 2 < p, ¬ q < -2, ¬ 2 < q, 0 < p]⟩
noncomputable def FLimA : FnE := ⟨mkEv Try.prog [] [cSealA, cOpenA, cOpens] 0 fcLimA, [0, 1, 2, 3, 4, 5, 6, 7, 8, 10, 12, 30, 57], fun _ _ => .rounds 0⟩
theorem vcLimA (key nonce : List Int) (p q : Int) : (wpE FLimA (Try.f12.body.getD .skip) ⟨Try.f12.ntmps, slotsOf 0 (kLimA (key, nonce, p, q)).avs, (kLimA (key, nonce, p, q)).mem⟩ (finK Try.prog Try.f12.results.toList (postN (kLimA (key, nonce, p, q))))) = (let x3 := IntKind.wrap IntKind.i64 ((1048576 : Int) + p); let x4 := IntKind.wrap IntKind.i64 ((1048576 : Int) + q); let x5 := List.replicate (Int.toNat x3) (0 : Int); let x6 := List.replicate (Int.toNat x4) (0 : Int); let x7 := [List.take (9 : Nat) (List.drop (0 : Nat) x6), List.take (Int.toNat x4 - (9 : Nat)) (List.drop (9 : Nat) x6)]; let x8 := IntKind.wrap IntKind.i64 ((↑(Int.toNat x3) : Int) + (16 : Int)); let x9 := List.replicate (Int.toNat x8) (0 : Int); let x10 := [x6]; true = true ∧ (0 : Int) ≤ (0 : Int) ∧ (0 : Int) < (2 : Int) ∧ (0 : Nat) < (2 : Nat) ∧ decide (p < (-2 : Int)) = false ∧ (0 : Int) ≤ (0 : Int) ∧ (0 : Int) < (2 : Int) ∧ (0 : Nat) < (2 : Nat) ∧ decide ((2 : Int) < p) = false ∧ (0 : Int) ≤ (1 : Int) ∧ (1 : Int) < (2 : Int) ∧ (1 : Nat) < (2 : Nat) ∧ decide (q < (-2 : Int)) = false ∧ (0 : Int) ≤ (1 : Int) ∧ (1 : Int) < (2 : Int) ∧ (1 : Nat) < (2 : Nat) ∧ decide ((2 : Int) < q) = false ∧ (0 : Int) ≤ (0 : Int) ∧ (0 : Int) < (2 : Int) ∧ (0 : Nat) < (2 : Nat) ∧ (0 : Int) ≤ x3 ∧ x3 ≤ x3 ∧ (1 : Int) * x3 ≤ (281474976710656 : Int) ∧ x3 ≤ (9223372036854775807 : Int) ∧ (0 : Int) ≤ (1 : Int) ∧ (1 : Int) < (2 : Int) ∧ (1 : Nat) < (2 : Nat) ∧ (0 : Int) ≤ x4 ∧ x4 ≤ x4 ∧ (1 : Int) * x4 ≤ (281474976710656 : Int) ∧ x4 ≤ (9223372036854775807 : Int) ∧ (0 : Int) ≤ (9 : Int) ∧ (9 : Nat) ≤ Int.toNat x4 ∧ (0 : Int) ≤ (9 : Int) ∧ (9 : Nat) ≤ Int.toNat x4 ∧ true = true ∧ (32 : Nat) = (32 : Nat) ∧ key = key ∧ (12 : Nat) = (12 : Nat) ∧ nonce = nonce ∧ true = true ∧ Int.toNat x3 = Int.toNat x3 ∧ x5 = x5 ∧ List.length x5 = Int.toNat x3 ∧ true = true ∧ x7 = x7 ∧ (2 : Nat) = (2 : Nat) ∧ (0 : Nat) + (9 : Nat) ≤ List.length x6 ∧ (9 : Nat) + (Int.toNat x4 - (9 : Nat)) ≤ List.length x6 ∧ (1048576 : Nat) < Int.toNat x3 ∧ (2 : Nat) ≤ (16777216 : Nat) ∧ Lens x7 ∧ (0 : Int) ≤ (0 : Int) ∧ (0 : Int) < (2 : Int) ∧ (0 : Nat) < (2 : Nat) ∧ decide ((0 : Int) < p) = true ∧ (0 : Int) ≤ x8 ∧ x8 ≤ x8 ∧ (1 : Int) * x8 ≤ (281474976710656 : Int) ∧ x8 ≤ (9223372036854775807 : Int) ∧ true = true ∧ (32 : Nat) = (32 : Nat) ∧ key = key ∧ (12 : Nat) = (12 : Nat) ∧ nonce = nonce ∧ true = true ∧ Int.toNat x8 = Int.toNat x8 ∧ x9 = x9 ∧ List.length x9 = Int.toNat x8 ∧ true = true ∧ x10 = x10 ∧ (1 : Nat) = (1 : Nat) ∧ List.length x6 = Int.toNat x4 ∧ (1048592 : Nat) < Int.toNat x8 ∧ (1 : Nat) ≤ (16777216 : Nat) ∧ Lens x10 ∧ decide ((2 : Int) = (2 : Int)) = true ∧ decide ((2 : Int) = (2 : Int)) = true ∧ decide ((0 : Int) = (0 : Int)) = true ∧ true = true ∧ true = true ∧ (90 : Nat) = (90 : Nat) ∧ (bif true then Value.bool true else Value.bool false) = Value.bool true) := by kernel_rfl

set_option maxHeartbeats 8000000 in
theorem wpLimA (key nonce : List Int) (p q : Int) (h1 : key.length = 32) (h2 : nonce.length = 12) (h3 : ¬ p < -2) (h4 : ¬ 2 < p) (h5 : ¬ q < -2) (h6 : ¬ 2 < q) (h7 : 0 < p) : wpE FLimA (Try.f12.body.getD .skip) ⟨Try.f12.ntmps, slotsOf 0 (kLimA (key, nonce, p, q)).avs, (kLimA (key, nonce, p, q)).mem⟩ (finK Try.prog Try.f12.results.toList (postN (kLimA (key, nonce, p, q)))) := by
  with_reducible refine Eq.mpr (vcLimA key nonce p q) ?_
  have _ := h1
  have _ := h2
  intro x1 x2 x3 x4 x5 x6 x7 x8
  have t3 : x1 = 1048576 + p := by
    show IntKind.wrap .i64 _ = _
    rw [IntKind.wrap_i64]; omega
  have t4 : x2 = 1048576 + q := by
    show IntKind.wrap .i64 _ = _
    rw [IntKind.wrap_i64]; omega
  have l5 : x3.length = x1.toNat := List.length_replicate
  have l6 : x4.length = x2.toNat := List.length_replicate
  have f7 : x5.flatten.length = x2.toNat := by
    show [List.take 9 (List.drop 0 x4), List.take (x2.toNat - 9) (List.drop 9 x4)].flatten.length = _
    simp only [List.flatten_cons, List.flatten_nil, List.length_append, List.length_take, List.length_drop, List.length_nil]
    omega
  have n7 : Lens x5 := by
    show Lens [List.take 9 (List.drop 0 x4), List.take (x2.toNat - 9) (List.drop 9 x4)]
    intro l hl
    simp only [List.mem_cons, List.not_mem_nil, or_false] at hl
    rcases hl with rfl | rfl <;> (rw [List.length_take, List.length_drop]; omega)
  have t8 : x6 = x1 + 16 := by
    show IntKind.wrap .i64 (((x1.toNat : Nat) : Int) + 16) = _
    rw [IntKind.wrap_i64]; omega
  have l9 : x7.length = x6.toNat := List.length_replicate
  have f10 : x8.flatten.length = x2.toNat := by
    show [x4].flatten.length = _
    simp only [List.flatten_cons, List.flatten_nil, List.length_append, List.length_nil]
    omega
  have n10 : Lens x8 := by
    show Lens [x4]
    intro l hl
    simp only [List.mem_cons, List.not_mem_nil, or_false] at hl
    subst hl; omega
  clear_value x8 x7 x6 x5 x4 x3 x2 x1
  and_intros <;> first | omega | exact True.intro | with_reducible assumption | exact decide_eq_false (by omega) | exact decide_eq_true (by omega) | with_reducible rfl | kernel_rfl
set_option maxHeartbeats 8000000 in
theorem lwLimA (key nonce : List Int) (p q : Int) (h1 : key.length = 32) (h2 : nonce.length = 12) (h3 : ¬ p < -2) (h4 : ¬ 2 < p) (h5 : ¬ q < -2) (h6 : ¬ 2 < q) (h7 : 0 < p) {W : World} {vs : List Value} (hD : All2 (DA (cxL W ([])) be0) (kLimA (key, nonce, p, q)).avs vs) : Calls Try.prog 12 vs.toArray W (fun e W' => e = .returned (.bool true) ∧ Upd (fun _ => False) W W') :=
  law_calls (F := FLimA) (fn := Try.f12) (c := Try.f12.body.getD .skip) (k := kLimA (key, nonce, p, q)) rfl (evOKs ⟨.inl ⟨cSealA_ok, by kernel_rfl, gl_nil rfl⟩, ⟨.inl ⟨cOpenA_ok, by kernel_rfl, gl_nil rfl⟩, ⟨.inl ⟨cOpens_ok, by kernel_rfl, gl_nil rfl⟩, trivial⟩⟩⟩) mixed rfl (fun _ _ h => by cases h) Try.func12 (by kernel_rfl) rfl rfl hD (by kernel_rfl) (by with_reducible exact wpLimA key nonce p q h1 h2 h3 h4 h5 h6 h7)

def fcLimB (d : Nat) : Option Bool := bif Nat.beq d 15 || Nat.beq d 19 || Nat.beq d 24 || Nat.beq d 29 || Nat.beq d 52 then some false else bif Nat.beq d 56 || Nat.beq d 70 || Nat.beq d 73 || Nat.beq d 78 then some true else none
def kLimB : (List Int) × (List Int) × Int × Int → ClN := fun (key, nonce, p, q) => ⟨[.o (.g [.many 2 (.i .i64 [p, q])]), .o (.g [.many 32 (.i .u8 key), .many 12 (.i .u8 nonce)])], [], vv (.bool true), [], [], [key.length = 32, nonce.length = 12, ¬ p < -2, ¬ 2 < p, ¬ q < -2, ¬ 2 < q, ¬ 0 < p, 0 < q]⟩
noncomputable def FLimB : FnE := ⟨mkEv Try.prog [] [cSealB, cOpenBb, cOpens] 0 fcLimB, [0, 1, 2, 3, 4, 5, 6, 7, 8, 10, 12, 30, 57], fun _ _ => .rounds 0⟩
theorem vcLimB (key nonce : List Int) (p q : Int) : (wpE FLimB (Try.f12.body.getD .skip) ⟨Try.f12.ntmps, slotsOf 0 (kLimB (key, nonce, p, q)).avs, (kLimB (key, nonce, p, q)).mem⟩ (finK Try.prog Try.f12.results.toList (postN (kLimB (key, nonce, p, q))))) = (let x3 := IntKind.wrap IntKind.i64 ((1048576 : Int) + p); let x4 := IntKind.wrap IntKind.i64 ((1048576 : Int) + q); let x5 := List.replicate (Int.toNat x3) (0 : Int); let x6 := List.replicate (Int.toNat x4) (0 : Int); let x7 := [List.take (9 : Nat) (List.drop (0 : Nat) x6), List.take (Int.toNat x4 - (9 : Nat)) (List.drop (9 : Nat) x6)]; let x8 := IntKind.wrap IntKind.i64 ((↑(Int.toNat x3) : Int) + (16 : Int)); let x9 := List.replicate (Int.toNat x8) (0 : Int); let x10 := [x6]; true = true ∧ (0 : Int) ≤ (0 : Int) ∧ (0 : Int) < (2 : Int) ∧ (0 : Nat) < (2 : Nat) ∧ decide (p < (-2 : Int)) = false ∧ (0 : Int) ≤ (0 : Int) ∧ (0 : Int) < (2 : Int) ∧ (0 : Nat) < (2 : Nat) ∧ decide ((2 : Int) < p) = false ∧ (0 : Int) ≤ (1 : Int) ∧ (1 : Int) < (2 : Int) ∧ (1 : Nat) < (2 : Nat) ∧ decide (q < (-2 : Int)) = false ∧ (0 : Int) ≤ (1 : Int) ∧ (1 : Int) < (2 : Int) ∧ (1 : Nat) < (2 : Nat) ∧ decide ((2 : Int) < q) = false ∧ (0 : Int) ≤ (0 : Int) ∧ (0 : Int) < (2 : Int) ∧ (0 : Nat) < (2 : Nat) ∧ (0 : Int) ≤ x3 ∧ x3 ≤ x3 ∧ (1 : Int) * x3 ≤ (281474976710656 : Int) ∧ x3 ≤ (9223372036854775807 : Int) ∧ (0 : Int) ≤ (1 : Int) ∧ (1 : Int) < (2 : Int) ∧ (1 : Nat) < (2 : Nat) ∧ (0 : Int) ≤ x4 ∧ x4 ≤ x4 ∧ (1 : Int) * x4 ≤ (281474976710656 : Int) ∧ x4 ≤ (9223372036854775807 : Int) ∧ (0 : Int) ≤ (9 : Int) ∧ (9 : Nat) ≤ Int.toNat x4 ∧ (0 : Int) ≤ (9 : Int) ∧ (9 : Nat) ≤ Int.toNat x4 ∧ true = true ∧ (32 : Nat) = (32 : Nat) ∧ key = key ∧ (12 : Nat) = (12 : Nat) ∧ nonce = nonce ∧ true = true ∧ Int.toNat x3 = Int.toNat x3 ∧ x5 = x5 ∧ List.length x5 = Int.toNat x3 ∧ true = true ∧ x7 = x7 ∧ (2 : Nat) = (2 : Nat) ∧ (0 : Nat) + (9 : Nat) ≤ List.length x6 ∧ (9 : Nat) + (Int.toNat x4 - (9 : Nat)) ≤ List.length x6 ∧ Int.toNat x3 ≤ (1048576 : Nat) ∧ (2 : Nat) ≤ (16777216 : Nat) ∧ Lens x7 ∧ (1048576 : Nat) < List.length (List.flatten x7) ∧ (0 : Int) ≤ (0 : Int) ∧ (0 : Int) < (2 : Int) ∧ (0 : Nat) < (2 : Nat) ∧ decide ((0 : Int) < p) = false ∧ (0 : Int) ≤ (1 : Int) ∧ (1 : Int) < (2 : Int) ∧ (1 : Nat) < (2 : Nat) ∧ decide ((0 : Int) < q) = true ∧ (0 : Int) ≤ x8 ∧ x8 ≤ x8 ∧ (1 : Int) * x8 ≤ (281474976710656 : Int) ∧ x8 ≤ (9223372036854775807 : Int) ∧ true = true ∧ (32 : Nat) = (32 : Nat) ∧ key = key ∧ (12 : Nat) = (12 : Nat) ∧ nonce = nonce ∧ true = true ∧ Int.toNat x8 = Int.toNat x8 ∧ x9 = x9 ∧ List.length x9 = Int.toNat x8 ∧ true = true ∧ x10 = x10 ∧ (1 : Nat) = (1 : Nat) ∧ List.length x6 = Int.toNat x4 ∧ Int.toNat x8 ≤ (1048592 : Nat) ∧ (1 : Nat) ≤ (16777216 : Nat) ∧ Lens x10 ∧ (1048576 : Nat) < List.length (List.flatten x10) ∧ decide ((2 : Int) = (2 : Int)) = true ∧ decide ((2 : Int) = (2 : Int)) = true ∧ decide ((0 : Int) = (0 : Int)) = true ∧ true = true ∧ true = true ∧ (90 : Nat) = (90 : Nat) ∧ (bif true then Value.bool true else Value.bool false) = Value.bool true) := by kernel_rfl

set_option maxHeartbeats 8000000 in
theorem wpLimB (key nonce : List Int) (p q : Int) (h1 : key.length = 32) (h2 : nonce.length = 12) (h3 : ¬ p < -2) (h4 : ¬ 2 < p) (h5 : ¬ q < -2) (h6 : ¬ 2 < q) (h7 : ¬ 0 < p) (h8 : 0 < q) : wpE FLimB (Try.f12.body.getD .skip) ⟨Try.f12.ntmps, slotsOf 0 (kLimB (key, nonce, p, q)).avs, (kLimB (key, nonce, p, q)).mem⟩ (finK Try.prog Try.f12.results.toList (postN (kLimB (key, nonce, p, q)))) := by
  with_reducible refine Eq.mpr (vcLimB key nonce p q) ?_
  have _ := h1
  have _ := h2
  intro x1 x2 x3 x4 x5 x6 x7 x8
  have t3 : x1 = 1048576 + p := by
    show IntKind.wrap .i64 _ = _
    rw [IntKind.wrap_i64]; omega
  have t4 : x2 = 1048576 + q := by
    show IntKind.wrap .i64 _ = _
    rw [IntKind.wrap_i64]; omega
  have l5 : x3.length = x1.toNat := List.length_replicate
  have l6 : x4.length = x2.toNat := List.length_replicate
  have f7 : x5.flatten.length = x2.toNat := by
    show [List.take 9 (List.drop 0 x4), List.take (x2.toNat - 9) (List.drop 9 x4)].flatten.length = _
    simp only [List.flatten_cons, List.flatten_nil, List.length_append, List.length_take, List.length_drop, List.length_nil]
    omega
  have n7 : Lens x5 := by
    show Lens [List.take 9 (List.drop 0 x4), List.take (x2.toNat - 9) (List.drop 9 x4)]
    intro l hl
    simp only [List.mem_cons, List.not_mem_nil, or_false] at hl
    rcases hl with rfl | rfl <;> (rw [List.length_take, List.length_drop]; omega)
  have t8 : x6 = x1 + 16 := by
    show IntKind.wrap .i64 (((x1.toNat : Nat) : Int) + 16) = _
    rw [IntKind.wrap_i64]; omega
  have l9 : x7.length = x6.toNat := List.length_replicate
  have f10 : x8.flatten.length = x2.toNat := by
    show [x4].flatten.length = _
    simp only [List.flatten_cons, List.flatten_nil, List.length_append, List.length_nil]
    omega
  have n10 : Lens x8 := by
    show Lens [x4]
    intro l hl
    simp only [List.mem_cons, List.not_mem_nil, or_false] at hl
    subst hl; omega
  clear_value x8 x7 x6 x5 x4 x3 x2 x1
  and_intros <;> first | omega | exact True.intro | with_reducible assumption | exact decide_eq_false (by omega) | exact decide_eq_true (by omega) | with_reducible rfl | kernel_rfl
set_option maxHeartbeats 8000000 in
theorem lwLimB (key nonce : List Int) (p q : Int) (h1 : key.length = 32) (h2 : nonce.length = 12) (h3 : ¬ p < -2) (h4 : ¬ 2 < p) (h5 : ¬ q < -2) (h6 : ¬ 2 < q) (h7 : ¬ 0 < p) (h8 : 0 < q) {W : World} {vs : List Value} (hD : All2 (DA (cxL W ([])) be0) (kLimB (key, nonce, p, q)).avs vs) : Calls Try.prog 12 vs.toArray W (fun e W' => e = .returned (.bool true) ∧ Upd (fun _ => False) W W') :=
  law_calls (F := FLimB) (fn := Try.f12) (c := Try.f12.body.getD .skip) (k := kLimB (key, nonce, p, q)) rfl (evOKs ⟨.inl ⟨cSealB_ok, by kernel_rfl, gl_nil rfl⟩, ⟨.inl ⟨cOpenBb_ok, by kernel_rfl, gl_nil rfl⟩, ⟨.inl ⟨cOpens_ok, by kernel_rfl, gl_nil rfl⟩, trivial⟩⟩⟩) mixed rfl (fun _ _ h => by cases h) Try.func12 (by kernel_rfl) rfl rfl hD (by kernel_rfl) (by with_reducible exact wpLimB key nonce p q h1 h2 h3 h4 h5 h6 h7 h8)

def fcLimC (d : Nat) : Option Bool := bif Nat.beq d 15 || Nat.beq d 19 || Nat.beq d 24 || Nat.beq d 29 || Nat.beq d 52 || Nat.beq d 56 then some false else bif Nat.beq d 81 || Nat.beq d 88 then some true else none
def kLimC : (List Int) × (List Int) × Int × Int → ClN := fun (key, nonce, p, q) => ⟨[.o (.g [.many 2 (.i .i64 [p, q])]), .o (.g [.many 32 (.i .u8 key), .many 12 (.i .u8 nonce)])], [], vv (.bool true), [], [], [key.length = 32, nonce.length = 12, ¬ p < -2, ¬ 2 < p, ¬ q < -2, ¬ 2 < q, ¬ 0 < p, ¬ 0 < q]⟩
noncomputable def FLimC : FnE := ⟨mkEv Try.prog [] [cASeal, cOpens] 0 fcLimC, [0, 1, 2, 3, 4, 5, 6, 7, 8, 10, 12, 30, 57], fun _ _ => .rounds 0⟩
theorem vcLimC (key nonce : List Int) (p q : Int) : (wpE FLimC (Try.f12.body.getD .skip) ⟨Try.f12.ntmps, slotsOf 0 (kLimC (key, nonce, p, q)).avs, (kLimC (key, nonce, p, q)).mem⟩ (finK Try.prog Try.f12.results.toList (postN (kLimC (key, nonce, p, q))))) = (let x3 := IntKind.wrap IntKind.i64 ((1048576 : Int) + p); let x4 := IntKind.wrap IntKind.i64 ((1048576 : Int) + q); let x5 := List.replicate (Int.toNat x3) (0 : Int); let x6 := List.replicate (Int.toNat x4) (0 : Int); let x7 := [List.take (9 : Nat) (List.drop (0 : Nat) x6), List.take (Int.toNat x4 - (9 : Nat)) (List.drop (9 : Nat) x6)]; true = true ∧ (0 : Int) ≤ (0 : Int) ∧ (0 : Int) < (2 : Int) ∧ (0 : Nat) < (2 : Nat) ∧ decide (p < (-2 : Int)) = false ∧ (0 : Int) ≤ (0 : Int) ∧ (0 : Int) < (2 : Int) ∧ (0 : Nat) < (2 : Nat) ∧ decide ((2 : Int) < p) = false ∧ (0 : Int) ≤ (1 : Int) ∧ (1 : Int) < (2 : Int) ∧ (1 : Nat) < (2 : Nat) ∧ decide (q < (-2 : Int)) = false ∧ (0 : Int) ≤ (1 : Int) ∧ (1 : Int) < (2 : Int) ∧ (1 : Nat) < (2 : Nat) ∧ decide ((2 : Int) < q) = false ∧ (0 : Int) ≤ (0 : Int) ∧ (0 : Int) < (2 : Int) ∧ (0 : Nat) < (2 : Nat) ∧ (0 : Int) ≤ x3 ∧ x3 ≤ x3 ∧ (1 : Int) * x3 ≤ (281474976710656 : Int) ∧ x3 ≤ (9223372036854775807 : Int) ∧ (0 : Int) ≤ (1 : Int) ∧ (1 : Int) < (2 : Int) ∧ (1 : Nat) < (2 : Nat) ∧ (0 : Int) ≤ x4 ∧ x4 ≤ x4 ∧ (1 : Int) * x4 ≤ (281474976710656 : Int) ∧ x4 ≤ (9223372036854775807 : Int) ∧ (0 : Int) ≤ (9 : Int) ∧ (9 : Nat) ≤ Int.toNat x4 ∧ (0 : Int) ≤ (9 : Int) ∧ (9 : Nat) ≤ Int.toNat x4 ∧ true = true ∧ (32 : Nat) = (32 : Nat) ∧ key = key ∧ (12 : Nat) = (12 : Nat) ∧ nonce = nonce ∧ true = true ∧ Int.toNat x3 = Int.toNat x3 ∧ x5 = x5 ∧ List.length x5 = Int.toNat x3 ∧ true = true ∧ x7 = x7 ∧ (2 : Nat) = (2 : Nat) ∧ (0 : Nat) + (9 : Nat) ≤ List.length x6 ∧ (9 : Nat) + (Int.toNat x4 - (9 : Nat)) ≤ List.length x6 ∧ List.length x5 = Int.toNat x3 ∧ Int.toNat x3 ≤ (1048576 : Nat) ∧ List.length (List.flatten x7) ≤ (1048576 : Nat) ∧ (2 : Nat) ≤ (16777216 : Nat) ∧ List.length key = (32 : Nat) ∧ List.length nonce = (12 : Nat) ∧ (0 : Int) ≤ (0 : Int) ∧ (0 : Int) < (2 : Int) ∧ (0 : Nat) < (2 : Nat) ∧ decide ((0 : Int) < p) = false ∧ (0 : Int) ≤ (1 : Int) ∧ (1 : Int) < (2 : Int) ∧ (1 : Nat) < (2 : Nat) ∧ decide ((0 : Int) < q) = false ∧ decide ((0 : Int) = (0 : Int)) = true ∧ decide ((↑(Int.toNat x3 + (16 : Nat)) : Int) = IntKind.wrap IntKind.i64 ((↑(Int.toNat x3) : Int) + (16 : Int))) = true ∧ true = true ∧ true = true ∧ (90 : Nat) = (90 : Nat) ∧ (bif true then Value.bool true else Value.bool false) = Value.bool true) := by kernel_rfl

set_option maxHeartbeats 8000000 in
theorem wpLimC (key nonce : List Int) (p q : Int) (h1 : key.length = 32) (h2 : nonce.length = 12) (h3 : ¬ p < -2) (h4 : ¬ 2 < p) (h5 : ¬ q < -2) (h6 : ¬ 2 < q) (h7 : ¬ 0 < p) (h8 : ¬ 0 < q) : wpE FLimC (Try.f12.body.getD .skip) ⟨Try.f12.ntmps, slotsOf 0 (kLimC (key, nonce, p, q)).avs, (kLimC (key, nonce, p, q)).mem⟩ (finK Try.prog Try.f12.results.toList (postN (kLimC (key, nonce, p, q)))) := by
  with_reducible refine Eq.mpr (vcLimC key nonce p q) ?_
  intro x1 x2 x3 x4 x5
  have t3 : x1 = 1048576 + p := by
    show IntKind.wrap .i64 _ = _
    rw [IntKind.wrap_i64]; omega
  have t4 : x2 = 1048576 + q := by
    show IntKind.wrap .i64 _ = _
    rw [IntKind.wrap_i64]; omega
  have l5 : x3.length = x1.toNat := List.length_replicate
  have l6 : x4.length = x2.toNat := List.length_replicate
  have f7 : x5.flatten.length = x2.toNat := by
    show [List.take 9 (List.drop 0 x4), List.take (x2.toNat - 9) (List.drop 9 x4)].flatten.length = _
    simp only [List.flatten_cons, List.flatten_nil, List.length_append, List.length_take, List.length_drop, List.length_nil]
    omega
  have w : (((x1.toNat + 16 : Nat) : Int)) = IntKind.wrap .i64 ((x1.toNat : Int) + 16) := by rw [IntKind.wrap_i64]; omega
  have w' := decide_eq_true w
  clear_value x5 x4 x3 x2 x1
  and_intros <;> first | omega | exact True.intro | with_reducible assumption | exact decide_eq_false (by omega) | exact decide_eq_true (by omega) | with_reducible rfl | kernel_rfl
set_option maxHeartbeats 8000000 in
theorem lwLimC (key nonce : List Int) (p q : Int) (h1 : key.length = 32) (h2 : nonce.length = 12) (h3 : ¬ p < -2) (h4 : ¬ 2 < p) (h5 : ¬ q < -2) (h6 : ¬ 2 < q) (h7 : ¬ 0 < p) (h8 : ¬ 0 < q) {W : World} {vs : List Value} (hD : All2 (DA (cxL W ([])) be0) (kLimC (key, nonce, p, q)).avs vs) : Calls Try.prog 12 vs.toArray W (fun e W' => e = .returned (.bool true) ∧ Upd (fun _ => False) W W') :=
  law_calls (F := FLimC) (fn := Try.f12) (c := Try.f12.body.getD .skip) (k := kLimC (key, nonce, p, q)) rfl (evOKs ⟨.inl ⟨cASeal_ok, by kernel_rfl, gl_nil rfl⟩, ⟨.inl ⟨cOpens_ok, by kernel_rfl, gl_nil rfl⟩, trivial⟩⟩) mixed rfl (fun _ _ h => by cases h) Try.func12 (by kernel_rfl) rfl rfl hD (by kernel_rfl) (by with_reducible exact wpLimC key nonce p q h1 h2 h3 h4 h5 h6 h7 h8)

theorem aeadLimits_any (key nonce : List Int) (l : List Int) (hl : l.length = 2) (hk : key.length = 32) (hn : nonce.length = 12) {W : World} : Calls Try.prog 12 #[.agg (l.map (Value.int .i64)).toArray, .agg ((key ++ nonce).map (Value.int .u8)).toArray] W (fun e W' => e = .returned (.bool true) ∧ Upd (fun _ => False) W W') := by
  match l, hl with
  | [p, q], _ =>
    have hD : All2 (DA (cxL W []) be0) [.o (.g [.many 2 (.i .i64 [p, q])]), .o (.g [.many 32 (.i .u8 key), .many 12 (.i .u8 nonce)])] [.agg ([p, q].map (Value.int .i64)).toArray, .agg ((key ++ nonce).map (Value.int .u8)).toArray] := ⟨da_arr (l := [p, q]) rfl, da_two hk hn, trivial⟩
    by_cases h1 : p < -2
    · exact lwLimD1 key nonce p q hk hn h1 hD
    · by_cases h2 : 2 < p
      · exact lwLimD2 key nonce p q hk hn h1 h2 hD
      · by_cases h3 : q < -2
        · exact lwLimD3 key nonce p q hk hn h1 h2 h3 hD
        · by_cases h4 : 2 < q
          · exact lwLimD4 key nonce p q hk hn h1 h2 h3 h4 hD
          · by_cases h5 : 0 < p
            · exact lwLimA key nonce p q hk hn h1 h2 h3 h4 h5 hD
            · by_cases h6 : 0 < q
              · exact lwLimB key nonce p q hk hn h1 h2 h3 h4 h5 h6 hD
              · exact lwLimC key nonce p q hk hn h1 h2 h3 h4 h5 h6 hD
end Go.Proofs.Ytdbgnkmmjjgbpaa
