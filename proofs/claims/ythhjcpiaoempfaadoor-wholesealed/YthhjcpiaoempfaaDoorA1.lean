/-
  aead: what its functions do.
-/
import Derived.Test.YthhjcpiaoempfaaDoorA0
import Derived.Test.YthhjcpiaoempfaaDoorC3n
import Derived.Test.YthhjcpiaoempfaaDoorP4m
namespace Go.Proofs.YthhjcpiaoempfaaDoor
open Go.RowKit
set_option maxRecDepth 100000

theorem byE_in (x : Int) (i : Nat) : 0 ≤ byE x i ∧ byE x i < 256 := wrapU8_in _
theorem bys16_bys (x y : Int) : Bys (bys16 x y) := by
  intro z hz
  simp only [bys16, List.mem_cons, List.not_mem_nil, or_false] at hz
  rcases hz with rfl | rfl | rfl | rfl | rfl | rfl | rfl | rfl | rfl | rfl | rfl | rfl | rfl | rfl | rfl | rfl <;> exact byE_in _ _
theorem least_five (a b c d e : Int) : ∃ p q r s u, leastL a b c d e = [p, q, r, s, u] := by
  have h1 : ∀ a b c d e, ∃ p q r s u, upL a b c d e = [p, q, r, s, u] := fun a b c d e => by unfold upL; exact ⟨_, _, _, _, _, rfl⟩
  have h2 : ∀ a b c d e, ∃ p q r s u, least1 a b c d e = [p, q, r, s, u] := fun a b c d e => by unfold least1; exact ⟨_, _, _, _, _, rfl⟩
  obtain ⟨p, q, r, s, u, h⟩ := h1 a b c d e
  obtain ⟨p', q', r', s', u', h'⟩ := h1 p q r s u
  unfold leastL
  rw [h]
  show ∃ p q r s u, lst5 least1 (upL _ _ _ _ _) = _
  rw [h']
  exact h2 _ _ _ _ _
theorem tagL_bys (k : List Int) (a b c d e : Int) : Bys (tagL k a b c d e) ∧ (tagL k a b c d e).length = 16 := by
  obtain ⟨p, q, r, s, u, h⟩ := least_five a b c d e
  unfold tagL
  rw [h]
  exact ⟨bys16_bys _ _, rfl⟩
theorem sumL_bys (k t : List Int) : Bys (sumL k t) ∧ (sumL k t).length = 16 := tagL_bys _ _ _ _ _ _

/-- As many noughts as so many bytes need. -/
def padL (n : Nat) : List Int := List.replicate ((16 - n % 16) % 16) 0
def kNoughts : Nat → ClN := fun n => ⟨[vv (.int .i64 (n : Int))], [], .o (.c (.os 0 1 ((16 - n % 16) % 16))), [.grow 5 1 (.i .u8 (padL n))], [0], [n ≤ 140737488355328]⟩
noncomputable def FNoughts : FnE := ⟨mkEv Tryd.prog [] [] 0, [0, 2], fun _ _ => .rounds 0⟩
def mNoughts : List AV → (Nat → Option MB) → Option (List Nat × Nat)
  | [.o (.c (.v (.int .i64 n)))], _ => some ([], n.toNat)
  | _, _ => none
noncomputable def cNoughts : Spec := callG 53 Tryd.f53.ntmps mNoughts kNoughts
theorem vcNoughts (n : Nat) : (wpE FNoughts (Tryd.f53.body.getD .skip) ⟨Tryd.f53.ntmps, slotsOf 0 (kNoughts n).avs, (kNoughts n).mem⟩ (finK Tryd.prog Tryd.f53.results.toList (postN (kNoughts n)))) = (let x1 := Int.tmod (IntKind.wrap IntKind.i64 ((16 : Int) - Int.tmod (↑n : Int) (16 : Int))) (16 : Int); (16 : Int) ≠ (0 : Int) ∧ (16 : Int) ≠ (0 : Int) ∧ (0 : Int) ≤ x1 ∧ x1 ≤ x1 ∧ (1 : Int) * x1 ≤ (281474976710656 : Int) ∧ x1 ≤ (9223372036854775807 : Int) ∧ true = true ∧ true = true ∧ (8 : Nat) = (8 : Nat) ∧ (5 : Nat) = (5 : Nat) ∧ (1 : Nat) = (1 : Nat) ∧ List.replicate (Int.toNat x1) (0 : Int) = padL n ∧ getL (ClN.ren (kNoughts n)) (0 : Nat) = some (Nat.add (Nat.add (Nat.add (Nat.add (0 : Nat) (0 : Nat)) (0 : Nat)) (0 : Nat)) (0 : Nat)) ∧ (1 : Nat) = (1 : Nat) ∧ Int.toNat x1 = ((16 : Nat) - n % (16 : Nat)) % (16 : Nat)) := by kernel_rfl

set_option maxHeartbeats 8000000 in
theorem wpNoughts (n : Nat) (h1 : n ≤ 140737488355328) : wpE FNoughts (Tryd.f53.body.getD .skip) ⟨Tryd.f53.ntmps, slotsOf 0 (kNoughts n).avs, (kNoughts n).mem⟩ (finK Tryd.prog Tryd.f53.results.toList (postN (kNoughts n))) := by
  with_reducible refine Eq.mpr (vcNoughts n) ?_
  have e0 : (n : Int).tmod 16 = ((n % 16 : Nat) : Int) := by rw [Int.tmod_eq_emod_of_nonneg (by omega)]; omega
  have e1 : IntKind.wrap .i64 (16 - ((n % 16 : Nat) : Int)) = ((16 - n % 16 : Nat) : Int) := by rw [IntKind.wrap_i64]; omega
  have e2 : Int.tmod ((16 - n % 16 : Nat) : Int) 16 = (((16 - n % 16) % 16 : Nat) : Int) := by rw [Int.tmod_eq_emod_of_nonneg (by omega)]; omega
  rw [e0, e1]
  intro x1
  have hx : x1 = (((16 - n % 16) % 16 : Nat) : Int) := e2
  clear_value x1
  subst hx
  simp only [Int.toNat_natCast]
  and_intros <;> first | omega | exact True.intro | rfl | kernel_rfl
set_option maxHeartbeats 8000000 in
theorem cNoughts_ok : SpecOK Tryd.prog cNoughts := by
  refine callG_ok (c := Tryd.f53.body.getD .skip) mixed Tryd.func53 (by kernel_rfl) rfl (fun n hob => ?_)
  have hob : (n ≤ 140737488355328) := hob
  have h1 := hob
  exact ⟨FNoughts, rfl, evOKs trivial, rfl, rfl, by with_reducible exact wpNoughts n h1⟩

/-- A number's eight bytes. -/
def lenL (n : Nat) : List Int := [IntKind.wrap .u8 (sShr .i64 (n : Int) 0), IntKind.wrap .u8 (sShr .i64 (n : Int) 8), IntKind.wrap .u8 (sShr .i64 (n : Int) 16), IntKind.wrap .u8 (sShr .i64 (n : Int) 24), IntKind.wrap .u8 (sShr .i64 (n : Int) 32), IntKind.wrap .u8 (sShr .i64 (n : Int) 40), IntKind.wrap .u8 (sShr .i64 (n : Int) 48), IntKind.wrap .u8 (sShr .i64 (n : Int) 56)]
def kLength : Nat → ClN := fun n => ⟨[vv (.int .i64 (n : Int))], [], .o (.c (.os 0 1 8)), [.grow 5 1 (.i .u8 (lenL n))], [0], []⟩
noncomputable def FLength : FnE := ⟨mkEv Tryd.prog [] [] 0, [0, 2, 3, 4, 7, 8, 9], fun _ _ => .rounds 9⟩
def mLength : List AV → (Nat → Option MB) → Option (List Nat × Nat)
  | [.o (.c (.v (.int .i64 n)))], _ => some ([], n.toNat)
  | _, _ => none
noncomputable def cLength : Spec := callG 54 Tryd.f54.ntmps mLength kLength
theorem vcLength (n : Nat) : (wpE FLength (Tryd.f54.body.getD .skip) ⟨Tryd.f54.ntmps, slotsOf 0 (kLength n).avs, (kLength n).mem⟩ (finK Tryd.prog Tryd.f54.results.toList (postN (kLength n)))) = ((0 : Int) ≤ (8 : Int) ∧ (8 : Int) ≤ (8 : Int) ∧ (8 : Int) ≤ (281474976710656 : Int) ∧ (8 : Int) ≤ (9223372036854775807 : Int) ∧ (0 : Int) ≤ (0 : Int) ∧ (0 : Int) ≤ (0 : Int) ∧ (0 : Int) < (8 : Int) ∧ (0 : Nat) < (8 : Nat) ∧ (0 : Int) ≤ (8 : Int) ∧ (0 : Int) ≤ (1 : Int) ∧ (1 : Int) < (8 : Int) ∧ (1 : Nat) < (8 : Nat) ∧ (0 : Int) ≤ (16 : Int) ∧ (0 : Int) ≤ (2 : Int) ∧ (2 : Int) < (8 : Int) ∧ (2 : Nat) < (8 : Nat) ∧ (0 : Int) ≤ (24 : Int) ∧ (0 : Int) ≤ (3 : Int) ∧ (3 : Int) < (8 : Int) ∧ (3 : Nat) < (8 : Nat) ∧ (0 : Int) ≤ (32 : Int) ∧ (0 : Int) ≤ (4 : Int) ∧ (4 : Int) < (8 : Int) ∧ (4 : Nat) < (8 : Nat) ∧ (0 : Int) ≤ (40 : Int) ∧ (0 : Int) ≤ (5 : Int) ∧ (5 : Int) < (8 : Int) ∧ (5 : Nat) < (8 : Nat) ∧ (0 : Int) ≤ (48 : Int) ∧ (0 : Int) ≤ (6 : Int) ∧ (6 : Int) < (8 : Int) ∧ (6 : Nat) < (8 : Nat) ∧ (0 : Int) ≤ (56 : Int) ∧ (0 : Int) ≤ (7 : Int) ∧ (7 : Int) < (8 : Int) ∧ (7 : Nat) < (8 : Nat) ∧ true = true ∧ true = true ∧ (21 : Nat) = (21 : Nat) ∧ (5 : Nat) = (5 : Nat) ∧ (1 : Nat) = (1 : Nat) ∧ [IntKind.wrap IntKind.u8 (sShr IntKind.i64 (↑n : Int) (0 : Int)), IntKind.wrap IntKind.u8 (sShr IntKind.i64 (↑n : Int) (8 : Int)), IntKind.wrap IntKind.u8 (sShr IntKind.i64 (↑n : Int) (16 : Int)), IntKind.wrap IntKind.u8 (sShr IntKind.i64 (↑n : Int) (24 : Int)), IntKind.wrap IntKind.u8 (sShr IntKind.i64 (↑n : Int) (32 : Int)), IntKind.wrap IntKind.u8 (sShr IntKind.i64 (↑n : Int) (40 : Int)), IntKind.wrap IntKind.u8 (sShr IntKind.i64 (↑n : Int) (48 : Int)), IntKind.wrap IntKind.u8 (sShr IntKind.i64 (↑n : Int) (56 : Int))] = lenL n ∧ getL (ClN.ren (kLength n)) (0 : Nat) = some (0 : Nat) ∧ (1 : Nat) = (1 : Nat) ∧ (8 : Nat) = (8 : Nat)) := by kernel_rfl

set_option maxHeartbeats 8000000 in
theorem wpLength (n : Nat) : wpE FLength (Tryd.f54.body.getD .skip) ⟨Tryd.f54.ntmps, slotsOf 0 (kLength n).avs, (kLength n).mem⟩ (finK Tryd.prog Tryd.f54.results.toList (postN (kLength n))) := by
  with_reducible refine Eq.mpr (vcLength n) ?_
  intros
  and_intros <;> first | omega | exact True.intro | kernel_rfl
set_option maxHeartbeats 8000000 in
theorem cLength_ok : SpecOK Tryd.prog cLength := by
  refine callG_ok (c := Tryd.f54.body.getD .skip) mixed Tryd.func54 (by kernel_rfl) rfl (fun n hob => ?_)
  exact ⟨FLength, rfl, evOKs trivial, rfl, rfl, by with_reducible exact wpLength n ⟩

def kATotal : (List (List Int)) → ClN := fun ls => ⟨[.o (.c (.rss ls))], [], vv (.int .i64 (totA 1048576 0 ls : Int)), [], [], [∀ l ∈ ls, l.length ≤ 140737488355328, ls.length ≤ 9223372036854775807]⟩
noncomputable def FATotal (ls : List (List Int)) : FnE := ⟨mkEv Tryd.prog [] [] 0, [0, 2, 3, 5, 6, 7, 8, 9, 17], fun _ _ => .inv { x : Nat × Nat // x.2 ≤ ls.length ∧ x.1 ≤ 1048576 ∧ totA 1048576 x.1 (ls.drop x.2) = totA 1048576 0 ls } (fun x => stTot Tryd.f32.ntmps ls x.1.1 x.1.2) (fun x => ls.length - x.1.2) [] []⟩
def mATotal : List AV → (Nat → Option MB) → Option (List Nat × (List (List Int)))
  | [.o (.c c)], lk => match slS lk c with
    | some ls => some ([], ls)
    | none => none
  | _, _ => none
noncomputable def cATotal : Spec := callG 32 Tryd.f32.ntmps mATotal kATotal
theorem vcATotal (ls : List (List Int)) : (wpE (FATotal ls) (Tryd.f32.body.getD .skip) ⟨Tryd.f32.ntmps, slotsOf 0 (kATotal ls).avs, (kATotal ls).mem⟩ (finK Tryd.prog Tryd.f32.results.toList (postN (kATotal ls)))) = ((∃ (x : { x : Nat × Nat // Prod.snd x ≤ List.length ls ∧ Prod.fst x ≤ (1048576 : Nat) ∧ totA (1048576 : Nat) (Prod.fst x) (List.drop (Prod.snd x) ls) = totA (1048576 : Nat) (0 : Nat) ls }), true = true ∧ true = true ∧ (20 : Nat) = (20 : Nat) ∧ Value.int IntKind.i64 (0 : Int) = Value.int IntKind.i64 (↑(Prod.fst (Subtype.val x)) : Int) ∧ ls = ls ∧ Value.int IntKind.i64 (↑(List.length ls) : Int) = Value.int IntKind.i64 (↑(List.length ls) : Int) ∧ Value.int IntKind.i64 (0 : Int) = Value.int IntKind.i64 (↑(Prod.snd (Subtype.val x)) : Int)) ∧ ∀ (x : { x : Nat × Nat // Prod.snd x ≤ List.length ls ∧ Prod.fst x ≤ (1048576 : Nat) ∧ totA (1048576 : Nat) (Prod.fst x) (List.drop (Prod.snd x) ls) = totA (1048576 : Nat) (0 : Nat) ls }), bif decide ((↑(Prod.snd (Subtype.val x)) : Int) < (↑(List.length ls) : Int)) then (0 : Int) ≤ (↑(Prod.snd (Subtype.val x)) : Int) ∧ (↑(Prod.snd (Subtype.val x)) : Int) < (↑(List.length ls) : Int) ∧ bif decide ((1048576 : Int) < IntKind.wrap IntKind.i64 ((↑(Prod.fst (Subtype.val x)) : Int) + (↑(List.length (List.getD ls (Int.toNat (↑(Prod.snd (Subtype.val x)) : Int)) [])) : Int))) then true = true ∧ true = true ∧ (20 : Nat) = (20 : Nat) ∧ Value.int IntKind.i64 (IntKind.wrap IntKind.i64 ((↑(Prod.fst (Subtype.val x)) : Int) + (↑(List.length (List.getD ls (Int.toNat (↑(Prod.snd (Subtype.val x)) : Int)) [])) : Int))) = Value.int IntKind.i64 (↑(totA (1048576 : Nat) (0 : Nat) ls) : Int) else ∃ (y : { x : Nat × Nat // Prod.snd x ≤ List.length ls ∧ Prod.fst x ≤ (1048576 : Nat) ∧ totA (1048576 : Nat) (Prod.fst x) (List.drop (Prod.snd x) ls) = totA (1048576 : Nat) (0 : Nat) ls }), (true = true ∧ true = true ∧ (20 : Nat) = (20 : Nat) ∧ Value.int IntKind.i64 (IntKind.wrap IntKind.i64 ((↑(Prod.fst (Subtype.val x)) : Int) + (↑(List.length (List.getD ls (Int.toNat (↑(Prod.snd (Subtype.val x)) : Int)) [])) : Int))) = Value.int IntKind.i64 (↑(Prod.fst (Subtype.val y)) : Int) ∧ ls = ls ∧ Value.int IntKind.i64 (↑(List.length ls) : Int) = Value.int IntKind.i64 (↑(List.length ls) : Int) ∧ Value.int IntKind.i64 (IntKind.wrap IntKind.i64 ((↑(Prod.snd (Subtype.val x)) : Int) + (1 : Int))) = Value.int IntKind.i64 (↑(Prod.snd (Subtype.val y)) : Int)) ∧ List.length ls - Prod.snd (Subtype.val y) < List.length ls - Prod.snd (Subtype.val x) else true = true ∧ true = true ∧ (20 : Nat) = (20 : Nat) ∧ Value.int IntKind.i64 (↑(Prod.fst (Subtype.val x)) : Int) = Value.int IntKind.i64 (↑(totA (1048576 : Nat) (0 : Nat) ls) : Int)) := by kernel_rfl

set_option maxHeartbeats 8000000 in
theorem wpATotal (ls : List (List Int)) (h1 : ∀ l ∈ ls, l.length ≤ 140737488355328) (h2 : ls.length ≤ 9223372036854775807) : wpE (FATotal ls) (Tryd.f32.body.getD .skip) ⟨Tryd.f32.ntmps, slotsOf 0 (kATotal ls).avs, (kATotal ls).mem⟩ (finK Tryd.prog Tryd.f32.results.toList (postN (kATotal ls))) := by
  with_reducible refine Eq.mpr (vcATotal ls) ?_
  simp only [Int.toNat_natCast, Bool.cond_decide]
  refine ⟨⟨⟨⟨0, 0⟩, Nat.zero_le _, Nat.zero_le _, rfl⟩, by and_intros <;> first | exact True.intro | rfl⟩, ?_⟩
  rintro ⟨⟨s, i⟩, hi, hs, ht⟩
  dsimp only at hi hs ht ⊢
  split
  · rename_i hil
    have hil' : i < ls.length := by omega
    have hl : (ls.getD i []).length ≤ 140737488355328 := h1 _ (by rw [getD_at hil']; exact List.getElem_mem hil')
    rw [totA_step hil'] at ht
    simp only [add64 (a := s) (b := (ls.getD i []).length) (by omega), wrapS (i := i) (by omega)]
    refine ⟨by omega, by omega, ?_⟩
    split
    · rename_i hM
      rw [if_pos (by omega)] at ht
      and_intros <;> first | exact True.intro | rfl | (rw [ht])
    · rename_i hM
      rw [if_neg (by omega)] at ht
      exact ⟨⟨⟨s + (ls.getD i []).length, i + 1⟩, by show i + 1 ≤ ls.length; omega, by show s + _ ≤ _; omega, ht⟩, by and_intros <;> first | exact True.intro | rfl, by show ls.length - (i + 1) < ls.length - i; omega⟩
  · rename_i hil
    have hil' : i = ls.length := by omega
    subst hil'
    rw [List.drop_length] at ht
    have ht' : s = totA 1048576 0 ls := ht
    and_intros <;> first | exact True.intro | rfl | (rw [ht'])
set_option maxHeartbeats 8000000 in
theorem cATotal_ok : SpecOK Tryd.prog cATotal := by
  refine callG_ok (c := Tryd.f32.body.getD .skip) mixed Tryd.func32 (by kernel_rfl) rfl (fun ls hob => ?_)
  have hob : (∀ l ∈ ls, l.length ≤ 140737488355328) ∧ (ls.length ≤ 9223372036854775807) := hob
  obtain ⟨h1, h2⟩ := hob
  exact ⟨FATotal ls, rfl, evOKs trivial, rfl, rfl, by with_reducible exact wpATotal ls h1 h2⟩

def kAMix : (List Int) × (List Int) × Nat × (List Int) → ClN := fun (key, nonce, n, t) => ⟨[.o (.g [.many 32 (.i .u8 key), .many 12 (.i .u8 nonce)]), .o (.c (.rs 1 n (.i .u8 t)))], [], .o (.c (.os 0 1 t.length)), [.grow 5 1 (.i .u8 (mixA key nonce 1 t))], [2], [t.length = n, n ≤ 16777216, key.length = 32, nonce.length = 12]⟩
noncomputable def FAMix : FnE := ⟨mkEv Tryd.prog [] [cMix] 0, [0, 1, 2, 4, 5], fun _ _ => .rounds 0⟩
def mAMix : List AV → (Nat → Option MB) → Option (List Nat × ((List Int) × (List Int) × Nat × (List Int)))
  | [.o (.g [.many 32 (.i .u8 key), .many 12 (.i .u8 nonce)]), .o (.c c)], lk => match slI lk c with
    | some (n, t) => some ([], key, nonce, n, t)
    | none => none
  | _, _ => none
noncomputable def cAMix : Spec := callG 33 Tryd.f33.ntmps mAMix kAMix
theorem vcAMix (key nonce : List Int) (n : Nat) (t : List Int) : (wpE FAMix (Tryd.f33.body.getD .skip) ⟨Tryd.f33.ntmps, slotsOf 0 (kAMix (key, nonce, n, t)).avs, (kAMix (key, nonce, n, t)).mem⟩ (finK Tryd.prog Tryd.f33.results.toList (postN (kAMix (key, nonce, n, t))))) = (true = true ∧ (32 : Nat) = (32 : Nat) ∧ key = key ∧ (12 : Nat) = (12 : Nat) ∧ nonce = nonce ∧ Value.int IntKind.u32 (1 : Int) = Value.int IntKind.u32 (1 : Int) ∧ true = true ∧ [t] = [t] ∧ (1 : Nat) = (1 : Nat) ∧ List.length (List.flatten [t]) ≤ (16777216 : Nat) ∧ (1 : Nat) ≤ (140737488355328 : Nat) ∧ List.length key = (32 : Nat) ∧ List.length nonce = (12 : Nat) ∧ true = true ∧ true = true ∧ (18 : Nat) = (18 : Nat) ∧ (5 : Nat) = (5 : Nat) ∧ (1 : Nat) = (1 : Nat) ∧ mixA key nonce (1 : Int) (List.flatten [t]) = mixA key nonce (1 : Int) t ∧ getL (ClN.ren (kAMix (key, nonce, n, t))) (0 : Nat) = some (nameN [] (Nat.add (Nat.add (Nat.add (Nat.add (Nat.add (Nat.add (1 : Nat) (0 : Nat)) (0 : Nat)) (0 : Nat)) (0 : Nat)) (0 : Nat)) (1 : Nat)) (0 : Nat)) ∧ (1 : Nat) = (1 : Nat) ∧ List.length (List.flatten [t]) = List.length t) := by kernel_rfl

set_option maxHeartbeats 8000000 in
theorem wpAMix (key nonce : List Int) (n : Nat) (t : List Int) (h1 : t.length = n) (h2 : n ≤ 16777216) (h3 : key.length = 32) (h4 : nonce.length = 12) : wpE FAMix (Tryd.f33.body.getD .skip) ⟨Tryd.f33.ntmps, slotsOf 0 (kAMix (key, nonce, n, t)).avs, (kAMix (key, nonce, n, t)).mem⟩ (finK Tryd.prog Tryd.f33.results.toList (postN (kAMix (key, nonce, n, t)))) := by
  with_reducible refine Eq.mpr (vcAMix key nonce n t) ?_
  have e : [t].flatten = t := by simp
  simp only [e]
  and_intros <;> first | omega | exact True.intro | with_reducible assumption | with_reducible rfl | kernel_rfl
set_option maxHeartbeats 8000000 in
theorem cAMix_ok : SpecOK Tryd.prog cAMix := by
  refine callG_ok (c := Tryd.f33.body.getD .skip) mixed Tryd.func33 (by kernel_rfl) rfl (fun x hob => ?_)
  obtain ⟨key, nonce, n, t⟩ := x
  have hob : (t.length = n) ∧ (n ≤ 16777216) ∧ (key.length = 32) ∧ (nonce.length = 12) := hob
  obtain ⟨h1, h2, h3, h4⟩ := hob
  exact ⟨FAMix, rfl, evOKs ⟨.inl ⟨cMix_ok, by kernel_rfl, gl_nil rfl⟩, trivial⟩, rfl, rfl, by with_reducible exact wpAMix key nonce n t h1 h2 h3 h4⟩

/-- The tag of what a text was mixed to, and of what it is bound to. -/
def tagS (key nonce : List Int) (ls : List (List Int)) (m : List Int) (size : Nat) : List Int := sumL ((chachaL key nonce 0).take 32) (ls ++ [padL size, m, padL m.length, lenL size, lenL m.length]).flatten
def kATag : (List Int) × (List Int) × Nat × (List Int) × (List (List Int)) × Nat → ClN := fun (key, nonce, n, m, ls, size) => ⟨[.o (.g [.many 32 (.i .u8 key), .many 12 (.i .u8 nonce)]), .o (.c (.rs 1 n (.i .u8 m))), .o (.c (.rss ls)), vv (.int .i64 (size : Int))], [], .o (.g [.many 16 (.i .u8 (tagS key nonce ls m size))]), [], [], [m.length = n, n ≤ 16777216, key.length = 32, nonce.length = 12, size ≤ 16777216, ls.length ≤ 16777216]⟩
noncomputable def FATag : FnE := ⟨mkEv Tryd.prog [] [cBlock, cNoughts, cLength, cCat, cSum] 0, [0, 1, 2, 3, 4, 8, 9, 10], fun _ _ => .rounds 0⟩
def mATag : List AV → (Nat → Option MB) → Option (List Nat × ((List Int) × (List Int) × Nat × (List Int) × (List (List Int)) × Nat))
  | [.o (.g [.many 32 (.i .u8 key), .many 12 (.i .u8 nonce)]), .o (.c c), .o (.c d), .o (.c (.v (.int .i64 size)))], lk => match slI lk c with
    | some (n, t) => match slS lk d with
      | some ls => some ([], key, nonce, n, t, ls, size.toNat)
      | none => none
    | none => none
  | _, _ => none
noncomputable def cATag : Spec := callG 34 Tryd.f34.ntmps mATag kATag
theorem vcATag (key nonce : List Int) (n : Nat) (m : List Int) (ls : List (List Int)) (size : Nat) : (wpE FATag (Tryd.f34.body.getD .skip) ⟨Tryd.f34.ntmps, slotsOf 0 (kATag (key, nonce, n, m, ls, size)).avs, (kATag (key, nonce, n, m, ls, size)).mem⟩ (finK Tryd.prog Tryd.f34.results.toList (postN (kATag (key, nonce, n, m, ls, size))))) = (let x1 := List.take (32 : Nat) (List.drop (0 : Nat) (chachaL key nonce (0 : Int))); let x2 := ls ++ [padL (Int.toNat (↑size : Int)), m, padL (Int.toNat (↑n : Int)), lenL (Int.toNat (↑size : Int)), lenL (Int.toNat (↑n : Int))]; true = true ∧ (32 : Nat) = (32 : Nat) ∧ key = key ∧ (12 : Nat) = (12 : Nat) ∧ nonce = nonce ∧ Value.int IntKind.u32 (0 : Int) = Value.int IntKind.u32 (0 : Int) ∧ List.length key = (32 : Nat) ∧ List.length nonce = (12 : Nat) ∧ true = true ∧ Value.int IntKind.i64 (↑size : Int) = Value.int IntKind.i64 (↑(Int.toNat (↑size : Int)) : Int) ∧ Int.toNat (↑size : Int) ≤ (140737488355328 : Nat) ∧ true = true ∧ Value.int IntKind.i64 (↑n : Int) = Value.int IntKind.i64 (↑(Int.toNat (↑n : Int)) : Int) ∧ Int.toNat (↑n : Int) ≤ (140737488355328 : Nat) ∧ true = true ∧ Value.int IntKind.i64 (↑size : Int) = Value.int IntKind.i64 (↑(Int.toNat (↑size : Int)) : Int) ∧ true = true ∧ Value.int IntKind.i64 (↑n : Int) = Value.int IntKind.i64 (↑(Int.toNat (↑n : Int)) : Int) ∧ (0 : Int) ≤ (32 : Int) ∧ (32 : Nat) ≤ (64 : Nat) ∧ (64 : Nat) ≤ (9223372036854775807 : Nat) ∧ (32 : Nat) ≤ (32 : Nat) ∧ (32 : Nat) ≤ (64 : Nat) ∧ (5 : Nat) = segsLen (onesC [C.map (nameN [] (Nat.add (3 : Nat) (0 : Nat))) (C.os (0 : Nat) (1 : Nat) (((16 : Nat) - Int.toNat (↑size : Int) % (16 : Nat)) % (16 : Nat))), C.rs (1 : Nat) n (L.i IntKind.u8 m), C.map (nameN [] (Nat.add (Nat.add (Nat.add (Nat.add (Nat.add (3 : Nat) (0 : Nat)) (1 : Nat)) (0 : Nat)) (0 : Nat)) (0 : Nat))) (C.os (0 : Nat) (1 : Nat) (((16 : Nat) - Int.toNat (↑n : Int) % (16 : Nat)) % (16 : Nat))), C.map (nameN [] (Nat.add (Nat.add (Nat.add (Nat.add (Nat.add (Nat.add (Nat.add (3 : Nat) (0 : Nat)) (1 : Nat)) (0 : Nat)) (0 : Nat)) (0 : Nat)) (1 : Nat)) (0 : Nat))) (C.os (0 : Nat) (1 : Nat) (8 : Nat)), C.map (nameN [] (Nat.add (Nat.add (Nat.add (Nat.add (Nat.add (Nat.add (Nat.add (Nat.add (Nat.add (Nat.add (3 : Nat) (0 : Nat)) (1 : Nat)) (0 : Nat)) (0 : Nat)) (0 : Nat)) (1 : Nat)) (0 : Nat)) (1 : Nat)) (0 : Nat)) (0 : Nat))) (C.os (0 : Nat) (1 : Nat) (8 : Nat))]) ∧ (0 : Nat) < List.length ls + (5 : Nat) ∧ List.length ls + (5 : Nat) ≤ (5000000000000 : Nat) ∧ true = true ∧ (32 : Nat) = (32 : Nat) ∧ x1 = x1 ∧ true = true ∧ x2 = x2 ∧ List.length ls + (5 : Nat) = List.length x2 ∧ List.length (padL (Int.toNat (↑size : Int))) = ((16 : Nat) - Int.toNat (↑size : Int) % (16 : Nat)) % (16 : Nat) ∧ List.length (padL (Int.toNat (↑n : Int))) = ((16 : Nat) - Int.toNat (↑n : Int) % (16 : Nat)) % (16 : Nat) ∧ (8 : Nat) = (8 : Nat) ∧ (8 : Nat) = (8 : Nat) ∧ (32 : Nat) = (32 : Nat) ∧ List.length x2 ≤ (140737488355328 : Nat) ∧ true = true ∧ true = true ∧ (36 : Nat) = (36 : Nat) ∧ (16 : Nat) = (16 : Nat) ∧ sumL x1 (List.flatten x2) = tagS key nonce ls m size) := by kernel_rfl

set_option maxHeartbeats 8000000 in
theorem wpATag (key nonce : List Int) (n : Nat) (m : List Int) (ls : List (List Int)) (size : Nat) (h1 : m.length = n) (h2 : n ≤ 16777216) (h3 : key.length = 32) (h4 : nonce.length = 12) (h5 : size ≤ 16777216) (h6 : ls.length ≤ 16777216) : wpE FATag (Tryd.f34.body.getD .skip) ⟨Tryd.f34.ntmps, slotsOf 0 (kATag (key, nonce, n, m, ls, size)).avs, (kATag (key, nonce, n, m, ls, size)).mem⟩ (finK Tryd.prog Tryd.f34.results.toList (postN (kATag (key, nonce, n, m, ls, size)))) := by
  with_reducible refine Eq.mpr (vcATag key nonce n m ls size) ?_
  have p1 : ∀ k, (padL k).length = (16 - k % 16) % 16 := fun k => by simp [padL]
  have hl : (chachaL key nonce 0).length = 64 := chachaL_len _ _ _
  have p2 : (List.take 32 (List.drop 0 (chachaL key nonce 0))).length = 32 := by rw [List.length_take, List.drop_zero, hl]; rfl
  clear hl
  have e9 : sumL (List.take 32 (List.drop 0 (chachaL key nonce 0))) (ls ++ [padL size, m, padL n, lenL size, lenL n]).flatten = tagS key nonce ls m size := by unfold tagS; rw [h1]; rfl
  simp only [Int.toNat_natCast]
  and_intros <;> first | omega | exact True.intro | with_reducible assumption | with_reducible exact p1 _ | (simp only [List.length_append, List.length_cons, List.length_nil] <;> omega) | with_reducible rfl | kernel_rfl
set_option maxHeartbeats 8000000 in
theorem cATag_ok : SpecOK Tryd.prog cATag := by
  refine callG_ok (c := Tryd.f34.body.getD .skip) mixed Tryd.func34 (by kernel_rfl) rfl (fun x hob => ?_)
  obtain ⟨key, nonce, n, m, ls, size⟩ := x
  have hob : (m.length = n) ∧ (n ≤ 16777216) ∧ (key.length = 32) ∧ (nonce.length = 12) ∧ (size ≤ 16777216) ∧ (ls.length ≤ 16777216) := hob
  obtain ⟨h1, h2, h3, h4, h5, h6⟩ := hob
  exact ⟨FATag, rfl, evOKs ⟨.inl ⟨cBlock_ok, by kernel_rfl, gl_nil rfl⟩, ⟨.inl ⟨cNoughts_ok, by kernel_rfl, gl_nil rfl⟩, ⟨.inl ⟨cLength_ok, by kernel_rfl, gl_nil rfl⟩, ⟨.inl ⟨cCat_ok, by kernel_rfl, gl_nil rfl⟩, ⟨.inl ⟨cSum_ok, by kernel_rfl, gl_nil rfl⟩, trivial⟩⟩⟩⟩⟩, rfl, rfl, by with_reducible exact wpATag key nonce n m ls size h1 h2 h3 h4 h5 h6⟩
end Go.Proofs.YthhjcpiaoempfaaDoor
