/-
  chacha: what the laws know; ChachaBack.
-/
import Derived.Test.YtcbnbhadanldpaaC3
namespace Go.Proofs.Ytcbnbhadanldpaa
open Go.RowKit
set_option maxRecDepth 100000

theorem strEq_refl (s : ByteArray) : strEq s s = true := by unfold strEq; simp
def kKnown : Unit → ClN := fun _ => ⟨[], [], vv (.bool true), [], [], []⟩
noncomputable def FKnown : FnE := ⟨mkEv Try.prog [] [cBlock] 0, [0, 1], fun _ _ => .rounds 0⟩
def mKnown : List AV → (Nat → Option MB) → Option (List Nat × Unit)
  | [], _ => some ([], ())
  | _, _ => none
noncomputable def cKnown : Spec := callG 15 Try.f15.ntmps mKnown kKnown
theorem vcKnown (_ : Unit) : (wpE FKnown (Try.f15.body.getD .skip) ⟨Try.f15.ntmps, slotsOf 0 (kKnown ()).avs, (kKnown ()).mem⟩ (finK Try.prog Try.f15.results.toList (postN (kKnown ())))) = (true = true ∧ (32 : Nat) = (32 : Nat) ∧ [(0 : Int), (0 : Int), (0 : Int), (0 : Int), (0 : Int), (0 : Int), (0 : Int), (0 : Int), (0 : Int), (0 : Int), (0 : Int), (0 : Int), (0 : Int), (0 : Int), (0 : Int), (0 : Int), (0 : Int), (0 : Int), (0 : Int), (0 : Int), (0 : Int), (0 : Int), (0 : Int), (0 : Int), (0 : Int), (0 : Int), (0 : Int), (0 : Int), (0 : Int), (0 : Int), (0 : Int), (0 : Int)] = [(0 : Int), (0 : Int), (0 : Int), (0 : Int), (0 : Int), (0 : Int), (0 : Int), (0 : Int), (0 : Int), (0 : Int), (0 : Int), (0 : Int), (0 : Int), (0 : Int), (0 : Int), (0 : Int), (0 : Int), (0 : Int), (0 : Int), (0 : Int), (0 : Int), (0 : Int), (0 : Int), (0 : Int), (0 : Int), (0 : Int), (0 : Int), (0 : Int), (0 : Int), (0 : Int), (0 : Int), (0 : Int)] ∧ (12 : Nat) = (12 : Nat) ∧ [(0 : Int), (0 : Int), (0 : Int), (0 : Int), (0 : Int), (0 : Int), (0 : Int), (0 : Int), (0 : Int), (0 : Int), (0 : Int), (0 : Int)] = [(0 : Int), (0 : Int), (0 : Int), (0 : Int), (0 : Int), (0 : Int), (0 : Int), (0 : Int), (0 : Int), (0 : Int), (0 : Int), (0 : Int)] ∧ Value.int IntKind.u32 (0 : Int) = Value.int IntKind.u32 (0 : Int) ∧ (32 : Nat) = (32 : Nat) ∧ (12 : Nat) = (12 : Nat) ∧ (0 : Int) ≤ (0 : Int) ∧ (0 : Int) < (64 : Int) ∧ (0 : Nat) < (64 : Nat) ∧ (0 : Int) ≤ (1 : Int) ∧ (1 : Int) < (64 : Int) ∧ (1 : Nat) < (64 : Nat) ∧ (0 : Int) ≤ (2 : Int) ∧ (2 : Int) < (64 : Int) ∧ (2 : Nat) < (64 : Nat) ∧ (0 : Int) ≤ (63 : Int) ∧ (63 : Int) < (64 : Int) ∧ (63 : Nat) < (64 : Nat) ∧ true = true ∧ true = true ∧ (25 : Nat) = (25 : Nat) ∧ (bif decide ((134 : Int) = (134 : Int)) then Value.bool true else Value.bool false) = Value.bool true) := by kernel_rfl

set_option maxHeartbeats 8000000 in
theorem wpKnown  : wpE FKnown (Try.f15.body.getD .skip) ⟨Try.f15.ntmps, slotsOf 0 (kKnown ()).avs, (kKnown ()).mem⟩ (finK Try.prog Try.f15.results.toList (postN (kKnown ()))) := by
  with_reducible refine Eq.mpr (vcKnown ()) ?_
  intros
  and_intros <;> first | omega | exact True.intro | kernel_rfl
set_option maxHeartbeats 8000000 in
theorem cKnown_ok : SpecOK Try.prog cKnown := by
  refine callG_ok (c := Try.f15.body.getD .skip) mixed Try.func15 (by kernel_rfl) rfl (fun x hob => ?_)
  exact ⟨FKnown, rfl, evOKs ⟨⟨cBlock_ok, by kernel_rfl, gl_nil rfl⟩, trivial⟩, rfl, rfl, by with_reducible exact wpKnown  ⟩

def fcBack (d : Nat) : Option Bool := bif Nat.beq d 47 || Nat.beq d 53 || Nat.beq d 60 then some true else none
def kBack : (List Int) × (List Int) × Nat × (List Int) → ClN := fun (key, nonce, n, t) => ⟨[.o (.g [.many 32 (.i .u8 key)]), .o (.g [.many 12 (.i .u8 nonce)]), .o (.c (.rs 1 n (.i .u8 t)))], [], vv (.bool true), [], [], [t.length = n, n ≤ 9223372036854775807, key.length = 32, nonce.length = 12, Bys t]⟩
noncomputable def FBack : FnE := ⟨mkEv Try.prog [] [cKnown, cMix] 0 fcBack, [0, 1, 2, 3, 4, 6, 7, 8, 9, 10, 11, 13], fun _ _ => .rounds 0⟩
theorem vcBack (key nonce : List Int) (n : Nat) (t : List Int) : (wpE FBack (Try.f5.body.getD .skip) ⟨Try.f5.ntmps, slotsOf 0 (kBack (key, nonce, n, t)).avs, (kBack (key, nonce, n, t)).mem⟩ (finK Try.prog Try.f5.results.toList (postN (kBack (key, nonce, n, t))))) = (let x1 := if (2000 : Int) < (↑n : Int) then (2000 : Int) else (↑n : Int); let x2 := List.take (Int.toNat x1) (List.drop (0 : Nat) t); let x3 := mixL key nonce (7 : Int) x2 (Int.toNat x1) ((Int.toNat x1 + (63 : Nat)) / (64 : Nat)); let x4 := mixL key nonce (7 : Int) x3 (Int.toNat x1) ((Int.toNat x1 + (63 : Nat)) / (64 : Nat)); let x5 := bstr x2; true = true ∧ (0 : Int) ≤ x1 ∧ Int.toNat x1 ≤ n ∧ true = true ∧ (32 : Nat) = (32 : Nat) ∧ key = key ∧ (12 : Nat) = (12 : Nat) ∧ nonce = nonce ∧ Value.int IntKind.u32 (7 : Int) = Value.int IntKind.u32 (7 : Int) ∧ getL [Nat.add (Nat.add (Nat.add (2 : Nat) (0 : Nat)) (0 : Nat)) (0 : Nat)] (0 : Nat) = some (Nat.add (Nat.add (Nat.add (2 : Nat) (0 : Nat)) (0 : Nat)) (0 : Nat)) ∧ (0 : Nat) = (0 : Nat) ∧ (1 : Nat) = (1 : Nat) ∧ (34 : Nat) = (34 : Nat) ∧ true = true ∧ Int.toNat x1 = Int.toNat x1 ∧ x2 = x2 ∧ Int.toNat x1 ≤ (16777216 : Nat) ∧ List.length x2 = Int.toNat x1 ∧ List.length key = (32 : Nat) ∧ List.length nonce = (12 : Nat) ∧ true = true ∧ (32 : Nat) = (32 : Nat) ∧ key = key ∧ (12 : Nat) = (12 : Nat) ∧ nonce = nonce ∧ Value.int IntKind.u32 (7 : Int) = Value.int IntKind.u32 (7 : Int) ∧ getL [Nat.add (Nat.add (Nat.add (4 : Nat) (0 : Nat)) (0 : Nat)) (0 : Nat)] (0 : Nat) = some (Nat.add (Nat.add (Nat.add (4 : Nat) (0 : Nat)) (0 : Nat)) (0 : Nat)) ∧ (0 : Nat) = (0 : Nat) ∧ (1 : Nat) = (1 : Nat) ∧ (34 : Nat) = (34 : Nat) ∧ true = true ∧ Int.toNat x1 = Int.toNat x1 ∧ x3 = x3 ∧ List.length x3 = Int.toNat x1 ∧ Int.toNat x1 ≤ (16777216 : Nat) ∧ List.length x3 = Int.toNat x1 ∧ List.length key = (32 : Nat) ∧ List.length nonce = (12 : Nat) ∧ List.length x4 = Int.toNat x1 ∧ strEq (bstr x4) x5 = true ∧ strEq x5 x5 = true ∧ decide ((↑(Int.toNat x1) : Int) = (↑(Int.toNat x1) : Int)) = true ∧ true = true ∧ true = true ∧ (62 : Nat) = (62 : Nat) ∧ (bif true then Value.bool true else Value.bool false) = Value.bool true) := by kernel_rfl

set_option maxHeartbeats 8000000 in
theorem wpBack (key nonce : List Int) (n : Nat) (t : List Int) (h1 : t.length = n) (h2 : n ≤ 9223372036854775807) (h3 : key.length = 32) (h4 : nonce.length = 12) (h5 : Bys t) : wpE FBack (Try.f5.body.getD .skip) ⟨Try.f5.ntmps, slotsOf 0 (kBack (key, nonce, n, t)).avs, (kBack (key, nonce, n, t)).mem⟩ (finK Try.prog Try.f5.results.toList (postN (kBack (key, nonce, n, t)))) := by
  with_reducible refine Eq.mpr (vcBack key nonce n t) ?_
  have hx : (if (2000 : Int) < (n : Int) then (2000 : Int) else (n : Int)) = ((min n 2000 : Nat) : Int) := by split <;> omega
  intro x1 x2 x3 x4 x5
  have e1 : x1 = ((min n 2000 : Nat) : Int) := hx
  have e2 : x1.toNat = min n 2000 := by rw [e1]; exact Int.toNat_natCast _
  have l2 : x2.length = x1.toNat := by
    show (List.take _ (List.drop 0 t)).length = _
    rw [List.length_take, List.length_drop]; omega
  have b2 : Bys x2 := (h5.drop 0).take _
  have e3 : x3 = mixA key nonce 7 x2 := by unfold mixA; rw [l2]
  have l3 : x3.length = x1.toNat := by rw [e3, mixA_len, l2]
  have e4 : x4 = x2 := by
    have : x4 = mixA key nonce 7 x3 := by unfold mixA; rw [l3]
    rw [this, e3, mixA_back _ _ _ b2]
  have l4 : x4.length = x1.toNat := by rw [e4, l2]
  have s5 : strEq (bstr x4) x5 = true := by rw [e4]; exact strEq_refl _
  clear_value x1 x2 x3 x4 x5
  and_intros <;> first | omega | exact True.intro | exact s5 | exact strEq_refl _ | exact decide_eq_true rfl | rfl
set_option maxHeartbeats 8000000 in
theorem lwBack (key nonce : List Int) (n : Nat) (t : List Int) (h1 : t.length = n) (h2 : n ≤ 9223372036854775807) (h3 : key.length = 32) (h4 : nonce.length = 12) (h5 : Bys t) {W : World} {vs : List Value} (hD : All2 (DA (cxL W ([])) be0) (kBack (key, nonce, n, t)).avs vs) : Calls Try.prog 5 vs.toArray W (fun e W' => e = .returned (.bool true) ∧ Upd (fun _ => False) W W') :=
  law_calls (F := FBack) (fn := Try.f5) (c := Try.f5.body.getD .skip) (k := kBack (key, nonce, n, t)) rfl (evOKs ⟨⟨cKnown_ok, by kernel_rfl, gl_nil rfl⟩, ⟨⟨cMix_ok, by kernel_rfl, gl_nil rfl⟩, trivial⟩⟩) mixed rfl (fun _ _ h => by cases h) Try.func5 (by kernel_rfl) rfl rfl hD (by kernel_rfl) (by with_reducible exact wpBack key nonce n t h1 h2 h3 h4 h5)
end Go.Proofs.Ytcbnbhadanldpaa
