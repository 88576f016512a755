/-
  ChachaNoughts, ChachaApart.
-/
import Derived.Test.YtcbnbhadanldpaaC4
namespace Go.Proofs.Ytcbnbhadanldpaa
open Go.RowKit
set_option maxRecDepth 100000

def fcNa (d : Nat) : Option Bool := bif Nat.beq d 14 then some true else none
def fcNb (d : Nat) : Option Bool := bif Nat.beq d 14 then some false else bif Nat.beq d 17 then some true else none
def fcNc (d : Nat) : Option Bool := bif Nat.beq d 14 || Nat.beq d 17 || Nat.beq d 29 || Nat.beq d 34 || Nat.beq d 56 then some false else none
def kNoughtsA : (List Int) × (List Int) × Int → ClN := fun (key, nonce, x) => ⟨[.o (.g [.many 32 (.i .u8 key)]), .o (.g [.many 12 (.i .u8 nonce)]), vv (.int .i64 x)], [], vv (.bool true), [], [], [x < 0]⟩
noncomputable def FNoughtsA : FnE := ⟨mkEv Try.prog [] [cKnown] 0 fcNa, [0, 1, 2, 3, 4, 6, 7, 8, 9, 10, 12, 18, 35, 37, 38, 39, 56], fun _ _ => .rounds 0⟩
theorem vcNoughtsA (key nonce : List Int) (x : Int) : (wpE FNoughtsA (Try.f7.body.getD .skip) ⟨Try.f7.ntmps, slotsOf 0 (kNoughtsA (key, nonce, x)).avs, (kNoughtsA (key, nonce, x)).mem⟩ (finK Try.prog Try.f7.results.toList (postN (kNoughtsA (key, nonce, x))))) = (true = true ∧ decide (x < (0 : Int)) = true ∧ true = true ∧ true = true ∧ (58 : Nat) = (58 : Nat) ∧ Value.bool true = Value.bool true) := by kernel_rfl

set_option maxHeartbeats 8000000 in
theorem wpNoughtsA (key nonce : List Int) (x : Int) (h1 : x < 0) : wpE FNoughtsA (Try.f7.body.getD .skip) ⟨Try.f7.ntmps, slotsOf 0 (kNoughtsA (key, nonce, x)).avs, (kNoughtsA (key, nonce, x)).mem⟩ (finK Try.prog Try.f7.results.toList (postN (kNoughtsA (key, nonce, x)))) := by
  with_reducible refine Eq.mpr (vcNoughtsA key nonce x) ?_
  have hd := decide_eq_true h1
  and_intros <;> first | omega | exact True.intro | exact hd | rfl
set_option maxHeartbeats 8000000 in
theorem lwNoughtsA (key nonce : List Int) (x : Int) (h1 : x < 0) {W : World} {vs : List Value} (hD : All2 (DA (cxL W ([])) be0) (kNoughtsA (key, nonce, x)).avs vs) : Calls Try.prog 7 vs.toArray W (fun e W' => e = .returned (.bool true) ∧ Upd (fun _ => False) W W') :=
  law_calls (F := FNoughtsA) (fn := Try.f7) (c := Try.f7.body.getD .skip) (k := kNoughtsA (key, nonce, x)) rfl (evOKs ⟨⟨cKnown_ok, by kernel_rfl, gl_nil rfl⟩, trivial⟩) mixed rfl (fun _ _ h => by cases h) Try.func7 (by kernel_rfl) rfl rfl hD (by kernel_rfl) (by with_reducible exact wpNoughtsA key nonce x h1)

def kNoughtsB : (List Int) × (List Int) × Int → ClN := fun (key, nonce, x) => ⟨[.o (.g [.many 32 (.i .u8 key)]), .o (.g [.many 12 (.i .u8 nonce)]), vv (.int .i64 x)], [], vv (.bool true), [], [], [400 < x]⟩
noncomputable def FNoughtsB : FnE := ⟨mkEv Try.prog [] [cKnown] 0 fcNb, [0, 1, 2, 3, 4, 6, 7, 8, 9, 10, 12, 18, 35, 37, 38, 39, 56], fun _ _ => .rounds 0⟩
theorem vcNoughtsB (key nonce : List Int) (x : Int) : (wpE FNoughtsB (Try.f7.body.getD .skip) ⟨Try.f7.ntmps, slotsOf 0 (kNoughtsB (key, nonce, x)).avs, (kNoughtsB (key, nonce, x)).mem⟩ (finK Try.prog Try.f7.results.toList (postN (kNoughtsB (key, nonce, x))))) = (true = true ∧ decide (x < (0 : Int)) = false ∧ decide ((400 : Int) < x) = true ∧ true = true ∧ true = true ∧ (58 : Nat) = (58 : Nat) ∧ Value.bool true = Value.bool true) := by kernel_rfl

set_option maxHeartbeats 8000000 in
theorem wpNoughtsB (key nonce : List Int) (x : Int) (h1 : 400 < x) : wpE FNoughtsB (Try.f7.body.getD .skip) ⟨Try.f7.ntmps, slotsOf 0 (kNoughtsB (key, nonce, x)).avs, (kNoughtsB (key, nonce, x)).mem⟩ (finK Try.prog Try.f7.results.toList (postN (kNoughtsB (key, nonce, x)))) := by
  with_reducible refine Eq.mpr (vcNoughtsB key nonce x) ?_
  have hd := decide_eq_true h1
  have hd2 : decide (x < 0) = false := decide_eq_false (by omega)
  and_intros <;> first | omega | exact True.intro | exact hd | exact hd2 | rfl
set_option maxHeartbeats 8000000 in
theorem lwNoughtsB (key nonce : List Int) (x : Int) (h1 : 400 < x) {W : World} {vs : List Value} (hD : All2 (DA (cxL W ([])) be0) (kNoughtsB (key, nonce, x)).avs vs) : Calls Try.prog 7 vs.toArray W (fun e W' => e = .returned (.bool true) ∧ Upd (fun _ => False) W W') :=
  law_calls (F := FNoughtsB) (fn := Try.f7) (c := Try.f7.body.getD .skip) (k := kNoughtsB (key, nonce, x)) rfl (evOKs ⟨⟨cKnown_ok, by kernel_rfl, gl_nil rfl⟩, trivial⟩) mixed rfl (fun _ _ h => by cases h) Try.func7 (by kernel_rfl) rfl rfl hD (by kernel_rfl) (by with_reducible exact wpNoughtsB key nonce x h1)

theorem getDcut (l : List Int) (a b p : Nat) (h : p < b) : ((l.drop a).take b).getD p 0 = l.getD (a + p) 0 := by
  rw [List.getD_eq_getElem?_getD, List.getElem?_take_of_lt h, List.getElem?_drop, ← List.getD_eq_getElem?_getD]
theorem mixA_drop (key nonce : List Int) (x : Int) (u : List Int) (m : Nat) (h : 64 * m ≤ u.length) :
    ((mixA key nonce x u).drop (64 * m)).take (u.length - 64 * m) = mixA key nonce (IntKind.wrap .u32 (x + IntKind.wrap .u32 (m : Int))) ((u.drop (64 * m)).take (u.length - 64 * m)) := by
  have lv : ((u.drop (64 * m)).take (u.length - 64 * m)).length = u.length - 64 * m := by rw [List.length_take, List.length_drop]; omega
  refine ext_getD (by rw [List.length_take, List.length_drop, mixA_len, mixA_len, lv]; omega) (fun p hp => ?_)
  rw [List.length_take, List.length_drop, mixA_len] at hp
  rw [getDcut _ _ _ _ (by omega), mixA_at _ _ _ _ _ (by omega), mixA_at _ _ _ _ _ (by rw [lv]; omega), getDcut _ _ _ _ (by omega)]
  unfold strm
  rw [show (64 * m + p) % 64 = p % 64 by omega]
  congr 3
  simp only [wrapU32]
  omega
noncomputable def stN (key nonce : List Int) (n i : Nat) : St := ⟨Try.f7.ntmps, [(3, .o (.c (.ptr 0 0 none))), (4, .o (.c (.ptr 1 0 none))), (7, .o (.c (.os 2 1 n))), (37, vv (.int .i64 (n : Int))), (38, vv (.int .i64 (i : Int)))], [.fix 23 [.many 32 (.i .u8 key)], .fix 25 [.many 12 (.i .u8 nonce)], .grow 5 1 (.i .u8 (mixL key nonce 5 (List.replicate n 0) n ((n + 63) / 64)))]⟩
def kNoughtsC : (List Int) × (List Int) × Nat → ClN := fun (key, nonce, n) => ⟨[.o (.g [.many 32 (.i .u8 key)]), .o (.g [.many 12 (.i .u8 nonce)]), vv (.int .i64 (n : Int))], [], vv (.bool true), [], [], [n ≤ 400, key.length = 32, nonce.length = 12]⟩
noncomputable def FNoughtsC (key nonce : List Int) (n : Nat) : FnE := ⟨mkEv Try.prog [] [cKnown, cMix, cBlock] 0 fcNc, [0, 1, 2, 3, 4, 6, 7, 8, 9, 10, 12, 18, 35, 37, 38, 39, 56], fun _ _ => .inv { i : Nat // i ≤ n } (fun i => stN key nonce n i.val) (fun i => n - i.val) [0, 1, 4] [0, 1, 2]⟩
theorem vcNoughtsC (key nonce : List Int) (n : Nat) : (wpE (FNoughtsC key nonce n) (Try.f7.body.getD .skip) ⟨Try.f7.ntmps, slotsOf 0 (kNoughtsC (key, nonce, n)).avs, (kNoughtsC (key, nonce, n)).mem⟩ (finK Try.prog Try.f7.results.toList (postN (kNoughtsC (key, nonce, n))))) = (let x1 := List.replicate (Int.toNat (↑n : Int)) (0 : Int); let x2 := mixL key nonce (5 : Int) (List.replicate n (0 : Int)) n ((n + (63 : Nat)) / (64 : Nat)); true = true ∧ decide ((↑n : Int) < (0 : Int)) = false ∧ decide ((400 : Int) < (↑n : Int)) = false ∧ (0 : Int) ≤ (↑n : Int) ∧ (↑n : Int) ≤ (↑n : Int) ∧ (1 : Int) * (↑n : Int) ≤ (281474976710656 : Int) ∧ (↑n : Int) ≤ (9223372036854775807 : Int) ∧ true = true ∧ (32 : Nat) = (32 : Nat) ∧ key = key ∧ (12 : Nat) = (12 : Nat) ∧ nonce = nonce ∧ Value.int IntKind.u32 (5 : Int) = Value.int IntKind.u32 (5 : Int) ∧ getL [Nat.add (Nat.add (Nat.add (Nat.add (2 : Nat) (0 : Nat)) (0 : Nat)) (0 : Nat)) (1 : Nat)] (0 : Nat) = some (Nat.add (Nat.add (Nat.add (Nat.add (2 : Nat) (0 : Nat)) (0 : Nat)) (0 : Nat)) (1 : Nat)) ∧ (0 : Nat) = (0 : Nat) ∧ (1 : Nat) = (1 : Nat) ∧ (34 : Nat) = (34 : Nat) ∧ true = true ∧ Int.toNat (↑n : Int) = Int.toNat (↑n : Int) ∧ x1 = x1 ∧ List.length x1 = Int.toNat (↑n : Int) ∧ Int.toNat (↑n : Int) ≤ (16777216 : Nat) ∧ List.length x1 = Int.toNat (↑n : Int) ∧ List.length key = (32 : Nat) ∧ List.length nonce = (12 : Nat) ∧ false = false ∧ (!decide ((↑(Int.toNat (↑n : Int)) : Int) = (↑n : Int))) = false ∧ (∃ (x : { i : Nat // i ≤ n }), true = true ∧ true = true ∧ (58 : Nat) = (58 : Nat) ∧ getL [(0 : Nat), (1 : Nat), (4 : Nat)] (0 : Nat) = some (0 : Nat) ∧ (0 : Nat) = (0 : Nat) ∧ getL [(0 : Nat), (1 : Nat), (4 : Nat)] (1 : Nat) = some (Nat.add (0 : Nat) (1 : Nat)) ∧ (0 : Nat) = (0 : Nat) ∧ getL [(0 : Nat), (1 : Nat), (4 : Nat)] (2 : Nat) = some (nameN [Nat.add (Nat.add (Nat.add (Nat.add (2 : Nat) (0 : Nat)) (0 : Nat)) (0 : Nat)) (1 : Nat)] (Nat.add (Nat.add (Nat.add (Nat.add (Nat.add (2 : Nat) (0 : Nat)) (0 : Nat)) (0 : Nat)) (1 : Nat)) (1 : Nat)) (1 : Nat)) ∧ (1 : Nat) = (1 : Nat) ∧ Int.toNat (↑n : Int) = n ∧ Value.int IntKind.i64 (↑(Int.toNat (↑n : Int)) : Int) = Value.int IntKind.i64 (↑n : Int) ∧ Value.int IntKind.i64 (0 : Int) = Value.int IntKind.i64 (↑(Subtype.val x) : Int) ∧ (23 : Nat) = (23 : Nat) ∧ (32 : Nat) = (32 : Nat) ∧ key = key ∧ (25 : Nat) = (25 : Nat) ∧ (12 : Nat) = (12 : Nat) ∧ nonce = nonce ∧ (5 : Nat) = (5 : Nat) ∧ (1 : Nat) = (1 : Nat) ∧ mixL key nonce (5 : Int) x1 (Int.toNat (↑n : Int)) ((Int.toNat (↑n : Int) + (63 : Nat)) / (64 : Nat)) = x2) ∧ ∀ (x : { i : Nat // i ≤ n }), bif decide ((↑(Subtype.val x) : Int) < (↑n : Int)) then (64 : Int) ≠ (0 : Int) ∧ true = true ∧ (32 : Nat) = (32 : Nat) ∧ key = key ∧ (12 : Nat) = (12 : Nat) ∧ nonce = nonce ∧ Value.int IntKind.u32 (IntKind.wrap IntKind.u32 ((5 : Int) + IntKind.wrap IntKind.u32 (IntKind.wrap IntKind.i64 (Int.tdiv (↑(Subtype.val x) : Int) (64 : Int))))) = Value.int IntKind.u32 (IntKind.wrap IntKind.u32 ((5 : Int) + IntKind.wrap IntKind.u32 (IntKind.wrap IntKind.i64 (Int.tdiv (↑(Subtype.val x) : Int) (64 : Int))))) ∧ List.length key = (32 : Nat) ∧ List.length nonce = (12 : Nat) ∧ (0 : Int) ≤ (↑(Subtype.val x) : Int) ∧ (↑(Subtype.val x) : Int) < (↑n : Int) ∧ Int.toNat (↑(Subtype.val x) : Int) < List.length x2 ∧ (64 : Int) ≠ (0 : Int) ∧ (0 : Int) ≤ Int.tmod (↑(Subtype.val x) : Int) (64 : Int) ∧ Int.tmod (↑(Subtype.val x) : Int) (64 : Int) < (64 : Int) ∧ Int.toNat (Int.tmod (↑(Subtype.val x) : Int) (64 : Int)) < (64 : Nat) ∧ (!decide (List.getD x2 (Int.toNat (↑(Subtype.val x) : Int)) (0 : Int) = List.getD (chachaL key nonce (IntKind.wrap IntKind.u32 ((5 : Int) + IntKind.wrap IntKind.u32 (IntKind.wrap IntKind.i64 (Int.tdiv (↑(Subtype.val x) : Int) (64 : Int)))))) (Int.toNat (Int.tmod (↑(Subtype.val x) : Int) (64 : Int))) (0 : Int))) = false ∧ ∃ (y : { i : Nat // i ≤ n }), (true = true ∧ true = true ∧ (58 : Nat) = (58 : Nat) ∧ getL [(0 : Nat), (1 : Nat), (2 : Nat)] (0 : Nat) = some (0 : Nat) ∧ (0 : Nat) = (0 : Nat) ∧ getL [(0 : Nat), (1 : Nat), (2 : Nat)] (1 : Nat) = some (1 : Nat) ∧ (0 : Nat) = (0 : Nat) ∧ getL [(0 : Nat), (1 : Nat), (2 : Nat)] (2 : Nat) = some (2 : Nat) ∧ (1 : Nat) = (1 : Nat) ∧ n = n ∧ Value.int IntKind.i64 (↑n : Int) = Value.int IntKind.i64 (↑n : Int) ∧ Value.int IntKind.i64 (IntKind.wrap IntKind.i64 ((↑(Subtype.val x) : Int) + (1 : Int))) = Value.int IntKind.i64 (↑(Subtype.val y) : Int) ∧ (23 : Nat) = (23 : Nat) ∧ (32 : Nat) = (32 : Nat) ∧ key = key ∧ (25 : Nat) = (25 : Nat) ∧ (12 : Nat) = (12 : Nat) ∧ nonce = nonce ∧ (5 : Nat) = (5 : Nat) ∧ (1 : Nat) = (1 : Nat) ∧ x2 = x2) ∧ n - Subtype.val y < n - Subtype.val x else true = true ∧ true = true ∧ (58 : Nat) = (58 : Nat) ∧ Value.bool true = Value.bool true) := by kernel_rfl

set_option maxHeartbeats 8000000 in
theorem wpNoughtsC (key nonce : List Int) (n : Nat) (h1 : n ≤ 400) (h2 : key.length = 32) (h3 : nonce.length = 12) : wpE (FNoughtsC key nonce n) (Try.f7.body.getD .skip) ⟨Try.f7.ntmps, slotsOf 0 (kNoughtsC (key, nonce, n)).avs, (kNoughtsC (key, nonce, n)).mem⟩ (finK Try.prog Try.f7.results.toList (postN (kNoughtsC (key, nonce, n)))) := by
  with_reducible refine Eq.mpr (vcNoughtsC key nonce n) ?_
  intro x1 x2
  have e1 : x1 = List.replicate n 0 := rfl
  have l1 : x1.length = n := by rw [e1, List.length_replicate]
  have e2 : ∀ p, p < n → x2.getD p 0 = strm key nonce 5 p := fun p hp => by
    have h := mixA_at key nonce 5 (List.replicate n 0) p (by rw [List.length_replicate]; exact hp)
    have h0 : (List.replicate n (0 : Int)).getD p 0 = 0 := by simp [List.getD_eq_getElem?_getD, hp]
    rw [h0, xorB_zero (strm_in _ _ _ _)] at h
    unfold mixA at h
    rw [List.length_replicate] at h
    exact h
  have l2 : x2.length = n := (mixL_len _ _ _ _ _ _).trans (List.length_replicate ..)
  have e3 : mixL key nonce 5 (List.replicate n 0) n ((n + 63) / 64) = x2 := rfl
  clear_value x1 x2
  simp only [Int.toNat_natCast, true_and]
  refine ⟨decide_eq_false (by omega), decide_eq_false (by omega), by omega, by omega, by omega, by omega, rfl, l1, by omega, l1, h2, h3, by simp, ⟨⟨0, Nat.zero_le _⟩, ?_⟩, ?_⟩
  · and_intros <;> first | omega | exact True.intro | rfl | (rw [e1]; exact e3)
  · rintro ⟨i, hi⟩
    by_cases hc : i < n
    · have hd : decide ((i : Int) < (n : Int)) = true := decide_eq_true (by omega)
      rw [hd, cond_true]
      have t1 : Int.tdiv (i : Int) 64 = ((i / 64 : Nat) : Int) := by rw [Int.tdiv_eq_ediv_of_nonneg (by omega)]; omega
      have t2 : Int.tmod (i : Int) 64 = ((i % 64 : Nat) : Int) := by rw [Int.tmod_eq_emod_of_nonneg (by omega)]; omega
      have t3 : IntKind.wrap .i64 ((i / 64 : Nat) : Int) = ((i / 64 : Nat) : Int) := by rw [IntKind.wrap_i64]; omega
      have t4 : IntKind.wrap .i64 ((i : Int) + 1) = ((i + 1 : Nat) : Int) := by rw [IntKind.wrap_i64]; omega
      simp only [t1, t2, t3, t4, Int.toNat_natCast]
      refine ⟨by omega, h2, h3, by omega, by omega, by omega, by omega, by omega, by omega, by omega, ?_, ⟨i + 1, hc⟩, ?_, by show n - (i + 1) < n - i; omega⟩
      · rw [e2 i hc]
        unfold strm
        simp
      · and_intros <;> first | omega | exact True.intro | rfl
    · have hd : decide ((i : Int) < (n : Int)) = false := decide_eq_false (by omega)
      rw [hd, cond_false]
      and_intros <;> first | omega | exact True.intro | rfl
set_option maxHeartbeats 8000000 in
theorem lwNoughtsC (key nonce : List Int) (n : Nat) (h1 : n ≤ 400) (h2 : key.length = 32) (h3 : nonce.length = 12) {W : World} {vs : List Value} (hD : All2 (DA (cxL W ([])) be0) (kNoughtsC (key, nonce, n)).avs vs) : Calls Try.prog 7 vs.toArray W (fun e W' => e = .returned (.bool true) ∧ Upd (fun _ => False) W W') :=
  law_calls (F := FNoughtsC key nonce n) (fn := Try.f7) (c := Try.f7.body.getD .skip) (k := kNoughtsC (key, nonce, n)) rfl (evOKs ⟨⟨cKnown_ok, by kernel_rfl, gl_nil rfl⟩, ⟨⟨cMix_ok, by kernel_rfl, gl_nil rfl⟩, ⟨⟨cBlock_ok, by kernel_rfl, gl_nil rfl⟩, trivial⟩⟩⟩) mixed rfl (fun _ _ h => by cases h) Try.func7 (by kernel_rfl) rfl rfl hD (by kernel_rfl) (by with_reducible exact wpNoughtsC key nonce n h1 h2 h3)

def fcAa (d : Nat) : Option Bool := bif Nat.beq d 19 then some true else none
def fcAb (d : Nat) : Option Bool := bif Nat.beq d 19 then some false else bif Nat.beq d 25 then some true else none
def fcAc (d : Nat) : Option Bool := bif Nat.beq d 19 || Nat.beq d 25 then some false else bif Nat.beq d 50 || Nat.beq d 53 || Nat.beq d 63 then some true else none
def kApartA : (List Int) × Nat × (List Int) × Int → ClN := fun (key, n, t, x) => ⟨[.o (.g [.many 32 (.i .u8 key)]), .o (.c (.rs 1 n (.i .u8 t))), vv (.int .i64 x)], [], vv (.bool true), [], [], [x < 0, n ≤ 9223372036854775807]⟩
noncomputable def FApartA : FnE := ⟨mkEv Try.prog [] [cKnown] 0 fcAa, [0, 1, 2, 3, 6, 7, 8, 9, 10, 12, 26], fun _ _ => .rounds 0⟩
theorem vcApartA (key : List Int) (n : Nat) (t : List Int) (x : Int) : (wpE FApartA (Try.f6.body.getD .skip) ⟨Try.f6.ntmps, slotsOf 0 (kApartA (key, n, t, x)).avs, (kApartA (key, n, t, x)).mem⟩ (finK Try.prog Try.f6.results.toList (postN (kApartA (key, n, t, x))))) = (let x1 := if (2000 : Int) < (↑n : Int) then (2000 : Int) else (↑n : Int); true = true ∧ (0 : Int) ≤ x1 ∧ Int.toNat x1 ≤ n ∧ decide (x < (0 : Int)) = true ∧ true = true ∧ true = true ∧ (65 : Nat) = (65 : Nat) ∧ Value.bool true = Value.bool true) := by kernel_rfl

set_option maxHeartbeats 8000000 in
theorem wpApartA (key : List Int) (n : Nat) (t : List Int) (x : Int) (h1 : x < 0) (h2 : n ≤ 9223372036854775807) : wpE FApartA (Try.f6.body.getD .skip) ⟨Try.f6.ntmps, slotsOf 0 (kApartA (key, n, t, x)).avs, (kApartA (key, n, t, x)).mem⟩ (finK Try.prog Try.f6.results.toList (postN (kApartA (key, n, t, x)))) := by
  with_reducible refine Eq.mpr (vcApartA key n t x) ?_
  have hd := decide_eq_true h1
  have hx : (if (2000 : Int) < (n : Int) then (2000 : Int) else (n : Int)) = ((min n 2000 : Nat) : Int) := by split <;> omega
  simp only [hx]
  and_intros <;> first | omega | exact True.intro | exact hd | rfl
set_option maxHeartbeats 8000000 in
theorem lwApartA (key : List Int) (n : Nat) (t : List Int) (x : Int) (h1 : x < 0) (h2 : n ≤ 9223372036854775807) {W : World} {vs : List Value} (hD : All2 (DA (cxL W ([])) be0) (kApartA (key, n, t, x)).avs vs) : Calls Try.prog 6 vs.toArray W (fun e W' => e = .returned (.bool true) ∧ Upd (fun _ => False) W W') :=
  law_calls (F := FApartA) (fn := Try.f6) (c := Try.f6.body.getD .skip) (k := kApartA (key, n, t, x)) rfl (evOKs ⟨⟨cKnown_ok, by kernel_rfl, gl_nil rfl⟩, trivial⟩) mixed rfl (fun _ _ h => by cases h) Try.func6 (by kernel_rfl) rfl rfl hD (by kernel_rfl) (by with_reducible exact wpApartA key n t x h1 h2)

def kApartB : (List Int) × Nat × (List Int) × Int → ClN := fun (key, n, t, x) => ⟨[.o (.g [.many 32 (.i .u8 key)]), .o (.c (.rs 1 n (.i .u8 t))), vv (.int .i64 x)], [], vv (.bool true), [], [], [0 ≤ x, ((min n 2000 / 64 : Nat) : Int) < x, n ≤ 9223372036854775807]⟩
noncomputable def FApartB : FnE := ⟨mkEv Try.prog [] [cKnown] 0 fcAb, [0, 1, 2, 3, 6, 7, 8, 9, 10, 12, 26], fun _ _ => .rounds 0⟩
theorem vcApartB (key : List Int) (n : Nat) (t : List Int) (x : Int) : (wpE FApartB (Try.f6.body.getD .skip) ⟨Try.f6.ntmps, slotsOf 0 (kApartB (key, n, t, x)).avs, (kApartB (key, n, t, x)).mem⟩ (finK Try.prog Try.f6.results.toList (postN (kApartB (key, n, t, x))))) = (let x1 := if (2000 : Int) < (↑n : Int) then (2000 : Int) else (↑n : Int); true = true ∧ (0 : Int) ≤ x1 ∧ Int.toNat x1 ≤ n ∧ decide (x < (0 : Int)) = false ∧ (64 : Int) ≠ (0 : Int) ∧ decide (IntKind.wrap IntKind.i64 (Int.tdiv (↑(Int.toNat x1) : Int) (64 : Int)) < x) = true ∧ true = true ∧ true = true ∧ (65 : Nat) = (65 : Nat) ∧ Value.bool true = Value.bool true) := by kernel_rfl

set_option maxHeartbeats 8000000 in
theorem wpApartB (key : List Int) (n : Nat) (t : List Int) (x : Int) (h1 : 0 ≤ x) (h2 : ((min n 2000 / 64 : Nat) : Int) < x) (h3 : n ≤ 9223372036854775807) : wpE FApartB (Try.f6.body.getD .skip) ⟨Try.f6.ntmps, slotsOf 0 (kApartB (key, n, t, x)).avs, (kApartB (key, n, t, x)).mem⟩ (finK Try.prog Try.f6.results.toList (postN (kApartB (key, n, t, x)))) := by
  with_reducible refine Eq.mpr (vcApartB key n t x) ?_
  have hx : (if (2000 : Int) < (n : Int) then (2000 : Int) else (n : Int)) = ((min n 2000 : Nat) : Int) := by split <;> omega
  have hd := decide_eq_false (Int.not_lt.2 h1)
  have hd2 := decide_eq_true h2
  have hw : ∀ k : Nat, k ≤ 2000 → IntKind.wrap .i64 (Int.tdiv (k : Int) 64) = ((k / 64 : Nat) : Int) := fun k hk => by
    rw [Int.tdiv_eq_ediv_of_nonneg (by omega), IntKind.wrap_i64]; omega
  simp only [hx, Int.toNat_natCast, hw _ (Nat.min_le_right n 2000)]
  and_intros <;> first | omega | exact True.intro | exact hd | exact hd2 | rfl
set_option maxHeartbeats 8000000 in
theorem lwApartB (key : List Int) (n : Nat) (t : List Int) (x : Int) (h1 : 0 ≤ x) (h2 : ((min n 2000 / 64 : Nat) : Int) < x) (h3 : n ≤ 9223372036854775807) {W : World} {vs : List Value} (hD : All2 (DA (cxL W ([])) be0) (kApartB (key, n, t, x)).avs vs) : Calls Try.prog 6 vs.toArray W (fun e W' => e = .returned (.bool true) ∧ Upd (fun _ => False) W W') :=
  law_calls (F := FApartB) (fn := Try.f6) (c := Try.f6.body.getD .skip) (k := kApartB (key, n, t, x)) rfl (evOKs ⟨⟨cKnown_ok, by kernel_rfl, gl_nil rfl⟩, trivial⟩) mixed rfl (fun _ _ h => by cases h) Try.func6 (by kernel_rfl) rfl rfl hD (by kernel_rfl) (by with_reducible exact wpApartB key n t x h1 h2 h3)

def kApartC : (List Int) × Nat × (List Int) × Nat → ClN := fun (key, n, t, m) => ⟨[.o (.g [.many 32 (.i .u8 key)]), .o (.c (.rs 1 n (.i .u8 t))), vv (.int .i64 (m : Int))], [], vv (.bool true), [], [], [m ≤ min n 2000 / 64, n ≤ 9223372036854775807, t.length = n, key.length = 32]⟩
noncomputable def FApartC : FnE := ⟨mkEv Try.prog [] [cKnown, cMix] 0 fcAc, [0, 1, 2, 3, 6, 7, 8, 9, 10, 12, 26], fun _ _ => .rounds 0⟩
theorem vcApartC (key : List Int) (n : Nat) (t : List Int) (m : Nat) : (wpE FApartC (Try.f6.body.getD .skip) ⟨Try.f6.ntmps, slotsOf 0 (kApartC (key, n, t, m)).avs, (kApartC (key, n, t, m)).mem⟩ (finK Try.prog Try.f6.results.toList (postN (kApartC (key, n, t, m))))) = (let x1 := if (2000 : Int) < (↑n : Int) then (2000 : Int) else (↑n : Int); let x2 := List.take (Int.toNat x1) (List.drop (0 : Nat) t); let x3 := IntKind.wrap IntKind.i64 ((64 : Int) * (↑m : Int)); let x4 := IntKind.wrap IntKind.u32 ((3 : Int) + IntKind.wrap IntKind.u32 (↑m : Int)); let x5 := List.take (Int.toNat x1 - Int.toNat x3) (List.drop (Int.toNat x3) x2); let x6 := mixL key [(0 : Int), (0 : Int), (0 : Int), (0 : Int), (0 : Int), (0 : Int), (0 : Int), (0 : Int), (0 : Int), (0 : Int), (0 : Int), (0 : Int)] (3 : Int) x2 (Int.toNat x1) ((Int.toNat x1 + (63 : Nat)) / (64 : Nat)); let x7 := mixL key [(0 : Int), (0 : Int), (0 : Int), (0 : Int), (0 : Int), (0 : Int), (0 : Int), (0 : Int), (0 : Int), (0 : Int), (0 : Int), (0 : Int)] x4 x5 (Int.toNat x1 - Int.toNat x3) ((Int.toNat x1 - Int.toNat x3 + (63 : Nat)) / (64 : Nat)); true = true ∧ (0 : Int) ≤ x1 ∧ Int.toNat x1 ≤ n ∧ decide ((↑m : Int) < (0 : Int)) = false ∧ (64 : Int) ≠ (0 : Int) ∧ decide (IntKind.wrap IntKind.i64 (Int.tdiv (↑(Int.toNat x1) : Int) (64 : Int)) < (↑m : Int)) = false ∧ true = true ∧ (32 : Nat) = (32 : Nat) ∧ key = key ∧ (12 : Nat) = (12 : Nat) ∧ [(0 : Int), (0 : Int), (0 : Int), (0 : Int), (0 : Int), (0 : Int), (0 : Int), (0 : Int), (0 : Int), (0 : Int), (0 : Int), (0 : Int)] = [(0 : Int), (0 : Int), (0 : Int), (0 : Int), (0 : Int), (0 : Int), (0 : Int), (0 : Int), (0 : Int), (0 : Int), (0 : Int), (0 : Int)] ∧ Value.int IntKind.u32 (3 : Int) = Value.int IntKind.u32 (3 : Int) ∧ getL [Nat.add (Nat.add (Nat.add (1 : Nat) (0 : Nat)) (0 : Nat)) (0 : Nat)] (0 : Nat) = some (Nat.add (Nat.add (Nat.add (1 : Nat) (0 : Nat)) (0 : Nat)) (0 : Nat)) ∧ (0 : Nat) = (0 : Nat) ∧ (1 : Nat) = (1 : Nat) ∧ (34 : Nat) = (34 : Nat) ∧ true = true ∧ Int.toNat x1 = Int.toNat x1 ∧ x2 = x2 ∧ Int.toNat x1 ≤ (16777216 : Nat) ∧ List.length x2 = Int.toNat x1 ∧ List.length key = (32 : Nat) ∧ (12 : Nat) = (12 : Nat) ∧ (0 : Int) ≤ x3 ∧ Int.toNat x3 ≤ Int.toNat x1 ∧ true = true ∧ (32 : Nat) = (32 : Nat) ∧ key = key ∧ (12 : Nat) = (12 : Nat) ∧ [(0 : Int), (0 : Int), (0 : Int), (0 : Int), (0 : Int), (0 : Int), (0 : Int), (0 : Int), (0 : Int), (0 : Int), (0 : Int), (0 : Int)] = [(0 : Int), (0 : Int), (0 : Int), (0 : Int), (0 : Int), (0 : Int), (0 : Int), (0 : Int), (0 : Int), (0 : Int), (0 : Int), (0 : Int)] ∧ Value.int IntKind.u32 x4 = Value.int IntKind.u32 x4 ∧ getL [Nat.add (Nat.add (Nat.add (Nat.add (Nat.add (Nat.add (Nat.add (Nat.add (Nat.add (3 : Nat) (0 : Nat)) (0 : Nat)) (0 : Nat)) (0 : Nat)) (0 : Nat)) (0 : Nat)) (0 : Nat)) (0 : Nat)) (0 : Nat)] (0 : Nat) = some (Nat.add (Nat.add (Nat.add (Nat.add (Nat.add (Nat.add (Nat.add (Nat.add (Nat.add (3 : Nat) (0 : Nat)) (0 : Nat)) (0 : Nat)) (0 : Nat)) (0 : Nat)) (0 : Nat)) (0 : Nat)) (0 : Nat)) (0 : Nat)) ∧ (0 : Nat) = (0 : Nat) ∧ (1 : Nat) = (1 : Nat) ∧ (34 : Nat) = (34 : Nat) ∧ true = true ∧ Int.toNat x1 - Int.toNat x3 = Int.toNat x1 - Int.toNat x3 ∧ x5 = x5 ∧ Int.toNat x1 - Int.toNat x3 ≤ (16777216 : Nat) ∧ List.length x5 = Int.toNat x1 - Int.toNat x3 ∧ List.length key = (32 : Nat) ∧ (12 : Nat) = (12 : Nat) ∧ decide ((0 : Int) = (0 : Int)) = true ∧ decide ((0 : Int) = (0 : Int)) = true ∧ (0 : Int) ≤ x3 ∧ Int.toNat x3 ≤ Int.toNat x1 ∧ Int.toNat x3 + (Int.toNat x1 - Int.toNat x3) ≤ List.length x6 ∧ List.length x7 = Int.toNat x1 - Int.toNat x3 ∧ strEq (bstr (List.take (Int.toNat x1 - Int.toNat x3) (List.drop (Int.toNat x3) x6))) (bstr x7) = true ∧ true = true ∧ true = true ∧ (65 : Nat) = (65 : Nat) ∧ (bif true then Value.bool true else Value.bool false) = Value.bool true) := by kernel_rfl

set_option maxHeartbeats 8000000 in
theorem wpApartC (key : List Int) (n : Nat) (t : List Int) (m : Nat) (h1 : m ≤ min n 2000 / 64) (h2 : n ≤ 9223372036854775807) (h3 : t.length = n) (h4 : key.length = 32) : wpE FApartC (Try.f6.body.getD .skip) ⟨Try.f6.ntmps, slotsOf 0 (kApartC (key, n, t, m)).avs, (kApartC (key, n, t, m)).mem⟩ (finK Try.prog Try.f6.results.toList (postN (kApartC (key, n, t, m)))) := by
  with_reducible refine Eq.mpr (vcApartC key n t m) ?_
  have hx : (if (2000 : Int) < (n : Int) then (2000 : Int) else (n : Int)) = ((min n 2000 : Nat) : Int) := by split <;> omega
  have hw : ∀ k : Nat, k ≤ 2000 → IntKind.wrap .i64 (Int.tdiv (k : Int) 64) = ((k / 64 : Nat) : Int) := fun k hk => by
    rw [Int.tdiv_eq_ediv_of_nonneg (by omega), IntKind.wrap_i64]; omega
  have hm : IntKind.wrap .i64 (64 * (m : Int)) = ((64 * m : Nat) : Int) := by rw [IntKind.wrap_i64]; omega
  simp only [hx, hm, Int.toNat_natCast, hw _ (Nat.min_le_right n 2000)]
  generalize hn : min n 2000 = q at *
  intros
  have hd := decide_eq_false (Int.not_lt.2 (Int.natCast_nonneg m))
  have hd2 : decide (((q / 64 : Nat) : Int) < (m : Int)) = false := decide_eq_false (by omega)
  have lu : (List.take q (List.drop 0 t)).length = q := by rw [List.length_take, List.length_drop]; omega
  generalize List.take q (List.drop 0 t) = u at *
  have lv : (List.take (q - 64 * m) (List.drop (64 * m) u)).length = q - 64 * m := by rw [List.length_take, List.length_drop]; omega
  have e7 := mixA_drop key [0, 0, 0, 0, 0, 0, 0, 0, 0, 0, 0, 0] 3 u m (by omega)
  unfold mixA at e7
  rw [lu, lv] at e7
  simp only [e7, mixL_len]
  and_intros <;> first | omega | exact True.intro | exact hd | exact hd2 | exact strEq_refl _ | rfl
set_option maxHeartbeats 8000000 in
theorem lwApartC (key : List Int) (n : Nat) (t : List Int) (m : Nat) (h1 : m ≤ min n 2000 / 64) (h2 : n ≤ 9223372036854775807) (h3 : t.length = n) (h4 : key.length = 32) {W : World} {vs : List Value} (hD : All2 (DA (cxL W ([])) be0) (kApartC (key, n, t, m)).avs vs) : Calls Try.prog 6 vs.toArray W (fun e W' => e = .returned (.bool true) ∧ Upd (fun _ => False) W W') :=
  law_calls (F := FApartC) (fn := Try.f6) (c := Try.f6.body.getD .skip) (k := kApartC (key, n, t, m)) rfl (evOKs ⟨⟨cKnown_ok, by kernel_rfl, gl_nil rfl⟩, ⟨⟨cMix_ok, by kernel_rfl, gl_nil rfl⟩, trivial⟩⟩) mixed rfl (fun _ _ h => by cases h) Try.func6 (by kernel_rfl) rfl rfl hD (by kernel_rfl) (by with_reducible exact wpApartC key n t m h1 h2 h3 h4)
end Go.Proofs.Ytcbnbhadanldpaa
