/-
  The reference of layer 9 (poly): the least number that is alike, as it is reckoned. No program.
-/
/-
  The reference of layer 9 (poly): the least number that is alike.
-/
import Derived.Test.YthlleheeghiljaaE9b
namespace Go.Proofs.Ythlleheeghiljaa
open Go.RowKit
set_option maxRecDepth 100000

/-- Five times what is above comes down, by the two lists. -/
def cH (L H : List Int) : Nat → List Int
  | 0 => L
  | k + 1 => if H.getD (16 + k) 0 * 5 % 4 ≠ 0 ∧ 0 < k then (((cH L H k).set k ((cH L H k).getD k 0 + H.getD (16 + k) 0 * 5 / 4)).set (k - 1) ((cH L H k).getD (k - 1) 0 + H.getD (16 + k) 0 * 5 % 4 * 64)) else (cH L H k).set k ((cH L H k).getD k 0 + H.getD (16 + k) 0 * 5 / 4)
theorem cH_eq (D : List Int) : ∀ k, k ≤ 24 → cH (lowB D 24) (hiB D 24) k = cC D k
  | 0, _ => rfl
  | k + 1, hk => by
    have e : (hiB D 24).getD (16 + k) 0 = xB D k := by rw [hiB_at D _ 24 (Nat.le_refl _), if_pos (by omega), show 16 + k - 16 = k by omega]
    rw [cH, cC, e, cH_eq D k (by omega)]
/-- Where the carry stands. -/
structure RdA (V : Int) where
  l : List Int
  i : Nat
  hl : l.length = 40
  hi : i ≤ 39
  hv : valD l = V
  hd : ∀ j, j < i → l.getD j 0 < 256
  h0 : ∀ j, 0 ≤ l.getD j 0
  hb : ∀ j, l.getD j 0 ≤ 2199023255552
  hr : ∀ j, i < j → l.getD j 0 ≤ 1099511627776
/-- Where the whole stands. -/
structure RdO (V : Int) where
  l : List Int
  hl : l.length = 40
  hv : valD l % pP = V % pP
  hV : valD l < 256 ^ 40
  h0 : ∀ j, 0 ≤ l.getD j 0
  hb : ∀ j, l.getD j 0 ≤ 1099511627776
theorem i64_in {x : Int} (h0 : 0 ≤ x) (h1 : x ≤ 9223372036854775807) : IntKind.wrap .i64 x = x := by rw [IntKind.wrap_i64]; omega
theorem rda_step {V : Int} (x : RdA V) (h : x.i + 1 < 40) : ∃ y : RdA V, y.i = x.i + 1 ∧ (x.l.set (x.i + 1) (IntKind.wrap .i64 (x.l.getD (x.i + 1) 0 + IntKind.wrap .i64 (Int.tdiv (x.l.getD x.i 0) 256)))).set x.i (Int.tmod ((x.l.set (x.i + 1) (IntKind.wrap .i64 (x.l.getD (x.i + 1) 0 + IntKind.wrap .i64 (Int.tdiv (x.l.getD x.i 0) 256)))).getD x.i 0) 256) = y.l := by
  obtain ⟨l, i, hl, hi, hv, hd, h0, hb, hr⟩ := x
  dsimp only at h ⊢
  have a0 := h0 i
  have a1 := hb i
  have b0 := h0 (i + 1)
  have b1 := hr (i + 1) (by omega)
  have e1 : Int.tdiv (l.getD i 0) 256 = l.getD i 0 / 256 := Int.tdiv_eq_ediv_of_nonneg a0
  have e2 : Int.tmod (l.getD i 0) 256 = l.getD i 0 % 256 := Int.tmod_eq_emod_of_nonneg a0
  rw [getD_ins (by omega), if_neg (by omega), e1, e2, i64_in (x := l.getD i 0 / 256) (by omega) (by omega), i64_in (by omega) (by omega)]
  have L1 : (l.set (i + 1) (l.getD (i + 1) 0 + l.getD i 0 / 256)).length = 40 := by rw [List.length_set]; exact hl
  have at' : ∀ j, ((l.set (i + 1) (l.getD (i + 1) 0 + l.getD i 0 / 256)).set i (l.getD i 0 % 256)).getD j 0 = if i = j then l.getD i 0 % 256 else if i + 1 = j then l.getD (i + 1) 0 + l.getD i 0 / 256 else l.getD j 0 := fun j => by
    rw [getD_ins (by omega), getD_ins (by omega)]
  refine ⟨⟨_, i + 1, by rw [List.length_set]; exact L1, by omega, (carry_step (by omega)).trans hv, fun j hj => ?_, fun j => ?_, fun j => ?_, fun j hj => ?_⟩, rfl, rfl⟩
  · rw [at']
    split
    · omega
    · rw [if_neg (by omega)]; exact hd j (by omega)
  · rw [at']
    have := h0 j
    split
    · omega
    · split <;> omega
  · rw [at']
    have := hb j
    split
    · omega
    · split <;> omega
  · rw [at', if_neg (by omega), if_neg (by omega)]
    exact hr j (by omega)
theorem rda_end {V : Int} (x : RdA V) (h : x.i = 39) (hV : V < 256 ^ 40) : ∀ j, 0 ≤ x.l.getD j 0 ∧ x.l.getD j 0 < 256 := by
  obtain ⟨l, i, hl, hi, hv, hd, h0, hb, hr⟩ := x
  dsimp only at h ⊢
  intro j
  refine ⟨h0 j, ?_⟩
  by_cases e : j < 39
  · exact hd j (by omega)
  · by_cases e2 : j = 39
    · subst e2
      have := valD_ge h0 39
      have p1 : (256 : Int) ^ 40 = 256 * 256 ^ 39 := by decide
      have p2 := pow256 39
      rw [hv] at this
      generalize (256 : Int) ^ 39 = m at *
      rcases Int.lt_or_le (l.getD 39 0) 256 with h | h
      · exact h
      · exfalso
        have : 256 * m ≤ l.getD 39 0 * m := Int.mul_le_mul_of_nonneg_right h (by omega)
        omega
    · rw [List.getD_eq_getElem?_getD, List.getElem?_eq_none (by omega)]
      exact (by decide : (0 : Int) < 256)
theorem low_id {M : List Int} (hl : M.length = 40) (hz : ∀ j, j < 24 → xB M j = 0) : lowB M 24 = M := by
  refine ext_getD (by rw [lowB_len hl, hl]) (fun p hp => ?_)
  rw [lowB_at hl p 24 (Nat.le_refl _)]
  split
  · rw [hz (p - 16) (by omega)]; omega
  · rfl
theorem red_small {M : List Int} (hl : M.length = 40) (hd : ∀ j, 0 ≤ M.getD j 0 ∧ M.getD j 0 < 256) (hz : ∀ j, j < 24 → xB M j = 0) : 0 ≤ valD M ∧ valD M < 1361129467683753853853498429727072845824 ∧ dgl 40 (valD M) = M := by
  have hD : dgl 40 (valD M) = M := by have := dgl_val hd; rw [hl] at this; exact this
  have hn := valD_nn (fun j => (hd j).1)
  have hlt := valD_lt hd
  rw [hl] at hlt
  have hU : valD M / 256 ^ 17 = 0 := by
    have h17 := pow256 17
    refine dgl_zero 23 (Int.ediv_nonneg hn (by omega)) ?_ (fun j hj => ?_)
    · refine Int.ediv_lt_of_lt_mul h17 ?_
      rw [← Int.pow_add]; exact hlt
    · have h1 := hz (1 + j) (by omega)
      unfold xB at h1
      rw [if_neg (by omega), show 16 + (1 + j) = 17 + j by omega] at h1
      have h2 := dgl_at 40 (valD M) (17 + j) (by omega)
      rw [hD, h1, Int.pow_add, ← Int.ediv_ediv_of_nonneg (by decide)] at h2
      rw [dgl_at 23 _ j hj]
      exact h2.symm
  have h16 := dgl_at 40 (valD M) 16 (by omega)
  rw [hD] at h16
  have hx := hz 0 (by omega)
  have hx0 : xB M 0 = M.getD 16 0 - M.getD 16 0 % 4 := rfl
  have hb := hd 16
  refine ⟨hn, ?_, hD⟩
  rw [show (256 : Int) ^ 17 = 87112285931760246646623899502532662132736 by decide] at hU
  rw [show (256 : Int) ^ 16 = 340282366920938463463374607431768211456 by decide] at h16
  omega
theorem red_end {M : List Int} {V0 : Int} (hl : M.length = 40) (hd : ∀ j, 0 ≤ M.getD j 0 ∧ M.getD j 0 < 256) (hno : ovB M 24 = false) (hv : valD M % pP = V0 % pP) :
    lowB M 24 = M ∧ (leB M 15 = true → [IntKind.wrap .i64 (M.getD 0 0 - 251), 0, 0, 0, 0, 0, 0, 0, 0, 0, 0, 0, 0, 0, 0, 0, 0, 0, 0, 0, 0, 0, 0, 0, 0, 0, 0, 0, 0, 0, 0, 0, 0, 0, 0, 0, 0, 0, 0, 0] = dgl 40 (V0 % pP)) ∧ (leB M 15 = false → M = dgl 40 (V0 % pP)) := by
  have hz := ovB_none 24 hno
  obtain ⟨hn, hlt, hD⟩ := red_small hl hd hz
  refine ⟨low_id hl hz, fun h => ?_, fun h => ?_⟩
  · obtain ⟨h1, h2, h3⟩ := leB_all 15 h
    have h0 := hd 0
    have hM : M = [M.getD 0 0, 255, 255, 255, 255, 255, 255, 255, 255, 255, 255, 255, 255, 255, 255, 255, 3, 0, 0, 0, 0, 0, 0, 0, 0, 0, 0, 0, 0, 0, 0, 0, 0, 0, 0, 0, 0, 0, 0, 0] := by
      refine ext_getD (by rw [hl]; rfl) (fun p hp => ?_)
      rw [hl] at hp
      by_cases e0 : p = 0
      · subst e0; rfl
      · by_cases e1 : p < 16
        · have := h3 (p - 1) (by omega)
          rw [show 1 + (p - 1) = p by omega] at this
          rw [this]
          have : ∀ q : Fin 16, q.val ≠ 0 → ∀ a : Int, (255 : Int) = [a, 255, 255, 255, 255, 255, 255, 255, 255, 255, 255, 255, 255, 255, 255, 255, 3, 0, 0, 0, 0, 0, 0, 0, 0, 0, 0, 0, 0, 0, 0, 0, 0, 0, 0, 0, 0, 0, 0, 0].getD q.val 0 := by
            intro q hq a
            match q with
            | ⟨0, _⟩ => exact absurd rfl hq
            | ⟨1, _⟩ => rfl
            | ⟨2, _⟩ => rfl
            | ⟨3, _⟩ => rfl
            | ⟨4, _⟩ => rfl
            | ⟨5, _⟩ => rfl
            | ⟨6, _⟩ => rfl
            | ⟨7, _⟩ => rfl
            | ⟨8, _⟩ => rfl
            | ⟨9, _⟩ => rfl
            | ⟨10, _⟩ => rfl
            | ⟨11, _⟩ => rfl
            | ⟨12, _⟩ => rfl
            | ⟨13, _⟩ => rfl
            | ⟨14, _⟩ => rfl
            | ⟨15, _⟩ => rfl
            | ⟨n + 16, hn⟩ => exact absurd hn (by omega)
          exact this ⟨p, e1⟩ e0 _
        · by_cases e2 : p = 16
          · subst e2; rw [h1]; rfl
          · have := hz (p - 16) (by omega)
            unfold xB at this
            rw [if_neg (by omega), show 16 + (p - 16) = p by omega] at this
            rw [this]
            obtain ⟨q, rfl⟩ : ∃ q, p = 17 + q := ⟨p - 17, by omega⟩
            have r : (0 : Int) = (List.replicate 23 (0 : Int)).getD q 0 := by
              rw [List.getD_eq_getElem?_getD, List.getElem?_replicate, if_pos (by omega)]; rfl
            rw [show 17 + q = q + 17 by omega]
            exact r
    have hV : valD M = M.getD 0 0 + 1361129467683753853853498429727072845568 := by
      generalize M.getD 0 0 = a at hM
      rw [hM]
      simp only [valD]
      omega
    have hm : V0 % pP = M.getD 0 0 - 251 := by
      rw [← hv, hV]
      unfold pP
      omega
    rw [hm, i64_in (by omega) (by omega)]
    have hv0 : 0 ≤ M.getD 0 0 - 251 ∧ M.getD 0 0 - 251 < 256 := by omega
    generalize M.getD 0 0 - 251 = v at *
    show _ = v % 256 :: dgl 39 (v / 256)
    rw [show v % 256 = v by omega, show v / 256 = 0 by omega]
    congr 1
  · have hlt2 : valD M < pP := by
      rcases Int.lt_or_le (valD M) pP with h | h2
      · exact h
      · exfalso
        have hq : valD M / 256 = 5316911983139663491615228241121378303 := by unfold pP at h2; omega
        have at' : ∀ j, j < 40 → M.getD j 0 = valD M / 256 ^ j % 256 := fun j hj => by rw [← dgl_at 40 (valD M) j hj, hD]
        have e16 := at' 16 (by omega)
        have e0 := at' 0 (by omega)
        rw [Int.pow_zero, Int.ediv_one] at e0
        rw [show (256 : Int) ^ 16 = 340282366920938463463374607431768211456 by decide] at e16
        have t : leB M 15 = true := by
          refine leB_of ?_ ?_ 15 (fun j hj => ?_)
          · rw [e16]; unfold pP at h2; omega
          · rw [e0]; unfold pP at h2; omega
          · rw [at' (1 + j) (by omega), Int.pow_add, ← Int.ediv_ediv_of_nonneg (by decide), show (256 : Int) ^ 1 = 256 by decide, hq]
            have : ∀ q : Fin 15, (5316911983139663491615228241121378303 : Int) / 256 ^ q.val % 256 = 255 := by decide +kernel
            exact this ⟨j, hj⟩
        rw [t] at h; cases h
    rw [← hv, Int.emod_eq_of_lt hn hlt2, hD]
/-- What a round takes off. -/
theorem red_next {M : List Int} {V0 : Int} (hl : M.length = 40) (hd : ∀ j, 0 ≤ M.getD j 0 ∧ M.getD j 0 < 256) (hov : ovB M 24 = true) (hv : valD M % pP = V0 % pP) (hV : valD M < 256 ^ 40) :
    ∃ y : RdO V0, y.l = cC M 24 ∧ (valD y.l).toNat < (valD M).toNat := by
  have q1 := qB_val hl 24 (Nat.le_refl _)
  have q2 := cC_val hl 24 (Nat.le_refl _)
  have q3 := qB_pos hd 24 hov
  have c1 := cC_in hl hd 24 (Nat.le_refl _)
  have hn := valD_nn (fun j => (c1 j).1)
  have e : valD (cC M 24) = valD M - pP * qB M 24 := by rw [q2, ← q1]; unfold pP; omega
  have hlt : valD (cC M 24) < valD M := by
    rw [e]; unfold pP
    have := Int.mul_pos (show (0 : Int) < 1361129467683753853853498429727072845819 by decide) q3
    omega
  refine ⟨⟨cC M 24, cC_len hl 24, ?_, by omega, fun j => (c1 j).1, fun j => by have := (c1 j).2; omega⟩, rfl, by show (valD (cC M 24)).toNat < _; omega⟩
  rw [e, ← hv, Int.sub_mul_emod_self_left]
end Go.Proofs.Ythlleheeghiljaa
namespace Go.Proofs.Ythlleheeghiljaa
open Go.RowKit
set_option maxRecDepth 100000

noncomputable def stRO (l : List Int) : St := ⟨Try.f35.ntmps, [(0, .o (.c (.os 0 1 40)))], [.grow 3 1 (.i .i64 l)]⟩
noncomputable def stRA (l : List Int) (i : Nat) : St := ⟨Try.f35.ntmps, [(0, .o (.c (.os 0 1 40))), (3, vv (.int .i64 (i : Int)))], [.grow 3 1 (.i .i64 l)]⟩
noncomputable def stRB (D : List Int) (k : Nat) : St := ⟨Try.f35.ntmps, [(0, .o (.c (.os 0 1 40))), (4, .o (.c (.os 1 1 40))), (5, vv (.bool (ovB D k))), (6, vv (.int .i64 ((16 + k : Nat) : Int)))], [.grow 3 1 (.i .i64 (lowB D k)), .grow 3 1 (.i .i64 (hiB D k))]⟩
noncomputable def stRC (L H : List Int) (k : Nat) : St := ⟨Try.f35.ntmps, [(0, .o (.c (.os 0 1 40))), (4, .o (.c (.os 1 1 40))), (8, vv (.int .i64 ((16 + k : Nat) : Int)))], [.grow 3 1 (.i .i64 (cH L H k)), .grow 3 1 (.i .i64 H)]⟩
noncomputable def stRL (D : List Int) (k : Nat) : St := ⟨Try.f35.ntmps, [(0, .o (.c (.os 0 1 40))), (10, vv (.bool (leB D k))), (11, vv (.int .i64 ((1 + k : Nat) : Int)))], [.grow 3 1 (.i .i64 D)]⟩
def kSRed : (List Int) → ClN := fun l => ⟨[.o (.c (.os 0 1 40))], [.grow 3 1 (.i .i64 l)], .o (.c (.os 1 1 40)), [.dead, .grow 3 1 (.i .i64 (dgl 40 (valD l % pP)))], [0, 5000002], [l.length = 40, valD l < 256 ^ 40, ∀ j, 0 ≤ l.getD j 0, ∀ j, l.getD j 0 ≤ 1099511627776]⟩
noncomputable def FSRed (l : List Int) : FnE := ⟨mkEv Try.prog [] [] 1, [0, 2, 3, 4, 5, 6, 7, 8, 9, 10, 11, 12, 17, 44, 52, 76, 80, 103, 125, 136], fun g σ => bif Nat.beq g 1 then .inv (RdO (valD l)) (fun x => stRO x.l) (fun x => (valD x.l).toNat) [0] [0] else
    bif Nat.beq g 2 then .inv (RdA (valD (lOf 0 σ))) (fun x => stRA x.l x.i) (fun x => 39 - x.i) [0] [0] else
    bif Nat.beq g 9 then .inv { k : Nat // k ≤ 24 } (fun k => stRB (lOf 0 σ) k.val) (fun k => 24 - k.val) [0, 1] [0, 1] else
    bif Nat.beq g 19 then .inv { k : Nat // k ≤ 24 } (fun k => stRC (lOf 0 σ) (lOf 1 σ) k.val) (fun k => 24 - k.val) [0, 1] [0, 1] else
    bif Nat.beq g 27 then .inv { k : Nat // k ≤ 15 } (fun k => stRL (lOf 0 σ) k.val) (fun k => 15 - k.val) [0] [0] else
    bif Nat.beq g 1000014 then .alt 60 else bif Nat.beq g 1000023 then .alt 100 else bif Nat.beq g 1000025 then .alt 118 else bif Nat.beq g 1000029 then .alt 129 else .rounds 0⟩
def mSRed : List AV → (Nat → Option MB) → Option (List Nat × (List Int))
  | [.o (.c (.os i 1 40))], lk => match lk i with
    | some (.grow _ 1 (.i .i64 l)) => some ([i], l)
    | _ => none
  | _, _ => none
noncomputable def cSRed : Spec := callG 35 Try.f35.ntmps mSRed kSRed
theorem vcSRed (l : List Int) : (wpE (FSRed l) (Try.f35.body.getD .skip) ⟨Try.f35.ntmps, slotsOf 0 (kSRed l).avs, (kSRed l).mem⟩ (finK Try.prog Try.f35.results.toList (postN (kSRed l)))) = (let x1 := dgl (40 : Nat) (valD l % (1361129467683753853853498429727072845819 : Int)); (∃ (x : RdO (valD l)), true = true ∧ true = true ∧ (148 : Nat) = (148 : Nat) ∧ getL [(0 : Nat)] (0 : Nat) = some (0 : Nat) ∧ (1 : Nat) = (1 : Nat) ∧ (40 : Nat) = (40 : Nat) ∧ (3 : Nat) = (3 : Nat) ∧ (1 : Nat) = (1 : Nat) ∧ l = RdO.l x) ∧ ∀ (x : RdO (valD l)), (∃ (x_1 : RdA (valD (RdO.l x))), true = true ∧ true = true ∧ (148 : Nat) = (148 : Nat) ∧ getL [(0 : Nat)] (0 : Nat) = some (0 : Nat) ∧ (1 : Nat) = (1 : Nat) ∧ (40 : Nat) = (40 : Nat) ∧ Value.int IntKind.i64 (0 : Int) = Value.int IntKind.i64 (↑(RdA.i x_1) : Int) ∧ (3 : Nat) = (3 : Nat) ∧ (1 : Nat) = (1 : Nat) ∧ RdO.l x = RdA.l x_1) ∧ ∀ (x_1 : RdA (valD (RdO.l x))), bif decide (IntKind.wrap IntKind.i64 ((↑(RdA.i x_1) : Int) + (1 : Int)) < (40 : Int)) then (0 : Int) ≤ IntKind.wrap IntKind.i64 ((↑(RdA.i x_1) : Int) + (1 : Int)) ∧ IntKind.wrap IntKind.i64 ((↑(RdA.i x_1) : Int) + (1 : Int)) < (40 : Int) ∧ Int.toNat (IntKind.wrap IntKind.i64 ((↑(RdA.i x_1) : Int) + (1 : Int))) < List.length (RdA.l x_1) ∧ (0 : Int) ≤ (↑(RdA.i x_1) : Int) ∧ (↑(RdA.i x_1) : Int) < (40 : Int) ∧ Int.toNat (↑(RdA.i x_1) : Int) < List.length (RdA.l x_1) ∧ (256 : Int) ≠ (0 : Int) ∧ (0 : Int) ≤ IntKind.wrap IntKind.i64 ((↑(RdA.i x_1) : Int) + (1 : Int)) ∧ IntKind.wrap IntKind.i64 ((↑(RdA.i x_1) : Int) + (1 : Int)) < (40 : Int) ∧ Int.toNat (IntKind.wrap IntKind.i64 ((↑(RdA.i x_1) : Int) + (1 : Int))) < List.length (RdA.l x_1) ∧ (0 : Int) ≤ (↑(RdA.i x_1) : Int) ∧ (↑(RdA.i x_1) : Int) < (40 : Int) ∧ Int.toNat (↑(RdA.i x_1) : Int) < List.length (List.set (RdA.l x_1) (Int.toNat (IntKind.wrap IntKind.i64 ((↑(RdA.i x_1) : Int) + (1 : Int)))) (IntKind.wrap IntKind.i64 (List.getD (RdA.l x_1) (Int.toNat (IntKind.wrap IntKind.i64 ((↑(RdA.i x_1) : Int) + (1 : Int)))) (0 : Int) + IntKind.wrap IntKind.i64 (Int.tdiv (List.getD (RdA.l x_1) (Int.toNat (↑(RdA.i x_1) : Int)) (0 : Int)) (256 : Int))))) ∧ (256 : Int) ≠ (0 : Int) ∧ (0 : Int) ≤ (↑(RdA.i x_1) : Int) ∧ (↑(RdA.i x_1) : Int) < (40 : Int) ∧ Int.toNat (↑(RdA.i x_1) : Int) < List.length (List.set (RdA.l x_1) (Int.toNat (IntKind.wrap IntKind.i64 ((↑(RdA.i x_1) : Int) + (1 : Int)))) (IntKind.wrap IntKind.i64 (List.getD (RdA.l x_1) (Int.toNat (IntKind.wrap IntKind.i64 ((↑(RdA.i x_1) : Int) + (1 : Int)))) (0 : Int) + IntKind.wrap IntKind.i64 (Int.tdiv (List.getD (RdA.l x_1) (Int.toNat (↑(RdA.i x_1) : Int)) (0 : Int)) (256 : Int))))) ∧ ∃ (y : RdA (valD (RdO.l x))), (true = true ∧ true = true ∧ (148 : Nat) = (148 : Nat) ∧ getL [(0 : Nat)] (0 : Nat) = some (0 : Nat) ∧ (1 : Nat) = (1 : Nat) ∧ (40 : Nat) = (40 : Nat) ∧ Value.int IntKind.i64 (IntKind.wrap IntKind.i64 ((↑(RdA.i x_1) : Int) + (1 : Int))) = Value.int IntKind.i64 (↑(RdA.i y) : Int) ∧ (3 : Nat) = (3 : Nat) ∧ (1 : Nat) = (1 : Nat) ∧ List.set (List.set (RdA.l x_1) (Int.toNat (IntKind.wrap IntKind.i64 ((↑(RdA.i x_1) : Int) + (1 : Int)))) (IntKind.wrap IntKind.i64 (List.getD (RdA.l x_1) (Int.toNat (IntKind.wrap IntKind.i64 ((↑(RdA.i x_1) : Int) + (1 : Int)))) (0 : Int) + IntKind.wrap IntKind.i64 (Int.tdiv (List.getD (RdA.l x_1) (Int.toNat (↑(RdA.i x_1) : Int)) (0 : Int)) (256 : Int))))) (Int.toNat (↑(RdA.i x_1) : Int)) (Int.tmod (List.getD (List.set (RdA.l x_1) (Int.toNat (IntKind.wrap IntKind.i64 ((↑(RdA.i x_1) : Int) + (1 : Int)))) (IntKind.wrap IntKind.i64 (List.getD (RdA.l x_1) (Int.toNat (IntKind.wrap IntKind.i64 ((↑(RdA.i x_1) : Int) + (1 : Int)))) (0 : Int) + IntKind.wrap IntKind.i64 (Int.tdiv (List.getD (RdA.l x_1) (Int.toNat (↑(RdA.i x_1) : Int)) (0 : Int)) (256 : Int))))) (Int.toNat (↑(RdA.i x_1) : Int)) (0 : Int)) (256 : Int)) = RdA.l y) ∧ (39 : Nat) - RdA.i y < (39 : Nat) - RdA.i x_1 else (0 : Int) ≤ (40 : Int) ∧ (40 : Int) ≤ (40 : Int) ∧ (320 : Int) ≤ (281474976710656 : Int) ∧ (40 : Int) ≤ (9223372036854775807 : Int) ∧ (∃ (x_2 : { k : Nat // k ≤ (24 : Nat) }), true = true ∧ true = true ∧ (148 : Nat) = (148 : Nat) ∧ getL [(0 : Nat), (1 : Nat)] (0 : Nat) = some (0 : Nat) ∧ (1 : Nat) = (1 : Nat) ∧ (40 : Nat) = (40 : Nat) ∧ getL [(0 : Nat), (1 : Nat)] (1 : Nat) = some (Nat.add (Nat.add (1 : Nat) (0 : Nat)) (0 : Nat)) ∧ (1 : Nat) = (1 : Nat) ∧ (40 : Nat) = (40 : Nat) ∧ Value.bool false = Value.bool (ovB (RdA.l x_1) (Subtype.val x_2)) ∧ Value.int IntKind.i64 (16 : Int) = Value.int IntKind.i64 (↑((16 : Nat) + Subtype.val x_2) : Int) ∧ (3 : Nat) = (3 : Nat) ∧ (1 : Nat) = (1 : Nat) ∧ RdA.l x_1 = lowB (RdA.l x_1) (Subtype.val x_2) ∧ (3 : Nat) = (3 : Nat) ∧ (1 : Nat) = (1 : Nat) ∧ List.replicate (40 : Nat) (0 : Int) = hiB (RdA.l x_1) (Subtype.val x_2)) ∧ ∀ (x_2 : { k : Nat // k ≤ (24 : Nat) }), bif decide ((↑((16 : Nat) + Subtype.val x_2) : Int) < (40 : Int)) then (0 : Int) ≤ (↑((16 : Nat) + Subtype.val x_2) : Int) ∧ (↑((16 : Nat) + Subtype.val x_2) : Int) < (40 : Int) ∧ Int.toNat (↑((16 : Nat) + Subtype.val x_2) : Int) < List.length (lowB (RdA.l x_1) (Subtype.val x_2)) ∧ bif decide ((↑((16 : Nat) + Subtype.val x_2) : Int) = (16 : Int)) then (0 : Int) ≤ (16 : Int) ∧ (16 : Int) < (40 : Int) ∧ (16 : Nat) < List.length (lowB (RdA.l x_1) (Subtype.val x_2)) ∧ (4 : Int) ≠ (0 : Int) ∧ Alt2 (ovB (RdA.l x_1) (Subtype.val x_2) = true ∧ (0 : Int) ≤ (↑((16 : Nat) + Subtype.val x_2) : Int) ∧ (↑((16 : Nat) + Subtype.val x_2) : Int) < (40 : Int) ∧ Int.toNat (↑((16 : Nat) + Subtype.val x_2) : Int) < List.length (hiB (RdA.l x_1) (Subtype.val x_2)) ∧ (0 : Int) ≤ (↑((16 : Nat) + Subtype.val x_2) : Int) ∧ (↑((16 : Nat) + Subtype.val x_2) : Int) < (40 : Int) ∧ Int.toNat (↑((16 : Nat) + Subtype.val x_2) : Int) < List.length (lowB (RdA.l x_1) (Subtype.val x_2)) ∧ (0 : Int) ≤ (↑((16 : Nat) + Subtype.val x_2) : Int) ∧ (↑((16 : Nat) + Subtype.val x_2) : Int) < (40 : Int) ∧ Int.toNat (↑((16 : Nat) + Subtype.val x_2) : Int) < List.length (lowB (RdA.l x_1) (Subtype.val x_2)) ∧ ∃ (y : { k : Nat // k ≤ (24 : Nat) }), (true = true ∧ true = true ∧ (148 : Nat) = (148 : Nat) ∧ getL [(0 : Nat), (1 : Nat)] (0 : Nat) = some (0 : Nat) ∧ (1 : Nat) = (1 : Nat) ∧ (40 : Nat) = (40 : Nat) ∧ getL [(0 : Nat), (1 : Nat)] (1 : Nat) = some (1 : Nat) ∧ (1 : Nat) = (1 : Nat) ∧ (40 : Nat) = (40 : Nat) ∧ (bif true then Value.bool true else undef) = Value.bool (ovB (RdA.l x_1) (Subtype.val y)) ∧ Value.int IntKind.i64 (IntKind.wrap IntKind.i64 ((↑((16 : Nat) + Subtype.val x_2) : Int) + (1 : Int))) = Value.int IntKind.i64 (↑((16 : Nat) + Subtype.val y) : Int) ∧ (3 : Nat) = (3 : Nat) ∧ (1 : Nat) = (1 : Nat) ∧ List.set (lowB (RdA.l x_1) (Subtype.val x_2)) (Int.toNat (↑((16 : Nat) + Subtype.val x_2) : Int)) (IntKind.wrap IntKind.i64 (List.getD (lowB (RdA.l x_1) (Subtype.val x_2)) (Int.toNat (↑((16 : Nat) + Subtype.val x_2) : Int)) (0 : Int) - IntKind.wrap IntKind.i64 (List.getD (lowB (RdA.l x_1) (Subtype.val x_2)) (Int.toNat (↑((16 : Nat) + Subtype.val x_2) : Int)) (0 : Int) - Int.tmod (List.getD (lowB (RdA.l x_1) (Subtype.val x_2)) (16 : Nat) (0 : Int)) (4 : Int)))) = lowB (RdA.l x_1) (Subtype.val y) ∧ (3 : Nat) = (3 : Nat) ∧ (1 : Nat) = (1 : Nat) ∧ List.set (hiB (RdA.l x_1) (Subtype.val x_2)) (Int.toNat (↑((16 : Nat) + Subtype.val x_2) : Int)) (IntKind.wrap IntKind.i64 (List.getD (lowB (RdA.l x_1) (Subtype.val x_2)) (Int.toNat (↑((16 : Nat) + Subtype.val x_2) : Int)) (0 : Int) - Int.tmod (List.getD (lowB (RdA.l x_1) (Subtype.val x_2)) (16 : Nat) (0 : Int)) (4 : Int))) = hiB (RdA.l x_1) (Subtype.val y)) ∧ (24 : Nat) - Subtype.val y < (24 : Nat) - Subtype.val x_2) (ovB (RdA.l x_1) (Subtype.val x_2) = false ∧ (0 : Int) ≤ (↑((16 : Nat) + Subtype.val x_2) : Int) ∧ (↑((16 : Nat) + Subtype.val x_2) : Int) < (40 : Int) ∧ Int.toNat (↑((16 : Nat) + Subtype.val x_2) : Int) < List.length (hiB (RdA.l x_1) (Subtype.val x_2)) ∧ (0 : Int) ≤ (↑((16 : Nat) + Subtype.val x_2) : Int) ∧ (↑((16 : Nat) + Subtype.val x_2) : Int) < (40 : Int) ∧ Int.toNat (↑((16 : Nat) + Subtype.val x_2) : Int) < List.length (lowB (RdA.l x_1) (Subtype.val x_2)) ∧ (0 : Int) ≤ (↑((16 : Nat) + Subtype.val x_2) : Int) ∧ (↑((16 : Nat) + Subtype.val x_2) : Int) < (40 : Int) ∧ Int.toNat (↑((16 : Nat) + Subtype.val x_2) : Int) < List.length (lowB (RdA.l x_1) (Subtype.val x_2)) ∧ ∃ (y : { k : Nat // k ≤ (24 : Nat) }), (true = true ∧ true = true ∧ (148 : Nat) = (148 : Nat) ∧ getL [(0 : Nat), (1 : Nat)] (0 : Nat) = some (0 : Nat) ∧ (1 : Nat) = (1 : Nat) ∧ (40 : Nat) = (40 : Nat) ∧ getL [(0 : Nat), (1 : Nat)] (1 : Nat) = some (1 : Nat) ∧ (1 : Nat) = (1 : Nat) ∧ (40 : Nat) = (40 : Nat) ∧ (bif false then Value.bool true else Value.bool !decide (IntKind.wrap IntKind.i64 (List.getD (lowB (RdA.l x_1) (Subtype.val x_2)) (Int.toNat (↑((16 : Nat) + Subtype.val x_2) : Int)) (0 : Int) - Int.tmod (List.getD (lowB (RdA.l x_1) (Subtype.val x_2)) (16 : Nat) (0 : Int)) (4 : Int)) = (0 : Int))) = Value.bool (ovB (RdA.l x_1) (Subtype.val y)) ∧ Value.int IntKind.i64 (IntKind.wrap IntKind.i64 ((↑((16 : Nat) + Subtype.val x_2) : Int) + (1 : Int))) = Value.int IntKind.i64 (↑((16 : Nat) + Subtype.val y) : Int) ∧ (3 : Nat) = (3 : Nat) ∧ (1 : Nat) = (1 : Nat) ∧ List.set (lowB (RdA.l x_1) (Subtype.val x_2)) (Int.toNat (↑((16 : Nat) + Subtype.val x_2) : Int)) (IntKind.wrap IntKind.i64 (List.getD (lowB (RdA.l x_1) (Subtype.val x_2)) (Int.toNat (↑((16 : Nat) + Subtype.val x_2) : Int)) (0 : Int) - IntKind.wrap IntKind.i64 (List.getD (lowB (RdA.l x_1) (Subtype.val x_2)) (Int.toNat (↑((16 : Nat) + Subtype.val x_2) : Int)) (0 : Int) - Int.tmod (List.getD (lowB (RdA.l x_1) (Subtype.val x_2)) (16 : Nat) (0 : Int)) (4 : Int)))) = lowB (RdA.l x_1) (Subtype.val y) ∧ (3 : Nat) = (3 : Nat) ∧ (1 : Nat) = (1 : Nat) ∧ List.set (hiB (RdA.l x_1) (Subtype.val x_2)) (Int.toNat (↑((16 : Nat) + Subtype.val x_2) : Int)) (IntKind.wrap IntKind.i64 (List.getD (lowB (RdA.l x_1) (Subtype.val x_2)) (Int.toNat (↑((16 : Nat) + Subtype.val x_2) : Int)) (0 : Int) - Int.tmod (List.getD (lowB (RdA.l x_1) (Subtype.val x_2)) (16 : Nat) (0 : Int)) (4 : Int))) = hiB (RdA.l x_1) (Subtype.val y)) ∧ (24 : Nat) - Subtype.val y < (24 : Nat) - Subtype.val x_2) else Alt2 (ovB (RdA.l x_1) (Subtype.val x_2) = true ∧ (0 : Int) ≤ (↑((16 : Nat) + Subtype.val x_2) : Int) ∧ (↑((16 : Nat) + Subtype.val x_2) : Int) < (40 : Int) ∧ Int.toNat (↑((16 : Nat) + Subtype.val x_2) : Int) < List.length (hiB (RdA.l x_1) (Subtype.val x_2)) ∧ (0 : Int) ≤ (↑((16 : Nat) + Subtype.val x_2) : Int) ∧ (↑((16 : Nat) + Subtype.val x_2) : Int) < (40 : Int) ∧ Int.toNat (↑((16 : Nat) + Subtype.val x_2) : Int) < List.length (lowB (RdA.l x_1) (Subtype.val x_2)) ∧ (0 : Int) ≤ (↑((16 : Nat) + Subtype.val x_2) : Int) ∧ (↑((16 : Nat) + Subtype.val x_2) : Int) < (40 : Int) ∧ Int.toNat (↑((16 : Nat) + Subtype.val x_2) : Int) < List.length (lowB (RdA.l x_1) (Subtype.val x_2)) ∧ ∃ (y : { k : Nat // k ≤ (24 : Nat) }), (true = true ∧ true = true ∧ (148 : Nat) = (148 : Nat) ∧ getL [(0 : Nat), (1 : Nat)] (0 : Nat) = some (0 : Nat) ∧ (1 : Nat) = (1 : Nat) ∧ (40 : Nat) = (40 : Nat) ∧ getL [(0 : Nat), (1 : Nat)] (1 : Nat) = some (1 : Nat) ∧ (1 : Nat) = (1 : Nat) ∧ (40 : Nat) = (40 : Nat) ∧ (bif true then Value.bool true else undef) = Value.bool (ovB (RdA.l x_1) (Subtype.val y)) ∧ Value.int IntKind.i64 (IntKind.wrap IntKind.i64 ((↑((16 : Nat) + Subtype.val x_2) : Int) + (1 : Int))) = Value.int IntKind.i64 (↑((16 : Nat) + Subtype.val y) : Int) ∧ (3 : Nat) = (3 : Nat) ∧ (1 : Nat) = (1 : Nat) ∧ List.set (lowB (RdA.l x_1) (Subtype.val x_2)) (Int.toNat (↑((16 : Nat) + Subtype.val x_2) : Int)) (IntKind.wrap IntKind.i64 (List.getD (lowB (RdA.l x_1) (Subtype.val x_2)) (Int.toNat (↑((16 : Nat) + Subtype.val x_2) : Int)) (0 : Int) - List.getD (lowB (RdA.l x_1) (Subtype.val x_2)) (Int.toNat (↑((16 : Nat) + Subtype.val x_2) : Int)) (0 : Int))) = lowB (RdA.l x_1) (Subtype.val y) ∧ (3 : Nat) = (3 : Nat) ∧ (1 : Nat) = (1 : Nat) ∧ List.set (hiB (RdA.l x_1) (Subtype.val x_2)) (Int.toNat (↑((16 : Nat) + Subtype.val x_2) : Int)) (List.getD (lowB (RdA.l x_1) (Subtype.val x_2)) (Int.toNat (↑((16 : Nat) + Subtype.val x_2) : Int)) (0 : Int)) = hiB (RdA.l x_1) (Subtype.val y)) ∧ (24 : Nat) - Subtype.val y < (24 : Nat) - Subtype.val x_2) (ovB (RdA.l x_1) (Subtype.val x_2) = false ∧ (0 : Int) ≤ (↑((16 : Nat) + Subtype.val x_2) : Int) ∧ (↑((16 : Nat) + Subtype.val x_2) : Int) < (40 : Int) ∧ Int.toNat (↑((16 : Nat) + Subtype.val x_2) : Int) < List.length (hiB (RdA.l x_1) (Subtype.val x_2)) ∧ (0 : Int) ≤ (↑((16 : Nat) + Subtype.val x_2) : Int) ∧ (↑((16 : Nat) + Subtype.val x_2) : Int) < (40 : Int) ∧ Int.toNat (↑((16 : Nat) + Subtype.val x_2) : Int) < List.length (lowB (RdA.l x_1) (Subtype.val x_2)) ∧ (0 : Int) ≤ (↑((16 : Nat) + Subtype.val x_2) : Int) ∧ (↑((16 : Nat) + Subtype.val x_2) : Int) < (40 : Int) ∧ Int.toNat (↑((16 : Nat) + Subtype.val x_2) : Int) < List.length (lowB (RdA.l x_1) (Subtype.val x_2)) ∧ ∃ (y : { k : Nat // k ≤ (24 : Nat) }), (true = true ∧ true = true ∧ (148 : Nat) = (148 : Nat) ∧ getL [(0 : Nat), (1 : Nat)] (0 : Nat) = some (0 : Nat) ∧ (1 : Nat) = (1 : Nat) ∧ (40 : Nat) = (40 : Nat) ∧ getL [(0 : Nat), (1 : Nat)] (1 : Nat) = some (1 : Nat) ∧ (1 : Nat) = (1 : Nat) ∧ (40 : Nat) = (40 : Nat) ∧ (bif false then Value.bool true else Value.bool !decide (List.getD (lowB (RdA.l x_1) (Subtype.val x_2)) (Int.toNat (↑((16 : Nat) + Subtype.val x_2) : Int)) (0 : Int) = (0 : Int))) = Value.bool (ovB (RdA.l x_1) (Subtype.val y)) ∧ Value.int IntKind.i64 (IntKind.wrap IntKind.i64 ((↑((16 : Nat) + Subtype.val x_2) : Int) + (1 : Int))) = Value.int IntKind.i64 (↑((16 : Nat) + Subtype.val y) : Int) ∧ (3 : Nat) = (3 : Nat) ∧ (1 : Nat) = (1 : Nat) ∧ List.set (lowB (RdA.l x_1) (Subtype.val x_2)) (Int.toNat (↑((16 : Nat) + Subtype.val x_2) : Int)) (IntKind.wrap IntKind.i64 (List.getD (lowB (RdA.l x_1) (Subtype.val x_2)) (Int.toNat (↑((16 : Nat) + Subtype.val x_2) : Int)) (0 : Int) - List.getD (lowB (RdA.l x_1) (Subtype.val x_2)) (Int.toNat (↑((16 : Nat) + Subtype.val x_2) : Int)) (0 : Int))) = lowB (RdA.l x_1) (Subtype.val y) ∧ (3 : Nat) = (3 : Nat) ∧ (1 : Nat) = (1 : Nat) ∧ List.set (hiB (RdA.l x_1) (Subtype.val x_2)) (Int.toNat (↑((16 : Nat) + Subtype.val x_2) : Int)) (List.getD (lowB (RdA.l x_1) (Subtype.val x_2)) (Int.toNat (↑((16 : Nat) + Subtype.val x_2) : Int)) (0 : Int)) = hiB (RdA.l x_1) (Subtype.val y)) ∧ (24 : Nat) - Subtype.val y < (24 : Nat) - Subtype.val x_2) else bif !ovB (RdA.l x_1) (Subtype.val x_2) then Alt2 ((0 : Int) ≤ (16 : Int) ∧ (16 : Int) < (40 : Int) ∧ (16 : Nat) < List.length (lowB (RdA.l x_1) (Subtype.val x_2)) ∧ decide (List.getD (lowB (RdA.l x_1) (Subtype.val x_2)) (16 : Nat) (0 : Int) = (3 : Int)) = true ∧ (0 : Int) ≤ (0 : Int) ∧ (0 : Int) < (40 : Int) ∧ (0 : Nat) < List.length (lowB (RdA.l x_1) (Subtype.val x_2)) ∧ (∃ (x_3 : { k : Nat // k ≤ (15 : Nat) }), true = true ∧ true = true ∧ (148 : Nat) = (148 : Nat) ∧ getL [(0 : Nat)] (0 : Nat) = some (0 : Nat) ∧ (1 : Nat) = (1 : Nat) ∧ (40 : Nat) = (40 : Nat) ∧ (bif true then Value.bool (decide ((251 : Int) ≤ List.getD (lowB (RdA.l x_1) (Subtype.val x_2)) (0 : Nat) (0 : Int))) else Value.bool false) = Value.bool (leB (lowB (RdA.l x_1) (Subtype.val x_2)) (Subtype.val x_3)) ∧ Value.int IntKind.i64 (1 : Int) = Value.int IntKind.i64 (↑((1 : Nat) + Subtype.val x_3) : Int) ∧ (3 : Nat) = (3 : Nat) ∧ (1 : Nat) = (1 : Nat) ∧ lowB (RdA.l x_1) (Subtype.val x_2) = lowB (RdA.l x_1) (Subtype.val x_2)) ∧ ∀ (x_3 : { k : Nat // k ≤ (15 : Nat) }), bif decide ((↑((1 : Nat) + Subtype.val x_3) : Int) < (16 : Int)) then Alt2 (leB (lowB (RdA.l x_1) (Subtype.val x_2)) (Subtype.val x_3) = true ∧ (0 : Int) ≤ (↑((1 : Nat) + Subtype.val x_3) : Int) ∧ (↑((1 : Nat) + Subtype.val x_3) : Int) < (40 : Int) ∧ Int.toNat (↑((1 : Nat) + Subtype.val x_3) : Int) < List.length (lowB (RdA.l x_1) (Subtype.val x_2)) ∧ ∃ (y : { k : Nat // k ≤ (15 : Nat) }), (true = true ∧ true = true ∧ (148 : Nat) = (148 : Nat) ∧ getL [(0 : Nat)] (0 : Nat) = some (0 : Nat) ∧ (1 : Nat) = (1 : Nat) ∧ (40 : Nat) = (40 : Nat) ∧ (bif true then Value.bool (decide (List.getD (lowB (RdA.l x_1) (Subtype.val x_2)) (Int.toNat (↑((1 : Nat) + Subtype.val x_3) : Int)) (0 : Int) = (255 : Int))) else Value.bool false) = Value.bool (leB (lowB (RdA.l x_1) (Subtype.val x_2)) (Subtype.val y)) ∧ Value.int IntKind.i64 (IntKind.wrap IntKind.i64 ((↑((1 : Nat) + Subtype.val x_3) : Int) + (1 : Int))) = Value.int IntKind.i64 (↑((1 : Nat) + Subtype.val y) : Int) ∧ (3 : Nat) = (3 : Nat) ∧ (1 : Nat) = (1 : Nat) ∧ lowB (RdA.l x_1) (Subtype.val x_2) = lowB (RdA.l x_1) (Subtype.val x_2)) ∧ (15 : Nat) - Subtype.val y < (15 : Nat) - Subtype.val x_3) (leB (lowB (RdA.l x_1) (Subtype.val x_2)) (Subtype.val x_3) = false ∧ ∃ (y : { k : Nat // k ≤ (15 : Nat) }), (true = true ∧ true = true ∧ (148 : Nat) = (148 : Nat) ∧ getL [(0 : Nat)] (0 : Nat) = some (0 : Nat) ∧ (1 : Nat) = (1 : Nat) ∧ (40 : Nat) = (40 : Nat) ∧ (bif false then undef else Value.bool false) = Value.bool (leB (lowB (RdA.l x_1) (Subtype.val x_2)) (Subtype.val y)) ∧ Value.int IntKind.i64 (IntKind.wrap IntKind.i64 ((↑((1 : Nat) + Subtype.val x_3) : Int) + (1 : Int))) = Value.int IntKind.i64 (↑((1 : Nat) + Subtype.val y) : Int) ∧ (3 : Nat) = (3 : Nat) ∧ (1 : Nat) = (1 : Nat) ∧ lowB (RdA.l x_1) (Subtype.val x_2) = lowB (RdA.l x_1) (Subtype.val x_2)) ∧ (15 : Nat) - Subtype.val y < (15 : Nat) - Subtype.val x_3) else bif leB (lowB (RdA.l x_1) (Subtype.val x_2)) (Subtype.val x_3) then (0 : Int) ≤ (40 : Int) ∧ (40 : Int) ≤ (40 : Int) ∧ (320 : Int) ≤ (281474976710656 : Int) ∧ (40 : Int) ≤ (9223372036854775807 : Int) ∧ (0 : Int) ≤ (0 : Int) ∧ (0 : Int) < (40 : Int) ∧ (0 : Nat) < List.length (lowB (RdA.l x_1) (Subtype.val x_2)) ∧ (0 : Int) ≤ (0 : Int) ∧ (0 : Int) < (40 : Int) ∧ (0 : Nat) < (40 : Nat) ∧ true = true ∧ true = true ∧ (148 : Nat) = (148 : Nat) ∧ (3 : Nat) = (3 : Nat) ∧ (1 : Nat) = (1 : Nat) ∧ [IntKind.wrap IntKind.i64 (List.getD (lowB (RdA.l x_1) (Subtype.val x_2)) (0 : Nat) (0 : Int) - (251 : Int)), (0 : Int), (0 : Int), (0 : Int), (0 : Int), (0 : Int), (0 : Int), (0 : Int), (0 : Int), (0 : Int), (0 : Int), (0 : Int), (0 : Int), (0 : Int), (0 : Int), (0 : Int), (0 : Int), (0 : Int), (0 : Int), (0 : Int), (0 : Int), (0 : Int), (0 : Int), (0 : Int), (0 : Int), (0 : Int), (0 : Int), (0 : Int), (0 : Int), (0 : Int), (0 : Int), (0 : Int), (0 : Int), (0 : Int), (0 : Int), (0 : Int), (0 : Int), (0 : Int), (0 : Int), (0 : Int)] = x1 ∧ getL [(0 : Nat), (1 : Nat)] (1 : Nat) = some (Nat.add (Nat.add (1 : Nat) (0 : Nat)) (0 : Nat)) ∧ (1 : Nat) = (1 : Nat) ∧ (40 : Nat) = (40 : Nat) else true = true ∧ true = true ∧ (148 : Nat) = (148 : Nat) ∧ (3 : Nat) = (3 : Nat) ∧ (1 : Nat) = (1 : Nat) ∧ lowB (RdA.l x_1) (Subtype.val x_2) = x1 ∧ getL [(0 : Nat), (0 : Nat)] (1 : Nat) = some (0 : Nat) ∧ (1 : Nat) = (1 : Nat) ∧ (40 : Nat) = (40 : Nat)) ((0 : Int) ≤ (16 : Int) ∧ (16 : Int) < (40 : Int) ∧ (16 : Nat) < List.length (lowB (RdA.l x_1) (Subtype.val x_2)) ∧ decide (List.getD (lowB (RdA.l x_1) (Subtype.val x_2)) (16 : Nat) (0 : Int) = (3 : Int)) = false ∧ (∃ (x_3 : { k : Nat // k ≤ (15 : Nat) }), true = true ∧ true = true ∧ (148 : Nat) = (148 : Nat) ∧ getL [(0 : Nat)] (0 : Nat) = some (0 : Nat) ∧ (1 : Nat) = (1 : Nat) ∧ (40 : Nat) = (40 : Nat) ∧ (bif false then undef else Value.bool false) = Value.bool (leB (lowB (RdA.l x_1) (Subtype.val x_2)) (Subtype.val x_3)) ∧ Value.int IntKind.i64 (1 : Int) = Value.int IntKind.i64 (↑((1 : Nat) + Subtype.val x_3) : Int) ∧ (3 : Nat) = (3 : Nat) ∧ (1 : Nat) = (1 : Nat) ∧ lowB (RdA.l x_1) (Subtype.val x_2) = lowB (RdA.l x_1) (Subtype.val x_2)) ∧ ∀ (x_3 : { k : Nat // k ≤ (15 : Nat) }), bif decide ((↑((1 : Nat) + Subtype.val x_3) : Int) < (16 : Int)) then Alt2 (leB (lowB (RdA.l x_1) (Subtype.val x_2)) (Subtype.val x_3) = true ∧ (0 : Int) ≤ (↑((1 : Nat) + Subtype.val x_3) : Int) ∧ (↑((1 : Nat) + Subtype.val x_3) : Int) < (40 : Int) ∧ Int.toNat (↑((1 : Nat) + Subtype.val x_3) : Int) < List.length (lowB (RdA.l x_1) (Subtype.val x_2)) ∧ ∃ (y : { k : Nat // k ≤ (15 : Nat) }), (true = true ∧ true = true ∧ (148 : Nat) = (148 : Nat) ∧ getL [(0 : Nat)] (0 : Nat) = some (0 : Nat) ∧ (1 : Nat) = (1 : Nat) ∧ (40 : Nat) = (40 : Nat) ∧ (bif true then Value.bool (decide (List.getD (lowB (RdA.l x_1) (Subtype.val x_2)) (Int.toNat (↑((1 : Nat) + Subtype.val x_3) : Int)) (0 : Int) = (255 : Int))) else Value.bool false) = Value.bool (leB (lowB (RdA.l x_1) (Subtype.val x_2)) (Subtype.val y)) ∧ Value.int IntKind.i64 (IntKind.wrap IntKind.i64 ((↑((1 : Nat) + Subtype.val x_3) : Int) + (1 : Int))) = Value.int IntKind.i64 (↑((1 : Nat) + Subtype.val y) : Int) ∧ (3 : Nat) = (3 : Nat) ∧ (1 : Nat) = (1 : Nat) ∧ lowB (RdA.l x_1) (Subtype.val x_2) = lowB (RdA.l x_1) (Subtype.val x_2)) ∧ (15 : Nat) - Subtype.val y < (15 : Nat) - Subtype.val x_3) (leB (lowB (RdA.l x_1) (Subtype.val x_2)) (Subtype.val x_3) = false ∧ ∃ (y : { k : Nat // k ≤ (15 : Nat) }), (true = true ∧ true = true ∧ (148 : Nat) = (148 : Nat) ∧ getL [(0 : Nat)] (0 : Nat) = some (0 : Nat) ∧ (1 : Nat) = (1 : Nat) ∧ (40 : Nat) = (40 : Nat) ∧ (bif false then undef else Value.bool false) = Value.bool (leB (lowB (RdA.l x_1) (Subtype.val x_2)) (Subtype.val y)) ∧ Value.int IntKind.i64 (IntKind.wrap IntKind.i64 ((↑((1 : Nat) + Subtype.val x_3) : Int) + (1 : Int))) = Value.int IntKind.i64 (↑((1 : Nat) + Subtype.val y) : Int) ∧ (3 : Nat) = (3 : Nat) ∧ (1 : Nat) = (1 : Nat) ∧ lowB (RdA.l x_1) (Subtype.val x_2) = lowB (RdA.l x_1) (Subtype.val x_2)) ∧ (15 : Nat) - Subtype.val y < (15 : Nat) - Subtype.val x_3) else bif leB (lowB (RdA.l x_1) (Subtype.val x_2)) (Subtype.val x_3) then (0 : Int) ≤ (40 : Int) ∧ (40 : Int) ≤ (40 : Int) ∧ (320 : Int) ≤ (281474976710656 : Int) ∧ (40 : Int) ≤ (9223372036854775807 : Int) ∧ (0 : Int) ≤ (0 : Int) ∧ (0 : Int) < (40 : Int) ∧ (0 : Nat) < List.length (lowB (RdA.l x_1) (Subtype.val x_2)) ∧ (0 : Int) ≤ (0 : Int) ∧ (0 : Int) < (40 : Int) ∧ (0 : Nat) < (40 : Nat) ∧ true = true ∧ true = true ∧ (148 : Nat) = (148 : Nat) ∧ (3 : Nat) = (3 : Nat) ∧ (1 : Nat) = (1 : Nat) ∧ [IntKind.wrap IntKind.i64 (List.getD (lowB (RdA.l x_1) (Subtype.val x_2)) (0 : Nat) (0 : Int) - (251 : Int)), (0 : Int), (0 : Int), (0 : Int), (0 : Int), (0 : Int), (0 : Int), (0 : Int), (0 : Int), (0 : Int), (0 : Int), (0 : Int), (0 : Int), (0 : Int), (0 : Int), (0 : Int), (0 : Int), (0 : Int), (0 : Int), (0 : Int), (0 : Int), (0 : Int), (0 : Int), (0 : Int), (0 : Int), (0 : Int), (0 : Int), (0 : Int), (0 : Int), (0 : Int), (0 : Int), (0 : Int), (0 : Int), (0 : Int), (0 : Int), (0 : Int), (0 : Int), (0 : Int), (0 : Int), (0 : Int)] = x1 ∧ getL [(0 : Nat), (1 : Nat)] (1 : Nat) = some (Nat.add (Nat.add (1 : Nat) (0 : Nat)) (0 : Nat)) ∧ (1 : Nat) = (1 : Nat) ∧ (40 : Nat) = (40 : Nat) else true = true ∧ true = true ∧ (148 : Nat) = (148 : Nat) ∧ (3 : Nat) = (3 : Nat) ∧ (1 : Nat) = (1 : Nat) ∧ lowB (RdA.l x_1) (Subtype.val x_2) = x1 ∧ getL [(0 : Nat), (0 : Nat)] (1 : Nat) = some (0 : Nat) ∧ (1 : Nat) = (1 : Nat) ∧ (40 : Nat) = (40 : Nat)) else (∃ (x_3 : { k : Nat // k ≤ (24 : Nat) }), true = true ∧ true = true ∧ (148 : Nat) = (148 : Nat) ∧ getL [(0 : Nat), (1 : Nat)] (0 : Nat) = some (0 : Nat) ∧ (1 : Nat) = (1 : Nat) ∧ (40 : Nat) = (40 : Nat) ∧ getL [(0 : Nat), (1 : Nat)] (1 : Nat) = some (1 : Nat) ∧ (1 : Nat) = (1 : Nat) ∧ (40 : Nat) = (40 : Nat) ∧ Value.int IntKind.i64 (16 : Int) = Value.int IntKind.i64 (↑((16 : Nat) + Subtype.val x_3) : Int) ∧ (3 : Nat) = (3 : Nat) ∧ (1 : Nat) = (1 : Nat) ∧ lowB (RdA.l x_1) (Subtype.val x_2) = cH (lowB (RdA.l x_1) (Subtype.val x_2)) (hiB (RdA.l x_1) (Subtype.val x_2)) (Subtype.val x_3) ∧ (3 : Nat) = (3 : Nat) ∧ (1 : Nat) = (1 : Nat) ∧ hiB (RdA.l x_1) (Subtype.val x_2) = hiB (RdA.l x_1) (Subtype.val x_2)) ∧ ∀ (x_3 : { k : Nat // k ≤ (24 : Nat) }), bif decide ((↑((16 : Nat) + Subtype.val x_3) : Int) < (40 : Int)) then (0 : Int) ≤ (↑((16 : Nat) + Subtype.val x_3) : Int) ∧ (↑((16 : Nat) + Subtype.val x_3) : Int) < (40 : Int) ∧ Int.toNat (↑((16 : Nat) + Subtype.val x_3) : Int) < List.length (hiB (RdA.l x_1) (Subtype.val x_2)) ∧ (0 : Int) ≤ IntKind.wrap IntKind.i64 ((↑((16 : Nat) + Subtype.val x_3) : Int) - (16 : Int)) ∧ IntKind.wrap IntKind.i64 ((↑((16 : Nat) + Subtype.val x_3) : Int) - (16 : Int)) < (40 : Int) ∧ Int.toNat (IntKind.wrap IntKind.i64 ((↑((16 : Nat) + Subtype.val x_3) : Int) - (16 : Int))) < List.length (cH (lowB (RdA.l x_1) (Subtype.val x_2)) (hiB (RdA.l x_1) (Subtype.val x_2)) (Subtype.val x_3)) ∧ (4 : Int) ≠ (0 : Int) ∧ (0 : Int) ≤ IntKind.wrap IntKind.i64 ((↑((16 : Nat) + Subtype.val x_3) : Int) - (16 : Int)) ∧ IntKind.wrap IntKind.i64 ((↑((16 : Nat) + Subtype.val x_3) : Int) - (16 : Int)) < (40 : Int) ∧ Int.toNat (IntKind.wrap IntKind.i64 ((↑((16 : Nat) + Subtype.val x_3) : Int) - (16 : Int))) < List.length (cH (lowB (RdA.l x_1) (Subtype.val x_2)) (hiB (RdA.l x_1) (Subtype.val x_2)) (Subtype.val x_3)) ∧ Alt2 ((4 : Int) ≠ (0 : Int) ∧ (!decide (Int.tmod (IntKind.wrap IntKind.i64 (List.getD (hiB (RdA.l x_1) (Subtype.val x_2)) (Int.toNat (↑((16 : Nat) + Subtype.val x_3) : Int)) (0 : Int) * (5 : Int))) (4 : Int) = (0 : Int))) = true ∧ bif decide ((16 : Int) < (↑((16 : Nat) + Subtype.val x_3) : Int)) then (0 : Int) ≤ IntKind.wrap IntKind.i64 ((↑((16 : Nat) + Subtype.val x_3) : Int) - (17 : Int)) ∧ IntKind.wrap IntKind.i64 ((↑((16 : Nat) + Subtype.val x_3) : Int) - (17 : Int)) < (40 : Int) ∧ Int.toNat (IntKind.wrap IntKind.i64 ((↑((16 : Nat) + Subtype.val x_3) : Int) - (17 : Int))) < List.length (List.set (cH (lowB (RdA.l x_1) (Subtype.val x_2)) (hiB (RdA.l x_1) (Subtype.val x_2)) (Subtype.val x_3)) (Int.toNat (IntKind.wrap IntKind.i64 ((↑((16 : Nat) + Subtype.val x_3) : Int) - (16 : Int)))) (IntKind.wrap IntKind.i64 (List.getD (cH (lowB (RdA.l x_1) (Subtype.val x_2)) (hiB (RdA.l x_1) (Subtype.val x_2)) (Subtype.val x_3)) (Int.toNat (IntKind.wrap IntKind.i64 ((↑((16 : Nat) + Subtype.val x_3) : Int) - (16 : Int)))) (0 : Int) + IntKind.wrap IntKind.i64 (Int.tdiv (IntKind.wrap IntKind.i64 (List.getD (hiB (RdA.l x_1) (Subtype.val x_2)) (Int.toNat (↑((16 : Nat) + Subtype.val x_3) : Int)) (0 : Int) * (5 : Int))) (4 : Int))))) ∧ (4 : Int) ≠ (0 : Int) ∧ (0 : Int) ≤ IntKind.wrap IntKind.i64 ((↑((16 : Nat) + Subtype.val x_3) : Int) - (17 : Int)) ∧ IntKind.wrap IntKind.i64 ((↑((16 : Nat) + Subtype.val x_3) : Int) - (17 : Int)) < (40 : Int) ∧ Int.toNat (IntKind.wrap IntKind.i64 ((↑((16 : Nat) + Subtype.val x_3) : Int) - (17 : Int))) < List.length (List.set (cH (lowB (RdA.l x_1) (Subtype.val x_2)) (hiB (RdA.l x_1) (Subtype.val x_2)) (Subtype.val x_3)) (Int.toNat (IntKind.wrap IntKind.i64 ((↑((16 : Nat) + Subtype.val x_3) : Int) - (16 : Int)))) (IntKind.wrap IntKind.i64 (List.getD (cH (lowB (RdA.l x_1) (Subtype.val x_2)) (hiB (RdA.l x_1) (Subtype.val x_2)) (Subtype.val x_3)) (Int.toNat (IntKind.wrap IntKind.i64 ((↑((16 : Nat) + Subtype.val x_3) : Int) - (16 : Int)))) (0 : Int) + IntKind.wrap IntKind.i64 (Int.tdiv (IntKind.wrap IntKind.i64 (List.getD (hiB (RdA.l x_1) (Subtype.val x_2)) (Int.toNat (↑((16 : Nat) + Subtype.val x_3) : Int)) (0 : Int) * (5 : Int))) (4 : Int))))) ∧ ∃ (y : { k : Nat // k ≤ (24 : Nat) }), (true = true ∧ true = true ∧ (148 : Nat) = (148 : Nat) ∧ getL [(0 : Nat), (1 : Nat)] (0 : Nat) = some (0 : Nat) ∧ (1 : Nat) = (1 : Nat) ∧ (40 : Nat) = (40 : Nat) ∧ getL [(0 : Nat), (1 : Nat)] (1 : Nat) = some (1 : Nat) ∧ (1 : Nat) = (1 : Nat) ∧ (40 : Nat) = (40 : Nat) ∧ Value.int IntKind.i64 (IntKind.wrap IntKind.i64 ((↑((16 : Nat) + Subtype.val x_3) : Int) + (1 : Int))) = Value.int IntKind.i64 (↑((16 : Nat) + Subtype.val y) : Int) ∧ (3 : Nat) = (3 : Nat) ∧ (1 : Nat) = (1 : Nat) ∧ List.set (List.set (cH (lowB (RdA.l x_1) (Subtype.val x_2)) (hiB (RdA.l x_1) (Subtype.val x_2)) (Subtype.val x_3)) (Int.toNat (IntKind.wrap IntKind.i64 ((↑((16 : Nat) + Subtype.val x_3) : Int) - (16 : Int)))) (IntKind.wrap IntKind.i64 (List.getD (cH (lowB (RdA.l x_1) (Subtype.val x_2)) (hiB (RdA.l x_1) (Subtype.val x_2)) (Subtype.val x_3)) (Int.toNat (IntKind.wrap IntKind.i64 ((↑((16 : Nat) + Subtype.val x_3) : Int) - (16 : Int)))) (0 : Int) + IntKind.wrap IntKind.i64 (Int.tdiv (IntKind.wrap IntKind.i64 (List.getD (hiB (RdA.l x_1) (Subtype.val x_2)) (Int.toNat (↑((16 : Nat) + Subtype.val x_3) : Int)) (0 : Int) * (5 : Int))) (4 : Int))))) (Int.toNat (IntKind.wrap IntKind.i64 ((↑((16 : Nat) + Subtype.val x_3) : Int) - (17 : Int)))) (IntKind.wrap IntKind.i64 (List.getD (List.set (cH (lowB (RdA.l x_1) (Subtype.val x_2)) (hiB (RdA.l x_1) (Subtype.val x_2)) (Subtype.val x_3)) (Int.toNat (IntKind.wrap IntKind.i64 ((↑((16 : Nat) + Subtype.val x_3) : Int) - (16 : Int)))) (IntKind.wrap IntKind.i64 (List.getD (cH (lowB (RdA.l x_1) (Subtype.val x_2)) (hiB (RdA.l x_1) (Subtype.val x_2)) (Subtype.val x_3)) (Int.toNat (IntKind.wrap IntKind.i64 ((↑((16 : Nat) + Subtype.val x_3) : Int) - (16 : Int)))) (0 : Int) + IntKind.wrap IntKind.i64 (Int.tdiv (IntKind.wrap IntKind.i64 (List.getD (hiB (RdA.l x_1) (Subtype.val x_2)) (Int.toNat (↑((16 : Nat) + Subtype.val x_3) : Int)) (0 : Int) * (5 : Int))) (4 : Int))))) (Int.toNat (IntKind.wrap IntKind.i64 ((↑((16 : Nat) + Subtype.val x_3) : Int) - (17 : Int)))) (0 : Int) + IntKind.wrap IntKind.i64 (Int.tmod (IntKind.wrap IntKind.i64 (List.getD (hiB (RdA.l x_1) (Subtype.val x_2)) (Int.toNat (↑((16 : Nat) + Subtype.val x_3) : Int)) (0 : Int) * (5 : Int))) (4 : Int) * (64 : Int)))) = cH (lowB (RdA.l x_1) (Subtype.val x_2)) (hiB (RdA.l x_1) (Subtype.val x_2)) (Subtype.val y) ∧ (3 : Nat) = (3 : Nat) ∧ (1 : Nat) = (1 : Nat) ∧ hiB (RdA.l x_1) (Subtype.val x_2) = hiB (RdA.l x_1) (Subtype.val x_2)) ∧ (24 : Nat) - Subtype.val y < (24 : Nat) - Subtype.val x_3 else ∃ (y : { k : Nat // k ≤ (24 : Nat) }), (true = true ∧ true = true ∧ (148 : Nat) = (148 : Nat) ∧ getL [(0 : Nat), (1 : Nat)] (0 : Nat) = some (0 : Nat) ∧ (1 : Nat) = (1 : Nat) ∧ (40 : Nat) = (40 : Nat) ∧ getL [(0 : Nat), (1 : Nat)] (1 : Nat) = some (1 : Nat) ∧ (1 : Nat) = (1 : Nat) ∧ (40 : Nat) = (40 : Nat) ∧ Value.int IntKind.i64 (IntKind.wrap IntKind.i64 ((↑((16 : Nat) + Subtype.val x_3) : Int) + (1 : Int))) = Value.int IntKind.i64 (↑((16 : Nat) + Subtype.val y) : Int) ∧ (3 : Nat) = (3 : Nat) ∧ (1 : Nat) = (1 : Nat) ∧ List.set (cH (lowB (RdA.l x_1) (Subtype.val x_2)) (hiB (RdA.l x_1) (Subtype.val x_2)) (Subtype.val x_3)) (Int.toNat (IntKind.wrap IntKind.i64 ((↑((16 : Nat) + Subtype.val x_3) : Int) - (16 : Int)))) (IntKind.wrap IntKind.i64 (List.getD (cH (lowB (RdA.l x_1) (Subtype.val x_2)) (hiB (RdA.l x_1) (Subtype.val x_2)) (Subtype.val x_3)) (Int.toNat (IntKind.wrap IntKind.i64 ((↑((16 : Nat) + Subtype.val x_3) : Int) - (16 : Int)))) (0 : Int) + IntKind.wrap IntKind.i64 (Int.tdiv (IntKind.wrap IntKind.i64 (List.getD (hiB (RdA.l x_1) (Subtype.val x_2)) (Int.toNat (↑((16 : Nat) + Subtype.val x_3) : Int)) (0 : Int) * (5 : Int))) (4 : Int)))) = cH (lowB (RdA.l x_1) (Subtype.val x_2)) (hiB (RdA.l x_1) (Subtype.val x_2)) (Subtype.val y) ∧ (3 : Nat) = (3 : Nat) ∧ (1 : Nat) = (1 : Nat) ∧ hiB (RdA.l x_1) (Subtype.val x_2) = hiB (RdA.l x_1) (Subtype.val x_2)) ∧ (24 : Nat) - Subtype.val y < (24 : Nat) - Subtype.val x_3) ((4 : Int) ≠ (0 : Int) ∧ (!decide (Int.tmod (IntKind.wrap IntKind.i64 (List.getD (hiB (RdA.l x_1) (Subtype.val x_2)) (Int.toNat (↑((16 : Nat) + Subtype.val x_3) : Int)) (0 : Int) * (5 : Int))) (4 : Int) = (0 : Int))) = false ∧ ∃ (y : { k : Nat // k ≤ (24 : Nat) }), (true = true ∧ true = true ∧ (148 : Nat) = (148 : Nat) ∧ getL [(0 : Nat), (1 : Nat)] (0 : Nat) = some (0 : Nat) ∧ (1 : Nat) = (1 : Nat) ∧ (40 : Nat) = (40 : Nat) ∧ getL [(0 : Nat), (1 : Nat)] (1 : Nat) = some (1 : Nat) ∧ (1 : Nat) = (1 : Nat) ∧ (40 : Nat) = (40 : Nat) ∧ Value.int IntKind.i64 (IntKind.wrap IntKind.i64 ((↑((16 : Nat) + Subtype.val x_3) : Int) + (1 : Int))) = Value.int IntKind.i64 (↑((16 : Nat) + Subtype.val y) : Int) ∧ (3 : Nat) = (3 : Nat) ∧ (1 : Nat) = (1 : Nat) ∧ List.set (cH (lowB (RdA.l x_1) (Subtype.val x_2)) (hiB (RdA.l x_1) (Subtype.val x_2)) (Subtype.val x_3)) (Int.toNat (IntKind.wrap IntKind.i64 ((↑((16 : Nat) + Subtype.val x_3) : Int) - (16 : Int)))) (IntKind.wrap IntKind.i64 (List.getD (cH (lowB (RdA.l x_1) (Subtype.val x_2)) (hiB (RdA.l x_1) (Subtype.val x_2)) (Subtype.val x_3)) (Int.toNat (IntKind.wrap IntKind.i64 ((↑((16 : Nat) + Subtype.val x_3) : Int) - (16 : Int)))) (0 : Int) + IntKind.wrap IntKind.i64 (Int.tdiv (IntKind.wrap IntKind.i64 (List.getD (hiB (RdA.l x_1) (Subtype.val x_2)) (Int.toNat (↑((16 : Nat) + Subtype.val x_3) : Int)) (0 : Int) * (5 : Int))) (4 : Int)))) = cH (lowB (RdA.l x_1) (Subtype.val x_2)) (hiB (RdA.l x_1) (Subtype.val x_2)) (Subtype.val y) ∧ (3 : Nat) = (3 : Nat) ∧ (1 : Nat) = (1 : Nat) ∧ hiB (RdA.l x_1) (Subtype.val x_2) = hiB (RdA.l x_1) (Subtype.val x_2)) ∧ (24 : Nat) - Subtype.val y < (24 : Nat) - Subtype.val x_3) else ∃ (y : RdO (valD l)), (true = true ∧ true = true ∧ (148 : Nat) = (148 : Nat) ∧ getL [(0 : Nat)] (0 : Nat) = some (0 : Nat) ∧ (1 : Nat) = (1 : Nat) ∧ (40 : Nat) = (40 : Nat) ∧ (3 : Nat) = (3 : Nat) ∧ (1 : Nat) = (1 : Nat) ∧ cH (lowB (RdA.l x_1) (Subtype.val x_2)) (hiB (RdA.l x_1) (Subtype.val x_2)) (Subtype.val x_3) = RdO.l y) ∧ Int.toNat (valD (RdO.l y)) < Int.toNat (valD (RdO.l x))) := by kernel_rfl

set_option maxHeartbeats 8000000 in
theorem wpSRed (l : List Int) (h1 : l.length = 40) (h2 : valD l < 256 ^ 40) (h3 : ∀ j, 0 ≤ l.getD j 0) (h4 : ∀ j, l.getD j 0 ≤ 1099511627776) : wpE (FSRed l) (Try.f35.body.getD .skip) ⟨Try.f35.ntmps, slotsOf 0 (kSRed l).avs, (kSRed l).mem⟩ (finK Try.prog Try.f35.results.toList (postN (kSRed l))) := by
  with_reducible refine Eq.mpr (vcSRed l) ?_
  refine ⟨⟨⟨l, h1, rfl, h2, h3, h4⟩, by and_intros <;> first | exact True.intro | rfl⟩, ?_⟩
  rintro ⟨L, hl, hv, hV, h0, hb⟩
  dsimp only
  refine ⟨⟨⟨L, 0, hl, by omega, rfl, fun j hj => absurd hj (Nat.not_lt_zero _), h0, fun j => by have := hb j; omega, fun j _ => hb j⟩, by and_intros <;> first | exact True.intro | rfl⟩, ?_⟩
  intro x
  have w1 : IntKind.wrap .i64 ((x.i : Int) + 1) = ((x.i + 1 : Nat) : Int) := by have := x.hi; rw [IntKind.wrap_i64]; omega
  have ml := x.hl
  simp only [w1, Int.toNat_natCast, List.length_set, ml]
  by_cases hg : ((x.i + 1 : Nat) : Int) < 40
  · rw [decide_eq_true hg, cond_true]
    obtain ⟨y, y1, y2⟩ := rda_step x (by omega)
    and_intros
    all_goals try exact True.intro
    all_goals try omega
    refine ⟨y, ?_⟩
    rw [y1]
    and_intros <;> first | exact True.intro | with_reducible rfl | with_reducible exact y2 | (show 39 - (x.i + 1) < 39 - x.i; omega) | rfl
  rw [decide_eq_false hg, cond_false]
  have hd := rda_end x (by have := x.hi; omega) hV
  have mv : valD x.l = valD L := x.hv
  clear w1 hg
  generalize x.l = M at *
  rw [← mv] at hv hV ⊢
  refine ⟨by omega, by omega, by omega, by omega, ⟨⟨0, Nat.zero_le _⟩, by and_intros <;> first | exact True.intro | with_reducible rfl | rfl⟩, ?_⟩
  rintro ⟨k, hk⟩
  dsimp only
  have lw : (lowB M k).length = 40 := lowB_len ml k
  have hw : (hiB M k).length = 40 := hiB_len M k
  have w1 : IntKind.wrap .i64 (((16 + k : Nat) : Int) + 1) = ((16 + (k + 1) : Nat) : Int) := by rw [IntKind.wrap_i64]; omega
  have eL : (lowB M k).getD (16 + k) 0 = M.getD (16 + k) 0 := by rw [lowB_at ml _ k hk, if_neg (by omega)]
  have hx := xB_in hd k
  have hdk := hd (16 + k)
  simp only [w1, lw, hw, eL]
  by_cases hg : ((16 + k : Nat) : Int) < 40
  · rw [decide_eq_true hg, cond_true]
    by_cases h16 : ((16 + k : Nat) : Int) = 16
    · rw [decide_eq_true h16, cond_true]
      have ek : k = 0 := by omega
      subst ek
      have d16 := hd 16
      have ex : IntKind.wrap .i64 (M.getD (16 + 0) 0 - Int.tmod ((lowB M 0).getD 16 0) 4) = xB M 0 := by
        show IntKind.wrap .i64 (M.getD 16 0 - Int.tmod (M.getD 16 0) 4) = M.getD 16 0 - M.getD 16 0 % 4
        rw [Int.tmod_eq_emod_of_nonneg d16.1, i64_in (by omega) (by omega)]
      have hxle : xB M 0 ≤ M.getD (16 + 0) 0 := by
        show M.getD 16 0 - M.getD 16 0 % 4 ≤ M.getD 16 0
        omega
      simp only [ex, i64_in (x := M.getD (16 + 0) 0 - xB M 0) (by omega) (by omega)]
      and_intros
      all_goals try omega
      refine .r ?_
      and_intros
      all_goals try omega
      all_goals try with_reducible rfl
      all_goals try exact rfl
      refine ⟨⟨1, by omega⟩, ?_⟩
      have e : Value.bool (!decide (xB M 0 = 0)) = Value.bool (ovB M 1) := by simp [ovB]
      and_intros <;> first | exact True.intro | with_reducible rfl | exact e | (show 24 - 1 < 24 - 0; omega) | rfl
    · rw [decide_eq_false h16, cond_false]
      have ex : M.getD (16 + k) 0 = xB M k := by unfold xB; rw [if_neg (by omega)]
      have e0 : IntKind.wrap .i64 (xB M k - xB M k) = M.getD (16 + k) 0 - xB M k := by rw [i64_in (by omega) (by omega), ex]
      simp only [ex, e0]
      and_intros
      all_goals try omega
      by_cases hb : ovB M k = true
      · refine .l ?_
        and_intros
        all_goals try omega
        all_goals try with_reducible exact hb
        refine ⟨⟨k + 1, by omega⟩, ?_⟩
        have e : Value.bool true = Value.bool (ovB M (k + 1)) := by rw [ovB, hb, Bool.true_or]
        have e1 : (lowB M k).set (16 + k) (xB M k - xB M k) = lowB M (k + 1) := by rw [lowB, ex]
        and_intros <;> first | exact True.intro | with_reducible rfl | exact e | with_reducible exact e1 | (show 24 - (k + 1) < 24 - k; omega) | rfl
      · have hb' : ovB M k = false := by cases h : ovB M k with | true => exact absurd h hb | false => rfl
        refine .r ?_
        and_intros
        all_goals try omega
        all_goals try with_reducible exact hb'
        refine ⟨⟨k + 1, by omega⟩, ?_⟩
        have e : Value.bool (!decide (xB M k = 0)) = Value.bool (ovB M (k + 1)) := by rw [ovB, hb']; simp
        have e1 : (lowB M k).set (16 + k) (xB M k - xB M k) = lowB M (k + 1) := by rw [lowB, ex]
        and_intros <;> first | exact True.intro | with_reducible rfl | exact e | with_reducible exact e1 | (show 24 - (k + 1) < 24 - k; omega) | rfl
  rw [decide_eq_false hg, cond_false]
  have ek : k = 24 := by omega
  subst ek
  clear hg hx hdk eL w1
  by_cases hov : ovB M 24 = true
  · rw [hov, Bool.not_true, cond_false]
    obtain ⟨y, y1, y2⟩ := red_next ml hd hov hv hV
    refine ⟨⟨⟨0, Nat.zero_le _⟩, by and_intros <;> first | exact True.intro | with_reducible rfl | rfl⟩, ?_⟩
    rintro ⟨k, hk⟩
    dsimp only
    have eC := cH_eq M k hk
    have cl := cC_len ml k
    have cin := cC_in ml hd k hk
    have w1 : IntKind.wrap .i64 (((16 + k : Nat) : Int) + 1) = ((16 + (k + 1) : Nat) : Int) := by rw [IntKind.wrap_i64]; omega
    have w16 : IntKind.wrap .i64 (((16 + k : Nat) : Int) - 16) = (k : Int) := by rw [IntKind.wrap_i64]; omega
    simp only [eC, w1, w16, Int.toNat_natCast, cl]
    by_cases hg : ((16 + k : Nat) : Int) < 40
    · rw [decide_eq_true hg, cond_true]
      have eH : (hiB M 24).getD (16 + k) 0 = xB M k := by rw [hiB_at M _ 24 (Nat.le_refl _), if_pos (by omega), show 16 + k - 16 = k by omega]
      have hx := xB_in hd k
      have ck := cin k
      have ck1 := cin (k - 1)
      have eS : cH (lowB M 24) (hiB M 24) (k + 1) = if xB M k * 5 % 4 ≠ 0 ∧ 0 < k then (((cC M k).set k ((cC M k).getD k 0 + xB M k * 5 / 4)).set (k - 1) ((cC M k).getD (k - 1) 0 + xB M k * 5 % 4 * 64)) else (cC M k).set k ((cC M k).getD k 0 + xB M k * 5 / 4) := by rw [cH_eq M (k + 1) (by omega), cC]
      have t1 : Int.tdiv (xB M k * 5) 4 = xB M k * 5 / 4 := Int.tdiv_eq_ediv_of_nonneg (by omega)
      have t2 : Int.tmod (xB M k * 5) 4 = xB M k * 5 % 4 := Int.tmod_eq_emod_of_nonneg (by omega)
      have i1 : IntKind.wrap .i64 (xB M k * 5) = xB M k * 5 := i64_in (by omega) (by omega)
      have i2 : IntKind.wrap .i64 (xB M k * 5 / 4) = xB M k * 5 / 4 := i64_in (by omega) (by omega)
      have i3 : IntKind.wrap .i64 ((cC M k).getD k 0 + xB M k * 5 / 4) = (cC M k).getD k 0 + xB M k * 5 / 4 := i64_in (by omega) (by omega)
      have i4 : IntKind.wrap .i64 (xB M k * 5 % 4 * 64) = xB M k * 5 % 4 * 64 := i64_in (by omega) (by omega)
      have i5 : IntKind.wrap .i64 ((cC M k).getD (k - 1) 0 + xB M k * 5 % 4 * 64) = (cC M k).getD (k - 1) 0 + xB M k * 5 % 4 * 64 := i64_in (by omega) (by omega)
      simp only [eH, i1, t1, t2, i2, i3, i4]
      and_intros
      all_goals try omega
      by_cases hr : xB M k * 5 % 4 = 0
      · refine .r ?_
        rw [if_neg (by omega)] at eS
        have eb : (!decide (xB M k * 5 % 4 = 0)) = false := by rw [decide_eq_true hr]; rfl
        and_intros
        all_goals try omega
        all_goals try with_reducible exact eb
        refine ⟨⟨k + 1, by omega⟩, ?_⟩
        and_intros <;> first | exact True.intro | with_reducible rfl | with_reducible exact eS.symm | (show 24 - (k + 1) < 24 - k; omega) | rfl
      · refine .l ?_
        have eb : (!decide (xB M k * 5 % 4 = 0)) = true := by rw [decide_eq_false hr]; rfl
        by_cases h17 : (16 : Int) < ((16 + k : Nat) : Int)
        · rw [decide_eq_true h17, cond_true]
          have hk0 : 0 < k := by omega
          rw [if_pos ⟨hr, hk0⟩] at eS
          have w17 : IntKind.wrap .i64 (((16 + k : Nat) : Int) - 17) = ((k - 1 : Nat) : Int) := by rw [IntKind.wrap_i64]; omega
          have g1 : ((cC M k).set k ((cC M k).getD k 0 + xB M k * 5 / 4)).getD (k - 1) 0 = (cC M k).getD (k - 1) 0 := by rw [getD_ins (by omega), if_neg (by omega)]
          simp only [w17, Int.toNat_natCast, g1, i5]
          and_intros
          all_goals try omega
          all_goals try with_reducible exact eb
          refine ⟨⟨k + 1, by omega⟩, ?_⟩
          and_intros <;> first | exact True.intro | with_reducible rfl | with_reducible exact eS.symm | (show 24 - (k + 1) < 24 - k; omega) | rfl
        · rw [decide_eq_false h17, cond_false]
          rw [if_neg (by omega)] at eS
          and_intros
          all_goals try omega
          all_goals try with_reducible exact eb
          refine ⟨⟨k + 1, by omega⟩, ?_⟩
          and_intros <;> first | exact True.intro | with_reducible rfl | with_reducible exact eS.symm | (show 24 - (k + 1) < 24 - k; omega) | rfl
    · rw [decide_eq_false hg, cond_false]
      have ek : k = 24 := by omega
      subst ek
      exact ⟨y, by and_intros <;> first | exact True.intro | with_reducible rfl | with_reducible exact y1.symm | rfl, y2⟩
  · have hov' : ovB M 24 = false := by cases h : ovB M 24 with | true => exact absurd h hov | false => rfl
    rw [hov', Bool.not_false, cond_true]
    obtain ⟨r1, r2, r3⟩ := red_end ml hd hov' hv
    simp only [r1]
    by_cases h16 : M.getD 16 0 = 3
    · have LB0 : Value.bool (decide (251 ≤ M.getD 0 0)) = Value.bool (leB M 0) := by rw [leB, decide_eq_true h16, Bool.true_and]
      have hd16 := decide_eq_true h16
      refine .l ?_
      and_intros
      all_goals try omega
      all_goals try with_reducible exact hd16
      · refine ⟨⟨0, Nat.zero_le _⟩, ?_⟩
        and_intros <;> first | exact True.intro | with_reducible rfl | exact LB0 | rfl
      · rintro ⟨k, hk⟩
        dsimp only
        have w1 : IntKind.wrap .i64 (((1 + k : Nat) : Int) + 1) = ((1 + (k + 1) : Nat) : Int) := by rw [IntKind.wrap_i64]; omega
        simp only [w1]
        by_cases hk2 : ((1 + k : Nat) : Int) < 16
        · rw [decide_eq_true hk2, cond_true]
          by_cases hb : leB M k = true
          · refine .l ?_
            and_intros
            all_goals try omega
            all_goals try with_reducible exact hb
            refine ⟨⟨k + 1, by omega⟩, ?_⟩
            have e : Value.bool (decide (M.getD (1 + k) 0 = 255)) = Value.bool (leB M (k + 1)) := by rw [leB, hb, Bool.true_and]
            and_intros <;> first | exact True.intro | with_reducible rfl | exact e | (show 15 - (k + 1) < 15 - k; omega) | rfl
          · have hb' : leB M k = false := by cases h : leB M k with | true => exact absurd h hb | false => rfl
            refine .r ⟨hb', ⟨k + 1, by omega⟩, ?_⟩
            have e : Value.bool false = Value.bool (leB M (k + 1)) := by rw [leB, hb', Bool.false_and]
            and_intros <;> first | exact True.intro | with_reducible rfl | exact e | (show 15 - (k + 1) < 15 - k; omega) | rfl
        · rw [decide_eq_false hk2, cond_false]
          have ek : k = 15 := by omega
          subst ek
          by_cases hb : leB M 15 = true
          · rw [hb, cond_true]
            have e := r2 hb
            and_intros <;> first | exact True.intro | with_reducible rfl | omega | exact e | rfl
          · have hb' : leB M 15 = false := by cases h : leB M 15 with | true => exact absurd h hb | false => rfl
            rw [hb', cond_false]
            have e := r3 hb'
            and_intros <;> first | exact True.intro | with_reducible rfl | omega | exact e | rfl
    · have LB0 : Value.bool false = Value.bool (leB M 0) := by rw [leB, decide_eq_false h16, Bool.false_and]
      have hd16 := decide_eq_false h16
      refine .r ?_
      and_intros
      all_goals try omega
      all_goals try with_reducible exact hd16
      · refine ⟨⟨0, Nat.zero_le _⟩, ?_⟩
        and_intros <;> first | exact True.intro | with_reducible rfl | exact LB0 | rfl
      · rintro ⟨k, hk⟩
        dsimp only
        have w1 : IntKind.wrap .i64 (((1 + k : Nat) : Int) + 1) = ((1 + (k + 1) : Nat) : Int) := by rw [IntKind.wrap_i64]; omega
        simp only [w1]
        by_cases hk2 : ((1 + k : Nat) : Int) < 16
        · rw [decide_eq_true hk2, cond_true]
          by_cases hb : leB M k = true
          · refine .l ?_
            and_intros
            all_goals try omega
            all_goals try with_reducible exact hb
            refine ⟨⟨k + 1, by omega⟩, ?_⟩
            have e : Value.bool (decide (M.getD (1 + k) 0 = 255)) = Value.bool (leB M (k + 1)) := by rw [leB, hb, Bool.true_and]
            and_intros <;> first | exact True.intro | with_reducible rfl | exact e | (show 15 - (k + 1) < 15 - k; omega) | rfl
          · have hb' : leB M k = false := by cases h : leB M k with | true => exact absurd h hb | false => rfl
            refine .r ⟨hb', ⟨k + 1, by omega⟩, ?_⟩
            have e : Value.bool false = Value.bool (leB M (k + 1)) := by rw [leB, hb', Bool.false_and]
            and_intros <;> first | exact True.intro | with_reducible rfl | exact e | (show 15 - (k + 1) < 15 - k; omega) | rfl
        · rw [decide_eq_false hk2, cond_false]
          have ek : k = 15 := by omega
          subst ek
          by_cases hb : leB M 15 = true
          · rw [hb, cond_true]
            have e := r2 hb
            and_intros <;> first | exact True.intro | with_reducible rfl | omega | exact e | rfl
          · have hb' : leB M 15 = false := by cases h : leB M 15 with | true => exact absurd h hb | false => rfl
            rw [hb', cond_false]
            have e := r3 hb'
            and_intros <;> first | exact True.intro | with_reducible rfl | omega | exact e | rfl
set_option maxHeartbeats 8000000 in
theorem cSRed_ok : SpecOK Try.prog cSRed := by
  refine callG_ok (c := Try.f35.body.getD .skip) mixed Try.func35 (by kernel_rfl) rfl (fun l hob => ?_)
  have hob : (l.length = 40) ∧ (valD l < 256 ^ 40) ∧ (∀ j, 0 ≤ l.getD j 0) ∧ (∀ j, l.getD j 0 ≤ 1099511627776) := hob
  obtain ⟨h1, h2, h3, h4⟩ := hob
  exact ⟨FSRed l, rfl, evOKs trivial, rfl, rfl, by with_reducible exact wpSRed l h1 h2 h3 h4⟩
end Go.Proofs.Ythlleheeghiljaa
