/-
  The reference: Canonical, MulAdd, Reduce.
-/
import Derived.Test.YtmfjlicchgacmaaDoorMod
import Derived.StillTailTactics
namespace Go.Proofs.YtmfjlicchgacmaaDoor
open Go.RowKit

/-- A block of numbers that is made, beside what was there. -/
structure DRel (w wr : World) (gr : Nat) (M : List Int) : Prop where
  upd : Upd (fun _ => False) w wr
  r : Blk wr gr 3 (numsA .i64 M)
theorem DRel.set {w wr : World} {gr : Nat} {M : List Int} (h : DRel w wr gr M) (hr : w.heap.size ≤ gr) (j : Nat) (x : Int) : DRel w (wr.setCell ⟨gr, j, none⟩ (.int .i64 x)) gr (M.set j x) := by
  refine ⟨h.upd.set _ (fun hb => absurd hb (by simp; omega)), ?_⟩
  rw [← numsA_set]
  exact h.r.set j _
theorem DRel.drew {w wr : World} {gr : Nat} {M : List Int} (h : DRel w wr gr M) : DRel w wr.drew gr M := ⟨h.upd.drew, h.r⟩
theorem DRel.cell {w wr : World} {gr : Nat} {M : List Int} (h : DRel w wr gr M) (j : Nat) (hj : j < M.length) : wr.cell? ⟨gr, j, none⟩ = some (.int .i64 (M.getD j 0)) := by rw [h.r.cell, numsA_get _ _ _ hj]
theorem fill_list {l : List Int} (n : Nat) (hl : l.length = n) : fillTo (fun j => l.getD j 0) n n = l := by
  refine list_ext_getD (by rw [fillTo_length, hl]) (fun j hj => ?_)
  rw [fillTo_length] at hj
  rw [fillTo_get _ _ _ _ hj, if_pos hj]
set_option maxRecDepth 100000 in
set_option maxHeartbeats 1000000 in
theorem rCanonical_any (l : List Int) (w : World) (hl : l.length = 32) (hd : Digs 256 l) :
    Calls Tryd.prog 14 #[.agg (numsA .u8 l)] w fun e w' => e = .returned (.bool (decide (dig 256 l < oo))) ∧ Upd (fun _ => False) w w' := by
  have Hl := Lib.hid hl
  have HD := Lib.hid hd
  clear hl hd
  have Hb0 := Lib.hid (Blk.at1 w (numsA .u8 l) 25)
  go_enter Tryd.func14, Tryd.ntmps14
  go_wp2_with (refine wpList_makeBlk rfl _ _ 34 rfl 3 (.int .i64 0) 8 Tryd.underlying34 infoIz rfl _ _ _ _ 32 rfl rfl (by omega) (by omega) (by omega) (by omega) ?_; intro w1 hb1 hu1 hz1; have Hb1 := Lib.hid hb1; have Hu1 := Lib.hid hu1; have Hk1 := Lib.hid (hu1.blk Hb0.out (fun h => h)); clear hb1 hu1 hz1)
  have hsz : (w.alloc (.cells (numsA .u8 l) 25)).heap.size = w.heap.size + 1 := by simp
  have HR : Hid (DRel (w.alloc (.cells (numsA .u8 l) 25)) w1 (w.heap.size + 1) (fillTo (fun j => l.getD j 0) 32 0)) := by
    refine ⟨Hu1.out, ?_⟩
    rw [fillTo_zero, numsA_replicate, ← hsz]
    exact Hb1.out
  clear Hb1 Hu1 Hk1
  have HU0 := Lib.hid ((Upd.refl (fun _ => False) w).alloc (.cells (numsA .u8 l) 25))
  generalize w.alloc (.cells (numsA .u8 l) 25) = w0 at *
  have Hw0 : Hid (Upd (fun _ => False) w w0) := HU0.out
  go_loopw [4] (fun i wr => ∃ k : Nat, k ≤ 32 ∧ i = .int .i64 k ∧ DRel w0 wr (w.heap.size + 1) (fillTo (fun j => l.getD j 0) 32 k)) (fun i _ => 32 - (intOf i).toNat)
  case atStart => exact ⟨0, by omega, rfl, HR.out⟩
  case round =>
    clear HR
    obtain ⟨k, hk, rfl, hrel⟩ := hrel
    by_cases hlt : k < 32
    · have c1 := hrel.cell k (by rw [fillTo_length]; omega)
      have c2 : wr.cell? ⟨w.heap.size, k, none⟩ = some (.int .u8 (l.getD k 0)) := by rw [(hrel.upd.blk Hb0.out (fun h => h)).cell, numsA_get _ _ _ (by rw [Hl.out]; omega)]
      have hfr := hrel.r.frozen
      have hg := HD.out.get (B := 256) (by omega) k
      have hn1 := hrel.set (by omega) k (l.getD k 0)
      rw [fillTo_succ (fun j => l.getD j 0) 32 k] at hn1
      have Hn1 := Lib.hid hn1
      clear hrel hn1
      generalize l.getD k 0 = x at *
      generalize (fillTo (fun j => l.getD j 0) 32 k).getD k 0 = y at *
      go_wp2
      exact ⟨⟨k + 1, by omega, by go_num, Hn1.out⟩, by simp [intOf]; omega⟩
    · obtain rfl : k = 32 := by omega
      have hd8 : decide (((32 : Nat) : Int) < 32) = false := by decide
      rw [fill_list 32 Hl.out] at hrel
      have HRel := Lib.hid hrel
      clear hrel
      go_wp2_with fail
      refine (rOrder_any wr).mono ?_
      rintro e w2 ⟨vo, rfl, hO, hu⟩
      obtain ⟨go, co, hvo, hgo, hgo2, hco⟩ := hO.cells (by decide)
      have hv2 : vo = .slice (some ⟨go, 0, none⟩) 32 co := hvo
      clear hvo
      subst hv2
      have HC := Lib.hid hco
      have Hr2 := Lib.hid (hu.blk HRel.out.r (fun h => h))
      have Hu2 := Lib.hid ((Hw0.out.trans HRel.out.upd).trans hu)
      clear hu hO hco HRel
      go_wp2_with fail
      refine (rless_any 32 (w.heap.size + 1) go 32 co l ordB _ Hl.out ordB_length (by omega) (CellsI.of Hr2.out) HC.out HD.out ordB_digs).mono ?_
      rintro e w3 ⟨rfl, hu⟩
      rw [dig_ordB]
      have Hu3 := Lib.hid (Hu2.out.trans hu)
      clear hu
      go_wp2
      go_ret
      exact ⟨rfl, Hu3.out⟩
/-- MulAdd's sums: i bytes of the first in, and k of the second at the next one. -/
structure ConvO (A B C S : List Int) (i k : Nat) : Prop where
  len : S.length = 66
  lo : ∀ j, 0 ≤ S.getD j 0
  hi : ∀ j, S.getD j 0 ≤ 65280 * (i + 1)
  hi2 : ∀ j, i + k ≤ j → S.getD j 0 ≤ 65280 * i + 255
  eq : dig 256 S = dig 256 (C.take (i + 1)) + dig 256 (A.take i) * dig 256 B + 256 ^ i * (A.getD i 0 * dig 256 (B.take k))
structure ConvR (A B C S : List Int) (i : Nat) : Prop where
  len : S.length = 66
  lo : ∀ j, 0 ≤ S.getD j 0
  hi : ∀ j, S.getD j 0 ≤ 65280 * i
  eq : dig 256 S = dig 256 (C.take i) + dig 256 (A.take i) * dig 256 B
theorem getD_rep0 (n j : Nat) : (List.replicate n (0 : Int)).getD j 0 = 0 := by
  rw [List.getD_eq_getElem?_getD, List.getElem?_replicate]
  split <;> rfl
theorem ConvR.start (A B C : List Int) : ConvR A B C (List.replicate 66 0) 0 := ⟨by simp, fun j => by rw [getD_rep0]; omega, fun j => by rw [getD_rep0]; omega, by rw [List.take_zero, List.take_zero, dig_zeros]; simp [dig]⟩
theorem ConvR.add {A B C S : List Int} {i : Nat} (h : ConvR A B C S i) (hi : i < 32) (hC : C.length = 32) (dC : Digs 256 C) : ConvO A B C (S.set i (S.getD i 0 + C.getD i 0)) i 0 := by
  have hc := dC.get (B := 256) (by omega) i
  have h0 := h.lo
  have h1 := h.hi
  refine ⟨by rw [List.length_set]; exact h.len, fun j => ?_, fun j => ?_, fun j _ => ?_, ?_⟩
  · by_cases e : j = i
    · subst e; rw [getD_set_eq _ _ _ (by rw [h.len]; omega)]; have := h0 j; omega
    · rw [getD_set_ne _ _ _ _ e]; exact h0 j
  · by_cases e : j = i
    · subst e; rw [getD_set_eq _ _ _ (by rw [h.len]; omega)]; have := h1 j; omega
    · rw [getD_set_ne _ _ _ _ e]; have := h1 j; omega
  · by_cases e : j = i
    · subst e; rw [getD_set_eq _ _ _ (by rw [h.len]; omega)]; have := h1 j; omega
    · rw [getD_set_ne _ _ _ _ e]; have := h1 j; omega
  · rw [dig_set _ _ _ _ (by rw [h.len]; omega), h.eq, dig_take_succ _ C _ (by omega), List.take_zero, show S.getD i 0 + C.getD i 0 - S.getD i 0 = C.getD i 0 by omega]
    simp only [dig]
    rw [Int.mul_zero, Int.mul_zero, Int.add_zero]
    omega
theorem ConvO.step {A B C S : List Int} {i k : Nat} (h : ConvO A B C S i k) (hi : i < 32) (hk : k < 32) (hB : B.length = 32) (dA : Digs 256 A) (dB : Digs 256 B) : ConvO A B C (S.set (i + k) (S.getD (i + k) 0 + A.getD i 0 * B.getD k 0)) i (k + 1) ∧ 0 ≤ A.getD i 0 * B.getD k 0 ∧ A.getD i 0 * B.getD k 0 ≤ 65025 := by
  have ha := dA.get (B := 256) (by omega) i
  have hb := dB.get (B := 256) (by omega) k
  have hp0 : 0 ≤ A.getD i 0 * B.getD k 0 := Int.mul_nonneg ha.1 hb.1
  have hp1 : A.getD i 0 * B.getD k 0 ≤ 255 * B.getD k 0 := Int.mul_le_mul_of_nonneg_right (by omega) hb.1
  have hp2 : A.getD i 0 * B.getD k 0 ≤ 65025 := by omega
  refine ⟨⟨by rw [List.length_set]; exact h.len, fun j => ?_, fun j => ?_, fun j hj => ?_, ?_⟩, hp0, hp2⟩
  · by_cases e : j = i + k
    · subst e; rw [getD_set_eq _ _ _ (by rw [h.len]; omega)]; have := h.lo (i + k); omega
    · rw [getD_set_ne _ _ _ _ e]; exact h.lo j
  · by_cases e : j = i + k
    · subst e; rw [getD_set_eq _ _ _ (by rw [h.len]; omega)]; have := h.hi2 (i + k) (by omega); omega
    · rw [getD_set_ne _ _ _ _ e]; exact h.hi j
  · rw [getD_set_ne _ _ _ _ (by omega)]; exact h.hi2 j (by omega)
  · rw [dig_set _ _ _ _ (by rw [h.len]; omega), h.eq, dig_take_succ _ B _ (by omega), show S.getD (i + k) 0 + A.getD i 0 * B.getD k 0 - S.getD (i + k) 0 = A.getD i 0 * B.getD k 0 by omega, Int.mul_add, Int.mul_add, Int.pow_add, Int.mul_assoc, Int.mul_left_comm (256 ^ k) (A.getD i 0)]
    omega
theorem ConvO.next {A B C S : List Int} {i : Nat} (h : ConvO A B C S i 32) (hi : i < 32) (hA : A.length = 32) (hB : B.length = 32) : ConvR A B C S (i + 1) := by
  refine ⟨h.len, h.lo, fun j => by have := h.hi j; omega, ?_⟩
  rw [h.eq, dig_take_all _ B 32 (by omega), dig_take_succ _ A _ (by omega), Int.add_mul, Int.mul_assoc]
  omega
/-- Carrying on. -/
structure CarO (S0 S : List Int) (i : Nat) : Prop where
  len : S.length = 66
  low : ∀ j, j < i → 0 ≤ S.getD j 0 ∧ S.getD j 0 < 256
  lo : ∀ j, 0 ≤ S.getD j 0
  at' : S.getD i 0 ≤ 2100000
  hi : ∀ j, i < j → S.getD j 0 ≤ 2088960
  eq : dig 256 S = dig 256 S0
theorem CarO.start {A B C S : List Int} (h : ConvR A B C S 32) : CarO S S 0 := ⟨h.len, fun j hj => by omega, h.lo, by have := h.hi 0; omega, fun j _ => by have := h.hi j; omega, rfl⟩
theorem CarO.step {S0 S : List Int} {i : Nat} (h : CarO S0 S i) (hi : i < 65) : CarO S0 ((S.set (i + 1) (S.getD (i + 1) 0 + S.getD i 0 / 256)).set i (S.getD i 0 % 256)) (i + 1) := by
  have l0 := h.lo i
  have l1 := h.lo (i + 1)
  have a0 := h.at'
  have a1 := h.hi (i + 1) (by omega)
  have hlen : (S.set (i + 1) (S.getD (i + 1) 0 + S.getD i 0 / 256)).length = 66 := by rw [List.length_set]; exact h.len
  have g1 : ∀ j, ((S.set (i + 1) (S.getD (i + 1) 0 + S.getD i 0 / 256)).set i (S.getD i 0 % 256)).getD j 0 = if j = i then S.getD i 0 % 256 else if j = i + 1 then S.getD (i + 1) 0 + S.getD i 0 / 256 else S.getD j 0 := by
    intro j
    by_cases e : j = i
    · subst e; rw [if_pos rfl, getD_set_eq _ _ _ (by rw [hlen]; omega)]
    · rw [if_neg e, getD_set_ne _ _ _ _ e]
      by_cases e2 : j = i + 1
      · subst e2; rw [if_pos rfl, getD_set_eq _ _ _ (by rw [h.len]; omega)]
      · rw [if_neg e2, getD_set_ne _ _ _ _ e2]
  refine ⟨by rw [List.length_set]; exact hlen, fun j hj => ?_, fun j => ?_, ?_, fun j hj => ?_, ?_⟩
  · rw [g1]
    by_cases e : j = i
    · rw [if_pos e]; omega
    · rw [if_neg e, if_neg (by omega)]; exact h.low j (by omega)
  · rw [g1]
    by_cases e : j = i
    · rw [if_pos e]; omega
    · rw [if_neg e]
      by_cases e2 : j = i + 1
      · rw [if_pos e2]; omega
      · rw [if_neg e2]; exact h.lo j
  · rw [g1, if_neg (by omega), if_pos rfl]; omega
  · rw [g1, if_neg (by omega), if_neg (by omega)]; exact h.hi j (by omega)
  · rw [dig_set _ _ _ _ (by rw [hlen]; omega), getD_set_ne _ _ _ _ (by omega), dig_set _ _ _ _ (by rw [h.len]; omega), h.eq, Int.pow_succ, Int.mul_assoc, Int.add_assoc, ← Int.mul_add]
    generalize S.getD i 0 = x at *
    generalize S.getD (i + 1) 0 = y at *
    rw [show 256 * (y + x / 256 - y) + (x % 256 - x) = 0 by omega]
    omega
theorem CarO.done {S0 S : List Int} (h : CarO S0 S 65) (hv : dig 256 S0 < 256 ^ 65) : Digs 256 S := by
  have hs := dig_take_succ 256 S 65 (by rw [h.len]; omega)
  rw [dig_take_all _ _ _ (by rw [h.len]; omega), h.eq] at hs
  have hD : Digs 256 (S.take 65) := fun x hx => by
    obtain ⟨j, hj, rfl⟩ := List.mem_iff_getElem.1 hx
    have hj2 : j < 65 := by rw [List.length_take] at hj; omega
    have := h.low j hj2
    rw [List.getElem_take]
    rw [List.getD_eq_getElem?_getD, List.getElem?_eq_getElem (by rw [h.len]; omega)] at this
    exact this
  have h0 := dig_nonneg (B := 256) (by omega) hD
  have hl := h.lo 65
  have hp : (0 : Int) < 256 ^ 65 := Int.pow_pos (by omega)
  have hz : S.getD 65 0 = 0 := by
    apply Decidable.byContradiction
    intro hc
    have : (256 : Int) ^ 65 * 1 ≤ 256 ^ 65 * S.getD 65 0 := Int.mul_le_mul_of_nonneg_left (by omega) (by omega)
    rw [Int.mul_one] at this
    omega
  intro x hx
  obtain ⟨j, hj, rfl⟩ := List.mem_iff_getElem.1 hx
  rw [h.len] at hj
  have e : S[j] = S.getD j 0 := by rw [List.getD_eq_getElem?_getD, List.getElem?_eq_getElem (by rw [h.len]; exact hj)]; rfl
  rw [e]
  by_cases hj2 : j < 65
  · exact h.low j hj2
  · obtain rfl : j = 65 := by omega
    rw [hz]; omega
theorem conv_small {a b c : Int} (ha : 0 ≤ a ∧ a < 115792089237316195423570985008687907853269984665640564039457584007913129639936) (hb : 0 ≤ b ∧ b < 115792089237316195423570985008687907853269984665640564039457584007913129639936) (hc : 0 ≤ c ∧ c < 115792089237316195423570985008687907853269984665640564039457584007913129639936) : c + a * b < 256 ^ 65 := by
  have h1 : a * b ≤ 115792089237316195423570985008687907853269984665640564039457584007913129639936 * b := Int.mul_le_mul_of_nonneg_right (by omega) hb.1
  rw [show (256 : Int) ^ 65 = 115792089237316195423570985008687907853269984665640564039457584007913129639936 * 115792089237316195423570985008687907853269984665640564039457584007913129639936 * 256 by decide]
  omega
end Go.Proofs.YtmfjlicchgacmaaDoor
