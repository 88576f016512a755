/-
  Plain facts for the reference's Add and Mul. No program.
-/
import Derived.Test.YtpjkmocabnnhaaaDoorFoldMath
namespace Go.Proofs.YtpjkmocabnnhaaaDoor
open Go.RowKit

/-- The number of the first k digits of sixteen. -/
def part (A : List Int) (k : Nat) : Int := dig 65536 (fillTo (fun j => A.getD j 0) 16 k)
theorem part_zero (A : List Int) : part A 0 = 0 := by unfold part; rw [fillTo_zero]; decide
theorem part_succ (A : List Int) (k : Nat) (hk : k < 16) : part A (k + 1) = part A k + 65536 ^ k * A.getD k 0 := by
  unfold part
  rw [← fillTo_succ, dig_set _ _ _ _ (by rw [fillTo_length]; exact hk), fillTo_get _ _ _ _ hk, if_neg (by omega), Int.sub_zero]
theorem part_all (A : List Int) (h : A.length = 16) : part A 16 = dig 65536 A := by
  unfold part
  congr 1
  apply List.ext_getElem (by simp [fillTo, h])
  intro j h1 h2
  simp [fillTo, List.getD_eq_getElem?_getD, List.getElem?_eq_getElem h2]
  omega
/-- The digits of a sum, k of them. -/
structure AddR (A B D : List Int) (k : Nat) : Prop where
  len : D.length = 32
  small : Small40 D
  rest : ∀ j, k ≤ j → D.getD j 0 = 0
  eq : dig 65536 D = part A k + part B k
theorem small40_zero (n : Nat) : Small40 (List.replicate n 0) := fun j => by
  have e : (List.replicate n (0 : Int)).getD j 0 = 0 := by
    rw [List.getD_eq_getElem?_getD]
    by_cases h : j < n
    · simp [h]
    · simp [h]
  rw [e]; omega
theorem getD_zeros (n j : Nat) : (List.replicate n (0 : Int)).getD j 0 = 0 := by
  rw [List.getD_eq_getElem?_getD]
  by_cases h : j < n
  · simp [h]
  · simp [h]
theorem AddR.start (A B : List Int) : AddR A B (List.replicate 32 0) 0 := ⟨by simp, small40_zero 32, fun j _ => getD_zeros 32 j, by rw [part_zero, part_zero]; decide⟩
theorem AddR.step {A B D : List Int} {k : Nat} (h : AddR A B D k) (hk : k < 16) (hA : Digs 65536 A) (hB : Digs 65536 B) : AddR A B (D.set k (A.getD k 0 + B.getD k 0)) (k + 1) := by
  have ha := hA.get (B := 65536) (by omega) k
  have hb := hB.get (B := 65536) (by omega) k
  refine ⟨by rw [List.length_set]; exact h.len, h.small.set k _ (by omega) (by omega), fun j hj => by rw [getD_set_ne _ _ _ _ (by omega)]; exact h.rest j (by omega), ?_⟩
  rw [dig_set _ _ _ _ (by rw [h.len]; omega), h.rest k (by omega), h.eq, part_succ _ _ hk, part_succ _ _ hk, Int.sub_zero, Int.mul_add]
  omega
theorem AddR.done {A B D : List Int} (h : AddR A B D 16) (hA : Digs 65536 A) (hB : Digs 65536 B) (la : A.length = 16) (lb : B.length = 16) : dig 65536 D = dig 65536 A + dig 65536 B ∧ dig 65536 D < 65536 ^ 32 := by
  have h1 := h.eq
  rw [part_all A la, part_all B lb] at h1
  have h2 := dig_lt (B := 65536) (by omega) hA
  have h3 := dig_lt (B := 65536) (by omega) hB
  rw [la] at h2
  rw [lb] at h3
  rw [pow16] at *
  rw [pow32]
  exact ⟨h1, by omega⟩
/-- The digits of a product, i rows and k more. -/
structure MulR (A B D : List Int) (i k : Nat) : Prop where
  len : D.length = 32
  b0 : ∀ j, 0 ≤ D.getD j 0
  b1 : ∀ j, D.getD j 0 ≤ (16 * i + k) * 4294836225
  eq : dig 65536 D = part A i * dig 65536 B + 65536 ^ i * A.getD i 0 * part B k
theorem MulR.start (A B : List Int) : MulR A B (List.replicate 32 0) 0 0 := by
  have hz : ∀ j, (List.replicate 32 (0 : Int)).getD j 0 = 0 := getD_zeros 32
  exact ⟨by simp, fun j => by rw [hz]; omega, fun j => by rw [hz]; omega, by rw [part_zero, part_zero, Int.zero_mul, Int.mul_zero]; decide⟩
theorem mul_bd16 {x y : Int} (hx : 0 ≤ x ∧ x < 65536) (hy : 0 ≤ y ∧ y < 65536) : 0 ≤ x * y ∧ x * y ≤ 4294836225 := by
  refine ⟨Int.mul_nonneg hx.1 hy.1, ?_⟩
  have h1 : x * y ≤ 65535 * y := Int.mul_le_mul_of_nonneg_right (by omega) hy.1
  have h2 : 65535 * y ≤ 65535 * 65535 := Int.mul_le_mul_of_nonneg_left (by omega) (by omega)
  omega
theorem MulR.step {A B D : List Int} {i k : Nat} (h : MulR A B D i k) (hi : i < 16) (hk : k < 16) (hA : Digs 65536 A) (hB : Digs 65536 B) : MulR A B (D.set (i + k) (D.getD (i + k) 0 + A.getD i 0 * B.getD k 0)) i (k + 1) := by
  have hp := mul_bd16 (hA.get (B := 65536) (by omega) i) (hB.get (B := 65536) (by omega) k)
  have hl : i + k < D.length := by rw [h.len]; omega
  refine ⟨by rw [List.length_set]; exact h.len, fun j => ?_, fun j => ?_, ?_⟩
  · have := h.b0 j
    have := h.b0 (i + k)
    by_cases e : j = i + k
    · subst e; rw [getD_set_eq _ _ _ hl]; omega
    · rw [getD_set_ne _ _ _ _ e]; omega
  · have := h.b1 j
    have := h.b1 (i + k)
    by_cases e : j = i + k
    · subst e; rw [getD_set_eq _ _ _ hl]; push_cast; omega
    · rw [getD_set_ne _ _ _ _ e]; push_cast; omega
  · rw [dig_set _ _ _ _ hl, h.eq, part_succ _ _ hk, Int.pow_add]
    generalize A.getD i 0 = x
    generalize B.getD k 0 = y
    generalize (65536 : Int) ^ i = u
    generalize (65536 : Int) ^ k = v
    generalize D.getD (i + k) 0 = z
    rw [show z + x * y - z = x * y by omega, Int.mul_add]
    have e : u * v * (x * y) = u * x * (v * y) := by
      rw [Int.mul_assoc, Int.mul_assoc, ← Int.mul_assoc v x y, Int.mul_comm v x, Int.mul_assoc]
    rw [e]
    omega
theorem MulR.row {A B D : List Int} {i : Nat} (h : MulR A B D i 16) (hi : i < 16) (lb : B.length = 16) : MulR A B D (i + 1) 0 := by
  refine ⟨h.len, h.b0, fun j => by have := h.b1 j; push_cast at *; omega, ?_⟩
  rw [h.eq, part_all B lb, part_zero, Int.mul_zero, part_succ _ _ hi, Int.add_mul]
  omega
theorem MulR.small {A B D : List Int} {i k : Nat} (h : MulR A B D i k) (hik : 16 * i + k ≤ 256) : ∀ j, 0 ≤ D.getD j 0 ∧ D.getD j 0 < 1099511627776 := fun j => by
  have h0 := h.b0 j
  have h1 := h.b1 j
  omega
theorem MulR.done {A B D : List Int} (h : MulR A B D 16 0) (hA : Digs 65536 A) (hB : Digs 65536 B) (la : A.length = 16) (lb : B.length = 16) : Small40 D ∧ dig 65536 D = dig 65536 A * dig 65536 B ∧ dig 65536 D < 65536 ^ 32 := by
  have h1 := h.eq
  rw [part_all A la, part_zero, Int.mul_zero, Int.add_zero] at h1
  have a1 := dig_lt (B := 65536) (by omega) hA
  have b1 := dig_lt (B := 65536) (by omega) hB
  have a0 := dig_nonneg (B := 65536) (by omega) hA
  have b0 := dig_nonneg (B := 65536) (by omega) hB
  rw [la] at a1
  rw [lb] at b1
  refine ⟨h.small (by omega), h1, ?_⟩
  rw [h1, show (65536 : Int) ^ 32 = 65536 ^ 16 * 65536 ^ 16 by decide]
  exact Int.lt_of_le_of_lt (Int.mul_le_mul_of_nonneg_right (Int.le_of_lt a1) b0) (Int.mul_lt_mul_of_pos_left b1 (by decide))
end Go.Proofs.YtpjkmocabnnhaaaDoor
