/-
  FieldExponents' sums: powers in the field, Fermat's little theorem at p, the exponents that its keys hold. No program.
-/
import Derived.Test.YthnpbodkcdbckaaDoorPower
import Derived.Test.YthnpbodkcdbckaaDoorPrime
namespace Go.Proofs.YthnpbodkcdbckaaDoor
set_option maxRecDepth 100000

theorem Cong.pow {m n : Int} (h : Cong m n) : ∀ k : Nat, Cong (m ^ k) (n ^ k)
  | 0 => by rw [Int.pow_zero, Int.pow_zero]; exact Cong.refl _
  | k + 1 => by rw [Int.pow_succ, Int.pow_succ]; exact (Cong.pow h k).mul h
theorem cong_fermat {p : Nat} (h : Pr p) (hp : (p : Int) = pp) (m : Int) : Cong (m ^ p) m := by
  have hm0 : 0 ≤ m % pp := Int.emod_nonneg _ (by decide)
  obtain ⟨a, ha⟩ : ∃ a : Nat, m % pp = (a : Int) := ⟨(m % pp).toNat, by omega⟩
  have h1 : Cong m a := by rw [← ha]; exact (Cong.mod m).symm
  refine (h1.pow p).trans (Cong.trans ?_ h1.symm)
  have hf := fermat h a
  have e1 : ((a ^ p % p : Nat) : Int) = ((a % p : Nat) : Int) := by rw [hf]
  rw [Int.natCast_emod, Int.natCast_emod, Int.natCast_pow, hp] at e1
  exact (cong_iff _ _).2 e1
theorem prime_pp : ∃ p : Nat, Pr p ∧ (p : Int) = pp := ⟨_, pr_p, by decide +kernel⟩
theorem cong_prime (m : Int) (l : List Int) (h : dig 256 l = pp) : Cong (m ^ expo l) m := by
  obtain ⟨p, hp, e⟩ := prime_pp
  have : expo l = p := by unfold expo; omega
  rw [this]
  exact cong_fermat hp e m
theorem dig_zeros (B : Int) : ∀ k, dig B (List.replicate k 0) = 0
  | 0 => rfl
  | k + 1 => by rw [List.replicate_succ]; simp only [dig]; rw [dig_zeros B k]; omega
theorem expo_two (x y : Int) (k : Nat) : expo (x :: y :: List.replicate k 0) = (x + 256 * y).toNat := by
  unfold expo
  simp only [dig]
  rw [dig_zeros]
  omega
theorem expo_three (x y z : Int) (k : Nat) : expo (x :: y :: z :: List.replicate k 0) = (x + 256 * y + 65536 * z).toNat := by
  unfold expo
  simp only [dig]
  rw [dig_zeros]
  omega
/-- The sum's power is the product of the powers. -/
theorem cong_sum (m : Int) (k a b : Nat) (h : k = a + b) : Cong (m ^ k) (m ^ a * m ^ b) := by
  rw [h, Int.pow_add]
  exact Cong.refl _
end Go.Proofs.YthnpbodkcdbckaaDoor
