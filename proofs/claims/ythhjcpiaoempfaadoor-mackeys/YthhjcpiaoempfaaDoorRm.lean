/-
  The reference's numbers are the program's: rotation by division, choose and most by or. No program.
-/
import Derived.Test.YthhjcpiaoempfaaDoorH2
namespace Go.Proofs.YthhjcpiaoempfaaDoor
open Go.RowKit

theorem wrapU32 (x : Int) : IntKind.wrap .u32 x = x % 4294967296 := by simp [IntKind.wrap, IntKind.bits, IntKind.signed]
theorem wrapU64 (x : Int) : IntKind.wrap .u64 x = x % 18446744073709551616 := by simp [IntKind.wrap, IntKind.bits, IntKind.signed]
theorem wrapU8 (x : Int) : IntKind.wrap .u8 x = x % 256 := by simp [IntKind.wrap, IntKind.bits, IntKind.signed]
def pw (n : Nat) : Int := ((2 ^ n : Nat) : Int)
/-- A number of 32 bits. -/
def W32 (x : Int) : Prop := 0 ≤ x ∧ x < 4294967296
theorem W32.mod (x : Int) : W32 (x % 4294967296) := ⟨Int.emod_nonneg _ (by omega), Int.emod_lt_of_pos _ (by omega)⟩
theorem W32.wrap (x : Int) : W32 (IntKind.wrap .u32 x) := by rw [wrapU32]; exact W32.mod x
theorem W32.zero : W32 0 := ⟨by omega, by omega⟩
theorem xor_64_32 {a b : Int} (ha : W32 a) (hb : W32 b) : bits .xor .u64 a b = bits .xor .u32 a b ∧ W32 (bits .xor .u32 a b) := by
  obtain ⟨A, rfl⟩ := Int.eq_ofNat_of_zero_le ha.1
  obtain ⟨B, rfl⟩ := Int.eq_ofNat_of_zero_le hb.1
  have h1 := ha.2
  have h2 := hb.2
  rw [u64_xor_nat _ _ (by omega) (by omega), u32_xor_nat _ _ (by omega) (by omega)]
  have : A ^^^ B < 2 ^ 32 := Nat.xor_lt_two_pow (by omega) (by omega)
  exact ⟨rfl, by omega, by omega⟩
theorem and_64_32 {a b : Int} (ha : W32 a) (hb : W32 b) : bits .and .u64 a b = bits .and .u32 a b ∧ W32 (bits .and .u32 a b) := by
  obtain ⟨A, rfl⟩ := Int.eq_ofNat_of_zero_le ha.1
  obtain ⟨B, rfl⟩ := Int.eq_ofNat_of_zero_le hb.1
  have h1 := ha.2
  have h2 := hb.2
  rw [u64_and_nat _ _ (by omega) (by omega), u32_and_nat _ _ (by omega) (by omega)]
  have : A &&& B < 2 ^ 32 := Nat.and_lt_two_pow _ (by omega)
  exact ⟨rfl, by omega, by omega⟩
theorem or_64_32 {a b : Int} (ha : W32 a) (hb : W32 b) : bits .or .u64 a b = bits .or .u32 a b ∧ W32 (bits .or .u32 a b) := by
  obtain ⟨A, rfl⟩ := Int.eq_ofNat_of_zero_le ha.1
  obtain ⟨B, rfl⟩ := Int.eq_ofNat_of_zero_le hb.1
  have h1 := ha.2
  have h2 := hb.2
  rw [u64_or_nat _ _ (by omega) (by omega), u32_or_nat _ _ (by omega) (by omega)]
  have : A ||| B < 2 ^ 32 := Nat.or_lt_two_pow (by omega) (by omega)
  exact ⟨rfl, by omega, by omega⟩
theorem rotM_nat (X k : Nat) (hk : 1 ≤ k ∧ k ≤ 31) (hX : X < 4294967296) : rotM (X : Int) (k : Int) = ((X / 2 ^ (32 - k) + X % 2 ^ (32 - k) * 2 ^ k : Nat) : Int) := by
  have hsplit : 2 ^ (32 - k) * 2 ^ k = 2 ^ 32 := by rw [← Nat.pow_add]; congr 1; omega
  have hd : X / 2 ^ (32 - k) < 2 ^ k := Nat.div_lt_of_lt_mul (by rw [hsplit]; exact hX)
  have hd2 : 2 ^ k ≤ 2 ^ 32 := Nat.pow_le_pow_right (by omega) (by omega)
  have hmod : X * 2 ^ k % 2 ^ 32 = 2 ^ k * (X % 2 ^ (32 - k)) := by rw [← hsplit, Nat.mul_mod_mul_right, Nat.mul_comm]
  have hm : X * 2 ^ k % 2 ^ 32 < 2 ^ 32 := Nat.mod_lt _ (by omega)
  have w1 : IntKind.wrap .u64 (32 - (k : Int)) = ((32 - k : Nat) : Int) := by rw [wrapU64]; omega
  have m1 : min ((k : Int).toNat) (IntKind.bits .u32) = k := by rw [Int.toNat_natCast]; exact Nat.min_eq_left (show k ≤ 32 by omega)
  have m2 : min (((32 - k : Nat) : Int).toNat) (IntKind.bits .u32) = 32 - k := by rw [Int.toNat_natCast]; exact Nat.min_eq_left (show 32 - k ≤ 32 by omega)
  have e1 : sShl .u32 (X : Int) (k : Int) = ((X * 2 ^ k % 2 ^ 32 : Nat) : Int) := by
    unfold sShl
    rw [m1, wrapU32, Int.natCast_emod, Int.natCast_mul]
    simp
  have e2 : sShr .u32 (X : Int) ((32 - k : Nat) : Int) = ((X / 2 ^ (32 - k) : Nat) : Int) := by
    unfold sShr
    rw [m2, Int.fdiv_eq_ediv_of_nonneg _ (Int.pow_nonneg (by omega)), Int.natCast_ediv]
    simp
  unfold rotM
  rw [w1, e1, e2, u32_or_nat _ _ (by omega) (by omega), hmod, ← Nat.two_pow_add_eq_or_of_lt hd, Nat.mul_comm, Nat.add_comm]
/-- The reference's rotation. -/
def tnR (x : Int) (n : Nat) : Int := IntKind.wrap .u64 (IntKind.wrap .u64 (Int.tdiv x (pw n)) + IntKind.wrap .u64 (Int.tmod x (pw n) * pw (32 - n)))
theorem tnR_eq {x : Int} (n : Nat) (hn : 1 ≤ n ∧ n ≤ 31) (hx : W32 x) : tnR x n = rotM x ((32 - n : Nat) : Int) ∧ W32 (rotM x ((32 - n : Nat) : Int)) := by
  obtain ⟨X, rfl⟩ := Int.eq_ofNat_of_zero_le hx.1
  have h2 := hx.2
  have hX : X < 4294967296 := by omega
  rw [rotM_nat X (32 - n) (by omega) hX, show 32 - (32 - n) = n by omega]
  have hsplit : 2 ^ n * 2 ^ (32 - n) = 2 ^ 32 := by rw [← Nat.pow_add]; congr 1; omega
  have hd : X / 2 ^ n < 2 ^ (32 - n) := Nat.div_lt_of_lt_mul (by rw [hsplit]; exact hX)
  have hmm : X % 2 ^ n < 2 ^ n := Nat.mod_lt _ (Nat.pow_pos (by omega))
  have hM : X % 2 ^ n * 2 ^ (32 - n) + 2 ^ (32 - n) ≤ 2 ^ 32 := by
    have : (X % 2 ^ n + 1) * 2 ^ (32 - n) ≤ 2 ^ n * 2 ^ (32 - n) := Nat.mul_le_mul_right _ hmm
    rw [hsplit] at this
    rw [Nat.add_mul, Nat.one_mul] at this
    exact this
  have a1 : Int.tdiv (X : Int) (pw n) = ((X / 2 ^ n : Nat) : Int) := by unfold pw; exact (Int.ofNat_tdiv ..).symm
  have a2 : Int.tmod (X : Int) (pw n) = ((X % 2 ^ n : Nat) : Int) := by unfold pw; exact (Int.ofNat_tmod ..).symm
  unfold tnR
  rw [a1, a2]
  simp only [wrapU64]
  unfold pw
  rw [← Int.natCast_mul]
  generalize X % 2 ^ n * 2 ^ (32 - n) = M at *
  generalize X / 2 ^ n = D at *
  exact ⟨by omega, by omega, by omega⟩
theorem shr_nat {x : Int} (n : Nat) (hn : n ≤ 32) (hx : W32 x) : IntKind.wrap .u64 (Int.tdiv x (pw n)) = sShr .u32 x (n : Int) ∧ W32 (sShr .u32 x (n : Int)) := by
  obtain ⟨X, rfl⟩ := Int.eq_ofNat_of_zero_le hx.1
  have h2 := hx.2
  have m1 : min ((n : Int).toNat) (IntKind.bits .u32) = n := by rw [Int.toNat_natCast]; exact Nat.min_eq_left hn
  have a1 : Int.tdiv (X : Int) (pw n) = ((X / 2 ^ n : Nat) : Int) := by unfold pw; exact (Int.ofNat_tdiv ..).symm
  have e2 : sShr .u32 (X : Int) (n : Int) = ((X / 2 ^ n : Nat) : Int) := by
    unfold sShr
    rw [m1, Int.fdiv_eq_ediv_of_nonneg _ (Int.pow_nonneg (by omega)), Int.natCast_ediv]
    simp
  have h3 := Nat.div_le_self X (2 ^ n)
  rw [a1, e2, wrapU64]
  clear a1 e2
  generalize X / 2 ^ n = D at *
  exact ⟨by omega, by omega, by omega⟩
def mixR (a b c : Int) : Int := bits .xor .u64 (bits .xor .u64 a b) c
theorem mixR_eq {a b c : Int} (ha : W32 a) (hb : W32 b) (hc : W32 c) : mixR a b c = bits .xor .u32 (bits .xor .u32 a b) c ∧ W32 (bits .xor .u32 (bits .xor .u32 a b) c) := by
  have h1 := xor_64_32 ha hb
  have h2 := xor_64_32 h1.2 hc
  exact ⟨by unfold mixR; rw [h1.1, h2.1], h2.2⟩
def keepR (x : Int) : Int := Int.tmod x (pw 32)
theorem keepR_eq {x : Int} (hx : 0 ≤ x) : keepR x = x % 4294967296 := by
  unfold keepR pw
  rw [Int.tmod_eq_emod_of_nonneg hx]
  rfl
/-- choose: by or and by exclusive or. -/
theorem choose_eq {e f g : Int} (he : W32 e) (hf : W32 f) (hg : W32 g) :
    bits .or .u64 (bits .and .u64 e f) (bits .and .u64 (keepR (IntKind.wrap .u64 (18446744073709551615 - e))) g) = bits .xor .u32 (bits .and .u32 e f) (bits .and .u32 (bits .xor .u32 4294967295 e) g) ∧ W32 (bits .xor .u32 (bits .and .u32 e f) (bits .and .u32 (bits .xor .u32 4294967295 e) g)) := by
  obtain ⟨E, rfl⟩ := Int.eq_ofNat_of_zero_le he.1
  obtain ⟨F, rfl⟩ := Int.eq_ofNat_of_zero_le hf.1
  obtain ⟨G, rfl⟩ := Int.eq_ofNat_of_zero_le hg.1
  have he2 := he.2
  have hf2 := hf.2
  have hg2 := hg.2
  have hE : E < 2 ^ 32 := by omega
  have e1 : keepR (IntKind.wrap .u64 (18446744073709551615 - (E : Int))) = ((2 ^ 32 - 1 - E : Nat) : Int) := by
    rw [wrapU64, keepR_eq (Int.emod_nonneg _ (by omega))]; omega
  have e2 : (4294967295 : Int) = ((4294967295 : Nat) : Int) := rfl
  have e3 : (2 ^ 32 - 1 - E : Nat) = 4294967295 ^^^ E := by
    apply Nat.eq_of_testBit_eq
    intro i
    rw [show 2 ^ 32 - 1 - E = 2 ^ 32 - (E + 1) by omega, Nat.testBit_two_pow_sub_succ hE]
    rw [Nat.testBit_xor, show (4294967295 : Nat) = 2 ^ 32 - 1 from rfl, Nat.testBit_two_pow_sub_one]
    by_cases hi : i < 32
    · simp [hi]
    · have : E.testBit i = false := Nat.testBit_lt_two_pow (Nat.lt_of_lt_of_le hE (Nat.pow_le_pow_right (by omega) (by omega)))
      simp [hi, this]
  have hN : 2 ^ 32 - 1 - E < 4294967296 := by omega
  have a1 : E &&& F < 2 ^ 32 := Nat.and_lt_two_pow _ (by omega)
  have a2 : (4294967295 ^^^ E) &&& G < 2 ^ 32 := Nat.and_lt_two_pow _ (by omega)
  have a3 : (E &&& F) ^^^ ((4294967295 ^^^ E) &&& G) < 2 ^ 32 := Nat.xor_lt_two_pow a1 a2
  rw [e1, e2, u64_and_nat _ _ (by omega) (by omega), u64_and_nat _ _ (by omega) (by omega), u32_xor_nat _ _ (by omega) (by omega), ← e3, u32_and_nat _ _ (by omega) (by omega), u32_and_nat _ _ (by omega) (by omega), e3, u64_or_nat _ _ (by omega) (by omega), u32_xor_nat _ _ (by omega) (by omega)]
  refine ⟨?_, by omega, by omega⟩
  congr 1
  apply Nat.eq_of_testBit_eq
  intro i
  rw [show (4294967295 : Nat) = 2 ^ 32 - 1 from rfl]
  simp only [Nat.testBit_or, Nat.testBit_and, Nat.testBit_xor, Nat.testBit_two_pow_sub_one]
  by_cases hi : i < 32
  · simp only [hi, decide_true, Bool.true_xor]
    cases E.testBit i <;> cases F.testBit i <;> cases G.testBit i <;> rfl
  · have : E.testBit i = false := Nat.testBit_lt_two_pow (Nat.lt_of_lt_of_le hE (Nat.pow_le_pow_right (by omega) (by omega)))
    simp [hi, this]
/-- most: by or and by exclusive or. -/
theorem most_eq {a b c : Int} (ha : W32 a) (hb : W32 b) (hc : W32 c) :
    bits .or .u64 (bits .or .u64 (bits .and .u64 a b) (bits .and .u64 a c)) (bits .and .u64 b c) = bits .xor .u32 (bits .xor .u32 (bits .and .u32 a b) (bits .and .u32 a c)) (bits .and .u32 b c) ∧ W32 (bits .xor .u32 (bits .xor .u32 (bits .and .u32 a b) (bits .and .u32 a c)) (bits .and .u32 b c)) := by
  have h1 := and_64_32 ha hb
  have h2 := and_64_32 ha hc
  have h3 := and_64_32 hb hc
  have h4 := or_64_32 h1.2 h2.2
  have h5 := or_64_32 h4.2 h3.2
  have x1 := (xor_64_32 h1.2 h2.2).2
  refine ⟨?_, (xor_64_32 x1 h3.2).2⟩
  rw [h1.1, h2.1, h3.1, h4.1, h5.1]
  obtain ⟨A, rfl⟩ := Int.eq_ofNat_of_zero_le ha.1
  obtain ⟨B, rfl⟩ := Int.eq_ofNat_of_zero_le hb.1
  obtain ⟨C, rfl⟩ := Int.eq_ofNat_of_zero_le hc.1
  have ha2 := ha.2
  have hb2 := hb.2
  have hc2 := hc.2
  have a1 : A &&& B < 2 ^ 32 := Nat.and_lt_two_pow _ (by omega)
  have a2 : A &&& C < 2 ^ 32 := Nat.and_lt_two_pow _ (by omega)
  have a3 : B &&& C < 2 ^ 32 := Nat.and_lt_two_pow _ (by omega)
  have a4 : (A &&& B) ||| (A &&& C) < 2 ^ 32 := Nat.or_lt_two_pow a1 a2
  have a5 : (A &&& B) ^^^ (A &&& C) < 2 ^ 32 := Nat.xor_lt_two_pow a1 a2
  rw [u32_and_nat A B (by omega) (by omega), u32_and_nat A C (by omega) (by omega), u32_and_nat B C (by omega) (by omega), u32_or_nat _ _ (by omega) (by omega), u32_or_nat _ _ (by omega) (by omega), u32_xor_nat _ _ (by omega) (by omega), u32_xor_nat _ _ (by omega) (by omega)]
  congr 1
  apply Nat.eq_of_testBit_eq
  intro i
  simp only [Nat.testBit_or, Nat.testBit_and, Nat.testBit_xor]
  cases A.testBit i <;> cases B.testBit i <;> cases C.testBit i <;> rfl
/-- A byte. -/
def B8 (x : Int) : Prop := 0 ≤ x ∧ x < 256
/-- A word of four bytes, by sums. -/
def wordR (l : List Int) : Int := IntKind.wrap .u64 (IntKind.wrap .u64 (IntKind.wrap .u64 (IntKind.wrap .u64 (IntKind.wrap .u64 (IntKind.wrap .u64 (IntKind.wrap .u64 (IntKind.wrap .u64 (0 * 256) + IntKind.wrap .u64 (l.getD 0 0)) * 256) + IntKind.wrap .u64 (l.getD 1 0)) * 256) + IntKind.wrap .u64 (l.getD 2 0)) * 256) + IntKind.wrap .u64 (l.getD 3 0))
theorem wordR_eq (l : List Int) (h : ∀ j, B8 (l.getD j 0)) : wordR l = wordB l ∧ W32 (wordB l) := by
  have h0 := h 0
  have h1 := h 1
  have h2 := h 2
  have h3 := h 3
  unfold wordR wordB sShl
  obtain ⟨A, hA⟩ := Int.eq_ofNat_of_zero_le h0.1
  obtain ⟨B, hB⟩ := Int.eq_ofNat_of_zero_le h1.1
  obtain ⟨C, hC⟩ := Int.eq_ofNat_of_zero_le h2.1
  obtain ⟨D, hD⟩ := Int.eq_ofNat_of_zero_le h3.1
  have k0 := h0.2
  have k1 := h1.2
  have k2 := h2.2
  have k3 := h3.2
  rw [hA] at k0; rw [hB] at k1; rw [hC] at k2; rw [hD] at k3
  rw [hA, hB, hC, hD]
  have m24 : (2 : Int) ^ min (24 : Int).toNat (IntKind.bits .u32) = 16777216 := by decide
  have m16 : (2 : Int) ^ min (16 : Int).toNat (IntKind.bits .u32) = 65536 := by decide
  have m8 : (2 : Int) ^ min (8 : Int).toNat (IntKind.bits .u32) = 256 := by decide
  simp only [m24, m16, m8, wrapU32, wrapU64]
  have e0 : (A : Int) % 4294967296 * 16777216 % 4294967296 = ((2 ^ 24 * A : Nat) : Int) := by omega
  have e1 : (B : Int) % 4294967296 * 65536 % 4294967296 = ((2 ^ 16 * B : Nat) : Int) := by omega
  have e2 : (C : Int) % 4294967296 * 256 % 4294967296 = ((2 ^ 8 * C : Nat) : Int) := by omega
  have e3 : (D : Int) % 4294967296 = (D : Int) := by omega
  rw [e0, e1, e2, e3, u32_or_nat _ _ (by omega) (by omega), ← Nat.two_pow_add_eq_or_of_lt (show 2 ^ 16 * B < 2 ^ 24 by omega)]
  rw [show 2 ^ 24 * A + 2 ^ 16 * B = 2 ^ 16 * (2 ^ 8 * A + B) by omega, u32_or_nat _ _ (by omega) (by omega), ← Nat.two_pow_add_eq_or_of_lt (show 2 ^ 8 * C < 2 ^ 16 by omega)]
  rw [show 2 ^ 16 * (2 ^ 8 * A + B) + 2 ^ 8 * C = 2 ^ 8 * (2 ^ 16 * A + 2 ^ 8 * B + C) by omega, u32_or_nat _ _ (by omega) (by omega), ← Nat.two_pow_add_eq_or_of_lt (show D < 2 ^ 8 by omega)]
  refine ⟨by omega, by omega, by omega⟩
end Go.Proofs.YthhjcpiaoempfaaDoor
