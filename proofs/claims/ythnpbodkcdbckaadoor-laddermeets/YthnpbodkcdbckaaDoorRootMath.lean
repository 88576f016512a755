/-
  In a seat that has field.Invert too: what RefR says is said by RefQ.
-/
/-
  Roots modulo p: what Root tries, and Euler's rule. No program.
-/
import Derived.Test.YthnpbodkcdbckaaDoorRefQ
namespace Go.Proofs.YthnpbodkcdbckaaDoor
set_option maxRecDepth 100000
end Go.Proofs.YthnpbodkcdbckaaDoor
namespace Go.Proofs.YthnpbodkcdbckaaDoor
set_option maxRecDepth 100000

theorem Cong.mod_eq {m n : Int} (h : Cong m n) : m % pp = n % pp := (cong_iff m n).1 h
theorem cong_zero_iff (m : Int) : Cong m 0 ↔ m % pp = 0 := by
  rw [cong_iff]
  rw [show (0 : Int) % pp = 0 by decide]
/-- p is prime: a product is nought just if a factor is. -/
theorem cong_mul_zero {a b : Int} (h : Cong (a * b) 0) : Cong a 0 ∨ Cong b 0 := by
  by_cases ha : a % pp = 0
  · exact Or.inl (cong_zero ha)
  · right
    have h1 := (Cong.refl (a ^ expInv)).mul h
    rw [Int.mul_zero] at h1
    have h2 : a ^ expInv * (a * b) = a * a ^ expInv * b := by rw [← Int.mul_assoc, Int.mul_comm (a ^ expInv) a]
    rw [h2] at h1
    have h3 := (inv_one ha).mul (Cong.refl b)
    rw [Int.one_mul] at h3
    exact h3.symm.trans h1
theorem cong_sq {a b : Int} (h : Cong (a * a) (b * b)) : Cong a b ∨ Cong a (-b) := by
  have h1 : Cong ((a - b) * (a + b)) 0 := by
    have := h.sub (Cong.refl (b * b))
    rw [Int.sub_self] at this
    have e : (a - b) * (a + b) = a * a - b * b := by rw [Int.sub_mul, Int.mul_add, Int.mul_add, Int.mul_comm b a]; omega
    rw [e]; exact this
  rcases cong_mul_zero h1 with h2 | h2
  · left; have := h2.add (Cong.refl b); rw [Int.zero_add, Int.sub_add_cancel] at this; exact this
  · right; have := h2.sub (Cong.refl b); rw [Int.zero_sub, Int.add_sub_cancel] at this; exact this
/-- What Root tries first. -/
def candV (m n : Int) : Int := m * (n * n * n) * (m * (n * n * n * (n * n * n) * n)) ^ expo (fillL 253 15)
/-- A root of -1. -/
def iV : Int := 2 ^ expo (fillL 251 31)
def evenV (z : Int) : Int := if z % pp % 2 = 1 then -z else z
/-- Its square times n. -/
def sqV (m n : Int) : Int := n * candV m n * candV m n
def rootB (m n : Int) : Bool := decide (sqV m n % pp = m % pp) || decide (sqV m n % pp = -m % pp)
def rootV (m n : Int) : Int := if sqV m n % pp = m % pp then evenV (candV m n) else if sqV m n % pp = -m % pp then evenV (candV m n * iV) else 0
theorem e8 : expo (fillL 253 15) * 8 + 5 = (pp).toNat := by decide +kernel
theorem e4 : expo (fillL 251 31) * 4 + 1 = (pp).toNat := by decide +kernel
theorem e2 : (pp / 2).toNat * 2 + 1 = (pp).toNat := by decide +kernel
theorem eInv : expInv + 2 = (pp).toNat := by rw [expInv_eq]; decide +kernel
theorem iV_sq : Cong (iV * iV) (-1) := by
  have h : 2 ^ (pp / 2).toNat % pp.toNat = (pp.toNat - 1) % pp.toNat := pm_pow (f := 255) (by decide +kernel) (by decide +kernel)
  have e : iV * iV = ((2 ^ (pp / 2).toNat : Nat) : Int) := by
    unfold iV
    have e3 : expo (fillL 251 31) + expo (fillL 251 31) = (pp / 2).toNat := by
      have h1 := e4
      have h2 := e2
      omega
    rw [← Int.pow_add, e3, Int.natCast_pow]
    rfl
  rw [e, cong_iff]
  have h2 : ((2 ^ (pp / 2).toNat % pp.toNat : Nat) : Int) = (((pp.toNat - 1) % pp.toNat : Nat) : Int) := by rw [h]
  rw [Int.natCast_emod] at h2
  rw [show ((pp.toNat : Nat) : Int) = pp by decide +kernel] at h2
  rw [h2]
  decide +kernel
/-- Fermat: to the power p - 1. -/
theorem cong_full {m : Int} (h : m % pp ≠ 0) {k : Nat} (hk : k + 1 = pp.toNat) : Cong (m ^ k) 1 := by
  have h1 := inv_one h
  have e : k = expInv + 1 := by have := eInv; omega
  rw [e, Int.pow_succ, Int.mul_comm]
  exact h1
/-- s: the square is m times a fourth root of one. -/
def sV (m n : Int) : Int := (m * (n * n * n * (n * n * n) * n)) ^ expo (fillL 251 31)
theorem sqV_eq (m n : Int) : sqV m n = m * sV m n := by
  have e : expo (fillL 251 31) = expo (fillL 253 15) * 2 + 1 := by have h1 := e8; have h2 := e4; omega
  unfold sqV sV candV
  rw [e, Int.pow_succ, Int.pow_mul]
  rw [show ∀ z : Int, z ^ 2 = z * z from fun z => by rw [Int.pow_succ, Int.pow_succ, Int.pow_zero, Int.one_mul]]
  generalize (m * (n * n * n * (n * n * n) * n)) ^ expo (fillL 253 15) = t
  grind
theorem sV_sq (m n : Int) (hn : n % pp ≠ 0) : Cong (sV m n * sV m n) ((m * n ^ expInv) ^ (pp / 2).toNat) := by
  have e : expo (fillL 251 31) + expo (fillL 251 31) = (pp / 2).toNat := by have h1 := e2; have h2 := e4; omega
  have e1 : sV m n * sV m n = (m * (n * n * n * (n * n * n) * n)) ^ (pp / 2).toNat := by
    unfold sV
    rw [← Int.pow_add, e]
  rw [e1]
  have h8 : Cong (m * (n * n * n * (n * n * n) * n)) (m * n ^ expInv * ((n * n * n * n) * (n * n * n * n))) := by
    have h1 := inv_one hn
    have h2 := (Cong.refl (m * (n * n * n * (n * n * n) * n))).mul h1
    rw [Int.mul_one] at h2
    refine h2.symm.trans ?_
    have : m * (n * n * n * (n * n * n) * n) * (n * n ^ expInv) = m * n ^ expInv * ((n * n * n * n) * (n * n * n * n)) := by
      generalize n ^ expInv = q
      grind
    rw [this]
    exact Cong.refl _
  refine (h8.pow _).trans ?_
  rw [Int.mul_pow]
  have h4 : (n * n * n * n) % pp ≠ 0 := fun h => by
    rcases cong_mul_zero (cong_zero h) with h1 | h1
    · rcases cong_mul_zero h1 with h1 | h1
      · rcases cong_mul_zero h1 with h1 | h1
        · exact hn ((cong_zero_iff n).1 h1)
        · exact hn ((cong_zero_iff n).1 h1)
      · exact hn ((cong_zero_iff n).1 h1)
    · exact hn ((cong_zero_iff n).1 h1)
  have h5 : Cong (((n * n * n * n) * (n * n * n * n)) ^ (pp / 2).toNat) 1 := by
    have e3 : ((n * n * n * n) * (n * n * n * n)) ^ (pp / 2).toNat = (n * n * n * n) ^ ((pp / 2).toNat * 2) := by
      rw [Nat.mul_comm, Int.pow_mul]
      congr 1
      rw [Int.pow_succ, Int.pow_succ, Int.pow_zero, Int.one_mul]
    rw [e3]
    exact cong_full h4 e2
  have := (Cong.refl ((m * n ^ expInv) ^ (pp / 2).toNat)).mul h5
  rw [Int.mul_one] at this
  exact this
theorem euler_sq (t : Int) (h : t % pp ≠ 0) : Cong (t ^ (pp / 2).toNat) 1 ∨ Cong (t ^ (pp / 2).toNat) (-1) := by
  apply cong_sq
  rw [← Int.pow_add, Int.mul_one]
  exact cong_full h (by have := e2; omega)
/-- Euler's rule, as the reference has it. -/
def eulerB (t : Int) : Bool := decide (t ^ (pp / 2).toNat % pp = 0) || decide (t ^ (pp / 2).toNat % pp = 1)
theorem pow_zero_cong {m : Int} (h : m % pp = 0) {k : Nat} (hk : 0 < k) : Cong (m ^ k) 0 := by
  have h1 := (cong_zero h).pow k
  rw [Int.zero_pow (by omega)] at h1
  exact h1
theorem not_cong_neg {m : Int} (h : m % pp ≠ 0) : ¬ Cong m (-m) := fun hc => by
  have h1 := hc.add (Cong.refl m)
  rw [Int.add_left_neg] at h1
  have h2 : Cong (2 * m) 0 := by rw [show 2 * m = m + m by omega]; exact h1
  rcases cong_mul_zero h2 with h3 | h3
  · exact absurd ((cong_zero_iff 2).1 h3) (by decide)
  · exact h ((cong_zero_iff m).1 h3)
theorem mod_neg_iff (m n : Int) : m % pp = -n % pp ↔ Cong m (-n) := (cong_iff m (-n)).symm
/-- There is a root just if Euler's rule says so. -/
theorem rootB_euler (m n : Int) (hn : n % pp ≠ 0) : rootB m n = eulerB (m * n ^ expInv) := by
  by_cases hm : m % pp = 0
  · have h1 : Cong (sqV m n) m := by
      rw [sqV_eq]
      have := (cong_zero hm).mul (Cong.refl (sV m n))
      rw [Int.zero_mul] at this
      exact this.trans (cong_zero hm).symm
    have h2 : Cong ((m * n ^ expInv) ^ (pp / 2).toNat) 0 := by
      have h3 := (cong_zero hm).mul (Cong.refl (n ^ expInv))
      rw [Int.zero_mul] at h3
      exact pow_zero_cong ((cong_zero_iff _).1 h3) (by decide +kernel)
    unfold rootB eulerB
    rw [h1.mod_eq, (cong_zero_iff _).1 h2]
    simp
  · have hs2 := sV_sq m n hn
    have ht : (m * n ^ expInv) % pp ≠ 0 := fun h => by
      rcases cong_mul_zero (cong_zero h) with h1 | h1
      · exact hm ((cong_zero_iff m).1 h1)
      · have h3 := (Cong.refl n).mul h1
        rw [Int.mul_zero] at h3
        have h4 := (inv_one hn).symm.trans h3
        exact absurd ((cong_zero_iff 1).1 h4) (by decide)
    have hz : ¬ (m * n ^ expInv) ^ (pp / 2).toNat % pp = 0 := fun h => by
      rcases euler_sq _ ht with h1 | h1
      · rw [h1.mod_eq] at h; exact absurd h (by decide)
      · rw [h1.mod_eq] at h; exact absurd h (by decide)
    rcases euler_sq _ ht with he | he
    · have hs : Cong (sV m n * sV m n) (1 * 1) := by rw [Int.one_mul]; exact hs2.trans he
      have hr : eulerB (m * n ^ expInv) = true := by
        unfold eulerB
        rw [he.mod_eq]
        decide
      rw [hr]
      unfold rootB
      rw [sqV_eq]
      rcases cong_sq hs with h1 | h1
      · have := (Cong.refl m).mul h1
        rw [Int.mul_one] at this
        simp [this.mod_eq]
      · have := (Cong.refl m).mul h1
        rw [Int.mul_neg, Int.mul_one] at this
        simp [this.mod_eq]
    · have hr : eulerB (m * n ^ expInv) = false := by
        unfold eulerB
        rw [he.mod_eq]
        decide
      rw [hr]
      have hb : ∀ c : Int, Cong (c * c) 1 → ¬ Cong (m * sV m n) (m * c) := fun c hc h => by
        have h1 : Cong (m * (sV m n - c)) 0 := by
          have := h.sub (Cong.refl (m * c))
          rw [Int.sub_self, ← Int.mul_sub] at this
          exact this
        rcases cong_mul_zero h1 with h2 | h2
        · exact hm ((cong_zero_iff m).1 h2)
        · have h3 : Cong (sV m n) c := by have := h2.add (Cong.refl c); rw [Int.zero_add, Int.sub_add_cancel] at this; exact this
          have h4 := (h3.mul h3).trans hc
          have h5 := (hs2.trans he).symm.trans h4
          exact absurd h5.mod_eq (by decide)
      unfold rootB
      rw [sqV_eq, Bool.or_eq_false_iff]
      refine ⟨decide_eq_false fun h => ?_, decide_eq_false fun h => ?_⟩
      · refine hb 1 (Cong.refl _) ?_
        rw [Int.mul_one]
        exact (cong_iff _ _).2 h
      · refine hb (-1) (Cong.refl _) ?_
        rw [Int.mul_neg, Int.mul_one]
        exact (cong_iff _ _).2 h
theorem neg_mod (z : Int) (h : z % pp ≠ 0) : -z % pp = pp - z % pp := by
  have h0 := Int.emod_nonneg z (b := pp) (by decide)
  have h1 := Int.emod_lt_of_pos z pp_pos
  have e := Int.mul_ediv_add_emod z pp
  have : -z = (pp - z % pp) + pp * (-(z / pp) - 1) := by rw [Int.mul_sub, Int.mul_neg]; omega
  rw [this, Int.add_mul_emod_self_left]
  exact Int.emod_eq_of_lt (by omega) (by omega)
theorem evenV_even (z : Int) : evenV z % pp % 2 ≠ 1 := by
  unfold evenV
  split
  · next h =>
    have hz : z % pp ≠ 0 := fun h2 => by rw [h2] at h; omega
    rw [neg_mod z hz]
    have : pp % 2 = 1 := by decide
    omega
  · next h => exact h
theorem evenV_sq (z : Int) : evenV z * evenV z = z * z := by
  unfold evenV
  split
  · rw [Int.neg_mul_neg]
  · rfl
/-- What is found is a root. -/
theorem rootV_root (m n : Int) (h : rootB m n = true) : Cong (rootV m n * rootV m n * n) m := by
  unfold rootB at h
  unfold rootV
  split
  · next h1 =>
    rw [evenV_sq]
    have : candV m n * candV m n * n = sqV m n := by unfold sqV; generalize candV m n = c; grind
    rw [this]
    exact (cong_iff _ _).2 h1
  · next h1 =>
    rw [decide_eq_false h1, Bool.false_or, decide_eq_true_iff] at h
    rw [if_pos h, evenV_sq]
    have : candV m n * iV * (candV m n * iV) * n = sqV m n * (iV * iV) := by unfold sqV; generalize candV m n = c; generalize iV = i; grind
    rw [this]
    have h2 := ((cong_iff _ _).2 h).mul iV_sq
    rw [Int.neg_mul_neg, Int.mul_one] at h2
    exact h2
theorem rootV_even (m n : Int) : rootV m n % pp % 2 ≠ 1 := by
  unfold rootV
  split
  · exact evenV_even _
  · split
    · exact evenV_even _
    · decide
theorem rootV_none (m n : Int) (h : rootB m n = false) : rootV m n = 0 := by
  unfold rootB at h
  rw [Bool.or_eq_false_iff, decide_eq_false_iff_not, decide_eq_false_iff_not] at h
  unfold rootV
  rw [if_neg h.1, if_neg h.2]
/-- Nothing times n is m but for nought, if n is nought. -/
theorem root_zero (m n : Int) (hn : n % pp = 0) : rootB m n = decide (m % pp = 0) ∧ rootV m n % pp = 0 := by
  have hc : Cong (candV m n) 0 := by
    unfold candV
    have h1 : Cong (n * n * n) 0 := by
      have := ((cong_zero hn).mul (cong_zero hn)).mul (cong_zero hn)
      simpa using this
    have := ((Cong.refl m).mul h1).mul (Cong.refl ((m * (n * n * n * (n * n * n) * n)) ^ expo (fillL 253 15)))
    rw [Int.mul_zero, Int.zero_mul] at this
    exact this
  have hs : sqV m n % pp = 0 := by
    unfold sqV
    have := ((cong_zero hn).mul hc).mul hc
    simp only [Int.mul_zero] at this
    exact (cong_zero_iff _).1 this
  have hm : (-m % pp = 0) ↔ (m % pp = 0) := by
    constructor
    · intro h
      by_cases hz : m % pp = 0
      · exact hz
      · rw [neg_mod m hz] at h
        have := Int.emod_lt_of_pos m pp_pos
        omega
    · intro h
      have h2 := (Cong.refl 0).sub (cong_zero h)
      rw [Int.zero_sub, Int.sub_zero] at h2
      exact (cong_zero_iff _).1 h2
  have hev : ∀ z, Cong z 0 → evenV z % pp = 0 := fun z hz => by
    unfold evenV
    rw [(cong_zero_iff z).1 hz, if_neg (by omega)]
    exact (cong_zero_iff z).1 hz
  constructor
  · unfold rootB
    rw [hs]
    by_cases h : m % pp = 0
    · simp [h]
    · have h2 : ¬ (-m % pp = 0) := fun g => h (hm.1 g)
      rw [decide_eq_false (fun g : (0 : Int) = m % pp => h g.symm), decide_eq_false (fun g : (0 : Int) = -m % pp => h2 g.symm), decide_eq_false h]
      rfl
  · unfold rootV
    split
    · exact hev _ hc
    · split
      · refine hev _ ?_
        have := hc.mul (Cong.refl iV)
        rw [Int.zero_mul] at this
        exact this
      · decide
end Go.Proofs.YthnpbodkcdbckaaDoor
