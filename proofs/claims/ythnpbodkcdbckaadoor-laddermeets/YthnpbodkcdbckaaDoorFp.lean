/-
  The field of 2^255 - 19 elements: numbers that are alike are one there. No program.
-/
import Derived.Test.YthnpbodkcdbckaaDoorRootMath
namespace Go.Proofs.YthnpbodkcdbckaaDoor
set_option maxRecDepth 100000

/-- The field of 2^255 - 19 elements. -/
abbrev PN : Nat := 57896044618658097711785492504343953926634992332820282019728792003956564819949
abbrev Fp := Fin PN
theorem pp_nat : pp = ((PN : Nat) : Int) := by decide +kernel
theorem pn_nat : pp.toNat = PN := by decide +kernel
/-- The number of an integer in the field. -/
def fv (n : Int) : Fp := ⟨(n % pp).toNat, by
  have h0 := Int.emod_nonneg n (b := pp) (by decide +kernel)
  have h1 := Int.emod_lt_of_pos n pp_pos
  have := pp_nat
  omega⟩
theorem fv_val (n : Int) : ((fv n).val : Int) = n % pp := by
  have h0 := Int.emod_nonneg n (b := pp) (by decide +kernel)
  show (((n % pp).toNat : Nat) : Int) = _
  omega
theorem fv_cong (m n : Int) : fv m = fv n ↔ Cong m n := by
  rw [cong_iff]
  constructor
  · intro h
    rw [← fv_val, ← fv_val, h]
  · intro h
    apply Fin.ext
    have h1 := fv_val m
    have h2 := fv_val n
    omega
theorem Cong.fv {m n : Int} (h : Cong m n) : fv m = fv n := (fv_cong m n).2 h
theorem val_fv (x : Fp) : fv (x.val : Int) = x := by
  apply Fin.ext
  have h := fv_val (x.val : Int)
  have hx := x.isLt
  have e : (x.val : Int) % pp = x.val := Int.emod_eq_of_lt (by omega) (by rw [pp_nat]; omega)
  omega
theorem val_cong (n : Int) : Cong ((fv n).val : Int) n := (fv_cong _ _).1 (val_fv _)
theorem fv_add (m n : Int) : fv (m + n) = fv m + fv n := by
  rw [← val_fv (fv m + fv n), fv_cong, Fin.val_add, Int.natCast_emod, ← pp_nat, Int.natCast_add]
  exact Cong.trans ((val_cong m).symm.add (val_cong n).symm) (Cong.mod _).symm
theorem fv_mul (m n : Int) : fv (m * n) = fv m * fv n := by
  rw [← val_fv (fv m * fv n), fv_cong, Fin.val_mul, Int.natCast_emod, ← pp_nat, Int.natCast_mul]
  exact Cong.trans ((val_cong m).symm.mul (val_cong n).symm) (Cong.mod _).symm
theorem fv_sub (m n : Int) : fv (m - n) = fv m - fv n := by
  have h : fv (m - n) + fv n = fv m := by rw [← fv_add, Int.sub_add_cancel]
  rw [← h]
  grobner
theorem fv_zero : fv 0 = 0 := by decide +kernel
theorem fv_one : fv 1 = 1 := by decide +kernel
theorem fv_neg (m : Int) : fv (-m) = -fv m := by
  rw [← Int.zero_sub, fv_sub, fv_zero]
  grobner
theorem one_ne_zero' : (1 : Fp) ≠ 0 := by decide +kernel
theorem fv_eq_zero (m : Int) : fv m = 0 ↔ m % pp = 0 := by
  rw [← fv_zero, fv_cong, cong_zero_iff]
theorem fmul_zero {x y : Fp} (h : x * y = 0) : x = 0 ∨ y = 0 := by
  rw [← val_fv x, ← val_fv y, ← fv_mul, ← fv_zero, fv_cong] at h
  rcases cong_mul_zero h with h1 | h1
  · left; rw [← val_fv x, ← fv_zero]; exact h1.fv
  · right; rw [← val_fv y, ← fv_zero]; exact h1.fv
theorem fmul_ne {x y : Fp} (hx : x ≠ 0) (hy : y ≠ 0) : x * y ≠ 0 := fun h => (fmul_zero h).elim hx hy
theorem fcancel {x y z : Fp} (hz : z ≠ 0) (h : x * z = y * z) : x = y := by
  have h1 : (x - y) * z = 0 := by grobner
  rcases fmul_zero h1 with h2 | h2
  · grobner
  · exact absurd h2 hz
/-- One divided by a number; of nought nought. -/
def finv (x : Fp) : Fp := fv ((x.val : Int) ^ expInv)
theorem fv_inv (m : Int) : fv (m ^ expInv) = finv (fv m) := ((val_cong m).symm.pow expInv).fv
theorem finv_mul {x : Fp} (h : x ≠ 0) : x * finv x = 1 := by
  have h1 : (x.val : Int) % pp ≠ 0 := fun e => h (by rw [← val_fv x, (fv_eq_zero _).2 e])
  have h2 := (inv_one h1).fv
  rw [fv_mul, fv_one, val_fv] at h2
  exact h2
theorem expInv_pos : 0 < expInv := by
  have h := eInv
  have h2 : 2 < pp.toNat := by decide +kernel
  omega
theorem finv_zero : finv 0 = 0 := by
  unfold finv
  rw [show (((0 : Fp).val : Nat) : Int) = 0 by decide +kernel, Int.zero_pow (by have := expInv_pos; omega), fv_zero]
theorem finv_ne {x : Fp} (h : x ≠ 0) : finv x ≠ 0 := fun e => by
  have h1 := finv_mul h
  rw [e] at h1
  exact one_ne_zero' (by rw [← h1]; grobner)
theorem finv_eq {x y : Fp} (h : x * y = 1) : finv x = y := by
  have hx : x ≠ 0 := fun e => one_ne_zero' (by rw [← h, e]; grobner)
  have h1 := finv_mul hx
  grobner
theorem fsq_zero {x : Fp} (h : x * x = 0) : x = 0 := (fmul_zero h).elim id id
theorem two_ne : (2 : Fp) ≠ 0 := by decide +kernel
theorem neg_ne {x : Fp} (h : x ≠ 0) : -x ≠ 0 := fun e => h (by grobner)
theorem fself_neg {x : Fp} (h : x = -x) : x = 0 := by
  have h1 : 2 * x = 0 := by grobner
  exact (fmul_zero h1).elim (fun e => absurd e two_ne) id
/-- A square. -/
def Sq (x : Fp) : Prop := ∃ y : Fp, y * y = x
theorem half_lt : (pp / 2).toNat < 2 ^ 255 := by decide +kernel
/-- Not a square, by Euler's rule. -/
theorem nonsq_of_pm (c : Nat) (h : pm PN 255 c (pp / 2).toNat 1 = PN - 1) : ¬ Sq (fv (c : Int)) := by
  rintro ⟨y, hy⟩
  have h1 := pm_pow half_lt h
  rw [← val_fv y, ← fv_mul, fv_cong] at hy
  have h3 : ((c ^ (pp / 2).toNat % PN : Nat) : Int) = (((PN - 1) % PN : Nat) : Int) := by rw [h1]
  rw [Int.natCast_emod, Int.natCast_pow, ← pp_nat] at h3
  have h4 : Cong (((c : Int)) ^ (pp / 2).toNat) (-1) := by
    rw [cong_iff, h3]
    decide +kernel
  have h5 := (hy.pow (pp / 2).toNat).trans h4
  have h6 : ((y.val : Int) * (y.val : Int)) ^ (pp / 2).toNat = (y.val : Int) ^ ((pp / 2).toNat * 2) := by
    rw [Nat.mul_comm, Int.pow_mul]
    congr 1
    rw [Int.pow_succ, Int.pow_succ, Int.pow_zero, Int.one_mul]
  rw [h6] at h5
  by_cases hz : (y.val : Int) % pp = 0
  · have h7 : Cong ((y.val : Int) ^ ((pp / 2).toNat * 2)) 0 := by
      have h8 := ((cong_zero_iff _).2 hz).pow ((pp / 2).toNat * 2)
      rw [Int.zero_pow (by decide +kernel)] at h8
      exact h8
    exact absurd ((cong_iff _ _).1 (h7.symm.trans h5)) (by decide +kernel)
  · exact absurd ((cong_iff _ _).1 ((cong_full hz e2).symm.trans h5)) (by decide +kernel)
theorem one_mod : (1 : Int) % pp ≠ 0 := by decide +kernel
theorem sq_of_euler (m : Int) (h : Cong (m ^ (pp / 2).toNat) 1) : Sq (fv m) := by
  have h1 : rootB m 1 = true := by
    rw [rootB_euler m 1 one_mod, Int.one_pow, Int.mul_one]
    unfold eulerB
    rw [(cong_iff _ _).1 h]
    decide +kernel
  have h2 := (rootV_root m 1 h1).fv
  rw [Int.mul_one, fv_mul] at h2
  exact ⟨_, h2⟩
/-- Of a number that is no square twice it is one. -/
theorem sq_twice (t : Fp) (h : ¬ Sq t) : Sq (2 * t) := by
  have hz : (t.val : Int) % pp ≠ 0 := fun e => h ⟨0, by rw [← val_fv t, (fv_eq_zero _).2 e]; grobner⟩
  have h2 : Cong ((2 : Int) ^ (pp / 2).toNat) (-1) := by
    have h1 : 2 ^ (pp / 2).toNat % PN = (PN - 1) % PN := pm_pow half_lt (by decide +kernel)
    have h3 : ((2 ^ (pp / 2).toNat % PN : Nat) : Int) = (((PN - 1) % PN : Nat) : Int) := by rw [h1]
    rw [Int.natCast_emod, Int.natCast_pow, ← pp_nat] at h3
    rw [cong_iff]
    exact h3.trans (by decide +kernel)
  rcases euler_sq _ hz with he | he
  · exact absurd (by have := sq_of_euler _ he; rw [val_fv] at this; exact this) h
  · have h4 : Cong ((2 * (t.val : Int)) ^ (pp / 2).toNat) 1 := by
      rw [Int.mul_pow]
      exact h2.mul he
    have h5 := sq_of_euler _ h4
    rw [fv_mul, val_fv, show fv 2 = 2 by decide +kernel] at h5
    exact h5
end Go.Proofs.YthnpbodkcdbckaaDoor
