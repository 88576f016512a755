/-
  Numbers modulo 2^255 - 19 in five parts; congruence. No program.
-/
import Derived.Test.YthnpbodkcdbckaaDoorMem
import Derived.Laws.BitsAllLaws
import Derived.IntWalk
namespace Go.Proofs.YthnpbodkcdbckaaDoor
set_option maxRecDepth 100000
open Go.RowKit

/-- 2^255 - 19. -/
def pp : Int := 57896044618658097711785492504343953926634992332820282019728792003956564819949
theorem pp_pos : 0 < pp := by decide +kernel
/-- m and n differ by a multiple of p. -/
def Cong (m n : Int) : Prop := ∃ k, m = n + pp * k
theorem Cong.refl (m : Int) : Cong m m := ⟨0, by omega⟩
theorem Cong.symm {m n : Int} (h : Cong m n) : Cong n m := by
  obtain ⟨k, rfl⟩ := h
  exact ⟨-k, by rw [Int.mul_neg]; omega⟩
theorem Cong.trans {m n o : Int} (h : Cong m n) (g : Cong n o) : Cong m o := by
  obtain ⟨k, rfl⟩ := h
  obtain ⟨l, rfl⟩ := g
  exact ⟨k + l, by rw [Int.mul_add]; omega⟩
theorem Cong.add {m n o q : Int} (h : Cong m n) (g : Cong o q) : Cong (m + o) (n + q) := by
  obtain ⟨k, rfl⟩ := h
  obtain ⟨l, rfl⟩ := g
  exact ⟨k + l, by rw [Int.mul_add]; omega⟩
theorem Cong.sub {m n o q : Int} (h : Cong m n) (g : Cong o q) : Cong (m - o) (n - q) := by
  obtain ⟨k, rfl⟩ := h
  obtain ⟨l, rfl⟩ := g
  exact ⟨k - l, by rw [Int.mul_sub]; omega⟩
theorem Cong.mul {m n o q : Int} (h : Cong m n) (g : Cong o q) : Cong (m * o) (n * q) := by
  obtain ⟨k, rfl⟩ := h
  obtain ⟨l, rfl⟩ := g
  refine ⟨n * l + k * q + pp * k * l, ?_⟩
  simp only [Int.mul_add, Int.add_mul]
  have e1 : n * (pp * l) = pp * (n * l) := by rw [← Int.mul_assoc, Int.mul_comm n pp, Int.mul_assoc]
  have e2 : pp * k * q = pp * (k * q) := Int.mul_assoc _ _ _
  have e3 : pp * k * (pp * l) = pp * (pp * k * l) := by rw [← Int.mul_assoc, Int.mul_comm (pp * k) pp, Int.mul_assoc]
  rw [e1, e2, e3]
  omega
theorem cong_iff (m n : Int) : Cong m n ↔ m % pp = n % pp := by
  constructor
  · rintro ⟨k, rfl⟩
    rw [Int.add_mul_emod_self_left]
  · intro h
    refine ⟨m / pp - n / pp, ?_⟩
    have h1 := Int.mul_ediv_add_emod m pp
    have h2 := Int.mul_ediv_add_emod n pp
    rw [Int.mul_sub]
    omega
theorem Cong.mod (m : Int) : Cong (m % pp) m := (cong_iff _ _).2 (by rw [Int.emod_emod_of_dvd _ (Int.dvd_refl _)])

/-- The number of five parts. -/
def val5 (a0 a1 a2 a3 a4 : Int) : Int := a0 + 2251799813685248 * a1 + 5070602400912917605986812821504 * a2 + 11417981541647679048466287755595961091061972992 * a3 + 25711008708143844408671393477458601640355247900524685364822016 * a4
/-- Five parts as small as an Elem's, whose number is alike n. -/
structure Fits (a0 a1 a2 a3 a4 : Int) (n : Int) : Prop where
  l0 : 0 ≤ a0
  u0 : a0 < 2251799813947392
  l1 : 0 ≤ a1
  u1 : a1 < 2251799813947392
  l2 : 0 ≤ a2
  u2 : a2 < 2251799813947392
  l3 : 0 ≤ a3
  u3 : a3 < 2251799813947392
  l4 : 0 ≤ a4
  u4 : a4 < 2251799813947392
  cong : Cong (val5 a0 a1 a2 a3 a4) n
theorem Fits.to {a0 a1 a2 a3 a4 m n : Int} (h : Fits a0 a1 a2 a3 a4 m) (g : Cong m n) : Fits a0 a1 a2 a3 a4 n := { h with cong := h.cong.trans g }

/-- A call's answer: an Elem alike n. -/
def RetE (n : Int) (w : World) (e : Ending) (w' : World) : Prop :=
  ∃ a0 a1 a2 a3 a4 : Int, Fits a0 a1 a2 a3 a4 n ∧ e = .returned (.agg #[.int .u64 a0, .int .u64 a1, .int .u64 a2, .int .u64 a3, .int .u64 a4]) ∧ Upd (fun _ => False) w w'

theorem and_mask (x : Int) (h0 : 0 ≤ x) (h1 : x < 18446744073709551616) : bits .and .u64 x 2251799813685247 = x % 2251799813685248 := by
  rw [u64_and x 2251799813685247 h0 h1 (by omega) (by omega)]
  have e : x.toNat &&& (2251799813685247 : Int).toNat = x.toNat % 2251799813685248 := Nat.and_two_pow_sub_one_eq_mod x.toNat 51
  rw [e]
  omega
/-- What carried makes of five parts. -/
theorem carried_fits (p0 p1 p2 p3 p4 : Int) (h0 : 0 ≤ p0) (k0 : p0 < 18446744073709551616) (h1 : 0 ≤ p1) (k1 : p1 < 18446744073709551616) (h2 : 0 ≤ p2) (k2 : p2 < 18446744073709551616) (h3 : 0 ≤ p3) (k3 : p3 < 18446744073709551616) (h4 : 0 ≤ p4) (k4 : p4 < 18446744073709551616) :
    Fits (p0 % 2251799813685248 + 19 * (p4 / 2251799813685248)) (p1 % 2251799813685248 + p0 / 2251799813685248) (p2 % 2251799813685248 + p1 / 2251799813685248) (p3 % 2251799813685248 + p2 / 2251799813685248) (p4 % 2251799813685248 + p3 / 2251799813685248) (val5 p0 p1 p2 p3 p4) := by
  constructor
  all_goals try omega
  refine ⟨-(p4 / 2251799813685248), ?_⟩
  unfold val5 pp
  omega
/-- How often p is in it, 19 times. -/
def leastOver (p0 p1 p2 p3 p4 : Int) : Int := (p4 + (p3 + (p2 + (p1 + (p0 + 19) / 2251799813685248) / 2251799813685248) / 2251799813685248) / 2251799813685248) / 2251799813685248 * 19
/-- Five parts of 51 bits each, whose number is n. -/
structure Exact (a0 a1 a2 a3 a4 : Int) (n : Int) : Prop where
  l0 : 0 ≤ a0
  u0 : a0 < 2251799813685248
  l1 : 0 ≤ a1
  u1 : a1 < 2251799813685248
  l2 : 0 ≤ a2
  u2 : a2 < 2251799813685248
  l3 : 0 ≤ a3
  u3 : a3 < 2251799813685248
  l4 : 0 ≤ a4
  u4 : a4 < 2251799813685248
  val : val5 a0 a1 a2 a3 a4 = n
theorem mod_unique {m n : Int} (h : Cong m n) (h0 : 0 ≤ m) (h1 : m < pp) : m = n % pp := by
  rw [← (cong_iff m n).1 h, Int.emod_eq_of_lt h0 h1]
/-- Parts carried upwards: nothing is lost but what goes beyond the highest. -/
theorem chain5 (p0 p1 p2 p3 p4 o : Int) : ∃ r0 r1 r2 r3 r4 c0 c1 c2 c3 c4 : Int, (p0 + o) % 2251799813685248 = r0 ∧ (p0 + o) / 2251799813685248 = c0 ∧ (p1 + c0) % 2251799813685248 = r1 ∧ (p1 + c0) / 2251799813685248 = c1 ∧ (p2 + c1) % 2251799813685248 = r2 ∧ (p2 + c1) / 2251799813685248 = c2 ∧
    (p3 + c2) % 2251799813685248 = r3 ∧ (p3 + c2) / 2251799813685248 = c3 ∧ (p4 + c3) % 2251799813685248 = r4 ∧ (p4 + c3) / 2251799813685248 = c4 ∧
    (0 ≤ r0 ∧ r0 < 2251799813685248) ∧ (0 ≤ r1 ∧ r1 < 2251799813685248) ∧ (0 ≤ r2 ∧ r2 < 2251799813685248) ∧ (0 ≤ r3 ∧ r3 < 2251799813685248) ∧ (0 ≤ r4 ∧ r4 < 2251799813685248) ∧
    val5 r0 r1 r2 r3 r4 + 57896044618658097711785492504343953926634992332820282019728792003956564819968 * c4 = val5 p0 p1 p2 p3 p4 + o := by
  refine ⟨_, _, _, _, _, _, _, _, _, _, rfl, rfl, rfl, rfl, rfl, rfl, rfl, rfl, rfl, rfl, ?_, ?_, ?_, ?_, ?_, ?_⟩
  iterate 5 exact ⟨Int.emod_nonneg _ (by omega), Int.emod_lt_of_pos _ (by omega)⟩
  have e0 := Int.mul_ediv_add_emod (p0 + o) 2251799813685248
  generalize (p0 + o) % 2251799813685248 = r0 at *
  generalize (p0 + o) / 2251799813685248 = c0 at *
  have e1 := Int.mul_ediv_add_emod (p1 + c0) 2251799813685248
  generalize (p1 + c0) % 2251799813685248 = r1 at *
  generalize (p1 + c0) / 2251799813685248 = c1 at *
  have e2 := Int.mul_ediv_add_emod (p2 + c1) 2251799813685248
  generalize (p2 + c1) % 2251799813685248 = r2 at *
  generalize (p2 + c1) / 2251799813685248 = c2 at *
  have e3 := Int.mul_ediv_add_emod (p3 + c2) 2251799813685248
  generalize (p3 + c2) % 2251799813685248 = r3 at *
  generalize (p3 + c2) / 2251799813685248 = c3 at *
  have e4 := Int.mul_ediv_add_emod (p4 + c3) 2251799813685248
  generalize (p4 + c3) % 2251799813685248 = r4 at *
  generalize (p4 + c3) / 2251799813685248 = c4 at *
  unfold val5
  omega
theorem val5_bound {r0 r1 r2 r3 r4 : Int} (h0 : 0 ≤ r0 ∧ r0 < 2251799813685248) (h1 : 0 ≤ r1 ∧ r1 < 2251799813685248) (h2 : 0 ≤ r2 ∧ r2 < 2251799813685248) (h3 : 0 ≤ r3 ∧ r3 < 2251799813685248) (h4 : 0 ≤ r4 ∧ r4 < 2251799813685248) :
    0 ≤ val5 r0 r1 r2 r3 r4 ∧ val5 r0 r1 r2 r3 r4 < 57896044618658097711785492504343953926634992332820282019728792003956564819968 := by
  unfold val5
  omega
theorem Fits.bound {a0 a1 a2 a3 a4 n : Int} (h : Fits a0 a1 a2 a3 a4 n) : 0 ≤ val5 a0 a1 a2 a3 a4 ∧ val5 a0 a1 a2 a3 a4 < 57896044632138071045360812401677461470144807669638854230999078244508369944576 := by
  obtain ⟨h0, k0, h1, k1, h2, k2, h3, k3, h4, k4, hc⟩ := h
  unfold val5
  omega
theorem least_exact (p0 p1 p2 p3 p4 n o : Int) (hf : Fits p0 p1 p2 p3 p4 n) (ho : o = leastOver p0 p1 p2 p3 p4) :
    0 ≤ o ∧ o ≤ 19 ∧ Exact ((p0 + o) % 2251799813685248) ((p1 + (p0 + o) / 2251799813685248) % 2251799813685248) ((p2 + (p1 + (p0 + o) / 2251799813685248) / 2251799813685248) % 2251799813685248) ((p3 + (p2 + (p1 + (p0 + o) / 2251799813685248) / 2251799813685248) / 2251799813685248) % 2251799813685248)
      ((p4 + (p3 + (p2 + (p1 + (p0 + o) / 2251799813685248) / 2251799813685248) / 2251799813685248) / 2251799813685248) % 2251799813685248) (n % pp) := by
  have hb := hf.bound
  have hc := hf.cong
  clear hf
  unfold leastOver at ho
  obtain ⟨s0, s1, s2, s3, s4, t0, t1, t2, t3, t4, f0, g0, f1, g1, f2, g2, f3, g3, f4, g4, b0, b1, b2, b3, b4, hv⟩ := chain5 p0 p1 p2 p3 p4 19
  rw [g0, g1, g2, g3, g4] at ho
  have hs := val5_bound b0 b1 b2 b3 b4
  obtain ⟨r0, r1, r2, r3, r4, c0, c1, c2, c3, c4, f0', g0', f1', g1', f2', g2', f3', g3', f4', g4', b0', b1', b2', b3', b4', hv'⟩ := chain5 p0 p1 p2 p3 p4 o
  have hr := val5_bound b0' b1' b2' b3' b4'
  rw [g0', g1', g2', g3', f0', f1', f2', f3', f4']
  clear f0 g0 f1 g1 f2 g2 f3 g3 f4 g4 f0' g0' f1' g1' f2' g2' f3' g3' f4' g4' b0 b1 b2 b3 b4
  generalize val5 s0 s1 s2 s3 s4 = S at *
  refine ⟨by omega, by omega, ⟨b0'.1, b0'.2, b1'.1, b1'.2, b2'.1, b2'.2, b3'.1, b3'.2, b4'.1, b4'.2, ?_⟩⟩
  generalize val5 r0 r1 r2 r3 r4 = R at *
  generalize val5 p0 p1 p2 p3 p4 = V at *
  have ht : t4 = 0 ∨ t4 = 1 := by omega
  rcases ht with rfl | rfl
  · refine mod_unique (Cong.trans ⟨0, ?_⟩ hc) hr.1 ?_
    · omega
    · unfold pp; omega
  · refine mod_unique (Cong.trans ⟨-1, ?_⟩ hc) hr.1 ?_
    · unfold pp; omega
    · unfold pp; omega
end Go.Proofs.YthnpbodkcdbckaaDoor
