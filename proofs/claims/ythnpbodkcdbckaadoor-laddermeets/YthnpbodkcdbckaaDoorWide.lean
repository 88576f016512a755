/-
  Walks of bits.Mul64, of plus and of cut.
-/
import Derived.Test.YthnpbodkcdbckaaDoorLeaf
import Derived.Laws.Externs
import Derived.BigQuiet
import Derived.Deep.QuietTactic
namespace Go.Proofs.YthnpbodkcdbckaaDoor
set_option maxRecDepth 100000
open Go.RowKit

theorem mask32_nat (a : Nat) (ha : a < 18446744073709551616) : bits .and .u64 (a : Int) 4294967295 = ((a % 4294967296 : Nat) : Int) := by
  have h := u64_and_nat a 4294967295 ha (by omega)
  rw [show a &&& 4294967295 = a % 4294967296 from Nat.and_two_pow_sub_one_eq_mod a 32] at h
  exact h
theorem wrap_nat (a : Nat) : IntKind.u64.wrap (a : Int) = ((a % 18446744073709551616 : Nat) : Int) := by rw [IntKind.wrap_u64]; omega
theorem wrap_nat_lt (a : Nat) (ha : a < 18446744073709551616) : IntKind.u64.wrap (a : Int) = (a : Int) := by rw [wrap_nat, Nat.mod_eq_of_lt ha]
theorem div32_nat (a : Nat) : (a : Int) / 4294967296 = ((a / 4294967296 : Nat) : Int) := by omega

set_option maxHeartbeats 1000000 in
theorem mul64_nat (x y : Nat) (hx : x < 18446744073709551616) (hy : y < 18446744073709551616) (w : World) :
    Calls Tryd.prog 97 #[.int .u64 x, .int .u64 y] w fun e w' => e = .returned (.tuple #[.int .u64 ((x * y / 18446744073709551616 : Nat) : Int), .int .u64 ((x * y % 18446744073709551616 : Nat) : Int)]) ∧ w = w' := by
  obtain ⟨b1, b2, b3, hhi⟩ := Lib.mul64_hi x y hx hy
  have c1 := Lib.half_mul_le (a := x / 4294967296) (b := y / 4294967296) (by omega) (by omega)
  have c2 := Lib.half_mul_le (a := x / 4294967296) (b := y % 4294967296) (by omega) (by omega)
  have c3 := Lib.half_mul_le (a := x % 4294967296) (b := y / 4294967296) (by omega) (by omega)
  have d1 : x / 4294967296 * (y / 4294967296) < 18446744073709551616 := by omega
  have d2 : x / 4294967296 * (y % 4294967296) < 18446744073709551616 := by omega
  have d3 : x % 4294967296 * (y / 4294967296) < 18446744073709551616 := by omega
  have Hhi := Lib.hid hhi
  have e1 : x / 4294967296 * (y / 4294967296) + (x / 4294967296 * (y % 4294967296) + x % 4294967296 * (y % 4294967296) / 4294967296) / 4294967296 < 18446744073709551616 := by omega
  have e2 : x / 4294967296 * (y / 4294967296) + (x / 4294967296 * (y % 4294967296) + x % 4294967296 * (y % 4294967296) / 4294967296) / 4294967296 + ((x / 4294967296 * (y % 4294967296) + x % 4294967296 * (y % 4294967296) / 4294967296) % 4294967296 + x % 4294967296 * (y / 4294967296)) / 4294967296 < 18446744073709551616 := by omega
  clear hhi
  go_enter Tryd.func97, Tryd.ntmps97
  go_wp2
  simp only [mask32_nat x hx, mask32_nat y hy, div32_nat, ← Int.natCast_mul, ← Int.natCast_add, wrap_nat_lt _ b1, wrap_nat_lt _ d2, wrap_nat_lt _ b2, mask32_nat _ b2, wrap_nat_lt _ d3, wrap_nat_lt _ b3, wrap_nat_lt _ d1, wrap_nat_lt _ e1, wrap_nat_lt _ e2, wrap_nat (x * y)]
  rw [Hhi.out]
  go_ret2
  exact ⟨rfl, rfl⟩
theorem mul64_any (x y : Int) (hx0 : 0 ≤ x) (hx : x < 18446744073709551616) (hy0 : 0 ≤ y) (hy : y < 18446744073709551616) (w : World) :
    Calls Tryd.prog 97 #[.int .u64 x, .int .u64 y] w fun e w' => e = .returned (.tuple #[.int .u64 (x * y / 18446744073709551616), .int .u64 (x * y % 18446744073709551616)]) ∧ w = w' := by
  obtain ⟨m, rfl⟩ := Int.eq_ofNat_of_zero_le hx0
  obtain ⟨n, rfl⟩ := Int.eq_ofNat_of_zero_le hy0
  refine (mul64_nat m n (by omega) (by omega) w).mono ?_
  rintro e w' ⟨rfl, rfl⟩
  refine ⟨?_, rfl⟩
  rw [Int.natCast_emod, Int.natCast_ediv, Int.natCast_mul]
  rfl
theorem add64_run (x y c : Int) (hx : 0 ≤ x) (hy : 0 ≤ y) (hc0 : 0 ≤ c) (hc : c ≤ 1) (w : World) :
    (callFunc 98 #[.int .u64 x, .int .u64 y, .int .u64 c]).run Tryd.prog w = .ok (.value (.tuple #[.int .u64 ((x + y + c) % 18446744073709551616), .int .u64 ((x + y + c) / 18446744073709551616)])) w := by
  rw [run_callFunc_extern Tryd.func98 (by kernel_rfl) (by kernel_rfl) (by kernel_rfl) (e := add64Entry) (by kernel_rfl), run_add64 x y c hx hy hc0 hc]
  simp only [Result.andThen]

/-- A number of two words. -/
def RetW (t : Int) (w : World) (e : Ending) (w' : World) : Prop :=
  ∃ hi lo : Int, 0 ≤ hi ∧ 0 ≤ lo ∧ lo < 18446744073709551616 ∧ hi * 18446744073709551616 + lo = t ∧ e = .returned (.agg #[.int .u64 hi, .int .u64 lo]) ∧ Upd (fun _ => False) w w'

set_option maxHeartbeats 1000000 in
theorem plus_any (hi lo x y t : Int) (w : World) (h0 : 0 ≤ hi) (h1 : 0 ≤ lo) (h2 : lo < 18446744073709551616) (ht : hi * 18446744073709551616 + lo = t) (x0 : 0 ≤ x) (x1 : x < 18446744073709551616) (y0 : 0 ≤ y) (y1 : y < 18446744073709551616)
    (hb : t + x * y < 340282366920938463463374607431768211456) :
    Calls Tryd.prog 78 #[.agg #[.int .u64 hi, .int .u64 lo], .int .u64 x, .int .u64 y] w (RetW (t + x * y) w) := by
  have hxy : 0 ≤ x * y := Int.mul_nonneg x0 y0
  have Ht := Lib.hid ht
  have Hb := Lib.hid hb
  have hd := Int.mul_ediv_add_emod (x * y) 18446744073709551616
  have hd0 := Int.emod_nonneg (x * y) (b := 18446744073709551616) (by omega)
  have hd1 := Int.emod_lt_of_pos (x * y) (b := 18446744073709551616) (by omega)
  have hd2 : 0 ≤ x * y / 18446744073709551616 := by omega
  have Hd := Lib.hid hd
  clear ht hb hd
  go_enter Tryd.func78, Tryd.ntmps78
  go_wp2_with fail
  refine (mul64_any x y x0 x1 y0 y1 _).mono ?_
  rintro e w' ⟨rfl, rfl⟩
  generalize x * y % 18446744073709551616 = l at *
  generalize x * y / 18446744073709551616 = h at *
  generalize x * y = z at *
  have a64 := fun w => add64_run lo l 0 h1 hd0 (by omega) (by omega) w
  rw [Int.add_zero] at a64
  have f1 : hi + h < 18446744073709551616 := by have := Ht.out; have := Hd.out; have := Hb.out; omega
  have f2 : hi + h + (lo + l) / 18446744073709551616 < 18446744073709551616 := by have := Ht.out; have := Hd.out; have := Hb.out; omega
  go_wp2
  refine bodyPost_ret (v := .agg #[.int .u64 (hi + h + (lo + l) / 18446744073709551616), .int .u64 ((lo + l) % 18446744073709551616)]) (by simp [results, Tryd.results78, go_sem]) rfl ⟨_, _, ?_, ?_, ?_, ?_, rfl, (((Upd.refl _ w).alloc _).alloc _)⟩
  all_goals (have := Ht.out; have := Hd.out; have := Hb.out; omega)

theorem or_join (k : Nat) (m a b : Int) (hm : m = 2 ^ k) (ha0 : 0 ≤ a) (ha : a < m) (hb0 : 0 ≤ b) (hb : m * b < 18446744073709551616) (ham : a < 18446744073709551616) : bits .or .u64 (m * b) a = m * b + a := by
  obtain ⟨x, rfl⟩ := Int.eq_ofNat_of_zero_le ha0
  obtain ⟨y, rfl⟩ := Int.eq_ofNat_of_zero_le hb0
  have hm' : m = ((2 ^ k : Nat) : Int) := by rw [hm]; simp
  subst hm'
  have hx : x < 2 ^ k := by omega
  have e1 : ((2 ^ k : Nat) : Int) * (y : Int) = ((2 ^ k * y : Nat) : Int) := by simp
  rw [e1] at hb ⊢
  rw [u64_or_nat _ _ (by omega) (by omega), ← Nat.two_pow_add_eq_or_of_lt hx]
  simp

theorem ret_pair {k l : IntKind} {a b c d : Int} (h : a = b) (g : c = d) : Ending.returned (.tuple #[.int k a, .int l c]) = .returned (.tuple #[.int k b, .int l d]) := by rw [h, g]
/-- The lowest 51 bits of t, and the rest. -/
def RetCut (t : Int) (w : World) (e : Ending) (w' : World) : Prop :=
  e = .returned (.tuple #[.int .u64 (t % 2251799813685248), .int .u64 (t / 2251799813685248)]) ∧ Upd (fun _ => False) w w'

set_option maxHeartbeats 1000000 in
theorem cut_any (hi lo o t : Int) (w : World) (h0 : 0 ≤ hi) (h1 : 0 ≤ lo) (h2 : lo < 18446744073709551616) (ht : hi * 18446744073709551616 + lo = t) (o0 : 0 ≤ o) (o1 : o < 18446744073709551616)
    (hb : t + o < 41538374868278621028243970633760768) :
    Calls Tryd.prog 79 #[.agg #[.int .u64 hi, .int .u64 lo], .int .u64 o] w (RetCut (t + o) w) := by
  have Ht := Lib.hid ht
  have f1 : hi + (lo + o) / 18446744073709551616 < 2251799813685248 := by omega
  have m0 := and_mask ((lo + o) % 18446744073709551616) (by omega) (by omega)
  have j0 := or_join 13 8192 ((lo + o) % 18446744073709551616 / 2251799813685248) (hi + (lo + o) / 18446744073709551616) (by decide) (by omega) (by omega) (by omega) (by omega) (by omega)
  have j1 : IntKind.u64.wrap ((hi + (lo + o) / 18446744073709551616) * 8192) = 8192 * (hi + (lo + o) / 18446744073709551616) := by rw [IntWalk.u64_in _ (by omega)]; omega
  have a64 := fun w => add64_run lo o 0 h1 o0 (by omega) (by omega) w
  rw [Int.add_zero] at a64
  have g1 : (lo + o) % 18446744073709551616 % 2251799813685248 = (t + o) % 2251799813685248 := by omega
  have g2 : 8192 * (hi + (lo + o) / 18446744073709551616) + (lo + o) % 18446744073709551616 / 2251799813685248 = (t + o) / 2251799813685248 := by omega
  have G1 := Lib.hid g1
  have G2 := Lib.hid g2
  clear g1 g2 ht hb
  go_enter Tryd.func79, Tryd.ntmps79
  go_wp2
  go_quiet (fail)
  go_wp2
  go_ret2
  exact ⟨ret_pair (by have := G1.out; omega) G2.out, ((Upd.refl _ w).alloc _).drewN _⟩
end Go.Proofs.YthnpbodkcdbckaaDoor
