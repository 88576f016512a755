/-
  Walks of bits.Mul64, of plus and of cut.
-/
/-
  Walks of word and put; numbers as bytes.
-/
/-
  Arrays of numbers: as cells, and compared.
-/
import Derived.Test.YtdpafemcpbhlfaaDoorLeaf
import Derived.Laws.Externs
import Derived.BigQuiet
import Derived.Deep.QuietTactic
namespace Go.Proofs.YtdpafemcpbhlfaaDoor
set_option maxRecDepth 100000
open Go.RowKit

theorem mask32_nat (a : Nat) (ha : a < 18446744073709551616) : bits .and .u64 (a : Int) 4294967295 = ((a % 4294967296 : Nat) : Int) := by
  have h := u64_and_nat a 4294967295 ha (by omega)
  rw [show a &&& 4294967295 = a % 4294967296 from Nat.and_two_pow_sub_one_eq_mod a 32] at h
  exact h
theorem wrap_nat (a : Nat) : IntKind.u64.wrap (a : Int) = ((a % 18446744073709551616 : Nat) : Int) := by rw [IntKind.wrap_u64]; omega
theorem wrap_nat_lt (a : Nat) (ha : a < 18446744073709551616) : IntKind.u64.wrap (a : Int) = (a : Int) := by rw [wrap_nat, Nat.mod_eq_of_lt ha]
theorem div32_nat (a : Nat) : (a : Int) / 4294967296 = ((a / 4294967296 : Nat) : Int) := by omega

set_option maxHeartbeats 1000000 in
theorem mul64_nat (x y : Nat) (hx : x < 18446744073709551616) (hy : y < 18446744073709551616) (w : World) :
    Calls Tryd.prog 97 #[.int .u64 x, .int .u64 y] w fun e w' => e = .returned (.tuple #[.int .u64 ((x * y / 18446744073709551616 : Nat) : Int), .int .u64 ((x * y % 18446744073709551616 : Nat) : Int)]) ∧ w = w' := by
  obtain ⟨b1, b2, b3, hhi⟩ := Lib.mul64_hi x y hx hy
  have c1 := Lib.half_mul_le (a := x / 4294967296) (b := y / 4294967296) (by omega) (by omega)
  have c2 := Lib.half_mul_le (a := x / 4294967296) (b := y % 4294967296) (by omega) (by omega)
  have c3 := Lib.half_mul_le (a := x % 4294967296) (b := y / 4294967296) (by omega) (by omega)
  have d1 : x / 4294967296 * (y / 4294967296) < 18446744073709551616 := by omega
  have d2 : x / 4294967296 * (y % 4294967296) < 18446744073709551616 := by omega
  have d3 : x % 4294967296 * (y / 4294967296) < 18446744073709551616 := by omega
  have Hhi := Lib.hid hhi
  have e1 : x / 4294967296 * (y / 4294967296) + (x / 4294967296 * (y % 4294967296) + x % 4294967296 * (y % 4294967296) / 4294967296) / 4294967296 < 18446744073709551616 := by omega
  have e2 : x / 4294967296 * (y / 4294967296) + (x / 4294967296 * (y % 4294967296) + x % 4294967296 * (y % 4294967296) / 4294967296) / 4294967296 + ((x / 4294967296 * (y % 4294967296) + x % 4294967296 * (y % 4294967296) / 4294967296) % 4294967296 + x % 4294967296 * (y / 4294967296)) / 4294967296 < 18446744073709551616 := by omega
  clear hhi
  go_enter Tryd.func97, Tryd.ntmps97
  go_wp2
  simp only [mask32_nat x hx, mask32_nat y hy, div32_nat, ← Int.natCast_mul, ← Int.natCast_add, wrap_nat_lt _ b1, wrap_nat_lt _ d2, wrap_nat_lt _ b2, mask32_nat _ b2, wrap_nat_lt _ d3, wrap_nat_lt _ b3, wrap_nat_lt _ d1, wrap_nat_lt _ e1, wrap_nat_lt _ e2, wrap_nat (x * y)]
  rw [Hhi.out]
  go_ret2
  exact ⟨rfl, rfl⟩
theorem mul64_any (x y : Int) (hx0 : 0 ≤ x) (hx : x < 18446744073709551616) (hy0 : 0 ≤ y) (hy : y < 18446744073709551616) (w : World) :
    Calls Tryd.prog 97 #[.int .u64 x, .int .u64 y] w fun e w' => e = .returned (.tuple #[.int .u64 (x * y / 18446744073709551616), .int .u64 (x * y % 18446744073709551616)]) ∧ w = w' := by
  obtain ⟨m, rfl⟩ := Int.eq_ofNat_of_zero_le hx0
  obtain ⟨n, rfl⟩ := Int.eq_ofNat_of_zero_le hy0
  refine (mul64_nat m n (by omega) (by omega) w).mono ?_
  rintro e w' ⟨rfl, rfl⟩
  refine ⟨?_, rfl⟩
  rw [Int.natCast_emod, Int.natCast_ediv, Int.natCast_mul]
  rfl
theorem add64_run (x y c : Int) (hx : 0 ≤ x) (hy : 0 ≤ y) (hc0 : 0 ≤ c) (hc : c ≤ 1) (w : World) :
    (callFunc 98 #[.int .u64 x, .int .u64 y, .int .u64 c]).run Tryd.prog w = .ok (.value (.tuple #[.int .u64 ((x + y + c) % 18446744073709551616), .int .u64 ((x + y + c) / 18446744073709551616)])) w := by
  rw [run_callFunc_extern Tryd.func98 (by kernel_rfl) (by kernel_rfl) (by kernel_rfl) (e := add64Entry) (by kernel_rfl), run_add64 x y c hx hy hc0 hc]
  simp only [Result.andThen]

/-- A number of two words. -/
def RetW (t : Int) (w : World) (e : Ending) (w' : World) : Prop :=
  ∃ hi lo : Int, 0 ≤ hi ∧ 0 ≤ lo ∧ lo < 18446744073709551616 ∧ hi * 18446744073709551616 + lo = t ∧ e = .returned (.agg #[.int .u64 hi, .int .u64 lo]) ∧ Upd (fun _ => False) w w'

set_option maxHeartbeats 1000000 in
theorem plus_any (hi lo x y t : Int) (w : World) (h0 : 0 ≤ hi) (h1 : 0 ≤ lo) (h2 : lo < 18446744073709551616) (ht : hi * 18446744073709551616 + lo = t) (x0 : 0 ≤ x) (x1 : x < 18446744073709551616) (y0 : 0 ≤ y) (y1 : y < 18446744073709551616)
    (hb : t + x * y < 340282366920938463463374607431768211456) :
    Calls Tryd.prog 78 #[.agg #[.int .u64 hi, .int .u64 lo], .int .u64 x, .int .u64 y] w (RetW (t + x * y) w) := by
  have hxy : 0 ≤ x * y := Int.mul_nonneg x0 y0
  have Ht := Lib.hid ht
  have Hb := Lib.hid hb
  have hd := Int.mul_ediv_add_emod (x * y) 18446744073709551616
  have hd0 := Int.emod_nonneg (x * y) (b := 18446744073709551616) (by omega)
  have hd1 := Int.emod_lt_of_pos (x * y) (b := 18446744073709551616) (by omega)
  have hd2 : 0 ≤ x * y / 18446744073709551616 := by omega
  have Hd := Lib.hid hd
  clear ht hb hd
  go_enter Tryd.func78, Tryd.ntmps78
  go_wp2_with fail
  refine (mul64_any x y x0 x1 y0 y1 _).mono ?_
  rintro e w' ⟨rfl, rfl⟩
  generalize x * y % 18446744073709551616 = l at *
  generalize x * y / 18446744073709551616 = h at *
  generalize x * y = z at *
  have a64 := fun w => add64_run lo l 0 h1 hd0 (by omega) (by omega) w
  rw [Int.add_zero] at a64
  have f1 : hi + h < 18446744073709551616 := by have := Ht.out; have := Hd.out; have := Hb.out; omega
  have f2 : hi + h + (lo + l) / 18446744073709551616 < 18446744073709551616 := by have := Ht.out; have := Hd.out; have := Hb.out; omega
  go_wp2
  refine bodyPost_ret (v := .agg #[.int .u64 (hi + h + (lo + l) / 18446744073709551616), .int .u64 ((lo + l) % 18446744073709551616)]) (by simp [results, Tryd.results78, go_sem]) rfl ⟨_, _, ?_, ?_, ?_, ?_, rfl, (((Upd.refl _ w).alloc _).alloc _)⟩
  all_goals (have := Ht.out; have := Hd.out; have := Hb.out; omega)

theorem or_join (k : Nat) (m a b : Int) (hm : m = 2 ^ k) (ha0 : 0 ≤ a) (ha : a < m) (hb0 : 0 ≤ b) (hb : m * b < 18446744073709551616) (ham : a < 18446744073709551616) : bits .or .u64 (m * b) a = m * b + a := by
  obtain ⟨x, rfl⟩ := Int.eq_ofNat_of_zero_le ha0
  obtain ⟨y, rfl⟩ := Int.eq_ofNat_of_zero_le hb0
  have hm' : m = ((2 ^ k : Nat) : Int) := by rw [hm]; simp
  subst hm'
  have hx : x < 2 ^ k := by omega
  have e1 : ((2 ^ k : Nat) : Int) * (y : Int) = ((2 ^ k * y : Nat) : Int) := by simp
  rw [e1] at hb ⊢
  rw [u64_or_nat _ _ (by omega) (by omega), ← Nat.two_pow_add_eq_or_of_lt hx]
  simp

theorem ret_pair {k l : IntKind} {a b c d : Int} (h : a = b) (g : c = d) : Ending.returned (.tuple #[.int k a, .int l c]) = .returned (.tuple #[.int k b, .int l d]) := by rw [h, g]
/-- The lowest 51 bits of t, and the rest. -/
def RetCut (t : Int) (w : World) (e : Ending) (w' : World) : Prop :=
  e = .returned (.tuple #[.int .u64 (t % 2251799813685248), .int .u64 (t / 2251799813685248)]) ∧ Upd (fun _ => False) w w'

set_option maxHeartbeats 1000000 in
theorem cut_any (hi lo o t : Int) (w : World) (h0 : 0 ≤ hi) (h1 : 0 ≤ lo) (h2 : lo < 18446744073709551616) (ht : hi * 18446744073709551616 + lo = t) (o0 : 0 ≤ o) (o1 : o < 18446744073709551616)
    (hb : t + o < 41538374868278621028243970633760768) :
    Calls Tryd.prog 79 #[.agg #[.int .u64 hi, .int .u64 lo], .int .u64 o] w (RetCut (t + o) w) := by
  have Ht := Lib.hid ht
  have f1 : hi + (lo + o) / 18446744073709551616 < 2251799813685248 := by omega
  have m0 := and_mask ((lo + o) % 18446744073709551616) (by omega) (by omega)
  have j0 := or_join 13 8192 ((lo + o) % 18446744073709551616 / 2251799813685248) (hi + (lo + o) / 18446744073709551616) (by decide) (by omega) (by omega) (by omega) (by omega) (by omega)
  have j1 : IntKind.u64.wrap ((hi + (lo + o) / 18446744073709551616) * 8192) = 8192 * (hi + (lo + o) / 18446744073709551616) := by rw [IntWalk.u64_in _ (by omega)]; omega
  have a64 := fun w => add64_run lo o 0 h1 o0 (by omega) (by omega) w
  rw [Int.add_zero] at a64
  have g1 : (lo + o) % 18446744073709551616 % 2251799813685248 = (t + o) % 2251799813685248 := by omega
  have g2 : 8192 * (hi + (lo + o) / 18446744073709551616) + (lo + o) % 18446744073709551616 / 2251799813685248 = (t + o) / 2251799813685248 := by omega
  have G1 := Lib.hid g1
  have G2 := Lib.hid g2
  clear g1 g2 ht hb
  go_enter Tryd.func79, Tryd.ntmps79
  go_wp2
  go_quiet (fail)
  go_wp2
  go_ret2
  exact ⟨ret_pair (by have := G1.out; omega) G2.out, ((Upd.refl _ w).alloc _).drewN _⟩
end Go.Proofs.YtdpafemcpbhlfaaDoor
namespace Go.Proofs.YtdpafemcpbhlfaaDoor
set_option maxRecDepth 100000
open Go.RowKit

/-- The number of digits with the base B, the lowest first. -/
def dig (B : Int) : List Int → Int
  | [] => 0
  | x :: l => x + B * dig B l
/-- All of them are digits. -/
def Digs (B : Int) (l : List Int) : Prop := ∀ x ∈ l, 0 ≤ x ∧ x < B
theorem dig_append (B : Int) (l m : List Int) : dig B (l ++ m) = dig B l + B ^ l.length * dig B m := by
  induction l with
  | nil => simp [dig]
  | cons x l ih =>
    simp only [List.cons_append, dig, ih, List.length_cons, Int.mul_add]
    rw [Int.pow_succ, Int.mul_comm (B ^ l.length) B, Int.mul_assoc]
    omega
theorem dig_nonneg {B : Int} (hB : 0 < B) : ∀ {l : List Int}, Digs B l → 0 ≤ dig B l
  | [], _ => by simp [dig]
  | x :: l, h => by
    have h1 := (h x (by simp)).1
    have h2 := dig_nonneg hB (l := l) (fun y hy => h y (by simp [hy]))
    have := Int.mul_nonneg (Int.le_of_lt hB) h2
    simp only [dig]
    omega
theorem dig_lt {B : Int} (hB : 0 < B) : ∀ {l : List Int}, Digs B l → dig B l < B ^ l.length
  | [], _ => by simp [dig]
  | x :: l, h => by
    have h1 := (h x (by simp)).2
    have h2 := dig_lt hB (l := l) (fun y hy => h y (by simp [hy]))
    have h3 : B * (dig B l + 1) ≤ B * B ^ l.length := Int.mul_le_mul_of_nonneg_left (by omega) (Int.le_of_lt hB)
    rw [Int.mul_add] at h3
    simp only [dig, List.length_cons, Int.pow_succ]
    rw [Int.mul_comm (B ^ l.length) B]
    omega
/-- The lowest n digits of v. -/
def digits (B : Int) : Nat → Int → List Int
  | 0, _ => []
  | n + 1, v => v % B :: digits B n (v / B)
theorem digits_length (B : Int) : ∀ n v, (digits B n v).length = n
  | 0, _ => rfl
  | n + 1, v => by simp [digits, digits_length B n]
theorem digits_digs {B : Int} (hB : 0 < B) : ∀ n v, Digs B (digits B n v)
  | 0, _ => by intro x hx; cases hx
  | n + 1, v => by
    intro x hx
    simp only [digits, List.mem_cons] at hx
    rcases hx with rfl | hx
    · exact ⟨Int.emod_nonneg _ (by omega), Int.emod_lt_of_pos _ hB⟩
    · exact digits_digs hB n _ x hx
theorem digits_dig {B : Int} (hB : 0 < B) : ∀ {l : List Int}, Digs B l → digits B l.length (dig B l) = l
  | [], _ => rfl
  | x :: l, h => by
    have h1 := h x (by simp)
    have h2 := digits_dig hB (l := l) (fun y hy => h y (by simp [hy]))
    simp only [List.length_cons, digits, dig]
    rw [Int.add_mul_emod_self_left, Int.emod_eq_of_lt h1.1 h1.2, Int.add_mul_ediv_left _ _ (by omega), Int.ediv_eq_zero_of_lt h1.1 h1.2, Int.zero_add, h2]
theorem emod_mul' (v B C : Int) (hB : 0 < B) (hC : 0 < C) : v % (B * C) = v % B + B * (v / B % C) := by
  have e1 := Int.mul_ediv_add_emod v B
  have e2 := Int.mul_ediv_add_emod (v / B) C
  have b0 := Int.emod_nonneg v (b := B) (by omega)
  have b1 := Int.emod_lt_of_pos v hB
  have c0 := Int.emod_nonneg (v / B) (b := C) (by omega)
  have c1 := Int.emod_lt_of_pos (v / B) hC
  have h : v = (v % B + B * (v / B % C)) + B * C * (v / B / C) := by
    have : B * (v / B) = B * (C * (v / B / C)) + B * (v / B % C) := by rw [← Int.mul_add, e2]
    rw [Int.mul_assoc]
    omega
  have hle : B * (v / B % C) ≤ B * (C - 1) := Int.mul_le_mul_of_nonneg_left (by omega) (by omega)
  have hge : 0 ≤ B * (v / B % C) := Int.mul_nonneg (by omega) c0
  rw [Int.mul_sub, Int.mul_one] at hle
  have hb : (v % B + B * (v / B % C)) % (B * C) = v % B + B * (v / B % C) := Int.emod_eq_of_lt (by omega) (by omega)
  rw [← hb]
  conv => lhs; rw [h]
  rw [Int.add_mul_emod_self_left]
theorem dig_digits {B : Int} (hB : 0 < B) : ∀ n v, dig B (digits B n v) = v % B ^ n
  | 0, v => by simp [digits, dig, Int.emod_one]
  | n + 1, v => by
    simp only [digits, dig]
    rw [dig_digits hB n, Int.pow_succ, Int.mul_comm (B ^ n) B, emod_mul' _ _ _ hB (Int.pow_pos hB)]
theorem dig_inj {B : Int} (hB : 0 < B) {l m : List Int} (hl : Digs B l) (hm : Digs B m) (hn : l.length = m.length) (h : dig B l = dig B m) : l = m := by
  rw [← digits_dig hB hl, ← digits_dig hB hm, hn, h]
/-- Eight bytes at a place, as a word. -/
def word8 (f : Nat → Int) : Int := f 0 + 256 * f 1 + 65536 * f 2 + 16777216 * f 3 + 4294967296 * f 4 + 1099511627776 * f 5 + 281474976710656 * f 6 + 72057594037927936 * f 7

theorem or_high (k : Nat) (m a b : Int) (hm : m = 2 ^ k) (ha0 : 0 ≤ a) (ha : a < m) (hb0 : 0 ≤ b) (hb : b * m < 18446744073709551616) (ham : a < 18446744073709551616) : bits .or .u64 a (b * m) = a + b * m := by
  obtain ⟨x, rfl⟩ := Int.eq_ofNat_of_zero_le ha0
  obtain ⟨y, rfl⟩ := Int.eq_ofNat_of_zero_le hb0
  have hm' : m = ((2 ^ k : Nat) : Int) := by rw [hm]; simp
  subst hm'
  have hx : x < 2 ^ k := by omega
  have e1 : (y : Int) * ((2 ^ k : Nat) : Int) = ((2 ^ k * y : Nat) : Int) := by rw [Int.mul_comm]; simp
  rw [e1] at hb ⊢
  rw [u64_or_nat _ _ (by omega) (by omega), Nat.or_comm, ← Nat.two_pow_add_eq_or_of_lt hx, Nat.add_comm]
  simp
theorem ret_int {k : IntKind} {a b : Int} (h : a = b) : Ending.returned (.int k a) = .returned (.int k b) := by rw [h]
theorem word8_or (f0 f1 f2 f3 f4 f5 f6 f7 : Int) (k0 : 0 ≤ f0 ∧ f0 < 256) (k1 : 0 ≤ f1 ∧ f1 < 256) (k2 : 0 ≤ f2 ∧ f2 < 256) (k3 : 0 ≤ f3 ∧ f3 < 256) (k4 : 0 ≤ f4 ∧ f4 < 256) (k5 : 0 ≤ f5 ∧ f5 < 256) (k6 : 0 ≤ f6 ∧ f6 < 256) (k7 : 0 ≤ f7 ∧ f7 < 256) :
    bits .or .u64 (bits .or .u64 (bits .or .u64 (bits .or .u64 (bits .or .u64 (bits .or .u64 (bits .or .u64 (bits .or .u64 0 f0) (f1 * 256)) (f2 * 65536)) (f3 * 16777216)) (f4 * 4294967296)) (f5 * 1099511627776)) (f6 * 281474976710656)) (f7 * 72057594037927936) =
    f0 + 256 * f1 + 65536 * f2 + 16777216 * f3 + 4294967296 * f4 + 1099511627776 * f5 + 281474976710656 * f6 + 72057594037927936 * f7 := by
  have e0 := or_high 0 1 0 f0 (by decide) (by omega) (by omega) (by omega) (by omega) (by omega)
  rw [Int.mul_one] at e0
  rw [e0, or_high 8 256 _ f1 (by decide) (by omega) (by omega) (by omega) (by omega) (by omega), or_high 16 65536 _ f2 (by decide) (by omega) (by omega) (by omega) (by omega) (by omega),
    or_high 24 16777216 _ f3 (by decide) (by omega) (by omega) (by omega) (by omega) (by omega), or_high 32 4294967296 _ f4 (by decide) (by omega) (by omega) (by omega) (by omega) (by omega),
    or_high 40 1099511627776 _ f5 (by decide) (by omega) (by omega) (by omega) (by omega) (by omega), or_high 48 281474976710656 _ f6 (by decide) (by omega) (by omega) (by omega) (by omega) (by omega), or_high 56 72057594037927936 _ f7 (by decide) (by omega) (by omega) (by omega) (by omega) (by omega)]
  omega

set_option maxHeartbeats 1000000 in
theorem word_any (b off cap : Nat) (f : Nat → Int) (w : World) (hc : ∀ j, j < 8 → w.cell? ⟨b, off + j, none⟩ = some (.int .u8 (f j))) (hf : ∀ j, j < 8 → 0 ≤ f j ∧ f j < 256) :
    Calls Tryd.prog 77 #[.slice (some ⟨b, off, none⟩) 8 cap] w fun e w' => e = .returned (.int .u64 (word8 f)) ∧ w = w' := by
  have h0 : w.cell? ⟨b, off, none⟩ = some (.int .u8 (f 0)) := hc 0 (by omega)
  have h1 := hc 1 (by omega)
  have h2 := hc 2 (by omega)
  have h3 := hc 3 (by omega)
  have h4 := hc 4 (by omega)
  have h5 := hc 5 (by omega)
  have h6 := hc 6 (by omega)
  have h7 := hc 7 (by omega)
  have k0 := hf 0 (by omega)
  have k1 := hf 1 (by omega)
  have k2 := hf 2 (by omega)
  have k3 := hf 3 (by omega)
  have k4 := hf 4 (by omega)
  have k5 := hf 5 (by omega)
  have k6 := hf 6 (by omega)
  have k7 := hf 7 (by omega)
  clear hc hf
  unfold word8
  generalize f 0 = f0 at *
  generalize f 1 = f1 at *
  generalize f 2 = f2 at *
  generalize f 3 = f3 at *
  generalize f 4 = f4 at *
  generalize f 5 = f5 at *
  generalize f 6 = f6 at *
  generalize f 7 = f7 at *
  go_enter Tryd.func77, Tryd.ntmps77
  go_wp2
  go_rounds 9
  go_ret
  exact ⟨ret_int (word8_or f0 f1 f2 f3 f4 f5 f6 f7 k0 k1 k2 k3 k4 k5 k6 k7), rfl⟩
theorem splice_nil (cs : Array Value) (o : Nat) : splice cs o [] = cs := by simp [splice]
theorem set8 (arr : Array Value) (o : Nat) (a0 a1 a2 a3 a4 a5 a6 a7 : Value) (h : o + 8 ≤ arr.size) :
    (((((((arr.setIfInBounds o a0).setIfInBounds (o + 1) a1).setIfInBounds (o + 2) a2).setIfInBounds (o + 3) a3).setIfInBounds (o + 4) a4).setIfInBounds (o + 5) a5).setIfInBounds (o + 6) a6).setIfInBounds (o + 7) a7 = splice arr o [a0, a1, a2, a3, a4, a5, a6, a7] := by
  rw [← splice_nil (Array.setIfInBounds _ (o + 7) a7) (o + 8)]
  rw [splice_cons _ (o + 7) _ _ (by simp; omega), splice_cons _ (o + 6) _ _ (by simp; omega), splice_cons _ (o + 5) _ _ (by simp; omega), splice_cons _ (o + 4) _ _ (by simp; omega), splice_cons _ (o + 3) _ _ (by simp; omega), splice_cons _ (o + 2) _ _ (by simp; omega), splice_cons _ (o + 1) _ _ (by simp; omega), splice_cons _ o _ _ (by simp; omega)]
theorem digits8 (v : Int) (h0 : 0 ≤ v) (h1 : v < 18446744073709551616) : digits 256 8 v = [v % 256, v / 256 % 256, v / 65536 % 256, v / 16777216 % 256, v / 4294967296 % 256, v / 1099511627776 % 256, v / 281474976710656 % 256, v / 72057594037927936] := by
  simp only [digits, List.cons.injEq, and_true, true_and]
  refine ⟨?_, ?_, ?_, ?_, ?_, ?_⟩ <;> omega
/-- Numbers as cells. -/
def cellsOf (k : IntKind) (l : List Int) : List Value := l.map (Value.int k)
set_option maxHeartbeats 1000000 in
theorem put_any (b off cap : Nat) (v : Int) (t : TypeId) (arr : Array Value) (w : World) (hv0 : 0 ≤ v) (hv1 : v < 18446744073709551616) (hb : Blk w b t arr) (ha : off + 8 ≤ arr.size) :
    Calls Tryd.prog 84 #[.slice (some ⟨b, off, none⟩) 8 cap, .int .u64 v] w fun e w' => e = .returned (.tuple #[]) ∧ Blk w' b t (splice arr off (cellsOf .u8 (digits 256 8 v))) ∧ Upd (· = b) w w' ∧ w'.heap.size = w.heap.size := by
  have hc : ∀ j, j < 8 → ∃ u, w.cell? ⟨b, off + j, none⟩ = some u := fun j hj => ⟨_, (hb.cell (off + j)).trans (Array.getElem?_eq_getElem (by omega))⟩
  have hf := hb.frozen
  have Hb := Lib.hid hb
  obtain ⟨u0, h0⟩ := hc 0 (by omega)
  obtain ⟨u1, h1⟩ := hc 1 (by omega)
  obtain ⟨u2, h2⟩ := hc 2 (by omega)
  obtain ⟨u3, h3⟩ := hc 3 (by omega)
  obtain ⟨u4, h4⟩ := hc 4 (by omega)
  obtain ⟨u5, h5⟩ := hc 5 (by omega)
  obtain ⟨u6, h6⟩ := hc 6 (by omega)
  obtain ⟨u7, h7⟩ := hc 7 (by omega)
  rw [Nat.add_zero] at h0
  clear hc hb
  go_enter Tryd.func84, Tryd.ntmps84
  go_wp2
  go_rounds 9
  refine bodyPost_end (results_none rfl _ _ _) rfl ⟨rfl, ?_, ?_, ?_⟩
  · rw [digits8 v hv0 hv1]
    show Blk _ b t (splice arr off [.int .u8 (v % 256), .int .u8 (v / 256 % 256), .int .u8 (v / 65536 % 256), .int .u8 (v / 16777216 % 256), .int .u8 (v / 4294967296 % 256), .int .u8 (v / 1099511627776 % 256), .int .u8 (v / 281474976710656 % 256), .int .u8 (v / 72057594037927936)])
    rw [← set8 _ _ _ _ _ _ _ _ _ _ ha]
    exact (((((((Hb.out.set _ _).set _ _).set _ _).set _ _).set _ _).set _ _).set _ _).set _ _
  · exact ((((((((Upd.refl (· = b) w).set _ (fun _ => rfl)).set _ (fun _ => rfl)).set _ (fun _ => rfl)).set _ (fun _ => rfl)).set _ (fun _ => rfl)).set _ (fun _ => rfl)).set _ (fun _ => rfl)).set _ (fun _ => rfl)
  · simp [World.setCell]
end Go.Proofs.YtdpafemcpbhlfaaDoor
namespace Go.Proofs.YtdpafemcpbhlfaaDoor
set_option maxRecDepth 100000
open Go.RowKit

/-- Numbers of one kind, as an array's cells. -/
def numsA (k : IntKind) (l : List Int) : Array Value := (l.map (Value.int k)).toArray
theorem numsA_size (k : IntKind) (l : List Int) : (numsA k l).size = l.length := by simp [numsA]
theorem numsA_get (k : IntKind) (l : List Int) (j : Nat) (h : j < l.length) : (numsA k l)[j]? = some (.int k (l.getD j 0)) := by simp [numsA, h]
theorem numsA_one (k : IntKind) (l : List Int) : ∀ v ∈ (numsA k l).toList, v.oneCell' = true := by
  intro v hv; simp [numsA] at hv; obtain ⟨x, _, rfl⟩ := hv; rfl
theorem numsA_toList (k : IntKind) (l : List Int) : (numsA k l).toList = cellsOf k l := by simp [numsA, cellsOf]
theorem list_ext_getD {p q : List Int} (hl : p.length = q.length) (h : ∀ j, j < p.length → p.getD j 0 = q.getD j 0) : p = q := by
  apply List.ext_getElem hl
  intro j h1 h2
  have := h j h1
  simpa [List.getD_eq_getElem?_getD, h1, h2] using this

theorem run_equalIn_nums (w : World) (d : Nat) (t e : TypeId) (k : IntKind) (n : Nat) (A B : List Int) (ht : Tryd.prog.underlying t = some (.array n e)) (he : Tryd.prog.underlying e = some (.int k)) (hs : (Tryd.prog.info? e).map (·.size) = some 1) (hA : A.length = n) (hB : B.length = n) :
    (Op.equalIn (d + 2) t (.agg (numsA k A)) (.agg (numsA k B))).run Tryd.prog w = .ok (decide (A = B)) w := by
  have hsz : ∀ w, (sizeOf e).run Tryd.prog w = .ok 1 w := fun w => by
    cases hq : Tryd.prog.info? e with
    | none => simp [hq] at hs
    | some i => have : i.size = 1 := by simpa [hq] using hs
                simp [sizeOf, typeInfo, hq, this]
  have key : decide (A = B) = decide (∀ i ∈ List.range' 0 n 1, A.getD i 0 = B.getD i 0) := by
    rw [decide_eq_decide]
    constructor
    · intro h i _; rw [h]
    · intro h
      exact list_ext_getD (by omega) (fun j hj => h j (by rw [List.mem_range'_1]; omega))
  rw [key]
  rw [Op.equalIn]
  simp only [Sem.run_bind, run_underlying ht, Result.andThen_ok, hsz, Std.Legacy.Range.forIn_eq_forIn_range', Std.Legacy.Range.size, Nat.sub_zero, Nat.add_sub_cancel, Nat.div_one]
  have hl : ∀ i ∈ List.range' 0 n 1, i < n := fun i hi => by simpa using (List.mem_range'_1.1 hi).2
  generalize List.range' 0 n 1 = l at hl ⊢
  clear key
  induction l with
  | nil => simp
  | cons i l ih =>
    have hi : i < n := hl i (by simp)
    have px : (part e (numsA k A) (i * 1)).run Tryd.prog w = .ok (.int k (A.getD i 0)) w := by
      have := numsA_get k A i (by omega)
      simp [part, isAgg, run_underlying he, this]
    have py : (part e (numsA k B) (i * 1)).run Tryd.prog w = .ok (.int k (B.getD i 0)) w := by
      have := numsA_get k B i (by omega)
      simp [part, isAgg, run_underlying he, this]
    have pe : (Op.equalIn (d + 1) e (.int k (A.getD i 0)) (.int k (B.getD i 0))).run Tryd.prog w = .ok (A.getD i 0 == B.getD i 0) w := by
      rw [run_equalIn_int w d e k k _ _ he]
    simp only [List.forIn_cons, Sem.run_bind, px, py, pe, Result.andThen_ok]
    by_cases hq : A.getD i 0 = B.getD i 0
    · have hq' : (A.getD i 0 == B.getD i 0) = true := beq_iff_eq.2 hq
      simp only [hq', Bool.not_true, Bool.false_eq_true, if_false, Sem.run_pure, Result.andThen_ok]
      rw [ih fun j hj => hl j (by simp [hj])]
      congr 1
      rw [decide_eq_decide]
      constructor
      · intro h j hj
        rcases List.mem_cons.1 hj with rfl | hj
        · exact hq
        · exact h j hj
      · intro h j hj
        exact h j (by simp [hj])
    · have hq' : (A.getD i 0 == B.getD i 0) = false := beq_eq_false_iff_ne.2 hq
      simp only [hq', Bool.not_false, if_true, Sem.run_pure, Result.andThen_ok]
      congr 1
      symm
      rw [decide_eq_false_iff_not]
      intro h
      exact hq (h i (by simp))
theorem size5 : (Tryd.prog.info? 5).map (·.size) = some 1 := by kernel_rfl
theorem sizeKey : (Tryd.prog.info? 23).map (·.size) = some 32 := by kernel_rfl
theorem eqKey (A B : List Int) (hA : A.length = 32) (hB : B.length = 32) (w : World) : (Op.equalIn 10000 23 (.agg (numsA .u8 A)) (.agg (numsA .u8 B))).run Tryd.prog w = .ok (decide (A = B)) w :=
  run_equalIn_nums w 9998 23 5 .u8 32 A B Tryd.underlying23 Tryd.underlying5 size5 hA hB
/-- Are five numbers the same? -/
def eqB5 (a0 a1 a2 a3 a4 b0 b1 b2 b3 b4 : Int) : Bool := decide ([a0, a1, a2, a3, a4] = [b0, b1, b2, b3, b4])
theorem eq5 (a0 a1 a2 a3 a4 b0 b1 b2 b3 b4 : Int) (w : World) : (Op.equalIn 10000 37 (.agg #[.int .u64 a0, .int .u64 a1, .int .u64 a2, .int .u64 a3, .int .u64 a4]) (.agg #[.int .u64 b0, .int .u64 b1, .int .u64 b2, .int .u64 b3, .int .u64 b4])).run Tryd.prog w = .ok (eqB5 a0 a1 a2 a3 a4 b0 b1 b2 b3 b4) w :=
  run_equalIn_nums w 9998 37 36 .u64 5 [a0, a1, a2, a3, a4] [b0, b1, b2, b3, b4] Tryd.underlying37 Tryd.underlying36 size25 rfl rfl
end Go.Proofs.YtdpafemcpbhlfaaDoor
