/-
  The reference of layer 8 (chacha): its words, turns and rounds are the program's. No program.
-/
import Derived.Test.YthlleheeghiljaaC3n
namespace Go.Proofs.Ythlleheeghiljaa
open Go.RowKit
set_option maxRecDepth 100000

theorem wU64 (x : Int) : IntKind.wrap .u64 x = x % 18446744073709551616 := by simp [IntKind.wrap, IntKind.bits, IntKind.signed]
def P2 (n : Nat) : Int := ((2 ^ n : Nat) : Int)
/-- A number of 32 bits. -/
def V32 (x : Int) : Prop := 0 ≤ x ∧ x < 4294967296
theorem V32.wrap (x : Int) : V32 (IntKind.wrap .u32 x) := by unfold V32; rw [wrapU32]; omega
theorem V32.zero : V32 0 := ⟨by omega, by omega⟩
theorem V32.xor {a b : Int} (ha : V32 a) (hb : V32 b) : bits .xor .u64 a b = bits .xor .u32 a b ∧ V32 (bits .xor .u32 a b) := by
  obtain ⟨A, rfl⟩ := Int.eq_ofNat_of_zero_le ha.1
  obtain ⟨B, rfl⟩ := Int.eq_ofNat_of_zero_le hb.1
  have h1 := ha.2
  have h2 := hb.2
  rw [u64_xor_nat _ _ (by omega) (by omega), u32_xor_nat _ _ (by omega) (by omega)]
  have : A ^^^ B < 2 ^ 32 := Nat.xor_lt_two_pow (by omega) (by omega)
  exact ⟨rfl, by omega, by omega⟩
/-- The program's rotation, as a number. -/
theorem rotE_nat (X k : Nat) (hk : 1 ≤ k ∧ k ≤ 31) (hX : X < 4294967296) : rotE (X : Int) (k : Int) = ((X * 2 ^ k % 4294967296 + X / 2 ^ (32 - k) : Nat) : Int) ∧ X * 2 ^ k % 4294967296 + X / 2 ^ (32 - k) < 4294967296 := by
  have hsplit : 2 ^ (32 - k) * 2 ^ k = 2 ^ 32 := by rw [← Nat.pow_add]; congr 1; omega
  have hd : X / 2 ^ (32 - k) < 2 ^ k := Nat.div_lt_of_lt_mul (by rw [hsplit]; exact hX)
  have hd2 : 2 ^ k ≤ 2 ^ 32 := Nat.pow_le_pow_right (by omega) (by omega)
  have hmod : X * 2 ^ k % 2 ^ 32 = 2 ^ k * (X % 2 ^ (32 - k)) := by rw [← hsplit, Nat.mul_mod_mul_right, Nat.mul_comm]
  have hm : X * 2 ^ k % 2 ^ 32 < 2 ^ 32 := Nat.mod_lt _ (by omega)
  have w1 : IntKind.wrap .u64 (32 - (k : Int)) = ((32 - k : Nat) : Int) := by rw [wU64]; omega
  have m1 : min ((k : Int).toNat) (IntKind.bits .u32) = k := by rw [Int.toNat_natCast]; exact Nat.min_eq_left (show k ≤ 32 by omega)
  have m2 : min (((32 - k : Nat) : Int).toNat) (IntKind.bits .u32) = 32 - k := by rw [Int.toNat_natCast]; exact Nat.min_eq_left (show 32 - k ≤ 32 by omega)
  have e1 : sShl .u32 (X : Int) (k : Int) = ((X * 2 ^ k % 2 ^ 32 : Nat) : Int) := by
    unfold sShl
    rw [m1, wrapU32, Int.natCast_emod, Int.natCast_mul]
    simp
  have e2 : sShr .u32 (X : Int) ((32 - k : Nat) : Int) = ((X / 2 ^ (32 - k) : Nat) : Int) := by
    unfold sShr
    rw [m2, Int.fdiv_eq_ediv_of_nonneg _ (Int.pow_nonneg (by omega)), Int.natCast_ediv]
    simp
  have hor := Nat.two_pow_add_eq_or_of_lt hd (X % 2 ^ (32 - k))
  have hlt : 2 ^ k * (X % 2 ^ (32 - k)) + X / 2 ^ (32 - k) < 2 ^ 32 := by
    rw [hor]
    exact Nat.or_lt_two_pow (by rw [← hmod]; exact hm) (by omega)
  rw [show (4294967296 : Nat) = 2 ^ 32 by decide]
  refine ⟨?_, by rw [hmod]; exact hlt⟩
  unfold rotE
  rw [w1, e1, e2, u32_or_nat _ _ (by omega) (by omega), hmod, ← hor]
/-- The reference's turn. -/
def turnR (x : Int) (n : Nat) : Int := IntKind.wrap .u64 (Int.tmod (IntKind.wrap .u64 (x * P2 n)) 4294967296 + IntKind.wrap .u64 (Int.tdiv x (IntKind.wrap .u64 (Int.tdiv 4294967296 (P2 n)))))
theorem turnR_eq {x : Int} (n : Nat) (hn : 1 ≤ n ∧ n ≤ 31) (hx : V32 x) : turnR x n = rotE x (n : Int) ∧ V32 (rotE x (n : Int)) := by
  obtain ⟨X, rfl⟩ := Int.eq_ofNat_of_zero_le hx.1
  have hX : X < 4294967296 := by have := hx.2; omega
  obtain ⟨h1, h2⟩ := rotE_nat X n hn hX
  rw [h1]
  refine ⟨?_, Int.natCast_nonneg _, by generalize X * 2 ^ n % 4294967296 + X / 2 ^ (32 - n) = M at *; omega⟩
  have hsplit : 2 ^ (32 - n) * 2 ^ n = 2 ^ 32 := by rw [← Nat.pow_add]; congr 1; omega
  have hq : 2 ^ 32 / 2 ^ n = 2 ^ (32 - n) := Nat.div_eq_of_eq_mul_left (Nat.pow_pos (by omega)) hsplit.symm
  have hp : 2 ^ n ≤ 2 ^ 31 := Nat.pow_le_pow_right (by omega) (by omega)
  have hp2 : 2 ^ (32 - n) ≤ 2 ^ 31 := Nat.pow_le_pow_right (by omega) (by omega)
  have hpos : 0 < 2 ^ n := Nat.pow_pos (by omega)
  have hpos2 : 0 < 2 ^ (32 - n) := Nat.pow_pos (by omega)
  have hxm : X * 2 ^ n < 18446744073709551616 := by
    have h4 : X * 2 ^ n ≤ 4294967295 * 2 ^ 31 := Nat.mul_le_mul (by omega) hp
    omega
  have a1 : IntKind.wrap .u64 ((X : Int) * P2 n) = ((X * 2 ^ n : Nat) : Int) := by
    unfold P2
    rw [wU64, ← Int.natCast_mul]
    omega
  have a2 : IntKind.wrap .u64 (Int.tdiv 4294967296 (P2 n)) = ((2 ^ (32 - n) : Nat) : Int) := by
    unfold P2
    rw [show (4294967296 : Int) = ((2 ^ 32 : Nat) : Int) by decide, ← Int.ofNat_tdiv, hq, wU64]
    omega
  have a3 : Int.tdiv (X : Int) ((2 ^ (32 - n) : Nat) : Int) = ((X / 2 ^ (32 - n) : Nat) : Int) := (Int.ofNat_tdiv ..).symm
  have a4 : Int.tmod ((X * 2 ^ n : Nat) : Int) 4294967296 = ((X * 2 ^ n % 4294967296 : Nat) : Int) := (Int.ofNat_tmod (X * 2 ^ n) 4294967296).symm
  have hd := Nat.div_le_self X (2 ^ (32 - n))
  unfold turnR
  rw [a1, a2, a3, a4]
  simp only [wU64]
  clear a1 a2 a3 a4 h1
  generalize X * 2 ^ n % 4294967296 = A at *
  generalize X / 2 ^ (32 - n) = B at *
  omega
def AllV (l : List Int) : Prop := ∀ j, V32 (l.getD j 0)
theorem AllV.set {l : List Int} (h : AllV l) (i : Nat) {x : Int} (hx : V32 x) : AllV (l.set i x) := by
  intro j
  rw [List.getD_eq_getElem?_getD, List.getElem?_set]
  split
  · split
    · exact hx
    · exact V32.zero
  · rw [← List.getD_eq_getElem?_getD]; exact h j
def q1R (l : List Int) (a b : Nat) : List Int := l.set a (Int.tmod (IntKind.wrap .u64 (l.getD a 0 + l.getD b 0)) 4294967296)
def q2R (l : List Int) (d a n : Nat) : List Int := l.set d (turnR (bits .xor .u64 (l.getD d 0) (l.getD a 0)) n)
def qhR (l : List Int) (a b c d r s : Nat) : List Int := q2R (q1R (q2R (q1R l a b) d a r) c d) b c s
def quartR (l : List Int) (a b c d : Nat) : List Int := qhR (qhR l a b c d 16 12) a b c d 8 7
theorem q1R_eq {l : List Int} (h : AllV l) (a b : Nat) : q1R l a b = half1 l a b ∧ AllV (half1 l a b) := by
  unfold q1R half1
  have h1 := h a
  have h2 := h b
  refine ⟨?_, h.set a (V32.wrap _)⟩
  congr 1
  unfold V32 at h1 h2
  rw [wU64, wrapU32, Int.tmod_eq_emod_of_nonneg (by omega)]
  omega
theorem q2R_eq {l : List Int} (h : AllV l) (d a n : Nat) (hn : 1 ≤ n ∧ n ≤ 31) : q2R l d a n = half2 l d a (n : Int) ∧ AllV (half2 l d a (n : Int)) := by
  unfold q2R half2
  obtain ⟨h1, h2⟩ := (h d).xor (h a)
  obtain ⟨h3, h4⟩ := turnR_eq n hn h2
  rw [h1, h3]
  exact ⟨rfl, h.set d h4⟩
theorem qhR_eq {l : List Int} (h : AllV l) (a b c d r s : Nat) (hr : 1 ≤ r ∧ r ≤ 31) (hs : 1 ≤ s ∧ s ≤ 31) : qhR l a b c d r s = halfL l a b c d (r : Int) (s : Int) ∧ AllV (halfL l a b c d (r : Int) (s : Int)) := by
  obtain ⟨e1, g1⟩ := q1R_eq h a b
  obtain ⟨e2, g2⟩ := q2R_eq g1 d a r hr
  obtain ⟨e3, g3⟩ := q1R_eq g2 c d
  obtain ⟨e4, g4⟩ := q2R_eq g3 b c s hs
  unfold qhR halfL
  rw [e1, e2, e3, e4]
  exact ⟨rfl, g4⟩
theorem quartR_eq {l : List Int} (h : AllV l) (a b c d : Nat) : quartR l a b c d = quarterL l a b c d ∧ AllV (quarterL l a b c d) := by
  obtain ⟨e1, g1⟩ := qhR_eq h a b c d 16 12 (by omega) (by omega)
  obtain ⟨e2, g2⟩ := qhR_eq g1 a b c d 8 7 (by omega) (by omega)
  unfold quartR quarterL
  rw [e1, e2]
  exact ⟨rfl, g2⟩
def roundR (l : List Int) : List Int := quartR (quartR (quartR (quartR (quartR (quartR (quartR (quartR l 0 4 8 12) 1 5 9 13) 2 6 10 14) 3 7 11 15) 0 5 10 15) 1 6 11 12) 2 7 8 13) 3 4 9 14
theorem roundR_eq {l : List Int} (h : AllV l) : roundR l = twoL l ∧ AllV (twoL l) := by
  obtain ⟨e1, g1⟩ := quartR_eq h 0 4 8 12
  obtain ⟨e2, g2⟩ := quartR_eq g1 1 5 9 13
  obtain ⟨e3, g3⟩ := quartR_eq g2 2 6 10 14
  obtain ⟨e4, g4⟩ := quartR_eq g3 3 7 11 15
  obtain ⟨e5, g5⟩ := quartR_eq g4 0 5 10 15
  obtain ⟨e6, g6⟩ := quartR_eq g5 1 6 11 12
  obtain ⟨e7, g7⟩ := quartR_eq g6 2 7 8 13
  obtain ⟨e8, g8⟩ := quartR_eq g7 3 4 9 14
  unfold roundR twoL
  rw [e1, e2, e3, e4, e5, e6, e7, e8]
  exact ⟨rfl, g8⟩
/-- So many rounds. -/
def rndR (l : List Int) : Nat → List Int
  | 0 => l
  | i + 1 => roundR (rndR l i)
def rndL (l : List Int) : Nat → List Int
  | 0 => l
  | i + 1 => twoL (rndL l i)
theorem rndR_eq {l : List Int} (h : AllV l) : ∀ i, rndR l i = rndL l i ∧ AllV (rndL l i)
  | 0 => ⟨rfl, h⟩
  | i + 1 => by
    obtain ⟨e, g⟩ := rndR_eq h i
    obtain ⟨e2, g2⟩ := roundR_eq g
    rw [rndR, e, e2]
    exact ⟨rfl, g2⟩
theorem rndL_ten (l : List Int) : rndL l 10 = tenL l := rfl
theorem q2R_len (l : List Int) (d a n : Nat) : (q2R l d a n).length = l.length := by simp [q2R]
theorem q1R_len (l : List Int) (a b : Nat) : (q1R l a b).length = l.length := by simp [q1R]
theorem quartR_len (l : List Int) (a b c d : Nat) : (quartR l a b c d).length = l.length := by simp [quartR, qhR, q1R_len, q2R_len]
theorem roundR_len (l : List Int) : (roundR l).length = l.length := by simp [roundR, quartR_len]
theorem rndR_len (l : List Int) : ∀ i, (rndR l i).length = l.length
  | 0 => rfl
  | i + 1 => by rw [rndR, roundR_len, rndR_len l i]
/-- Four bytes from a place on, as the reference's word. -/
def wd8 (l : List Int) (k : Nat) : Int := IntKind.wrap .u64 (IntKind.wrap .u64 (IntKind.wrap .u64 (IntKind.wrap .u64 (l.getD k 0) + IntKind.wrap .u64 (256 * IntKind.wrap .u64 (l.getD (k + 1) 0))) + IntKind.wrap .u64 (65536 * IntKind.wrap .u64 (l.getD (k + 2) 0))) + IntKind.wrap .u64 (16777216 * IntKind.wrap .u64 (l.getD (k + 3) 0)))
theorem wordE_eq {a b c d : Int} (ha : 0 ≤ a ∧ a < 256) (hb : 0 ≤ b ∧ b < 256) (hc : 0 ≤ c ∧ c < 256) (hd : 0 ≤ d ∧ d < 256) : wordE a b c d = a + 256 * b + 65536 * c + 16777216 * d := by
  obtain ⟨A, rfl⟩ := Int.eq_ofNat_of_zero_le ha.1
  obtain ⟨B, rfl⟩ := Int.eq_ofNat_of_zero_le hb.1
  obtain ⟨C, rfl⟩ := Int.eq_ofNat_of_zero_le hc.1
  obtain ⟨D, rfl⟩ := Int.eq_ofNat_of_zero_le hd.1
  have hA : A < 256 := by omega
  have hB : B < 256 := by omega
  have hC : C < 256 := by omega
  have hD : D < 256 := by omega
  have w : ∀ X : Nat, X < 256 → IntKind.wrap .u32 (X : Int) = (X : Int) := fun X h => by rw [wrapU32]; omega
  have s : ∀ X k : Nat, X < 256 → k ≤ 24 → sShl .u32 (X : Int) (k : Int) = ((X * 2 ^ k : Nat) : Int) := fun X k h hk => by
    have h1 : X * 2 ^ k ≤ 255 * 2 ^ 24 := Nat.mul_le_mul (by omega) (Nat.pow_le_pow_right (by omega) hk)
    unfold sShl
    have m1 : min ((k : Int).toNat) (IntKind.bits .u32) = k := by rw [Int.toNat_natCast]; exact Nat.min_eq_left (show k ≤ 32 by omega)
    rw [m1, wrapU32, show ((X : Int) * 2 ^ k) = ((X * 2 ^ k : Nat) : Int) by rw [Int.natCast_mul]; simp]
    omega
  have s8 := s B 8 hB (by omega)
  have s16 := s C 16 hC (by omega)
  have s24 := s D 24 hD (by omega)
  unfold wordE
  rw [w A hA, w B hB, w C hC, w D hD]
  have e8 : sShl .u32 (B : Int) 8 = ((B * 2 ^ 8 : Nat) : Int) := s8
  have e16 : sShl .u32 (C : Int) 16 = ((C * 2 ^ 16 : Nat) : Int) := s16
  have e24 : sShl .u32 (D : Int) 24 = ((D * 2 ^ 24 : Nat) : Int) := s24
  have o1 : A ||| B * 2 ^ 8 = 2 ^ 8 * B + A := by rw [Nat.or_comm, Nat.mul_comm, ← Nat.two_pow_add_eq_or_of_lt (show A < 2 ^ 8 from hA)]
  have o2 : (2 ^ 8 * B + A) ||| C * 2 ^ 16 = 2 ^ 16 * C + (2 ^ 8 * B + A) := by rw [Nat.or_comm, Nat.mul_comm, ← Nat.two_pow_add_eq_or_of_lt (show 2 ^ 8 * B + A < 2 ^ 16 by omega)]
  have o3 : (2 ^ 16 * C + (2 ^ 8 * B + A)) ||| D * 2 ^ 24 = 2 ^ 24 * D + (2 ^ 16 * C + (2 ^ 8 * B + A)) := by rw [Nat.or_comm, Nat.mul_comm, ← Nat.two_pow_add_eq_or_of_lt (show 2 ^ 16 * C + (2 ^ 8 * B + A) < 2 ^ 24 by omega)]
  rw [e8, e16, e24, u32_or_nat _ _ (by omega) (by omega), o1, u32_or_nat _ _ (by omega) (by omega), o2, u32_or_nat _ _ (by omega) (by omega), o3]
  omega
theorem wd8_eq (l : List Int) (k : Nat) {a b c d : Int} (ea : l.getD k 0 = a) (eb : l.getD (k + 1) 0 = b) (ec : l.getD (k + 2) 0 = c) (ed : l.getD (k + 3) 0 = d) (ha : 0 ≤ a ∧ a < 256) (hb : 0 ≤ b ∧ b < 256) (hc : 0 ≤ c ∧ c < 256) (hd : 0 ≤ d ∧ d < 256) : wd8 l k = wordE a b c d := by
  rw [wordE_eq ha hb hc hd]
  unfold wd8
  rw [ea, eb, ec, ed]
  simp only [wU64]
  omega
/-- A word's bytes over those of a list, as the reference lays them. -/
def byR (x : Int) : Nat → Int
  | 0 => x
  | i + 1 => IntKind.wrap .u64 (Int.tdiv (byR x i) 256)
def put8 (l : List Int) (k : Nat) (x : Int) : List Int := (((l.set (k + 0) (IntKind.wrap .u8 (Int.tmod (byR x 0) 256))).set (k + 1) (IntKind.wrap .u8 (Int.tmod (byR x 1) 256))).set (k + 2) (IntKind.wrap .u8 (Int.tmod (byR x 2) 256))).set (k + 3) (IntKind.wrap .u8 (Int.tmod (byR x 3) 256))
theorem byR_nat (X : Nat) (hX : X < 18446744073709551616) : ∀ i, byR (X : Int) i = ((X / 256 ^ i : Nat) : Int)
  | 0 => by rw [byR, Nat.pow_zero, Nat.div_one]
  | i + 1 => by
    have h := Nat.div_le_self X (256 ^ i)
    have h2 := Nat.div_le_self (X / 256 ^ i) 256
    rw [byR, byR_nat X hX i, Nat.pow_succ, ← Nat.div_div_eq_div_mul]
    have : Int.tdiv ((X / 256 ^ i : Nat) : Int) 256 = ((X / 256 ^ i / 256 : Nat) : Int) := (Int.ofNat_tdiv (X / 256 ^ i) 256).symm
    rw [this, wU64]
    clear this
    generalize X / 256 ^ i / 256 = D at *
    generalize X / 256 ^ i = C at *
    omega
theorem byR_byte (X : Nat) (hX : X < 18446744073709551616) (i : Nat) : IntKind.wrap .u8 (Int.tmod (byR (X : Int) i) 256) = ((X / 256 ^ i % 256 : Nat) : Int) := by
  rw [byR_nat X hX i]
  have : Int.tmod ((X / 256 ^ i : Nat) : Int) 256 = ((X / 256 ^ i % 256 : Nat) : Int) := (Int.ofNat_tmod (X / 256 ^ i) 256).symm
  rw [this, wrapU8]
  omega
theorem shrB (X k : Nat) (hk : k ≤ 32) : IntKind.wrap .u8 (sShr .u32 (X : Int) (k : Int)) = ((X / 2 ^ k % 256 : Nat) : Int) := by
  unfold sShr
  have m2 : min ((k : Int).toNat) (IntKind.bits .u32) = k := by rw [Int.toNat_natCast]; exact Nat.min_eq_left (show k ≤ 32 by omega)
  rw [m2, Int.fdiv_eq_ediv_of_nonneg _ (Int.pow_nonneg (by omega)), wrapU8, show (2 : Int) ^ k = ((2 ^ k : Nat) : Int) by simp, ← Int.natCast_ediv]
  omega
theorem put8_eq (l : List Int) (k : Nat) {x : Int} (hx : V32 x) : put8 l k x = putL l k x := by
  obtain ⟨X, rfl⟩ := Int.eq_ofNat_of_zero_le hx.1
  have hX : X < 18446744073709551616 := by have := hx.2; omega
  unfold put8 putL
  have b0 := byR_byte X hX 0
  have b1 := byR_byte X hX 1
  have b2 := byR_byte X hX 2
  have b3 := byR_byte X hX 3
  have s0 : IntKind.wrap .u8 (sShr .u32 (X : Int) 0) = ((X / 256 ^ 0 % 256 : Nat) : Int) := shrB X 0 (by omega)
  have s1 : IntKind.wrap .u8 (sShr .u32 (X : Int) 8) = ((X / 256 ^ 1 % 256 : Nat) : Int) := shrB X 8 (by omega)
  have s2 : IntKind.wrap .u8 (sShr .u32 (X : Int) 16) = ((X / 256 ^ 2 % 256 : Nat) : Int) := shrB X 16 (by omega)
  have s3 : IntKind.wrap .u8 (sShr .u32 (X : Int) 24) = ((X / 256 ^ 3 % 256 : Nat) : Int) := shrB X 24 (by omega)
  rw [b0, b1, b2, b3, s0, s1, s2, s3]
/-- All words' bytes. -/
def out8 (w l : List Int) : Nat → List Int → List Int
  | 0, b => b
  | n + 1, b => put8 (out8 w l n b) (4 * n) (Int.tmod (IntKind.wrap .u64 (w.getD n 0 + l.getD n 0)) 4294967296)
theorem out8_eq {w l : List Int} (hw : AllV w) (hl : AllV l) : ∀ n b, out8 w l n b = outL w l n b
  | 0, _ => rfl
  | n + 1, b => by
    have e : Int.tmod (IntKind.wrap .u64 (w.getD n 0 + l.getD n 0)) 4294967296 = IntKind.wrap .u32 (w.getD n 0 + l.getD n 0) := by
      have h1 := hw n
      have h2 := hl n
      unfold V32 at h1 h2
      rw [wU64, wrapU32, Int.tmod_eq_emod_of_nonneg (by omega)]
      omega
    rw [out8, outL, out8_eq hw hl n b, e, put8_eq _ _ (V32.wrap _)]
theorem put8_len (l : List Int) (k : Nat) (x : Int) : (put8 l k x).length = l.length := by simp [put8]
theorem out8_len (w l : List Int) : ∀ n b, (out8 w l n b).length = b.length
  | 0, _ => rfl
  | n + 1, b => by rw [out8, put8_len, out8_len w l n b]
/-- What is written ahead of all: the letters, the key, the number, the nonce. -/
def letL : List Int := [101, 120, 112, 97, 110, 100, 32, 51, 50, 45, 98, 121, 116, 101, 32, 107]
def numR (x : Int) : Nat → List Int
  | 0 => []
  | i + 1 => numR x i ++ [IntKind.wrap .u8 (Int.tmod (byR x i) 256)]
theorem numR_len (x : Int) : ∀ i, (numR x i).length = i
  | 0 => rfl
  | i + 1 => by rw [numR, List.length_append, numR_len x i]; rfl
def headL (k n : List Int) (x : Int) : List Int := letL ++ k ++ numR x 4 ++ n
theorem headL_len {k n : List Int} (hk : k.length = 32) (hn : n.length = 12) (x : Int) : (headL k n x).length = 64 := by
  unfold headL
  simp only [List.length_append, numR_len, hk, hn]; rfl
def wds (l : List Int) : Nat → List Int
  | 0 => []
  | i + 1 => wds l i ++ [wd8 l (4 * i)]
theorem wds_len (l : List Int) : ∀ i, (wds l i).length = i
  | 0 => rfl
  | i + 1 => by rw [wds, List.length_append, wds_len l i]; rfl
theorem wordE_in {a b c d : Int} (ha : 0 ≤ a ∧ a < 256) (hb : 0 ≤ b ∧ b < 256) (hc : 0 ≤ c ∧ c < 256) (hd : 0 ≤ d ∧ d < 256) : V32 (wordE a b c d) := by
  rw [wordE_eq ha hb hc hd]; unfold V32; omega
set_option maxHeartbeats 8000000 in
theorem wds_begin {k n : List Int} (hk : k.length = 32) (hn : n.length = 12) (bk : Bys k) (bn : Bys n) {x : Int} (hx : V32 x) : wds (headL k n x) 16 = beginL k n x ∧ AllV (beginL k n x) := by
  obtain ⟨X, rfl⟩ := Int.eq_ofNat_of_zero_le hx.1
  have hX : X < 18446744073709551616 := by have := hx.2; omega
  have hX2 : X < 4294967296 := by have := hx.2; omega
  have b0 := byR_byte X hX 0
  have b1 := byR_byte X hX 1
  have b2 := byR_byte X hX 2
  have b3 := byR_byte X hX 3
  match k, hk with
  | [k0, k1, k2, k3, k4, k5, k6, k7, k8, k9, k10, k11, k12, k13, k14, k15, k16, k17, k18, k19, k20, k21, k22, k23, k24, k25, k26, k27, k28, k29, k30, k31], _ =>
    match n, hn with
    | [n0, n1, n2, n3, n4, n5, n6, n7, n8, n9, n10, n11], _ =>
      have K := fun j => bk.at j
      have N := fun j => bn.at j
      generalize hH : headL _ _ _ = H
      have g : ∀ j v, (headL [k0, k1, k2, k3, k4, k5, k6, k7, k8, k9, k10, k11, k12, k13, k14, k15, k16, k17, k18, k19, k20, k21, k22, k23, k24, k25, k26, k27, k28, k29, k30, k31] [n0, n1, n2, n3, n4, n5, n6, n7, n8, n9, n10, n11] (X : Int)).getD j 0 = v → H.getD j 0 = v := fun j v h => hH ▸ h
      have w0 : wd8 H 0 = 1634760805 := by rw [wd8_eq H 0 (a := 101) (b := 120) (c := 112) (d := 97) (g _ _ rfl) (g _ _ rfl) (g _ _ rfl) (g _ _ rfl) (by decide) (by decide) (by decide) (by decide)]; decide +kernel
      have w1 : wd8 H 4 = 857760878 := by rw [wd8_eq H 4 (a := 110) (b := 100) (c := 32) (d := 51) (g _ _ rfl) (g _ _ rfl) (g _ _ rfl) (g _ _ rfl) (by decide) (by decide) (by decide) (by decide)]; decide +kernel
      have w2 : wd8 H 8 = 2036477234 := by rw [wd8_eq H 8 (a := 50) (b := 45) (c := 98) (d := 121) (g _ _ rfl) (g _ _ rfl) (g _ _ rfl) (g _ _ rfl) (by decide) (by decide) (by decide) (by decide)]; decide +kernel
      have w3 : wd8 H 12 = 1797285236 := by rw [wd8_eq H 12 (a := 116) (b := 101) (c := 32) (d := 107) (g _ _ rfl) (g _ _ rfl) (g _ _ rfl) (g _ _ rfl) (by decide) (by decide) (by decide) (by decide)]; decide +kernel
      have w4 := wd8_eq H 16 (g _ _ rfl) (g _ _ rfl) (g _ _ rfl) (g _ _ rfl) (K 0) (K 1) (K 2) (K 3)
      have w5 := wd8_eq H 20 (g _ _ rfl) (g _ _ rfl) (g _ _ rfl) (g _ _ rfl) (K 4) (K 5) (K 6) (K 7)
      have w6 := wd8_eq H 24 (g _ _ rfl) (g _ _ rfl) (g _ _ rfl) (g _ _ rfl) (K 8) (K 9) (K 10) (K 11)
      have w7 := wd8_eq H 28 (g _ _ rfl) (g _ _ rfl) (g _ _ rfl) (g _ _ rfl) (K 12) (K 13) (K 14) (K 15)
      have w8 := wd8_eq H 32 (g _ _ rfl) (g _ _ rfl) (g _ _ rfl) (g _ _ rfl) (K 16) (K 17) (K 18) (K 19)
      have w9 := wd8_eq H 36 (g _ _ rfl) (g _ _ rfl) (g _ _ rfl) (g _ _ rfl) (K 20) (K 21) (K 22) (K 23)
      have w10 := wd8_eq H 40 (g _ _ rfl) (g _ _ rfl) (g _ _ rfl) (g _ _ rfl) (K 24) (K 25) (K 26) (K 27)
      have w11 := wd8_eq H 44 (g _ _ rfl) (g _ _ rfl) (g _ _ rfl) (g _ _ rfl) (K 28) (K 29) (K 30) (K 31)
      have w12 : wd8 H 48 = (X : Int) := by
        rw [wd8_eq H 48 (g _ _ b0) (g _ _ b1) (g _ _ b2) (g _ _ b3) (by omega) (by omega) (by omega) (by omega), wordE_eq (by omega) (by omega) (by omega) (by omega)]
        have p3 : (256 : Nat) ^ 3 = 16777216 := by decide
        have p2 : (256 : Nat) ^ 2 = 65536 := by decide
        rw [p3, p2, Nat.pow_one, Nat.pow_zero, Nat.div_one]
        omega
      have w13 := wd8_eq H 52 (g _ _ rfl) (g _ _ rfl) (g _ _ rfl) (g _ _ rfl) (N 0) (N 1) (N 2) (N 3)
      have w14 := wd8_eq H 56 (g _ _ rfl) (g _ _ rfl) (g _ _ rfl) (g _ _ rfl) (N 4) (N 5) (N 6) (N 7)
      have w15 := wd8_eq H 60 (g _ _ rfl) (g _ _ rfl) (g _ _ rfl) (g _ _ rfl) (N 8) (N 9) (N 10) (N 11)
      have e : wds H 16 = [wd8 H 0, wd8 H 4, wd8 H 8, wd8 H 12, wd8 H 16, wd8 H 20, wd8 H 24, wd8 H 28, wd8 H 32, wd8 H 36, wd8 H 40, wd8 H 44, wd8 H 48, wd8 H 52, wd8 H 56, wd8 H 60] := rfl
      have e2 : wds H 16 = beginL [k0, k1, k2, k3, k4, k5, k6, k7, k8, k9, k10, k11, k12, k13, k14, k15, k16, k17, k18, k19, k20, k21, k22, k23, k24, k25, k26, k27, k28, k29, k30, k31] [n0, n1, n2, n3, n4, n5, n6, n7, n8, n9, n10, n11] (X : Int) := by
        rw [e, w0, w1, w2, w3, w4, w5, w6, w7, w8, w9, w10, w11, w12, w13, w14, w15]
        kernel_rfl
      refine ⟨e2, ?_⟩
      rw [← e2, e]
      have V0 : V32 (wd8 H 0) := by rw [w0]; exact ⟨by decide, by decide⟩
      have V1 : V32 (wd8 H 4) := by rw [w1]; exact ⟨by decide, by decide⟩
      have V2 : V32 (wd8 H 8) := by rw [w2]; exact ⟨by decide, by decide⟩
      have V3 : V32 (wd8 H 12) := by rw [w3]; exact ⟨by decide, by decide⟩
      have V4 : V32 (wd8 H 16) := by rw [w4]; exact wordE_in (K 0) (K 1) (K 2) (K 3)
      have V5 : V32 (wd8 H 20) := by rw [w5]; exact wordE_in (K 4) (K 5) (K 6) (K 7)
      have V6 : V32 (wd8 H 24) := by rw [w6]; exact wordE_in (K 8) (K 9) (K 10) (K 11)
      have V7 : V32 (wd8 H 28) := by rw [w7]; exact wordE_in (K 12) (K 13) (K 14) (K 15)
      have V8 : V32 (wd8 H 32) := by rw [w8]; exact wordE_in (K 16) (K 17) (K 18) (K 19)
      have V9 : V32 (wd8 H 36) := by rw [w9]; exact wordE_in (K 20) (K 21) (K 22) (K 23)
      have V10 : V32 (wd8 H 40) := by rw [w10]; exact wordE_in (K 24) (K 25) (K 26) (K 27)
      have V11 : V32 (wd8 H 44) := by rw [w11]; exact wordE_in (K 28) (K 29) (K 30) (K 31)
      have V12 : V32 (wd8 H 48) := by rw [w12]; exact hx
      have V13 : V32 (wd8 H 52) := by rw [w13]; exact wordE_in (N 0) (N 1) (N 2) (N 3)
      have V14 : V32 (wd8 H 56) := by rw [w14]; exact wordE_in (N 4) (N 5) (N 6) (N 7)
      have V15 : V32 (wd8 H 60) := by rw [w15]; exact wordE_in (N 8) (N 9) (N 10) (N 11)
      intro j
      match j with
      | 0 => exact V0
      | 1 => exact V1
      | 2 => exact V2
      | 3 => exact V3
      | 4 => exact V4
      | 5 => exact V5
      | 6 => exact V6
      | 7 => exact V7
      | 8 => exact V8
      | 9 => exact V9
      | 10 => exact V10
      | 11 => exact V11
      | 12 => exact V12
      | 13 => exact V13
      | 14 => exact V14
      | 15 => exact V15
      | _ + 16 => exact V32.zero
/-- The reference's block. -/
def blkR (k n : List Int) (x : Int) : List Int := out8 (rndR (wds (headL k n x) 16) 10) (wds (headL k n x) 16) 16 (List.replicate 64 0)
theorem blkR_eq {k n : List Int} (hk : k.length = 32) (hn : n.length = 12) (bk : Bys k) (bn : Bys n) {x : Int} (hx : V32 x) : blkR k n x = chachaL k n x := by
  obtain ⟨e, h⟩ := wds_begin hk hn bk bn hx
  obtain ⟨e2, h2⟩ := rndR_eq h 10
  unfold blkR
  rw [e, e2, out8_eq h2 h, rndL_ten]
  rfl
end Go.Proofs.Ythlleheeghiljaa
