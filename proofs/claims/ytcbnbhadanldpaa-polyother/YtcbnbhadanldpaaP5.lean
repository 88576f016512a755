/-
  poly: a key of noughts; words of bytes and bytes of words.
-/
import Derived.Test.YtcbnbhadanldpaaP4
import Derived.Test.YtcbnbhadanldpaaOy
namespace Go.Proofs.Ytcbnbhadanldpaa
open Go.RowKit
set_option maxRecDepth 100000

theorem p_or_nat (x y : Nat) (hx : x < 18446744073709551616) (hy : y < 18446744073709551616) : bits .or .u64 (x : Int) (y : Int) = ((x ||| y : Nat) : Int) := u64_or_nat x y hx hy
theorem p_or_high (k : Nat) (m a b : Int) (hm : m = 2 ^ k) (ha0 : 0 ≤ a) (ha : a < m) (hb0 : 0 ≤ b) (hb : b * m < 18446744073709551616) (ham : a < 18446744073709551616) : bits .or .u64 a (b * m) = a + b * m := by
  obtain ⟨x, rfl⟩ := Int.eq_ofNat_of_zero_le ha0
  obtain ⟨y, rfl⟩ := Int.eq_ofNat_of_zero_le hb0
  have hm' : m = ((2 ^ k : Nat) : Int) := by rw [hm]; simp
  subst hm'
  have hx : x < 2 ^ k := by omega
  have e1 : (y : Int) * ((2 ^ k : Nat) : Int) = ((2 ^ k * y : Nat) : Int) := by rw [Int.mul_comm]; simp
  rw [e1] at hb ⊢
  rw [p_or_nat _ _ (by omega) (by omega), Nat.or_comm, ← Nat.two_pow_add_eq_or_of_lt hx, Nat.add_comm]
  simp
/-- One byte more of a word. -/
theorem p_put (a f : Int) (i : Nat) (m : Int) (hm : m = 2 ^ (8 * i)) (hi : i < 8) (ha0 : 0 ≤ a) (ha : a < m) (hf0 : 0 ≤ f) (hf : f < 256) (hb : f * m < 18446744073709551616) : bits .or .u64 a (sShl .u64 (IntKind.wrap .u64 f) (8 * (i : Int))) = a + f * m := by
  have e : sShl .u64 (IntKind.wrap .u64 f) (8 * (i : Int)) = f * m := by
    unfold sShl
    rw [IntKind.wrap_u64, IntKind.wrap_u64, show f % 18446744073709551616 = f by omega, show min (8 * (i : Int)).toNat IntKind.u64.bits = 8 * i by show min _ 64 = _; omega, ← hm]
    have h0 : 0 ≤ f * m := Int.mul_nonneg hf0 (by omega)
    exact Int.emod_eq_of_lt h0 hb
  rw [e]
  have : m < 18446744073709551616 := by
    rw [hm]
    have : i = 0 ∨ i = 1 ∨ i = 2 ∨ i = 3 ∨ i = 4 ∨ i = 5 ∨ i = 6 ∨ i = 7 := by omega
    rcases this with rfl | rfl | rfl | rfl | rfl | rfl | rfl | rfl <;> decide
  exact p_or_high _ m a f hm ha0 ha hf0 hb (by omega)
theorem w8_val (f0 f1 f2 f3 f4 f5 f6 f7 : Int) (r : List Int) (k0 : 0 ≤ f0 ∧ f0 < 256) (k1 : 0 ≤ f1 ∧ f1 < 256) (k2 : 0 ≤ f2 ∧ f2 < 256) (k3 : 0 ≤ f3 ∧ f3 < 256) (k4 : 0 ≤ f4 ∧ f4 < 256) (k5 : 0 ≤ f5 ∧ f5 < 256) (k6 : 0 ≤ f6 ∧ f6 < 256) (k7 : 0 ≤ f7 ∧ f7 < 256) :
    w8 (f0 :: f1 :: f2 :: f3 :: f4 :: f5 :: f6 :: f7 :: r) = f0 + 256 * f1 + 65536 * f2 + 16777216 * f3 + 4294967296 * f4 + 1099511627776 * f5 + 281474976710656 * f6 + 72057594037927936 * f7 := by
  show bits .or .u64 (bits .or .u64 (bits .or .u64 (bits .or .u64 (bits .or .u64 (bits .or .u64 (bits .or .u64 (bits .or .u64 0 (sShl .u64 (IntKind.wrap .u64 f0) (8 * ((0 : Nat) : Int)))) (sShl .u64 (IntKind.wrap .u64 f1) (8 * ((1 : Nat) : Int)))) (sShl .u64 (IntKind.wrap .u64 f2) (8 * ((2 : Nat) : Int)))) (sShl .u64 (IntKind.wrap .u64 f3) (8 * ((3 : Nat) : Int)))) (sShl .u64 (IntKind.wrap .u64 f4) (8 * ((4 : Nat) : Int)))) (sShl .u64 (IntKind.wrap .u64 f5) (8 * ((5 : Nat) : Int)))) (sShl .u64 (IntKind.wrap .u64 f6) (8 * ((6 : Nat) : Int)))) (sShl .u64 (IntKind.wrap .u64 f7) (8 * ((7 : Nat) : Int))) = _
  rw [p_put 0 f0 0 1 (by decide) (by omega) (by omega) (by omega) k0.1 k0.2 (by omega),
    p_put _ f1 1 256 (by decide) (by omega) (by omega) (by omega) k1.1 k1.2 (by omega),
    p_put _ f2 2 65536 (by decide) (by omega) (by omega) (by omega) k2.1 k2.2 (by omega),
    p_put _ f3 3 16777216 (by decide) (by omega) (by omega) (by omega) k3.1 k3.2 (by omega),
    p_put _ f4 4 4294967296 (by decide) (by omega) (by omega) (by omega) k4.1 k4.2 (by omega),
    p_put _ f5 5 1099511627776 (by decide) (by omega) (by omega) (by omega) k5.1 k5.2 (by omega),
    p_put _ f6 6 281474976710656 (by decide) (by omega) (by omega) (by omega) k6.1 k6.2 (by omega),
    p_put _ f7 7 72057594037927936 (by decide) (by omega) (by omega) (by omega) k7.1 k7.2 (by omega)]
  omega
theorem byE_val (x : Int) (i : Nat) (m : Int) (hm : m = 2 ^ (8 * i)) (hi : i < 8) : byE x i = x / m % 256 := by
  unfold byE sShr
  rw [show min (8 * (i : Int)).toNat IntKind.u64.bits = 8 * i by show min _ 64 = _; omega, ← hm, Int.fdiv_eq_ediv_of_nonneg _ (by rw [hm]; exact Int.le_of_lt (Int.pow_pos (by decide)))]
  rfl
/-- Eight bytes of a number that are the bytes of eight. -/
def bys8 (x : Int) : List Int := [byE x 0, byE x 1, byE x 2, byE x 3, byE x 4, byE x 5, byE x 6, byE x 7]
theorem bys16_eq (x y : Int) : bys16 x y = bys8 x ++ bys8 y := rfl
theorem bys8_val (x : Int) : bys8 x = [x % 256, x / 256 % 256, x / 65536 % 256, x / 16777216 % 256, x / 4294967296 % 256, x / 1099511627776 % 256, x / 281474976710656 % 256, x / 72057594037927936 % 256] := by
  unfold bys8
  rw [byE_val x 0 1 (by decide) (by omega), byE_val x 1 256 (by decide) (by omega), byE_val x 2 65536 (by decide) (by omega), byE_val x 3 16777216 (by decide) (by omega), byE_val x 4 4294967296 (by decide) (by omega), byE_val x 5 1099511627776 (by decide) (by omega), byE_val x 6 281474976710656 (by decide) (by omega), byE_val x 7 72057594037927936 (by decide) (by omega), Int.ediv_one]
theorem bys8_w8 (f0 f1 f2 f3 f4 f5 f6 f7 : Int) (r : List Int) (k0 : 0 ≤ f0 ∧ f0 < 256) (k1 : 0 ≤ f1 ∧ f1 < 256) (k2 : 0 ≤ f2 ∧ f2 < 256) (k3 : 0 ≤ f3 ∧ f3 < 256) (k4 : 0 ≤ f4 ∧ f4 < 256) (k5 : 0 ≤ f5 ∧ f5 < 256) (k6 : 0 ≤ f6 ∧ f6 < 256) (k7 : 0 ≤ f7 ∧ f7 < 256) :
    bys8 (w8 (f0 :: f1 :: f2 :: f3 :: f4 :: f5 :: f6 :: f7 :: r)) = [f0, f1, f2, f3, f4, f5, f6, f7] := by
  rw [bys8_val, w8_val f0 f1 f2 f3 f4 f5 f6 f7 r k0 k1 k2 k3 k4 k5 k6 k7]
  congr 1
  · omega
  congr 1
  · omega
  congr 1
  · omega
  congr 1
  · omega
  congr 1
  · omega
  congr 1
  · omega
  congr 1
  · omega
  congr 1
  omega
theorem times_nought (a b c d e : Int) : timesL a b c d e 0 0 0 0 0 = [0, 0, 0, 0, 0] := by
  have e1 : ∀ x, ml x 0 = 0 := fun x => by unfold ml; rw [Int.mul_zero]; rfl
  have e2 : ∀ x, m5 x 0 = 0 := fun x => by unfold m5; rw [Int.mul_zero]; rfl
  unfold timesL
  simp only [e1, e2]
  decide +kernel
theorem fold_nought (t : List Int) : ∀ k, fold5 [0, 0, 0, 0, 0] [0, 0, 0, 0, 0] t k = [0, 0, 0, 0, 0]
  | 0 => rfl
  | k + 1 => by rw [fold5]; exact times_nought _ _ _ _ _
theorem all_nought (t : List Int) : all5 [0, 0, 0, 0, 0] [0, 0, 0, 0, 0] t = [0, 0, 0, 0, 0] := by
  unfold all5
  split
  · exact fold_nought _ _
  · exact times_nought _ _ _ _ _
theorem tag_nought (k : List Int) : tagL k 0 0 0 0 0 = bys8 (w8 k) ++ bys8 (w8 (k.drop 8)) := by
  have e : leastL 0 0 0 0 0 = [0, 0, 0, 0, 0] := by decide +kernel
  have e1 : lowE 0 0 0 = 0 := by decide +kernel
  have e2 : highE 0 0 0 = 0 := by decide +kernel
  have h1 := w8_in k
  have h2 := w8_in (k.drop 8)
  unfold tagL
  rw [e]
  show tag2 (lowE 0 0 0) (highE 0 0 0) k = _
  rw [e1, e2, tag2, bys16_eq, show (0 + w8 k + 0) % 18446744073709551616 = w8 k by omega, show (0 + w8 (k.drop 8) + (0 + w8 k + 0) / 18446744073709551616) % 18446744073709551616 = w8 (k.drop 8) by omega]
theorem hi_nought (b : Int) (h0 : 0 ≤ b) (h1 : b < 256) : bits .and .u8 (sShl .u8 b 4) 15 = 0 ∧ bits .and .u8 (bits .and .u8 b 3) 252 = 0 := by
  have key : ∀ m : Fin 256, bits .and .u8 (sShl .u8 ((m.val : Nat) : Int) 4) 15 = 0 ∧ bits .and .u8 (bits .and .u8 ((m.val : Nat) : Int) 3) 252 = 0 := by decide +kernel
  have := key ⟨b.toNat, by omega⟩
  rwa [show ((b.toNat : Nat) : Int) = b by omega] at this
/-- The sum with a key whose first half is nought. -/
theorem sum_nought (b : Int) (h0 : 0 ≤ b) (h1 : b < 256) (s t : List Int) (hs : s.length = 16) (hb : Bys s) :
    sumL (lay [0, 0, 0, sShl .u8 b 4, bits .and .u8 b 3, 0, 0, sShl .u8 b 4, bits .and .u8 b 3, 0, 0, sShl .u8 b 4, bits .and .u8 b 3, 0, 0, sShl .u8 b 4, 0, 0, 0, 0, 0, 0, 0, 0, 0, 0, 0, 0, 0, 0, 0, 0] 16 (List.take 16 (List.drop 0 (List.take 16 (List.drop 0 s))))) t = s := by
  obtain ⟨e1, e2⟩ := hi_nought b h0 h1
  match s, hs, hb with
  | [s0, s1, s2, s3, s4, s5, s6, s7, s8, s9, sa, sb, sc, sd, se, sf], _, hb =>
    have k : ∀ x ∈ [s0, s1, s2, s3, s4, s5, s6, s7, s8, s9, sa, sb, sc, sd, se, sf], 0 ≤ x ∧ x < 256 := hb
    have e3 : facL (lay [0, 0, 0, sShl .u8 b 4, bits .and .u8 b 3, 0, 0, sShl .u8 b 4, bits .and .u8 b 3, 0, 0, sShl .u8 b 4, bits .and .u8 b 3, 0, 0, sShl .u8 b 4, 0, 0, 0, 0, 0, 0, 0, 0, 0, 0, 0, 0, 0, 0, 0, 0] 16 (List.take 16 (List.drop 0 (List.take 16 (List.drop 0 [s0, s1, s2, s3, s4, s5, s6, s7, s8, s9, sa, sb, sc, sd, se, sf]))))) =
      [0, 0, 0, bits .and .u8 (sShl .u8 b 4) 15, bits .and .u8 (bits .and .u8 b 3) 252, 0, 0, bits .and .u8 (sShl .u8 b 4) 15, bits .and .u8 (bits .and .u8 b 3) 252, 0, 0, bits .and .u8 (sShl .u8 b 4) 15, bits .and .u8 (bits .and .u8 b 3) 252, 0, 0, bits .and .u8 (sShl .u8 b 4) 15] := rfl
    have e4 : digL [0, 0, 0, 0, 0, 0, 0, 0, 0, 0, 0, 0, 0, 0, 0, 0] 0 = [0, 0, 0, 0, 0] := by decide +kernel
    unfold sumL
    rw [e3, e1, e2, e4, all_nought]
    show tagL [s0, s1, s2, s3, s4, s5, s6, s7, s8, s9, sa, sb, sc, sd, se, sf] 0 0 0 0 0 = _
    rw [tag_nought]
    show bys8 (w8 [s0, s1, s2, s3, s4, s5, s6, s7, s8, s9, sa, sb, sc, sd, se, sf]) ++ bys8 (w8 [s8, s9, sa, sb, sc, sd, se, sf]) = _
    rw [bys8_w8 _ _ _ _ _ _ _ _ _ (k _ (by simp)) (k _ (by simp)) (k _ (by simp)) (k _ (by simp)) (k _ (by simp)) (k _ (by simp)) (k _ (by simp)) (k _ (by simp)),
      bys8_w8 _ _ _ _ _ _ _ _ _ (k _ (by simp)) (k _ (by simp)) (k _ (by simp)) (k _ (by simp)) (k _ (by simp)) (k _ (by simp)) (k _ (by simp)) (k _ (by simp))]
    rfl
end Go.Proofs.Ytcbnbhadanldpaa
