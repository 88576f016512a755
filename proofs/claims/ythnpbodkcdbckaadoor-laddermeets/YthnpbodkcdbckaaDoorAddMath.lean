/-
  Plain facts for the reference's fold, Add, Mul. No program.
-/
/-
  Plain facts for the reference's Add and Mul. No program.
-/
import Derived.Test.YthnpbodkcdbckaaDoorRefC
namespace Go.Proofs.YthnpbodkcdbckaaDoor
set_option maxRecDepth 100000
open Go.RowKit

theorem dig_set (B : Int) : ∀ (l : List Int) (j : Nat) (x : Int), j < l.length → dig B (l.set j x) = dig B l + B ^ j * (x - l.getD j 0)
  | [], j, x, h => by simp at h
  | a :: l, 0, x, _ => by simp [dig]; omega
  | a :: l, j + 1, x, h => by
    have ih := dig_set B l j x (by simpa using h)
    rw [List.set_cons_succ, List.getD_cons_succ]
    simp only [dig, ih]
    rw [Int.mul_add, Int.pow_succ, Int.mul_comm (B ^ j) B, ← Int.mul_assoc]
    omega
theorem getD_set_ne (l : List Int) (i j : Nat) (x : Int) (h : j ≠ i) : (l.set i x).getD j 0 = l.getD j 0 := by
  rw [List.getD_eq_getElem?_getD, List.getD_eq_getElem?_getD, List.getElem?_set_ne (by omega)]
theorem getD_set_eq (l : List Int) (i : Nat) (x : Int) (h : i < l.length) : (l.set i x).getD i 0 = x := by
  rw [List.getD_eq_getElem?_getD, List.getElem?_set_self h]; rfl
theorem pow16 : (65536 : Int) ^ 16 = 115792089237316195423570985008687907853269984665640564039457584007913129639936 := by decide
theorem pow32 : (65536 : Int) ^ 32 = 13407807929942597099574024998205846127479365820592393377723561443721764030073546976801874298166903427690031858186486050853753882811946569946433649006084096 := by decide
/-- All digits below a bound. -/
def Small40 (l : List Int) : Prop := ∀ j, 0 ≤ l.getD j 0 ∧ l.getD j 0 < 1099511627776
theorem Small40.set {l : List Int} (h : Small40 l) (i : Nat) (x : Int) (h0 : 0 ≤ x) (h1 : x < 1099511627776) : Small40 (l.set i x) := fun j => by
  by_cases e : j = i
  · subst e
    by_cases hl : j < l.length
    · rw [getD_set_eq _ _ _ hl]; exact ⟨h0, h1⟩
    · rw [List.set_eq_of_length_le (by omega)]; exact h j
  · rw [getD_set_ne _ _ _ _ e]; exact h j
/-- The digits as they are after k rounds of carrying. -/
structure Carry (L M : List Int) (k : Nat) (c : Int) : Prop where
  len : M.length = 32
  small : Small40 M
  low : ∀ j, j < k → M.getD j 0 < 65536
  c0 : 0 ≤ c
  c1 : c < 1099511627776
  eq : dig 65536 M + 65536 ^ k * c = dig 65536 L
theorem Carry.start {L : List Int} (hl : L.length = 32) (hs : Small40 L) : Carry L L 0 0 := ⟨hl, hs, fun j h => by omega, by omega, by omega, by simp⟩
theorem Carry.step {L M : List Int} {k : Nat} {c : Int} (h : Carry L M k c) (hk : k < 32) : Carry L (M.set k ((M.getD k 0 + c) % 65536)) (k + 1) ((M.getD k 0 + c) / 65536) := by
  have hm := h.small k
  have hc0 := h.c0
  have hc1 := h.c1
  refine ⟨by rw [List.length_set]; exact h.len, h.small.set k _ (by omega) (by omega), fun j hj => ?_, by omega, by omega, ?_⟩
  · by_cases e : j = k
    · subst e; rw [getD_set_eq _ _ _ (by rw [h.len]; exact hk)]; omega
    · rw [getD_set_ne _ _ _ _ e]; exact h.low j (by omega)
  · rw [dig_set _ _ _ _ (by rw [h.len]; exact hk), ← h.eq, Int.pow_succ, Int.mul_assoc, Int.add_assoc, ← Int.mul_add]
    congr 2
    omega
theorem digs_of_low {M : List Int} (hs : Small40 M) (hl : ∀ j, j < M.length → M.getD j 0 < 65536) : Digs 65536 M := fun x hx => by
  obtain ⟨j, hj, rfl⟩ := List.getElem_of_mem hx
  have e : M.getD j 0 = M[j] := by rw [List.getD_eq_getElem?_getD, List.getElem?_eq_getElem hj]; rfl
  have h1 := hs j
  have h2 := hl j hj
  rw [e] at h1 h2
  exact ⟨h1.1, h2⟩
theorem Carry.done {L M : List Int} {c : Int} (h : Carry L M 32 c) (hL : dig 65536 L < 65536 ^ 32) : Digs 65536 M ∧ dig 65536 M = dig 65536 L := by
  have hd : Digs 65536 M := digs_of_low h.small (fun j hj => h.low j (by rw [h.len] at hj; exact hj))
  have h0 := dig_nonneg (B := 65536) (by omega) hd
  have he := h.eq
  have hc0 := h.c0
  refine ⟨hd, ?_⟩
  rw [pow32] at *
  omega
theorem pow_pos' (k : Nat) : (0 : Int) < 65536 ^ k := Int.pow_pos (by omega)
/-- The higher half, k of its digits. -/
def hi (M : List Int) (k : Nat) : Int := dig 65536 (fillTo (fun j => M.getD (16 + j) 0) 16 k)
theorem hi_zero (M : List Int) : hi M 0 = 0 := by unfold hi; rw [fillTo_zero]; decide
theorem hi_succ (M : List Int) (k : Nat) (hk : k < 16) : hi M (k + 1) = hi M k + 65536 ^ k * M.getD (16 + k) 0 := by
  unfold hi
  rw [← fillTo_succ, dig_set _ _ _ _ (by rw [fillTo_length]; exact hk), fillTo_get _ _ _ _ hk, if_neg (by omega), Int.sub_zero]
theorem hi_nonneg {M : List Int} (hs : Small40 M) : ∀ k, k ≤ 16 → 0 ≤ hi M k
  | 0, _ => by rw [hi_zero]; omega
  | k + 1, h => by
    rw [hi_succ _ _ (by omega)]
    have h1 := hi_nonneg hs k (by omega)
    have h2 := Int.mul_nonneg (Int.le_of_lt (pow_pos' k)) (hs (16 + k)).1
    omega
theorem hi_over {M : List Int} (hs : Small40 M) (k : Nat) (hk : k < 16) : (hi M (k + 1) ≠ 0) ↔ (hi M k ≠ 0 ∨ M.getD (16 + k) 0 ≠ 0) := by
  rw [hi_succ _ _ hk]
  have h1 := hi_nonneg hs k (by omega)
  have hp := pow_pos' k
  have h2 := (hs (16 + k)).1
  generalize M.getD (16 + k) 0 = x at *
  have h3 := Int.mul_nonneg (Int.le_of_lt hp) h2
  constructor
  · intro h
    by_cases e : x = 0
    · subst e; left; intro e2; apply h; rw [e2]; simp
    · exact Or.inr e
  · rintro (h | h) e
    · omega
    · have : 0 < (65536 : Int) ^ k * x := Int.mul_pos hp (by omega)
      omega
theorem split16 (M : List Int) (hl : M.length = 32) : dig 65536 M = dig 65536 (fillTo (fun j => M.getD j 0) 16 16) + 65536 ^ 16 * hi M 16 := by
  have e : M = fillTo (fun j => M.getD j 0) 16 16 ++ fillTo (fun j => M.getD (16 + j) 0) 16 16 := by
    apply List.ext_getElem (by simp [fillTo, hl])
    intro j h1 h2
    rw [List.getElem_append]
    split
    · next h =>
      simp only [fillTo_length] at h
      simp [fillTo, List.getD_eq_getElem?_getD, List.getElem?_eq_getElem h1]
      omega
    · next h =>
      simp only [fillTo_length] at h
      simp [fillTo, List.getD_eq_getElem?_getD, show 16 + (j - 16) = j by omega, List.getElem?_eq_getElem h1]
      omega
  conv => lhs; rw [e]
  rw [dig_append, fillTo_length]
  rfl
theorem low_digits {M : List Int} (hd : Digs 65536 M) (hl : M.length = 32) (h0 : hi M 16 = 0) : fillTo (fun j => M.getD j 0) 16 16 = digits 65536 16 (dig 65536 M) ∧ dig 65536 M < 65536 ^ 16 := by
  have hD : Digs 65536 (fillTo (fun j => M.getD j 0) 16 16) := fun x hx => by
    rw [fillTo_all] at hx
    obtain ⟨j, _, rfl⟩ := List.mem_map.1 hx
    exact hd.get (by omega) j
  rw [split16 M hl, h0, Int.mul_zero, Int.add_zero]
  have h1 := digits_dig (B := 65536) (by omega) hD
  have h2 := dig_lt (B := 65536) (by omega) hD
  rw [fillTo_length] at h1 h2
  exact ⟨h1.symm, h2⟩
/-- The digits as they are after k rounds of folding. -/
structure Folds (M N : List Int) (k : Nat) : Prop where
  len : N.length = 32
  small : Small40 N
  same : ∀ j, k ≤ j → j < 16 → N.getD j 0 = M.getD j 0 ∧ N.getD (16 + j) 0 = M.getD (16 + j) 0
  eq : dig 65536 N + 115792089237316195423570985008687907853269984665640564039457584007913129639898 * hi M k = dig 65536 M
theorem Folds.start {M : List Int} (hl : M.length = 32) (hs : Small40 M) : Folds M M 0 := ⟨hl, hs, fun j _ _ => ⟨rfl, rfl⟩, by rw [hi_zero]; simp⟩
theorem Folds.step {M N : List Int} {k : Nat} (h : Folds M N k) (hd : Digs 65536 M) (hk : k < 16) : Folds M ((N.set k (N.getD k 0 + 38 * N.getD (16 + k) 0)).set (16 + k) 0) (k + 1) := by
  obtain ⟨e1, e2⟩ := h.same k (by omega) hk
  have b1 := hd.get (B := 65536) (by omega) k
  have b2 := hd.get (B := 65536) (by omega) (16 + k)
  refine ⟨by rw [List.length_set, List.length_set]; exact h.len, (h.small.set k _ (by omega) (by omega)).set (16 + k) 0 (by omega) (by omega), fun j hj hj2 => ?_, ?_⟩
  · rw [getD_set_ne _ _ _ _ (by omega), getD_set_ne _ _ _ _ (by omega), getD_set_ne _ _ _ _ (by omega), getD_set_ne _ _ _ _ (by omega)]
    exact h.same j (by omega) hj2
  · rw [dig_set _ _ _ _ (by rw [List.length_set, h.len]; omega), dig_set _ _ _ _ (by rw [h.len]; omega), getD_set_ne _ _ _ _ (by omega), hi_succ _ _ hk, ← h.eq, ← e2]
    rw [Int.pow_add, pow16]
    generalize N.getD (16 + k) 0 = x
    generalize N.getD k 0 = y
    generalize (65536 : Int) ^ k = z
    have q : 115792089237316195423570985008687907853269984665640564039457584007913129639936 * z * (0 - x) = -(115792089237316195423570985008687907853269984665640564039457584007913129639936 * (z * x)) := by
      rw [Int.zero_sub, Int.mul_neg, Int.mul_assoc]
    have q2 : z * (y + 38 * x - y) = 38 * (z * x) := by
      rw [show y + 38 * x - y = 38 * x by omega, ← Int.mul_assoc, Int.mul_comm z 38, Int.mul_assoc]
    rw [q, q2]
    omega
theorem Folds.cong {M N : List Int} (h : Folds M N 16) : Cong (dig 65536 N) (dig 65536 M) := by
  refine ⟨-(2 * hi M 16), ?_⟩
  have := h.eq
  unfold pp
  omega
theorem Folds.less {M N : List Int} (h : Folds M N 16) (hs : Small40 M) (h0 : hi M 16 ≠ 0) : 0 ≤ dig 65536 N → (dig 65536 N).toNat < (dig 65536 M).toNat := by
  have h1 := h.eq
  have h2 := hi_nonneg hs 16 (by omega)
  omega
theorem small40_nonneg : ∀ {l : List Int}, Small40 l → 0 ≤ dig 65536 l
  | [], _ => by simp [dig]
  | x :: l, h => by
    have h1 := (h 0).1
    have h2 := small40_nonneg (l := l) (fun j => by have := h (j + 1); rwa [List.getD_cons_succ] at this)
    rw [List.getD_cons_zero] at h1
    simp only [dig]
    omega
end Go.Proofs.YthnpbodkcdbckaaDoor
namespace Go.Proofs.YthnpbodkcdbckaaDoor
set_option maxRecDepth 100000
open Go.RowKit

/-- The number of the first k digits of sixteen. -/
def part (A : List Int) (k : Nat) : Int := dig 65536 (fillTo (fun j => A.getD j 0) 16 k)
theorem part_zero (A : List Int) : part A 0 = 0 := by unfold part; rw [fillTo_zero]; decide
theorem part_succ (A : List Int) (k : Nat) (hk : k < 16) : part A (k + 1) = part A k + 65536 ^ k * A.getD k 0 := by
  unfold part
  rw [← fillTo_succ, dig_set _ _ _ _ (by rw [fillTo_length]; exact hk), fillTo_get _ _ _ _ hk, if_neg (by omega), Int.sub_zero]
theorem part_all (A : List Int) (h : A.length = 16) : part A 16 = dig 65536 A := by
  unfold part
  congr 1
  apply List.ext_getElem (by simp [fillTo, h])
  intro j h1 h2
  simp [fillTo, List.getD_eq_getElem?_getD, List.getElem?_eq_getElem h2]
  omega
/-- The digits of a sum, k of them. -/
structure AddR (A B D : List Int) (k : Nat) : Prop where
  len : D.length = 32
  small : Small40 D
  rest : ∀ j, k ≤ j → D.getD j 0 = 0
  eq : dig 65536 D = part A k + part B k
theorem small40_zero (n : Nat) : Small40 (List.replicate n 0) := fun j => by
  have e : (List.replicate n (0 : Int)).getD j 0 = 0 := by
    rw [List.getD_eq_getElem?_getD]
    by_cases h : j < n
    · simp [h]
    · simp [h]
  rw [e]; omega
theorem getD_zeros (n j : Nat) : (List.replicate n (0 : Int)).getD j 0 = 0 := by
  rw [List.getD_eq_getElem?_getD]
  by_cases h : j < n
  · simp [h]
  · simp [h]
theorem AddR.start (A B : List Int) : AddR A B (List.replicate 32 0) 0 := ⟨by simp, small40_zero 32, fun j _ => getD_zeros 32 j, by rw [part_zero, part_zero]; decide⟩
theorem AddR.step {A B D : List Int} {k : Nat} (h : AddR A B D k) (hk : k < 16) (hA : Digs 65536 A) (hB : Digs 65536 B) : AddR A B (D.set k (A.getD k 0 + B.getD k 0)) (k + 1) := by
  have ha := hA.get (B := 65536) (by omega) k
  have hb := hB.get (B := 65536) (by omega) k
  refine ⟨by rw [List.length_set]; exact h.len, h.small.set k _ (by omega) (by omega), fun j hj => by rw [getD_set_ne _ _ _ _ (by omega)]; exact h.rest j (by omega), ?_⟩
  rw [dig_set _ _ _ _ (by rw [h.len]; omega), h.rest k (by omega), h.eq, part_succ _ _ hk, part_succ _ _ hk, Int.sub_zero, Int.mul_add]
  omega
theorem AddR.done {A B D : List Int} (h : AddR A B D 16) (hA : Digs 65536 A) (hB : Digs 65536 B) (la : A.length = 16) (lb : B.length = 16) : dig 65536 D = dig 65536 A + dig 65536 B ∧ dig 65536 D < 65536 ^ 32 := by
  have h1 := h.eq
  rw [part_all A la, part_all B lb] at h1
  have h2 := dig_lt (B := 65536) (by omega) hA
  have h3 := dig_lt (B := 65536) (by omega) hB
  rw [la] at h2
  rw [lb] at h3
  rw [pow16] at *
  rw [pow32]
  exact ⟨h1, by omega⟩
/-- The digits of a product, i rows and k more. -/
structure MulR (A B D : List Int) (i k : Nat) : Prop where
  len : D.length = 32
  b0 : ∀ j, 0 ≤ D.getD j 0
  b1 : ∀ j, D.getD j 0 ≤ (16 * i + k) * 4294836225
  eq : dig 65536 D = part A i * dig 65536 B + 65536 ^ i * A.getD i 0 * part B k
theorem MulR.start (A B : List Int) : MulR A B (List.replicate 32 0) 0 0 := by
  have hz : ∀ j, (List.replicate 32 (0 : Int)).getD j 0 = 0 := getD_zeros 32
  exact ⟨by simp, fun j => by rw [hz]; omega, fun j => by rw [hz]; omega, by rw [part_zero, part_zero, Int.zero_mul, Int.mul_zero]; decide⟩
theorem mul_bd16 {x y : Int} (hx : 0 ≤ x ∧ x < 65536) (hy : 0 ≤ y ∧ y < 65536) : 0 ≤ x * y ∧ x * y ≤ 4294836225 := by
  refine ⟨Int.mul_nonneg hx.1 hy.1, ?_⟩
  have h1 : x * y ≤ 65535 * y := Int.mul_le_mul_of_nonneg_right (by omega) hy.1
  have h2 : 65535 * y ≤ 65535 * 65535 := Int.mul_le_mul_of_nonneg_left (by omega) (by omega)
  omega
theorem MulR.step {A B D : List Int} {i k : Nat} (h : MulR A B D i k) (hi : i < 16) (hk : k < 16) (hA : Digs 65536 A) (hB : Digs 65536 B) : MulR A B (D.set (i + k) (D.getD (i + k) 0 + A.getD i 0 * B.getD k 0)) i (k + 1) := by
  have hp := mul_bd16 (hA.get (B := 65536) (by omega) i) (hB.get (B := 65536) (by omega) k)
  have hl : i + k < D.length := by rw [h.len]; omega
  refine ⟨by rw [List.length_set]; exact h.len, fun j => ?_, fun j => ?_, ?_⟩
  · have := h.b0 j
    have := h.b0 (i + k)
    by_cases e : j = i + k
    · subst e; rw [getD_set_eq _ _ _ hl]; omega
    · rw [getD_set_ne _ _ _ _ e]; omega
  · have := h.b1 j
    have := h.b1 (i + k)
    by_cases e : j = i + k
    · subst e; rw [getD_set_eq _ _ _ hl]; push_cast; omega
    · rw [getD_set_ne _ _ _ _ e]; push_cast; omega
  · rw [dig_set _ _ _ _ hl, h.eq, part_succ _ _ hk, Int.pow_add]
    generalize A.getD i 0 = x
    generalize B.getD k 0 = y
    generalize (65536 : Int) ^ i = u
    generalize (65536 : Int) ^ k = v
    generalize D.getD (i + k) 0 = z
    rw [show z + x * y - z = x * y by omega, Int.mul_add]
    have e : u * v * (x * y) = u * x * (v * y) := by
      rw [Int.mul_assoc, Int.mul_assoc, ← Int.mul_assoc v x y, Int.mul_comm v x, Int.mul_assoc]
    rw [e]
    omega
theorem MulR.row {A B D : List Int} {i : Nat} (h : MulR A B D i 16) (hi : i < 16) (lb : B.length = 16) : MulR A B D (i + 1) 0 := by
  refine ⟨h.len, h.b0, fun j => by have := h.b1 j; push_cast at *; omega, ?_⟩
  rw [h.eq, part_all B lb, part_zero, Int.mul_zero, part_succ _ _ hi, Int.add_mul]
  omega
theorem MulR.small {A B D : List Int} {i k : Nat} (h : MulR A B D i k) (hik : 16 * i + k ≤ 256) : ∀ j, 0 ≤ D.getD j 0 ∧ D.getD j 0 < 1099511627776 := fun j => by
  have h0 := h.b0 j
  have h1 := h.b1 j
  omega
theorem MulR.done {A B D : List Int} (h : MulR A B D 16 0) (hA : Digs 65536 A) (hB : Digs 65536 B) (la : A.length = 16) (lb : B.length = 16) : Small40 D ∧ dig 65536 D = dig 65536 A * dig 65536 B ∧ dig 65536 D < 65536 ^ 32 := by
  have h1 := h.eq
  rw [part_all A la, part_zero, Int.mul_zero, Int.add_zero] at h1
  have a1 := dig_lt (B := 65536) (by omega) hA
  have b1 := dig_lt (B := 65536) (by omega) hB
  have a0 := dig_nonneg (B := 65536) (by omega) hA
  have b0 := dig_nonneg (B := 65536) (by omega) hB
  rw [la] at a1
  rw [lb] at b1
  refine ⟨h.small (by omega), h1, ?_⟩
  rw [h1, show (65536 : Int) ^ 32 = 65536 ^ 16 * 65536 ^ 16 by decide]
  exact Int.lt_of_le_of_lt (Int.mul_le_mul_of_nonneg_right (Int.le_of_lt a1) b0) (Int.mul_lt_mul_of_pos_left b1 (by decide))
end Go.Proofs.YthnpbodkcdbckaaDoor
