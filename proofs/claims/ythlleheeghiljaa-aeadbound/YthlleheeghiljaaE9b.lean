/-
  Numbers as lists of digits of 256; the reference of layer 9 (poly): what it reckons. No program.
-/
/-
  The reference of layer 9 (poly): blocks added, products of digits. No program.
-/
import Derived.Test.YthlleheeghiljaaE8
import Derived.Test.YthlleheeghiljaaBst
namespace Go.Proofs.Ythlleheeghiljaa
open Go.RowKit
set_option maxRecDepth 100000

def valD : List Int → Int
  | [] => 0
  | x :: r => x + 256 * valD r
def dgl : Nat → Int → List Int
  | 0, _ => []
  | n + 1, v => v % 256 :: dgl n (v / 256)
/-- 2^130 - 5. -/
def pP : Int := 1361129467683753853853498429727072845819
theorem dgl_len : ∀ n v, (dgl n v).length = n
  | 0, _ => rfl
  | n + 1, v => by rw [dgl, List.length_cons, dgl_len n]
theorem pow256 (i : Nat) : (0 : Int) < 256 ^ i := Int.pow_pos (by decide)
theorem valD_set : ∀ (l : List Int) (i : Nat) (y : Int), i < l.length → valD (l.set i y) = valD l + (y - l.getD i 0) * 256 ^ i
  | [], _, _, h => absurd h (Nat.not_lt_zero _)
  | x :: r, 0, y, _ => by
    show y + 256 * valD r = x + 256 * valD r + (y - x) * 256 ^ 0
    rw [Int.pow_zero]; omega
  | x :: r, i + 1, y, h => by
    have ih := valD_set r i y (by simpa using h)
    show x + 256 * valD (r.set i y) = x + 256 * valD r + (y - r.getD i 0) * 256 ^ (i + 1)
    rw [ih, Int.pow_succ, ← Int.mul_assoc]
    generalize (y - r.getD i 0) * 256 ^ i = z
    omega
theorem getD_ins {l : List Int} {i j : Nat} {y : Int} (h : i < l.length) : (l.set i y).getD j 0 = if i = j then y else l.getD j 0 := getDset l i j y h
theorem valD_nn : ∀ {l : List Int}, (∀ j, 0 ≤ l.getD j 0) → 0 ≤ valD l
  | [], _ => Int.le_refl 0
  | x :: r, h => by
    have h0 := h 0
    have ih := valD_nn (l := r) (fun j => h (j + 1))
    show 0 ≤ x + 256 * valD r
    have : 0 ≤ x := h0
    omega
theorem valD_ge : ∀ {l : List Int} (_ : ∀ j, 0 ≤ l.getD j 0) (i : Nat), l.getD i 0 * 256 ^ i ≤ valD l
  | [], _, i => by show (0 : Int) * _ ≤ 0; omega
  | x :: r, h, 0 => by
    have ih := valD_nn (l := r) (fun j => h (j + 1))
    show x * 256 ^ 0 ≤ x + 256 * valD r
    rw [Int.pow_zero]; omega
  | x :: r, h, i + 1 => by
    have ih := valD_ge (l := r) (fun j => h (j + 1)) i
    have h0 : 0 ≤ x := h 0
    show r.getD i 0 * 256 ^ (i + 1) ≤ x + 256 * valD r
    rw [Int.pow_succ, ← Int.mul_assoc]
    omega
theorem valD_lt : ∀ {l : List Int}, (∀ j, 0 ≤ l.getD j 0 ∧ l.getD j 0 < 256) → valD l < 256 ^ l.length
  | [], _ => by decide
  | x :: r, h => by
    have ih := valD_lt (l := r) (fun j => h (j + 1))
    have h0 : 0 ≤ x ∧ x < 256 := h 0
    show x + 256 * valD r < 256 ^ (r.length + 1)
    rw [Int.pow_succ]
    omega
theorem dgl_val : ∀ {l : List Int}, (∀ j, 0 ≤ l.getD j 0 ∧ l.getD j 0 < 256) → dgl l.length (valD l) = l
  | [], _ => rfl
  | x :: r, h => by
    have ih := dgl_val (l := r) (fun j => h (j + 1))
    have h0 : 0 ≤ x ∧ x < 256 := h 0
    show (x + 256 * valD r) % 256 :: dgl r.length ((x + 256 * valD r) / 256) = x :: r
    rw [show (x + 256 * valD r) % 256 = x by omega, show (x + 256 * valD r) / 256 = valD r by omega, ih]
theorem dgl_at : ∀ (n : Nat) (v : Int) (i : Nat), i < n → (dgl n v).getD i 0 = v / 256 ^ i % 256
  | 0, _, _, h => absurd h (Nat.not_lt_zero _)
  | n + 1, v, 0, _ => by
    show v % 256 = v / 256 ^ 0 % 256
    rw [Int.pow_zero, Int.ediv_one]
  | n + 1, v, i + 1, h => by
    show (dgl n (v / 256)).getD i 0 = _
    rw [dgl_at n _ i (by omega), Int.pow_succ, Int.mul_comm, Int.ediv_ediv_of_nonneg (by decide)]
theorem dgl_in (n : Nat) (v : Int) (i : Nat) : 0 ≤ (dgl n v).getD i 0 ∧ (dgl n v).getD i 0 < 256 := by
  by_cases h : i < n
  · rw [dgl_at n v i h]
    have := pow256 i
    generalize v / 256 ^ i = z
    omega
  · rw [List.getD_eq_getElem?_getD, List.getElem?_eq_none (by rw [dgl_len]; omega)]
    exact ⟨by decide, by decide⟩
theorem valD_dgl : ∀ (n : Nat) (v : Int), valD (dgl n v) = v % 256 ^ n
  | 0, v => by show (0 : Int) = v % 1; omega
  | n + 1, v => by
    have ih := valD_dgl n (v / 256)
    have hp := pow256 n
    show v % 256 + 256 * valD (dgl n (v / 256)) = _
    rw [ih, Int.pow_succ, Int.mul_comm (256 ^ n) 256]
    generalize (256 : Int) ^ n = m at *
    have h1 := Int.emod_add_mul_ediv (v / 256) m
    have h2 := Int.emod_add_mul_ediv v 256
    have h3 := Int.emod_nonneg (v / 256) (show m ≠ 0 by omega)
    have h4 := Int.emod_lt_of_pos (v / 256) hp
    have e : v = (v % 256 + 256 * (v / 256 % m)) + 256 * m * (v / 256 / m) := by
      generalize v / 256 / m = q at *
      generalize v / 256 % m = r at *
      rw [Int.mul_assoc]
      omega
    have e2 : v % (256 * m) = ((v % 256 + 256 * (v / 256 % m)) + 256 * m * (v / 256 / m)) % (256 * m) := congrArg (· % (256 * m)) e
    rw [e2, Int.add_mul_emod_self_left, Int.emod_eq_of_lt (a := v % 256 + 256 * (v / 256 % m)) (b := 256 * m) (by omega) (by omega)]
theorem dgl_zero (n : Nat) {v : Int} (h0 : 0 ≤ v) (h : v < 256 ^ n) (hz : ∀ j, j < n → (dgl n v).getD j 0 = 0) : v = 0 := by
  have e : dgl n v = List.replicate n 0 := by
    apply List.ext_getElem (by rw [dgl_len, List.length_replicate])
    intro j h1 h2
    have := hz j (by rw [dgl_len] at h1; exact h1)
    rw [List.getD_eq_getElem?_getD, List.getElem?_eq_getElem h1] at this
    rw [List.getElem_replicate]; exact this
  have z : ∀ n, valD (List.replicate n 0) = 0 := fun n => by
    induction n with
    | zero => rfl
    | succ n ih => show 0 + 256 * valD (List.replicate n 0) = 0; rw [ih]; rfl
  have v1 := valD_dgl n v
  rw [e, z, Int.emod_eq_of_lt h0 h] at v1
  exact v1.symm
/-- A step of the carry. -/
theorem carry_step {l : List Int} {i : Nat} (h : i + 1 < l.length) : valD ((l.set (i + 1) (l.getD (i + 1) 0 + l.getD i 0 / 256)).set i (l.getD i 0 % 256)) = valD l := by
  have hne : ¬ i + 1 = i := by omega
  rw [valD_set _ _ _ (by rw [List.length_set]; omega), valD_set _ _ _ h, getD_ins h, if_neg hne, Int.pow_succ]
  generalize (256 : Int) ^ i = m
  generalize l.getD (i + 1) 0 = b
  generalize l.getD i 0 = a
  have h1 := Int.emod_add_mul_ediv a 256
  generalize a / 256 = q at *
  generalize a % 256 = r at *
  subst h1
  have : (b + q - b) * (m * 256) + (r - (r + 256 * q)) * m = 0 := by grind
  omega
/-- What is taken off at 16 + k. -/
def xB (D : List Int) (k : Nat) : Int := if k = 0 then D.getD 16 0 - D.getD 16 0 % 4 else D.getD (16 + k) 0
def lowB (D : List Int) : Nat → List Int
  | 0 => D
  | k + 1 => (lowB D k).set (16 + k) (D.getD (16 + k) 0 - xB D k)
def hiB (D : List Int) : Nat → List Int
  | 0 => List.replicate 40 0
  | k + 1 => (hiB D k).set (16 + k) (xB D k)
def ovB (D : List Int) : Nat → Bool
  | 0 => false
  | k + 1 => ovB D k || decide (xB D k ≠ 0)
/-- How often 2^130 is taken off. -/
def qB (D : List Int) : Nat → Int
  | 0 => 0
  | k + 1 => qB D k + (if k = 0 then D.getD 16 0 / 4 else xB D k * (64 * 256 ^ (k - 1)))
theorem lowB_len {D : List Int} (h : D.length = 40) : ∀ k, (lowB D k).length = 40
  | 0 => h
  | k + 1 => by rw [lowB, List.length_set, lowB_len h k]
theorem hiB_len (D : List Int) : ∀ k, (hiB D k).length = 40
  | 0 => by rw [hiB, List.length_replicate]
  | k + 1 => by rw [hiB, List.length_set, hiB_len D k]
theorem lowB_at {D : List Int} (h : D.length = 40) (j : Nat) : ∀ k, k ≤ 24 → (lowB D k).getD j 0 = if 16 ≤ j ∧ j < 16 + k then D.getD j 0 - xB D (j - 16) else D.getD j 0
  | 0, _ => by rw [if_neg (by omega)]; rfl
  | k + 1, hk => by
    rw [lowB, getD_ins (by rw [lowB_len h]; omega), lowB_at h j k (by omega)]
    by_cases e : 16 + k = j
    · subst e
      rw [if_pos rfl, if_pos (by omega), show 16 + k - 16 = k by omega]
    · rw [if_neg e]
      by_cases e2 : 16 ≤ j ∧ j < 16 + k
      · rw [if_pos e2, if_pos (by omega)]
      · rw [if_neg e2, if_neg (by omega)]
theorem hiB_at (D : List Int) (j : Nat) : ∀ k, k ≤ 24 → (hiB D k).getD j 0 = if 16 ≤ j ∧ j < 16 + k then xB D (j - 16) else 0
  | 0, _ => by
    rw [if_neg (by omega), hiB, List.getD_eq_getElem?_getD, List.getElem?_replicate]
    split <;> rfl
  | k + 1, hk => by
    rw [hiB, getD_ins (by rw [hiB_len]; omega), hiB_at D j k (by omega)]
    by_cases e : 16 + k = j
    · subst e
      rw [if_pos rfl, if_pos (by omega), show 16 + k - 16 = k by omega]
    · rw [if_neg e]
      by_cases e2 : 16 ≤ j ∧ j < 16 + k
      · rw [if_pos e2, if_pos (by omega)]
      · rw [if_neg e2, if_neg (by omega)]
theorem xB_in {D : List Int} (hd : ∀ j, 0 ≤ D.getD j 0 ∧ D.getD j 0 < 256) (k : Nat) : 0 ≤ xB D k ∧ xB D k < 256 := by
  unfold xB
  have h1 := hd 16
  have h2 := hd (16 + k)
  split <;> omega
theorem qB_val {D : List Int} (h : D.length = 40) : ∀ k, k ≤ 24 → valD (lowB D k) + 1361129467683753853853498429727072845824 * qB D k = valD D
  | 0, _ => by rw [lowB, qB]; omega
  | k + 1, hk => by
    have ih := qB_val h k (by omega)
    have e := lowB_at h (16 + k) k (by omega)
    rw [if_neg (by omega)] at e
    rw [lowB, valD_set _ _ _ (by rw [lowB_len h]; omega), e, qB]
    by_cases h0 : k = 0
    · subst h0
      have hx : xB D 0 = D.getD 16 0 - D.getD 16 0 % 4 := rfl
      rw [if_pos rfl, hx, show (256 : Int) ^ (16 + 0) = 340282366920938463463374607431768211456 by decide, show 16 + 0 = 16 from rfl]
      omega
    · obtain ⟨m, rfl⟩ : ∃ m, k = m + 1 := ⟨k - 1, by omega⟩
      rw [if_neg h0, show m + 1 - 1 = m from rfl, show 16 + (m + 1) = 17 + m by omega, Int.pow_add, show (256 : Int) ^ 17 = 1361129467683753853853498429727072845824 * 64 by decide]
      generalize (256 : Int) ^ m = z
      generalize xB D (m + 1) = x
      generalize valD (lowB D (m + 1)) = y at *
      generalize qB D (m + 1) = w at *
      generalize D.getD (17 + m) 0 = u
      generalize valD D = V at *
      have e1 : (u - x - u) * (1361129467683753853853498429727072845824 * 64 * z) = - (1361129467683753853853498429727072845824 * (x * (64 * z))) := by grind
      rw [e1]
      omega
theorem qB_nn {D : List Int} (hd : ∀ j, 0 ≤ D.getD j 0 ∧ D.getD j 0 < 256) : ∀ k, 0 ≤ qB D k
  | 0 => Int.le_refl 0
  | k + 1 => by
    have ih := qB_nn hd k
    have h1 := hd 16
    have h2 := xB_in hd k
    rw [qB]
    split
    · omega
    · have : 0 ≤ xB D k * (64 * 256 ^ (k - 1)) := Int.mul_nonneg h2.1 (Int.mul_nonneg (by decide) (Int.le_of_lt (pow256 _)))
      omega
theorem qB_pos {D : List Int} (hd : ∀ j, 0 ≤ D.getD j 0 ∧ D.getD j 0 < 256) : ∀ k, ovB D k = true → 0 < qB D k
  | 0, h => by cases h
  | k + 1, h => by
    have nn := qB_nn hd k
    have h1 := hd 16
    have h2 := xB_in hd k
    rw [ovB, Bool.or_eq_true, decide_eq_true_iff] at h
    rw [qB]
    rcases h with h | h
    · have ih := qB_pos hd k h
      split
      · omega
      · have : 0 ≤ xB D k * (64 * 256 ^ (k - 1)) := Int.mul_nonneg h2.1 (Int.mul_nonneg (by decide) (Int.le_of_lt (pow256 _)))
        omega
    · split
      · rename_i h0
        subst h0
        have hx : xB D 0 = D.getD 16 0 - D.getD 16 0 % 4 := rfl
        omega
      · have : 0 < xB D k * (64 * 256 ^ (k - 1)) := Int.mul_pos (by omega) (Int.mul_pos (by decide) (pow256 _))
        omega
theorem ovB_none {D : List Int} : ∀ k, ovB D k = false → ∀ j, j < k → xB D j = 0
  | 0, _, _, h => absurd h (Nat.not_lt_zero _)
  | k + 1, h, j, hj => by
    rw [ovB, Bool.or_eq_false_iff, decide_eq_false_iff_not] at h
    by_cases e : j = k
    · subst e; exact Classical.not_not.1 h.2
    · exact ovB_none k h.1 j (by omega)
/-- Five times what is above comes down. -/
def cC (D : List Int) : Nat → List Int
  | 0 => lowB D 24
  | k + 1 => if xB D k * 5 % 4 ≠ 0 ∧ 0 < k then (((cC D k).set k ((cC D k).getD k 0 + xB D k * 5 / 4)).set (k - 1) ((cC D k).getD (k - 1) 0 + xB D k * 5 % 4 * 64)) else (cC D k).set k ((cC D k).getD k 0 + xB D k * 5 / 4)
theorem cC_len {D : List Int} (h : D.length = 40) : ∀ k, (cC D k).length = 40
  | 0 => lowB_len h 24
  | k + 1 => by
    rw [cC]
    split
    · rw [List.length_set, List.length_set, cC_len h k]
    · rw [List.length_set, cC_len h k]
theorem cC_val {D : List Int} (h : D.length = 40) : ∀ k, k ≤ 24 → valD (cC D k) = valD (lowB D 24) + 5 * qB D k
  | 0, _ => by rw [cC, qB]; omega
  | k + 1, hk => by
    have ih := cC_val h k (by omega)
    have hl := cC_len h k
    rw [cC, qB]
    by_cases h0 : k = 0
    · subst h0
      have hx : xB D 0 = D.getD 16 0 - D.getD 16 0 % 4 := rfl
      rw [if_neg (by omega), if_pos rfl, valD_set _ _ _ (by omega), ih, hx, Int.pow_zero]
      generalize D.getD 16 0 = u
      generalize (cC D 0).getD 0 0 = z
      have e1 : (u - u % 4) * 5 / 4 = 5 * (u / 4) := by omega
      rw [e1]
      generalize valD (lowB D 24) = y
      have e2 : (z + 5 * (u / 4) - z) * 1 = 5 * (u / 4) := by omega
      rw [e2, qB]; omega
    · obtain ⟨m, rfl⟩ : ∃ m, k = m + 1 := ⟨k - 1, by omega⟩
      rw [if_neg h0, show m + 1 - 1 = m from rfl]
      have hs := valD_set (cC D (m + 1)) (m + 1) ((cC D (m + 1)).getD (m + 1) 0 + xB D (m + 1) * 5 / 4) (by omega)
      have key : ∀ (z x : Int), x * 5 / 4 * (z * 256) + x * 5 % 4 * 64 * z = 5 * (x * (64 * z)) := by
        intro z x
        have h1 := Int.emod_add_mul_ediv (x * 5) 4
        generalize x * 5 / 4 = q at *
        generalize x * 5 % 4 = r at *
        grind
      have kk := key (256 ^ m) (xB D (m + 1))
      split
      · rw [valD_set _ _ _ (by rw [List.length_set]; omega), hs, getD_ins (by omega), if_neg (by omega), ih, Int.pow_succ]
        generalize (256 : Int) ^ m = z at *
        generalize xB D (m + 1) = x at *
        generalize (cC D (m + 1)).getD (m + 1) 0 = u
        generalize (cC D (m + 1)).getD m 0 = v
        have e1 : (u + x * 5 / 4 - u) * (z * 256) = x * 5 / 4 * (z * 256) := by rw [show u + x * 5 / 4 - u = x * 5 / 4 by omega]
        have e2 : (v + x * 5 % 4 * 64 - v) * z = x * 5 % 4 * 64 * z := by rw [show v + x * 5 % 4 * 64 - v = x * 5 % 4 * 64 by omega]
        rw [e1, e2]
        omega
      · rename_i hn
        have hr : xB D (m + 1) * 5 % 4 = 0 := by omega
        rw [hs, ih, Int.pow_succ]
        rw [hr] at kk
        generalize (256 : Int) ^ m = z at *
        generalize xB D (m + 1) = x at *
        generalize (cC D (m + 1)).getD (m + 1) 0 = u
        have e1 : (u + x * 5 / 4 - u) * (z * 256) = x * 5 / 4 * (z * 256) := by rw [show u + x * 5 / 4 - u = x * 5 / 4 by omega]
        rw [e1]
        omega
theorem cC_in {D : List Int} (h : D.length = 40) (hd : ∀ j, 0 ≤ D.getD j 0 ∧ D.getD j 0 < 256) : ∀ k, k ≤ 24 → ∀ j, 0 ≤ (cC D k).getD j 0 ∧ (cC D k).getD j 0 ≤ 256 + 600 * (k : Int)
  | 0, _, j => by
    rw [cC, lowB_at h j 24 (Nat.le_refl _)]
    have h1 := hd j
    have h2 := hd 16
    split
    · unfold xB
      rename_i hj
      rw [show 16 + (j - 16) = j by omega]
      split
      · have : j = 16 := by omega
        subst this; omega
      · omega
    · omega
  | k + 1, hk, j => by
    have ih := cC_in h hd k (by omega)
    have hl := cC_len h k
    have hx := xB_in hd k
    have i1 := ih j
    have i2 := ih k
    have i3 := ih (k - 1)
    rw [cC]
    split
    · rw [getD_ins (by rw [List.length_set]; omega), getD_ins (by omega)]
      split
      · omega
      · split <;> omega
    · rw [getD_ins (by omega)]
      split <;> omega
/-- Is it at 2^130 - 5 or above? -/
def leB (D : List Int) : Nat → Bool
  | 0 => decide (D.getD 16 0 = 3) && decide (251 ≤ D.getD 0 0)
  | k + 1 => leB D k && decide (D.getD (1 + k) 0 = 255)
theorem leB_all {D : List Int} : ∀ k, leB D k = true → D.getD 16 0 = 3 ∧ 251 ≤ D.getD 0 0 ∧ ∀ j, j < k → D.getD (1 + j) 0 = 255
  | 0, h => by
    rw [leB, Bool.and_eq_true, decide_eq_true_iff, decide_eq_true_iff] at h
    exact ⟨h.1, h.2, fun j hj => absurd hj (Nat.not_lt_zero _)⟩
  | k + 1, h => by
    rw [leB, Bool.and_eq_true, decide_eq_true_iff] at h
    obtain ⟨h1, h2, h3⟩ := leB_all k h.1
    exact ⟨h1, h2, fun j hj => by
      by_cases e : j = k
      · subst e; exact h.2
      · exact h3 j (by omega)⟩
theorem leB_of {D : List Int} (h1 : D.getD 16 0 = 3) (h2 : 251 ≤ D.getD 0 0) : ∀ k, (∀ j, j < k → D.getD (1 + j) 0 = 255) → leB D k = true
  | 0, _ => by rw [leB, decide_eq_true h1, decide_eq_true h2]; rfl
  | k + 1, h => by rw [leB, leB_of h1 h2 k (fun j hj => h j (by omega)), decide_eq_true (h k (by omega))]; rfl
end Go.Proofs.Ythlleheeghiljaa
namespace Go.Proofs.Ythlleheeghiljaa
open Go.RowKit
set_option maxRecDepth 100000

def keyI (k : List Int) (i : Nat) : Int := IntKind.wrap .i64 (k.getD i 0)
/-- What is multiplied with. -/
def rR (k : List Int) : List Int := [keyI k 0, keyI k 1, keyI k 2, Int.tmod (keyI k 3) 16, IntKind.wrap .i64 (keyI k 4 - Int.tmod (keyI k 4) 4), keyI k 5, keyI k 6, Int.tmod (keyI k 7) 16, IntKind.wrap .i64 (keyI k 8 - Int.tmod (keyI k 8) 4), keyI k 9, keyI k 10, Int.tmod (keyI k 11) 16, IntKind.wrap .i64 (keyI k 12 - Int.tmod (keyI k 12) 4), keyI k 13, keyI k 14, Int.tmod (keyI k 15) 16]
/-- A block's bytes added. -/
def addB (A t : List Int) (a : Nat) : Nat → List Int
  | 0 => A
  | n + 1 => (addB A t a n).set n ((addB A t a n).getD n 0 + t.getD (a + n) 0)
def blkB (A t : List Int) (a n : Nat) : List Int := (addB A t a n).set n ((addB A t a n).getD n 0 + 1)
/-- The product, digit by digit. -/
def cvI (d A r : List Int) (i : Nat) : Nat → List Int
  | 0 => d
  | k + 1 => (cvI d A r i k).set (i + k) ((cvI d A r i k).getD (i + k) 0 + A.getD i 0 * r.getD k 0)
def cvO (A r : List Int) : Nat → List Int
  | 0 => List.replicate 40 0
  | i + 1 => cvI (cvO A r i) A r i 16
/-- What a block counts. -/
def blkV (t : List Int) (a n : Nat) : Int := valD ((t.drop a).take n) + 256 ^ n
/-- The number after so many blocks. -/
def accR (R : Int) (t : List Int) : Nat → Int
  | 0 => 0
  | b + 1 => (accR R t b + blkV t (16 * b) (min (t.length - 16 * b) 16)) * R % pP
theorem accR_in (R : Int) (t : List Int) : ∀ b, 0 ≤ accR R t b ∧ accR R t b < pP
  | 0 => ⟨Int.le_refl 0, by show (0 : Int) < pP; decide⟩
  | b + 1 => ⟨Int.emod_nonneg _ (by decide), Int.emod_lt_of_pos _ (by decide)⟩
theorem pow256_le {m n : Nat} (h : m ≤ n) : (256 : Int) ^ m ≤ 256 ^ n := by
  have h1 : (256 : Nat) ^ m ≤ 256 ^ n := Nat.pow_le_pow_right (by decide) h
  have e : ∀ k : Nat, (256 : Int) ^ k = ((256 ^ k : Nat) : Int) := fun k => by simp
  rw [e, e]
  omega
theorem valD_app : ∀ (l m : List Int), valD (l ++ m) = valD l + 256 ^ l.length * valD m
  | [], m => by show valD m = 0 + 256 ^ 0 * valD m; rw [Int.pow_zero]; omega
  | x :: l, m => by
    show x + 256 * valD (l ++ m) = x + 256 * valD l + 256 ^ (l.length + 1) * valD m
    rw [valD_app l m, Int.pow_succ, Int.mul_add, Int.mul_comm (256 ^ l.length) 256, Int.mul_assoc]
    omega
theorem valD_zero : ∀ {l : List Int}, (∀ j, l.getD j 0 = 0) → valD l = 0
  | [], _ => rfl
  | x :: r, h => by
    have h0 : x = 0 := h 0
    show x + 256 * valD r = 0
    rw [valD_zero (l := r) (fun j => h (j + 1)), h0]; rfl
theorem valD_next {l : List Int} {i : Nat} (h : i < l.length) : valD (l.take (i + 1)) = valD (l.take i) + l.getD i 0 * 256 ^ i := by
  rw [take_next h, valD_app, List.length_take, Nat.min_eq_left (by omega)]
  show _ + 256 ^ i * (l.getD i 0 + 256 * 0) = _
  rw [Int.mul_comm]; congr 2; omega
theorem addB_len {A t : List Int} {a : Nat} (h : A.length = 40) : ∀ n, (addB A t a n).length = 40
  | 0 => h
  | n + 1 => by rw [addB, List.length_set, addB_len h n]
theorem addB_at {A t : List Int} {a : Nat} (h : A.length = 40) (j : Nat) : ∀ n, n ≤ 40 → (addB A t a n).getD j 0 = if j < n then A.getD j 0 + t.getD (a + j) 0 else A.getD j 0
  | 0, _ => by rw [if_neg (by omega)]; rfl
  | n + 1, hn => by
    rw [addB, getD_ins (by rw [addB_len h]; omega), addB_at h n n (by omega), addB_at h j n (by omega)]
    by_cases e : n = j
    · subst e
      rw [if_pos rfl, if_neg (by omega), if_pos (by omega)]
    · rw [if_neg e]
      by_cases e2 : j < n
      · rw [if_pos e2, if_pos (by omega)]
      · rw [if_neg e2, if_neg (by omega)]
theorem addB_val {A t : List Int} {a : Nat} (h : A.length = 40) : ∀ n, n ≤ 16 → a + n ≤ t.length → valD (addB A t a n) = valD A + valD ((t.drop a).take n)
  | 0, _, _ => by show valD A = valD A + 0; omega
  | n + 1, hn, ht => by
    have ih := addB_val (t := t) (a := a) h n (by omega) (by omega)
    rw [addB, valD_set _ _ _ (by rw [addB_len h]; omega), ih, valD_next (by rw [List.length_drop]; omega)]
    have e : (t.drop a).getD n 0 = t.getD (a + n) 0 := by rw [List.getD_eq_getElem?_getD, List.getElem?_drop, ← List.getD_eq_getElem?_getD]
    rw [e, show (addB A t a n).getD n 0 + t.getD (a + n) 0 - (addB A t a n).getD n 0 = t.getD (a + n) 0 by omega]
    omega
theorem blkB_len {A t : List Int} {a : Nat} (h : A.length = 40) (n : Nat) : (blkB A t a n).length = 40 := by rw [blkB, List.length_set, addB_len h]
theorem blkB_val {A t : List Int} {a : Nat} (h : A.length = 40) (n : Nat) (hn : n ≤ 16) (ht : a + n ≤ t.length) : valD (blkB A t a n) = valD A + blkV t a n := by
  rw [blkB, valD_set _ _ _ (by rw [addB_len h]; omega), addB_val h n hn ht, blkV, show (addB A t a n).getD n 0 + 1 - (addB A t a n).getD n 0 = 1 by omega]
  omega
theorem blkB_at {A t : List Int} {a : Nat} (h : A.length = 40) (n : Nat) (hn : n ≤ 16) (hA : ∀ j, 0 ≤ A.getD j 0 ∧ A.getD j 0 < 256) (hA0 : ∀ j, 17 ≤ j → A.getD j 0 = 0) (ht : ∀ j, 0 ≤ t.getD j 0 ∧ t.getD j 0 < 256) (j : Nat) : 0 ≤ (blkB A t a n).getD j 0 ∧ (blkB A t a n).getD j 0 ≤ 512 ∧ (17 ≤ j → (blkB A t a n).getD j 0 = 0) := by
  have h1 := hA j
  have h2 := ht (a + j)
  have h3 := hA0 j
  have an := addB_at (t := t) (a := a) h n n (by omega)
  rw [if_neg (Nat.lt_irrefl n)] at an
  rw [blkB, getD_ins (by rw [addB_len h]; omega), an, addB_at h j n (by omega)]
  by_cases e : n = j
  · subst e
    rw [if_pos rfl]
    omega
  · rw [if_neg e]
    split <;> omega
theorem cvI_len {d A r : List Int} {i : Nat} (h : d.length = 40) : ∀ k, (cvI d A r i k).length = 40
  | 0 => h
  | k + 1 => by rw [cvI, List.length_set, cvI_len h k]
theorem cvO_len (A r : List Int) : ∀ i, (cvO A r i).length = 40
  | 0 => by rw [cvO, List.length_replicate]
  | i + 1 => by rw [cvO, cvI_len (cvO_len A r i)]
theorem mul_in {x y : Int} (hx : 0 ≤ x ∧ x ≤ 512) (hy : 0 ≤ y ∧ y < 256) : 0 ≤ x * y ∧ x * y ≤ 131072 := by
  refine ⟨Int.mul_nonneg hx.1 hy.1, ?_⟩
  have h1 : x * y ≤ 512 * y := Int.mul_le_mul_of_nonneg_right hx.2 hy.1
  omega
theorem cvI_in {d A r : List Int} {i : Nat} (hd : d.length = 40) (hi : i ≤ 18) (hA : ∀ j, 0 ≤ A.getD j 0 ∧ A.getD j 0 ≤ 512) (hr : ∀ j, 0 ≤ r.getD j 0 ∧ r.getD j 0 < 256) {M : Int} (hb : ∀ j, 0 ≤ d.getD j 0 ∧ d.getD j 0 ≤ M) : ∀ k, k ≤ 16 → ∀ j, 0 ≤ (cvI d A r i k).getD j 0 ∧ (cvI d A r i k).getD j 0 ≤ M + 131072 * (k : Int)
  | 0, _, j => by have := hb j; rw [cvI]; omega
  | k + 1, hk, j => by
    have ih := cvI_in hd hi hA hr hb k (by omega)
    have h1 := ih j
    have h2 := ih (i + k)
    have h3 := mul_in (hA i) (hr k)
    rw [cvI, getD_ins (by rw [cvI_len hd]; omega)]
    split <;> omega
theorem cvO_in {A r : List Int} (hA : ∀ j, 0 ≤ A.getD j 0 ∧ A.getD j 0 ≤ 512) (hr : ∀ j, 0 ≤ r.getD j 0 ∧ r.getD j 0 < 256) : ∀ i, i ≤ 18 → ∀ j, 0 ≤ (cvO A r i).getD j 0 ∧ (cvO A r i).getD j 0 ≤ 2097152 * (i : Int)
  | 0, _, j => by
    rw [cvO, List.getD_eq_getElem?_getD, List.getElem?_replicate]
    split <;> exact ⟨by decide, by decide⟩
  | i + 1, hi, j => by
    have ih := cvO_in hA hr i (by omega)
    have := cvI_in (A := A) (r := r) (i := i) (cvO_len A r i) (by omega) hA hr ih 16 (Nat.le_refl _) j
    rw [cvO]; omega
theorem cvI_val {d A r : List Int} {i : Nat} (hd : d.length = 40) (hi : i ≤ 18) (hr : r.length = 16) : ∀ k, k ≤ 16 → valD (cvI d A r i k) = valD d + A.getD i 0 * 256 ^ i * valD (r.take k)
  | 0, _ => by show valD d = valD d + _ * 0; omega
  | k + 1, hk => by
    have ih := cvI_val (A := A) (i := i) hd hi hr k (by omega)
    rw [cvI, valD_set _ _ _ (by rw [cvI_len hd]; omega), ih, valD_next (by omega), Int.pow_add]
    generalize (cvI d A r i k).getD (i + k) 0 = z
    generalize A.getD i 0 = x
    generalize r.getD k 0 = y
    generalize (256 : Int) ^ i = p
    generalize (256 : Int) ^ k = q
    generalize valD (r.take k) = w
    generalize valD d = v
    have e1 : (z + x * y - z) = x * y := by omega
    rw [e1]
    grind
theorem cvO_val {A r : List Int} (hA : A.length = 40) (hr : r.length = 16) : ∀ i, i ≤ 18 → valD (cvO A r i) = valD (A.take i) * valD r
  | 0, _ => by
    rw [cvO, valD_zero (fun j => by rw [List.getD_eq_getElem?_getD, List.getElem?_replicate]; split <;> rfl)]
    show (0 : Int) = 0 * valD r
    omega
  | i + 1, hi => by
    have ih := cvO_val hA hr i (by omega)
    rw [cvO, cvI_val (cvO_len A r i) (by omega) hr 16 (Nat.le_refl _), ih, valD_next (l := A) (i := i) (by omega), List.take_of_length_le (l := r) (by omega)]
    generalize valD (A.take i) = u
    generalize A.getD i 0 = x
    generalize (256 : Int) ^ i = p
    generalize valD r = w
    grind
theorem cvO_all {A r : List Int} (hA : A.length = 40) (hr : r.length = 16) (hz : ∀ j, 17 ≤ j → A.getD j 0 = 0) : valD (cvO A r 18) = valD A * valD r := by
  rw [cvO_val hA hr 18 (Nat.le_refl _)]
  congr 1
  have e : A = A.take 18 ++ A.drop 18 := (List.take_append_drop 18 A).symm
  have h0 : valD (A.drop 18) = 0 := valD_zero (fun j => by rw [List.getD_eq_getElem?_getD, List.getElem?_drop, ← List.getD_eq_getElem?_getD]; exact hz _ (by omega))
  conv => rhs; rw [e]
  rw [valD_app, h0]; omega
theorem rR_in {k : List Int} (hk : Bys k) : ∀ j, 0 ≤ (rR k).getD j 0 ∧ (rR k).getD j 0 < 256 := by
  have K : ∀ i, 0 ≤ keyI k i ∧ keyI k i < 256 := fun i => by
    have := hk.at i
    unfold keyI
    rw [IntKind.wrap_i64]; omega
  have T : ∀ i, 0 ≤ Int.tmod (keyI k i) 16 ∧ Int.tmod (keyI k i) 16 < 256 := fun i => by
    have := K i
    rw [Int.tmod_eq_emod_of_nonneg this.1]; omega
  have D : ∀ i, 0 ≤ IntKind.wrap .i64 (keyI k i - Int.tmod (keyI k i) 4) ∧ IntKind.wrap .i64 (keyI k i - Int.tmod (keyI k i) 4) < 256 := fun i => by
    have := K i
    rw [Int.tmod_eq_emod_of_nonneg this.1, IntKind.wrap_i64]; omega
  intro j
  match j with
  | 0 => exact K 0
  | 1 => exact K 1
  | 2 => exact K 2
  | 3 => exact T 3
  | 4 => exact D 4
  | 5 => exact K 5
  | 6 => exact K 6
  | 7 => exact T 7
  | 8 => exact D 8
  | 9 => exact K 9
  | 10 => exact K 10
  | 11 => exact T 11
  | 12 => exact D 12
  | 13 => exact K 13
  | 14 => exact K 14
  | 15 => exact T 15
  | _ + 16 => exact (show (0 : Int) ≤ 0 ∧ (0 : Int) < 256 from ⟨by decide, by decide⟩)
theorem rR_len (k : List Int) : (rR k).length = 16 := rfl
/-- A block, taken in and multiplied: what must be known. -/
theorem block_facts {k t : List Int} (hk : Bys k) (ht : Bys t) {a n : Nat} (ha : a % 16 = 0) (hn : n = min (t.length - a) 16) (hat : a < t.length) :
    (blkB (dgl 40 (accR (valD (rR k)) t (a / 16))) t a n).length = 40 ∧
    (∀ j, 0 ≤ (blkB (dgl 40 (accR (valD (rR k)) t (a / 16))) t a n).getD j 0 ∧ (blkB (dgl 40 (accR (valD (rR k)) t (a / 16))) t a n).getD j 0 ≤ 512) ∧
    (∀ j, j ≤ 16 → 0 ≤ (addB (dgl 40 (accR (valD (rR k)) t (a / 16))) t a n).getD j 0 ∧ (addB (dgl 40 (accR (valD (rR k)) t (a / 16))) t a n).getD j 0 ≤ 511) ∧
    valD (cvO (blkB (dgl 40 (accR (valD (rR k)) t (a / 16))) t a n) (rR k) 18) < 256 ^ 40 ∧
    dgl 40 (valD (cvO (blkB (dgl 40 (accR (valD (rR k)) t (a / 16))) t a n) (rR k) 18) % pP) = dgl 40 (accR (valD (rR k)) t ((a + 16) / 16)) := by
  have hac := accR_in (valD (rR k)) t (a / 16)
  have hl := dgl_len 40 (accR (valD (rR k)) t (a / 16))
  have hdv := valD_dgl 40 (accR (valD (rR k)) t (a / 16))
  have hdi := dgl_in 40 (accR (valD (rR k)) t (a / 16))
  have hz : ∀ j, 17 ≤ j → (dgl 40 (accR (valD (rR k)) t (a / 16))).getD j 0 = 0 := fun j hj => by
    by_cases h40 : j < 40
    · rw [dgl_at 40 _ j h40]
      have : accR (valD (rR k)) t (a / 16) / 256 ^ j = 0 := by
        refine Int.ediv_eq_zero_of_lt hac.1 ?_
        have h1 : (256 : Int) ^ 17 ≤ 256 ^ j := pow256_le hj
        rw [show (256 : Int) ^ 17 = 87112285931760246646623899502532662132736 by decide] at h1
        have := hac.2
        unfold pP at this
        omega
      rw [this]; rfl
    · rw [List.getD_eq_getElem?_getD, List.getElem?_eq_none (by omega)]; rfl
  have hacc : accR (valD (rR k)) t ((a + 16) / 16) = (accR (valD (rR k)) t (a / 16) + blkV t a n) * valD (rR k) % pP := by
    rw [show (a + 16) / 16 = a / 16 + 1 by omega, accR, show 16 * (a / 16) = a by omega, ← hn]
  generalize accR (valD (rR k)) t (a / 16) = c at *
  have hat' := blkB_at (A := dgl 40 c) (t := t) (a := a) hl n (by omega) hdi hz (fun j => ht.at j)
  have hv := blkB_val (A := dgl 40 c) (t := t) (a := a) hl n (by omega) (by omega)
  have hbl := blkB_len (A := dgl 40 c) (t := t) (a := a) hl n
  have hcv := cvO_all hbl (rR_len k) (fun j hj => (hat' j).2.2 hj)
  have e40 : c % 256 ^ 40 = c := by
    refine Int.emod_eq_of_lt hac.1 (Int.lt_trans hac.2 ?_)
    unfold pP; decide
  rw [hdv, e40] at hv
  have hr : 0 ≤ valD (rR k) ∧ valD (rR k) < 340282366920938463463374607431768211456 := by
    refine ⟨valD_nn (fun j => (rR_in hk j).1), ?_⟩
    have := valD_lt (rR_in hk)
    rw [rR_len] at this
    exact this
  have hbv : 0 ≤ blkV t a n ∧ blkV t a n ≤ 680564733841876926926749214863536422912 := by
    have hb : ∀ j, 0 ≤ ((t.drop a).take n).getD j 0 ∧ ((t.drop a).take n).getD j 0 < 256 := fun j => ((ht.drop a).take n).at j
    have h1 := valD_lt hb
    have h0 := valD_nn (fun j => (hb j).1)
    have hlen : ((t.drop a).take n).length = n := by rw [List.length_take, List.length_drop]; omega
    rw [hlen] at h1
    have h2 : (256 : Int) ^ n ≤ 256 ^ 16 := pow256_le (by omega)
    rw [show (256 : Int) ^ 16 = 340282366920938463463374607431768211456 by decide] at h2
    have h3 := pow256 n
    unfold blkV
    omega
  refine ⟨hbl, fun j => ⟨(hat' j).1, (hat' j).2.1⟩, fun j hj => ?_, ?_, ?_⟩
  · rw [addB_at hl j n (by omega)]
    have h1 := hdi j
    have h2 := ht.at (a + j)
    split <;> omega
  · rw [hcv, hv]
    have hc2 := hac.2
    unfold pP at hc2
    have h1 : (c + blkV t a n) * valD (rR k) ≤ 2041694201525630780780247644590609268739 * valD (rR k) := Int.mul_le_mul_of_nonneg_right (by omega) hr.1
    rw [show (256 : Int) ^ 40 = 2135987035920910082395021706169552114602704522356652769947041607822219725780640550022962086936576 by decide]
    omega
  · rw [hcv, hv, hacc]
end Go.Proofs.Ythlleheeghiljaa
