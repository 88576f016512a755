/-
  Fermat's little theorem, and Pocklington's criterion. No program.
-/
import Derived.Test.YtpjkmocabnnhaaaDoorMem
namespace Go.Proofs.YtpjkmocabnnhaaaDoor

/-- A prime. -/
def Pr (p : Nat) : Prop := 1 < p ∧ ∀ d, d ∣ p → d = 1 ∨ d = p
theorem Pr.coprime {p a : Nat} (h : Pr p) (ha : ¬ p ∣ a) : Nat.Coprime p a := by
  rcases h.2 (Nat.gcd p a) (Nat.gcd_dvd_left p a) with h1 | h1
  · exact h1
  · exact absurd (h1 ▸ Nat.gcd_dvd_right p a) ha
theorem Pr.dvd_mul {p a b : Nat} (h : Pr p) (hab : p ∣ a * b) : p ∣ a ∨ p ∣ b := by
  by_cases ha : p ∣ a
  · exact Or.inl ha
  · exact Or.inr ((h.coprime ha).dvd_of_dvd_mul_left hab)
/-- Binomial coefficients. -/
def ch : Nat → Nat → Nat
  | _, 0 => 1
  | 0, _ + 1 => 0
  | n + 1, k + 1 => ch n k + ch n (k + 1)
theorem ch_zero (n : Nat) : ch n 0 = 1 := by cases n <;> rfl
theorem ch_big : ∀ (n k : Nat), n < k → ch n k = 0
  | 0, k + 1, _ => rfl
  | n + 1, k + 1, h => by
    show ch n k + ch n (k + 1) = 0
    rw [ch_big n k (by omega), ch_big n (k + 1) (by omega)]
theorem ch_self : ∀ n, ch n n = 1
  | 0 => rfl
  | n + 1 => by
    show ch n n + ch n (n + 1) = 1
    rw [ch_self n, ch_big n (n + 1) (by omega)]
theorem ch_mul : ∀ (n k : Nat), (k + 1) * ch (n + 1) (k + 1) = (n + 1) * ch n k
  | 0, 0 => rfl
  | 0, k + 1 => by
    show (k + 2) * (ch 0 (k + 1) + ch 0 (k + 2)) = 1 * 0
    rfl
  | n + 1, 0 => by
    have ih : 1 * ch (n + 1) 1 = (n + 1) * ch n 0 := ch_mul n 0
    rw [ch_zero, Nat.one_mul, Nat.mul_one] at ih
    show 1 * (ch (n + 1) 0 + ch (n + 1) 1) = (n + 2) * ch (n + 1) 0
    rw [ch_zero, Nat.one_mul, Nat.mul_one, ih]
    omega
  | n + 1, k + 1 => by
    have i1 := ch_mul n (k + 1)
    have i2 := ch_mul n k
    show (k + 1 + 1) * (ch (n + 1) (k + 1) + ch (n + 1) (k + 1 + 1)) = (n + 1 + 1) * ch (n + 1) (k + 1)
    have e : ch (n + 1) (k + 1) = ch n k + ch n (k + 1) := rfl
    rw [Nat.mul_add, i1]
    have h1 : (k + 1 + 1) * ch (n + 1) (k + 1) = (k + 1) * ch (n + 1) (k + 1) + ch (n + 1) (k + 1) := Nat.succ_mul _ _
    have h2 : (n + 1 + 1) * ch (n + 1) (k + 1) = (n + 1) * ch (n + 1) (k + 1) + ch (n + 1) (k + 1) := Nat.succ_mul _ _
    rw [h1, h2, i2]
    have h3 : (n + 1) * ch (n + 1) (k + 1) = (n + 1) * ch n k + (n + 1) * ch n (k + 1) := by rw [e, Nat.mul_add]
    omega
/-- Sums. -/
def sm (f : Nat → Nat) : Nat → Nat
  | 0 => 0
  | n + 1 => sm f n + f n
theorem sm_left (f : Nat → Nat) : ∀ n, sm f (n + 1) = f 0 + sm (fun k => f (k + 1)) n
  | 0 => by simp [sm]
  | n + 1 => by
    have ih := sm_left f n
    show sm f (n + 1) + f (n + 1) = f 0 + (sm (fun k => f (k + 1)) n + f (n + 1))
    rw [ih]
    omega
theorem sm_add (f g : Nat → Nat) : ∀ n, sm (fun k => f k + g k) n = sm f n + sm g n
  | 0 => rfl
  | n + 1 => by
    have ih := sm_add f g n
    show sm (fun k => f k + g k) n + (f n + g n) = sm f n + f n + (sm g n + g n)
    rw [ih]
    omega
theorem sm_mul (c : Nat) (f : Nat → Nat) : ∀ n, sm (fun k => c * f k) n = c * sm f n
  | 0 => rfl
  | n + 1 => by
    have ih := sm_mul c f n
    show sm (fun k => c * f k) n + c * f n = c * (sm f n + f n)
    rw [ih, Nat.mul_add]
theorem sm_congr {f g : Nat → Nat} : ∀ n, (∀ k, k < n → f k = g k) → sm f n = sm g n
  | 0, _ => rfl
  | n + 1, h => by
    show sm f n + f n = sm g n + g n
    rw [sm_congr n (fun k hk => h k (by omega)), h n (by omega)]
theorem sm_dvd {p : Nat} {f : Nat → Nat} : ∀ n, (∀ k, k < n → p ∣ f k) → p ∣ sm f n
  | 0, _ => Nat.dvd_zero p
  | n + 1, h => Nat.dvd_add (sm_dvd n (fun k hk => h k (by omega))) (h n (by omega))
theorem binomial (a : Nat) : ∀ n, (a + 1) ^ n = sm (fun k => ch n k * a ^ k) (n + 1)
  | 0 => by simp [sm, ch]
  | n + 1 => by
    have ih := binomial a n
    rw [sm_left]
    have e : sm (fun k => ch (n + 1) (k + 1) * a ^ (k + 1)) (n + 1) = sm (fun k => a * (ch n k * a ^ k) + ch n (k + 1) * a ^ (k + 1)) (n + 1) := by
      apply sm_congr
      intro k _
      show (ch n k + ch n (k + 1)) * a ^ (k + 1) = _
      rw [Nat.add_mul, Nat.pow_succ]
      congr 1
      rw [Nat.mul_comm a, Nat.mul_assoc]
    rw [e, sm_add, sm_mul, ← ih, ch_zero, Nat.pow_zero]
    have e2 : 1 * 1 + sm (fun k => ch n (k + 1) * a ^ (k + 1)) (n + 1) = (a + 1) ^ n := by
      have h1 := sm_left (fun k => ch n k * a ^ k) (n + 1)
      rw [ch_zero, Nat.pow_zero] at h1
      have h2 : sm (fun k => ch n k * a ^ k) (n + 1 + 1) = sm (fun k => ch n k * a ^ k) (n + 1) + ch n (n + 1) * a ^ (n + 1) := rfl
      rw [ch_big n (n + 1) (by omega), Nat.zero_mul, ← ih] at h2
      omega
    rw [Nat.pow_succ, Nat.mul_add, Nat.mul_one, Nat.mul_comm ((a + 1) ^ n) a]
    omega
theorem ch_prime {p : Nat} (h : Pr p) (k : Nat) (h0 : 0 < k) (h1 : k < p) : p ∣ ch p k := by
  obtain ⟨j, rfl⟩ : ∃ j, k = j + 1 := ⟨k - 1, by omega⟩
  obtain ⟨n, rfl⟩ : ∃ n, p = n + 1 := ⟨p - 1, by omega⟩
  have e := ch_mul n j
  have hd : n + 1 ∣ (j + 1) * ch (n + 1) (j + 1) := ⟨ch n j, e⟩
  rcases h.dvd_mul hd with h2 | h2
  · have := Nat.le_of_dvd (by omega) h2; omega
  · exact h2
theorem frob {p : Nat} (h : Pr p) (a : Nat) : ∃ t, (a + 1) ^ p = a ^ p + 1 + p * t := by
  have h1 := h.1
  obtain ⟨n, hn⟩ : ∃ n, p = n + 1 := ⟨p - 1, by omega⟩
  have hb := binomial a p
  have e1 : sm (fun k => ch p k * a ^ k) (p + 1) = sm (fun k => ch p k * a ^ k) p + ch p p * a ^ p := rfl
  have e2 : sm (fun k => ch p k * a ^ k) p = ch p 0 * a ^ 0 + sm (fun k => ch p (k + 1) * a ^ (k + 1)) n := by
    conv => lhs; rw [show sm (fun k => ch p k * a ^ k) p = sm (fun k => ch p k * a ^ k) (n + 1) from by rw [← hn]]
    exact sm_left _ n
  obtain ⟨t, ht⟩ : p ∣ sm (fun k => ch p (k + 1) * a ^ (k + 1)) n := sm_dvd n (fun k hk => Nat.dvd_trans (ch_prime h (k + 1) (by omega) (by omega)) (Nat.dvd_mul_right _ _))
  refine ⟨t, ?_⟩
  rw [hb, e1, e2, ht, ch_self, ch_zero, Nat.pow_zero]
  omega
theorem fermat {p : Nat} (h : Pr p) : ∀ a, a ^ p % p = a % p
  | 0 => by rw [Nat.zero_pow (by have := h.1; omega)]
  | a + 1 => by
    obtain ⟨t, ht⟩ := frob h a
    rw [ht, Nat.add_mul_mod_self_left, Nat.add_mod, fermat h a, ← Nat.add_mod]
end Go.Proofs.YtpjkmocabnnhaaaDoor
