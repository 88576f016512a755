/-
  Fermat's little theorem, and Pocklington's criterion. No program.
-/
/-
  Pocklington's criterion, and with it: 2^255 - 19 is a prime. No program.
-/
/-
  FieldExponents' sums: powers in the field, Fermat's little theorem at p, the exponents that its keys hold. No program.
-/
import Derived.Test.YtdpafemcpbhlfaaDoorLeaf
import Derived.Test.YtdpafemcpbhlfaaDoorRefP
namespace Go.Proofs.YtdpafemcpbhlfaaDoor
set_option maxRecDepth 100000

/-- A prime. -/
def Pr (p : Nat) : Prop := 1 < p ∧ ∀ d, d ∣ p → d = 1 ∨ d = p
theorem Pr.coprime {p a : Nat} (h : Pr p) (ha : ¬ p ∣ a) : Nat.Coprime p a := by
  rcases h.2 (Nat.gcd p a) (Nat.gcd_dvd_left p a) with h1 | h1
  · exact h1
  · exact absurd (h1 ▸ Nat.gcd_dvd_right p a) ha
theorem Pr.dvd_mul {p a b : Nat} (h : Pr p) (hab : p ∣ a * b) : p ∣ a ∨ p ∣ b := by
  by_cases ha : p ∣ a
  · exact Or.inl ha
  · exact Or.inr ((h.coprime ha).dvd_of_dvd_mul_left hab)
/-- Binomial coefficients. -/
def ch : Nat → Nat → Nat
  | _, 0 => 1
  | 0, _ + 1 => 0
  | n + 1, k + 1 => ch n k + ch n (k + 1)
theorem ch_zero (n : Nat) : ch n 0 = 1 := by cases n <;> rfl
theorem ch_big : ∀ (n k : Nat), n < k → ch n k = 0
  | 0, k + 1, _ => rfl
  | n + 1, k + 1, h => by
    show ch n k + ch n (k + 1) = 0
    rw [ch_big n k (by omega), ch_big n (k + 1) (by omega)]
theorem ch_self : ∀ n, ch n n = 1
  | 0 => rfl
  | n + 1 => by
    show ch n n + ch n (n + 1) = 1
    rw [ch_self n, ch_big n (n + 1) (by omega)]
theorem ch_mul : ∀ (n k : Nat), (k + 1) * ch (n + 1) (k + 1) = (n + 1) * ch n k
  | 0, 0 => rfl
  | 0, k + 1 => by
    show (k + 2) * (ch 0 (k + 1) + ch 0 (k + 2)) = 1 * 0
    rfl
  | n + 1, 0 => by
    have ih : 1 * ch (n + 1) 1 = (n + 1) * ch n 0 := ch_mul n 0
    rw [ch_zero, Nat.one_mul, Nat.mul_one] at ih
    show 1 * (ch (n + 1) 0 + ch (n + 1) 1) = (n + 2) * ch (n + 1) 0
    rw [ch_zero, Nat.one_mul, Nat.mul_one, ih]
    omega
  | n + 1, k + 1 => by
    have i1 := ch_mul n (k + 1)
    have i2 := ch_mul n k
    show (k + 1 + 1) * (ch (n + 1) (k + 1) + ch (n + 1) (k + 1 + 1)) = (n + 1 + 1) * ch (n + 1) (k + 1)
    have e : ch (n + 1) (k + 1) = ch n k + ch n (k + 1) := rfl
    rw [Nat.mul_add, i1]
    have h1 : (k + 1 + 1) * ch (n + 1) (k + 1) = (k + 1) * ch (n + 1) (k + 1) + ch (n + 1) (k + 1) := Nat.succ_mul _ _
    have h2 : (n + 1 + 1) * ch (n + 1) (k + 1) = (n + 1) * ch (n + 1) (k + 1) + ch (n + 1) (k + 1) := Nat.succ_mul _ _
    rw [h1, h2, i2]
    have h3 : (n + 1) * ch (n + 1) (k + 1) = (n + 1) * ch n k + (n + 1) * ch n (k + 1) := by rw [e, Nat.mul_add]
    omega
/-- Sums. -/
def sm (f : Nat → Nat) : Nat → Nat
  | 0 => 0
  | n + 1 => sm f n + f n
theorem sm_left (f : Nat → Nat) : ∀ n, sm f (n + 1) = f 0 + sm (fun k => f (k + 1)) n
  | 0 => by simp [sm]
  | n + 1 => by
    have ih := sm_left f n
    show sm f (n + 1) + f (n + 1) = f 0 + (sm (fun k => f (k + 1)) n + f (n + 1))
    rw [ih]
    omega
theorem sm_add (f g : Nat → Nat) : ∀ n, sm (fun k => f k + g k) n = sm f n + sm g n
  | 0 => rfl
  | n + 1 => by
    have ih := sm_add f g n
    show sm (fun k => f k + g k) n + (f n + g n) = sm f n + f n + (sm g n + g n)
    rw [ih]
    omega
theorem sm_mul (c : Nat) (f : Nat → Nat) : ∀ n, sm (fun k => c * f k) n = c * sm f n
  | 0 => rfl
  | n + 1 => by
    have ih := sm_mul c f n
    show sm (fun k => c * f k) n + c * f n = c * (sm f n + f n)
    rw [ih, Nat.mul_add]
theorem sm_congr {f g : Nat → Nat} : ∀ n, (∀ k, k < n → f k = g k) → sm f n = sm g n
  | 0, _ => rfl
  | n + 1, h => by
    show sm f n + f n = sm g n + g n
    rw [sm_congr n (fun k hk => h k (by omega)), h n (by omega)]
theorem sm_dvd {p : Nat} {f : Nat → Nat} : ∀ n, (∀ k, k < n → p ∣ f k) → p ∣ sm f n
  | 0, _ => Nat.dvd_zero p
  | n + 1, h => Nat.dvd_add (sm_dvd n (fun k hk => h k (by omega))) (h n (by omega))
theorem binomial (a : Nat) : ∀ n, (a + 1) ^ n = sm (fun k => ch n k * a ^ k) (n + 1)
  | 0 => by simp [sm, ch]
  | n + 1 => by
    have ih := binomial a n
    rw [sm_left]
    have e : sm (fun k => ch (n + 1) (k + 1) * a ^ (k + 1)) (n + 1) = sm (fun k => a * (ch n k * a ^ k) + ch n (k + 1) * a ^ (k + 1)) (n + 1) := by
      apply sm_congr
      intro k _
      show (ch n k + ch n (k + 1)) * a ^ (k + 1) = _
      rw [Nat.add_mul, Nat.pow_succ]
      congr 1
      rw [Nat.mul_comm a, Nat.mul_assoc]
    rw [e, sm_add, sm_mul, ← ih, ch_zero, Nat.pow_zero]
    have e2 : 1 * 1 + sm (fun k => ch n (k + 1) * a ^ (k + 1)) (n + 1) = (a + 1) ^ n := by
      have h1 := sm_left (fun k => ch n k * a ^ k) (n + 1)
      rw [ch_zero, Nat.pow_zero] at h1
      have h2 : sm (fun k => ch n k * a ^ k) (n + 1 + 1) = sm (fun k => ch n k * a ^ k) (n + 1) + ch n (n + 1) * a ^ (n + 1) := rfl
      rw [ch_big n (n + 1) (by omega), Nat.zero_mul, ← ih] at h2
      omega
    rw [Nat.pow_succ, Nat.mul_add, Nat.mul_one, Nat.mul_comm ((a + 1) ^ n) a]
    omega
theorem ch_prime {p : Nat} (h : Pr p) (k : Nat) (h0 : 0 < k) (h1 : k < p) : p ∣ ch p k := by
  obtain ⟨j, rfl⟩ : ∃ j, k = j + 1 := ⟨k - 1, by omega⟩
  obtain ⟨n, rfl⟩ : ∃ n, p = n + 1 := ⟨p - 1, by omega⟩
  have e := ch_mul n j
  have hd : n + 1 ∣ (j + 1) * ch (n + 1) (j + 1) := ⟨ch n j, e⟩
  rcases h.dvd_mul hd with h2 | h2
  · have := Nat.le_of_dvd (by omega) h2; omega
  · exact h2
theorem frob {p : Nat} (h : Pr p) (a : Nat) : ∃ t, (a + 1) ^ p = a ^ p + 1 + p * t := by
  have h1 := h.1
  obtain ⟨n, hn⟩ : ∃ n, p = n + 1 := ⟨p - 1, by omega⟩
  have hb := binomial a p
  have e1 : sm (fun k => ch p k * a ^ k) (p + 1) = sm (fun k => ch p k * a ^ k) p + ch p p * a ^ p := rfl
  have e2 : sm (fun k => ch p k * a ^ k) p = ch p 0 * a ^ 0 + sm (fun k => ch p (k + 1) * a ^ (k + 1)) n := by
    conv => lhs; rw [show sm (fun k => ch p k * a ^ k) p = sm (fun k => ch p k * a ^ k) (n + 1) from by rw [← hn]]
    exact sm_left _ n
  obtain ⟨t, ht⟩ : p ∣ sm (fun k => ch p (k + 1) * a ^ (k + 1)) n := sm_dvd n (fun k hk => Nat.dvd_trans (ch_prime h (k + 1) (by omega) (by omega)) (Nat.dvd_mul_right _ _))
  refine ⟨t, ?_⟩
  rw [hb, e1, e2, ht, ch_self, ch_zero, Nat.pow_zero]
  omega
theorem fermat {p : Nat} (h : Pr p) : ∀ a, a ^ p % p = a % p
  | 0 => by rw [Nat.zero_pow (by have := h.1; omega)]
  | a + 1 => by
    obtain ⟨t, ht⟩ := frob h a
    rw [ht, Nat.add_mul_mod_self_left, Nat.add_mod, fermat h a, ← Nat.add_mod]
end Go.Proofs.YtdpafemcpbhlfaaDoor
namespace Go.Proofs.YtdpafemcpbhlfaaDoor
set_option maxRecDepth 100000

theorem prime_factor : ∀ n, 1 < n → ∃ q, Pr q ∧ q ∣ n := by
  intro n
  induction n using Nat.strongRecOn with
  | ind n ih =>
    intro h
    by_cases hp : Pr n
    · exact ⟨n, hp, Nat.dvd_refl n⟩
    · have : ∃ d, d ∣ n ∧ d ≠ 1 ∧ d ≠ n := by
        apply Classical.byContradiction
        intro hn
        refine hp ⟨h, fun d hd => ?_⟩
        by_cases h1 : d = 1
        · exact Or.inl h1
        · by_cases h2 : d = n
          · exact Or.inr h2
          · exact absurd ⟨d, hd, h1, h2⟩ hn
      obtain ⟨d, hd, h1, h2⟩ := this
      have h3 : d ≤ n := Nat.le_of_dvd (by omega) hd
      have h4 : d ≠ 0 := by
        intro h0
        subst h0
        have := Nat.eq_zero_of_zero_dvd hd
        omega
      obtain ⟨q, hq, hqd⟩ := ih d (by omega) (by omega)
      exact ⟨q, hq, Nat.dvd_trans hqd hd⟩
theorem pow_mod_one {r a x : Nat} (h : a ^ x % r = 1 % r) (k : Nat) : a ^ (x * k) % r = 1 % r := by
  rw [Nat.pow_mul, Nat.pow_mod, h, ← Nat.pow_mod, Nat.one_pow]
theorem pow_gcd {r a : Nat} (x y : Nat) : a ^ x % r = 1 % r → a ^ y % r = 1 % r → a ^ Nat.gcd x y % r = 1 % r := by
  induction x, y using Nat.gcd.induction with
  | H0 y => intro _ h; rw [Nat.gcd_zero_left]; exact h
  | H1 x y hx ih =>
    intro h1 h2
    rw [Nat.gcd_rec]
    refine ih ?_ h1
    have e : a ^ y = a ^ (x * (y / x)) * a ^ (y % x) := by rw [← Nat.pow_add, Nat.div_add_mod]
    rw [e, Nat.mul_mod, pow_mod_one h1, ← Nat.mul_mod, Nat.one_mul] at h2
    exact h2
theorem fermat_one {p a : Nat} (h : Pr p) (ha : ¬ p ∣ a) : a ^ (p - 1) % p = 1 % p := by
  have h1 := h.1
  have hf := fermat h a
  have ha0 : 1 ≤ a := by
    rcases Nat.eq_zero_or_pos a with h0 | h0
    · subst h0; exact absurd (Nat.dvd_zero p) ha
    · exact h0
  have e : a ^ p = a * a ^ (p - 1) := by
    obtain ⟨n, rfl⟩ : ∃ n, p = n + 1 := ⟨p - 1, by omega⟩
    rw [Nat.pow_succ, Nat.mul_comm]; rfl
  have hge : 1 ≤ a ^ (p - 1) := Nat.one_le_pow _ _ ha0
  have hd : p ∣ a * (a ^ (p - 1) - 1) := by
    rw [Nat.mul_sub, Nat.mul_one, ← e]
    have h5 : a ≤ a ^ p := by
      rw [e]; exact Nat.le_mul_of_pos_right a hge
    exact Nat.dvd_of_mod_eq_zero (Nat.sub_mod_eq_zero_of_mod_eq hf)
  rcases h.dvd_mul hd with h2 | h2
  · exact absurd h2 ha
  · obtain ⟨t, ht⟩ := h2
    rw [show a ^ (p - 1) = 1 + p * t by omega, Nat.add_mul_mod_self_left]
/-- A prime factor r of n: q divides r - 1. -/
theorem pock {n q m a v : Nat} (hq : Pr q) (hn : n - 1 = q * m) (h1n : 1 < n) (h1 : a ^ (n - 1) % n = 1 % n) (hv : a ^ m % n = v % n) (hg : Nat.gcd (v + (n - 1)) n = 1) :
    ∀ r, Pr r → r ∣ n → q ∣ r - 1 := by
  intro r hr hrn
  apply Classical.byContradiction
  intro hnq
  have hr1 := hr.1
  have down : ∀ x y : Nat, x % n = y % n → x % r = y % r := by
    intro x y h
    rw [← Nat.mod_mod_of_dvd x hrn, h, Nat.mod_mod_of_dvd y hrn]
  have a1 : a ^ (n - 1) % r = 1 % r := down _ _ h1
  have ha : ¬ r ∣ a := by
    intro h
    have h2 : r ∣ a ^ (n - 1) := by
      obtain ⟨k, hk⟩ : ∃ k, n - 1 = k + 1 := ⟨n - 2, by omega⟩
      rw [hk, Nat.pow_succ]
      exact Nat.dvd_trans h (Nat.dvd_mul_left a _)
    rw [Nat.mod_eq_zero_of_dvd h2, Nat.mod_eq_of_lt hr1] at a1
    omega
  have a2 := fermat_one hr ha
  have a3 := pow_gcd _ _ a1 a2
  have hc : Nat.Coprime (Nat.gcd (n - 1) (r - 1)) q :=
    Nat.Coprime.coprime_dvd_left (Nat.gcd_dvd_right (n - 1) (r - 1)) (hq.coprime hnq).symm
  have hd : Nat.gcd (n - 1) (r - 1) ∣ m := by
    have h2 : Nat.gcd (n - 1) (r - 1) ∣ q * m := by rw [← hn]; exact Nat.gcd_dvd_left _ _
    exact hc.dvd_of_dvd_mul_left h2
  obtain ⟨k, hk⟩ := hd
  have a4 : a ^ m % r = 1 % r := by
    conv => lhs; rw [hk]
    exact pow_mod_one a3 k
  have a5 : v % r = 1 % r := by rw [← down _ _ hv]; exact a4
  have hdv : r ∣ v + (n - 1) := by
    apply Nat.dvd_of_mod_eq_zero
    rw [Nat.add_mod, a5, ← Nat.add_mod, show 1 + (n - 1) = n by omega]
    exact Nat.mod_eq_zero_of_dvd hrn
  have h6 : r ∣ 1 := hg ▸ Nat.dvd_gcd hdv hrn
  have := Nat.le_of_dvd (by omega) h6
  omega
/-- All prime factors are above F, whose square is past n. -/
theorem pr_of_big {n F : Nat} (h1 : 1 < n) (hF : n < (F + 1) * (F + 1)) (h : ∀ r, Pr r → r ∣ n → F ≤ r - 1) : Pr n := by
  refine ⟨h1, fun d hd => ?_⟩
  obtain ⟨e, he⟩ := hd
  by_cases hd1 : d = 1
  · exact Or.inl hd1
  by_cases he1 : e = 1
  · right; rw [he, he1, Nat.mul_one]
  exfalso
  have hd0 : d ≠ 0 := by intro h0; rw [h0, Nat.zero_mul] at he; omega
  have he0 : e ≠ 0 := by intro h0; rw [h0, Nat.mul_zero] at he; omega
  obtain ⟨r, hr, hrd⟩ := prime_factor d (by omega)
  obtain ⟨s, hs, hse⟩ := prime_factor e (by omega)
  have b1 := h r hr (Nat.dvd_trans hrd ⟨e, he⟩)
  have b2 := h s hs (Nat.dvd_trans hse ⟨d, by rw [he, Nat.mul_comm]⟩)
  have c1 := Nat.le_of_dvd (by omega) hrd
  have c2 := Nat.le_of_dvd (by omega) hse
  have := hr.1
  have := hs.1
  have : (F + 1) * (F + 1) ≤ d * e := Nat.mul_le_mul (by omega) (by omega)
  omega
/-- By trial. -/
def td (n : Nat) : Nat → Bool
  | 0 => true
  | k + 1 => (n % (k + 2) != 0) && td n k
theorem td_no {n : Nat} : ∀ k, td n k = true → ∀ d, 2 ≤ d → d < k + 2 → ¬ d ∣ n
  | 0, _, d, h1, h2 => by omega
  | k + 1, h, d, h1, h2 => by
    have h' : ((n % (k + 2) != 0) && td n k) = true := h
    rw [Bool.and_eq_true] at h'
    by_cases hd : d = k + 2
    · intro hdv
      have := Nat.mod_eq_zero_of_dvd hdv
      rw [hd] at this
      rw [this] at h'
      exact absurd h'.1 (by decide)
    · exact td_no k h'.2 d h1 (by omega)
theorem pr_of_td {n k : Nat} (h1 : 1 < n) (hk : n < (k + 2) * (k + 2)) (h : td n k = true) : Pr n := by
  refine pr_of_big (F := k + 1) h1 hk (fun r hr hrn => ?_)
  apply Classical.byContradiction
  intro hlt
  have := hr.1
  exact td_no k h r (by omega) (by omega) hrn
/-- Powers, in the kernel. -/
def force (x : Nat) (k : Nat → Nat) : Nat := match x with
  | 0 => k 0
  | n + 1 => k (n + 1)
theorem force_eq (x : Nat) (k : Nat → Nat) : force x k = k x := by cases x <;> rfl
def pm (n : Nat) : Nat → Nat → Nat → Nat → Nat
  | 0, _, _, acc => acc
  | f + 1, a, e, acc => force (a * a % n) fun a' => force (e / 2) fun e' => force (bif e % 2 == 1 then acc * a % n else acc) fun acc' => pm n f a' e' acc'
theorem pm_eq (n : Nat) : ∀ (f a e acc : Nat), e < 2 ^ f → pm n f a e acc % n = acc * a ^ e % n
  | 0, a, e, acc, h => by
    have : e = 0 := by simpa using h
    rw [this, Nat.pow_zero, Nat.mul_one]; rfl
  | f + 1, a, e, acc, h => by
    show force _ _ % n = _
    rw [force_eq, force_eq, force_eq, pm_eq n f _ _ _ (by rw [Nat.pow_succ] at h; omega)]
    have hsq : ∀ k, (a * a % n) ^ k % n = a ^ (2 * k) % n := by
      intro k
      rw [← Nat.pow_mod, Nat.pow_mul, Nat.pow_two]
    have he : e = 2 * (e / 2) + e % 2 := by omega
    rcases Nat.mod_two_eq_zero_or_one e with h0 | h0
    · rw [h0]
      show acc * _ % n = _
      rw [Nat.mul_mod, hsq, ← Nat.mul_mod]
      congr 3
      omega
    · rw [h0]
      show acc * a % n * _ % n = _
      rw [Nat.mul_mod, hsq, Nat.mod_mod, ← Nat.mul_mod]
      conv => rhs; rw [he, h0, Nat.pow_add, Nat.pow_one]
      congr 1
      rw [Nat.mul_assoc, Nat.mul_comm a]
theorem pm_pow {n f a e v : Nat} (hf : e < 2 ^ f) (h : pm n f a e 1 = v) : a ^ e % n = v % n := by
  rw [← h, pm_eq n f a e 1 hf, Nat.one_mul]
/-- One prime, or two. -/
theorem pock1 {n q m f v : Nat} (hq : Pr q) (hn : n - 1 = q * m) (h1n : 1 < n) (hF : n < (q + 1) * (q + 1)) (hf : n < 2 ^ f) (h1 : pm n f 2 (n - 1) 1 = 1) (hv : pm n f 2 m 1 = v) (hg : Nat.gcd (v + (n - 1)) n = 1) : Pr n := by
  have hm : m < 2 ^ f := by
    have h2 : m ≤ q * m := Nat.le_mul_of_pos_left m (by have := hq.1; omega)
    omega
  refine pr_of_big h1n hF (fun r hr hrn => ?_)
  have := hr.1
  exact Nat.le_of_dvd (by omega) (pock hq hn h1n (pm_pow (by omega) h1) (pm_pow hm hv) hg r hr hrn)
theorem pock2 {n q q' m m' f v v' : Nat} (hq : Pr q) (hq' : Pr q') (hc : Nat.gcd q q' = 1) (hn : n - 1 = q * m) (hn' : n - 1 = q' * m') (h1n : 1 < n) (hF : n < (q * q' + 1) * (q * q' + 1)) (hf : n < 2 ^ f) (h1 : pm n f 2 (n - 1) 1 = 1)
    (hv : pm n f 2 m 1 = v) (hg : Nat.gcd (v + (n - 1)) n = 1) (hv' : pm n f 2 m' 1 = v') (hg' : Nat.gcd (v' + (n - 1)) n = 1) : Pr n := by
  have hm : m < 2 ^ f := by
    have h2 : m ≤ q * m := Nat.le_mul_of_pos_left m (by have := hq.1; omega)
    omega
  have hm' : m' < 2 ^ f := by
    have h2 : m' ≤ q' * m' := Nat.le_mul_of_pos_left m' (by have := hq'.1; omega)
    omega
  refine pr_of_big h1n hF (fun r hr hrn => ?_)
  have := hr.1
  have d1 := pock hq hn h1n (pm_pow (by omega) h1) (pm_pow hm hv) hg r hr hrn
  have d2 := pock hq' hn' h1n (pm_pow (by omega) h1) (pm_pow hm' hv') hg' r hr hrn
  exact Nat.le_of_dvd (by omega) (Nat.Coprime.mul_dvd_of_dvd_of_dvd hc d1 d2)
theorem pr_569003 : Pr 569003 := pr_of_td (k := 753) (by decide) (by decide) (by decide +kernel)
theorem pr_991 : Pr 991 := pr_of_td (k := 30) (by decide) (by decide) (by decide +kernel)
theorem pr_7 : Pr 7 := pr_of_td (k := 1) (by decide) (by decide) (by decide +kernel)
theorem pr_430751 : Pr 430751 := pr_of_td (k := 655) (by decide) (by decide) (by decide +kernel)
theorem pr_4153 : Pr 4153 := pr_of_td (k := 63) (by decide) (by decide) (by decide +kernel)
theorem pr_127 : Pr 127 := pr_of_td (k := 10) (by decide) (by decide) (by decide +kernel)
theorem pr_2773320623 : Pr 2773320623 := pock1 (m := 4874) (f := 32) (v := 2039232613) pr_569003 (by decide +kernel) (by decide +kernel) (by decide +kernel) (by decide +kernel) (by decide +kernel) (by decide +kernel) (by decide +kernel)
theorem pr_8574133 : Pr 8574133 := pock2 (m := 8652) (m' := 1224876) (f := 24) (v := 3435729) (v' := 7470406) pr_991 pr_7 (by decide +kernel) (by decide +kernel) (by decide +kernel) (by decide +kernel) (by decide +kernel) (by decide +kernel) (by decide +kernel) (by decide +kernel) (by decide +kernel) (by decide +kernel) (by decide +kernel)
theorem pr_D : Pr 72106336199 := pock1 (m := 26) (f := 37) (v := 67108864) pr_2773320623 (by decide +kernel) (by decide +kernel) (by decide +kernel) (by decide +kernel) (by decide +kernel) (by decide +kernel) (by decide +kernel)
theorem pr_C : Pr 1919519569386763 := pock2 (m := 223873314) (m' := 15114327318006) (f := 51) (v := 1059928654987441) (v' := 576774792492622) pr_8574133 pr_127 (by decide +kernel) (by decide +kernel) (by decide +kernel) (by decide +kernel) (by decide +kernel) (by decide +kernel) (by decide +kernel) (by decide +kernel) (by decide +kernel) (by decide +kernel) (by decide +kernel)
theorem pr_A : Pr 31757755568855353 := pock2 (m := 73726481352) (m' := 7646943310584) (f := 55) (v := 15280470251845350) (v' := 28256283979054930) pr_430751 pr_4153 (by decide +kernel) (by decide +kernel) (by decide +kernel) (by decide +kernel) (by decide +kernel) (by decide +kernel) (by decide +kernel) (by decide +kernel) (by decide +kernel) (by decide +kernel) (by decide +kernel)
theorem pr_B : Pr 75445702479781427272750846543864801 := pock2 (m := 39304471641247389600) (m' := 1046311689884858398375200) (f := 116) (v := 56747016255153332959347766392083459) (v' := 71619851993489548214160924360205394) pr_C pr_D (by decide +kernel) (by decide +kernel) (by decide +kernel) (by decide +kernel) (by decide +kernel) (by decide +kernel) (by decide +kernel) (by decide +kernel) (by decide +kernel) (by decide +kernel) (by decide +kernel)
theorem pr_q1 : Pr 74058212732561358302231226437062788676166966415465897661863160754340907 := pock2 (m := 2331972502653487852620185443007392165117953542933313402) (m' := 981609426360740691344999861639072106) (f := 236) (v := 50366660687963342066214195241331738400016478712605795091965648721912165) (v' := 69490809710348678725736597923071784769591275419387514694139338586948360) pr_A pr_B (by decide +kernel) (by decide +kernel) (by decide +kernel) (by decide +kernel) (by decide +kernel) (by decide +kernel) (by decide +kernel) (by decide +kernel) (by decide +kernel) (by decide +kernel) (by decide +kernel)
theorem pr_p : Pr 57896044618658097711785492504343953926634992332820282019728792003956564819949 := pock1 (m := 781764) (f := 255) (v := 427094198651976259540344842774561673889945192655078505504941250475370961481) pr_q1 (by decide +kernel) (by decide +kernel) (by decide +kernel) (by decide +kernel) (by decide +kernel) (by decide +kernel) (by decide +kernel)
end Go.Proofs.YtdpafemcpbhlfaaDoor
namespace Go.Proofs.YtdpafemcpbhlfaaDoor
set_option maxRecDepth 100000

theorem Cong.pow {m n : Int} (h : Cong m n) : ∀ k : Nat, Cong (m ^ k) (n ^ k)
  | 0 => by rw [Int.pow_zero, Int.pow_zero]; exact Cong.refl _
  | k + 1 => by rw [Int.pow_succ, Int.pow_succ]; exact (Cong.pow h k).mul h
theorem cong_fermat {p : Nat} (h : Pr p) (hp : (p : Int) = pp) (m : Int) : Cong (m ^ p) m := by
  have hm0 : 0 ≤ m % pp := Int.emod_nonneg _ (by decide)
  obtain ⟨a, ha⟩ : ∃ a : Nat, m % pp = (a : Int) := ⟨(m % pp).toNat, by omega⟩
  have h1 : Cong m a := by rw [← ha]; exact (Cong.mod m).symm
  refine (h1.pow p).trans (Cong.trans ?_ h1.symm)
  have hf := fermat h a
  have e1 : ((a ^ p % p : Nat) : Int) = ((a % p : Nat) : Int) := by rw [hf]
  rw [Int.natCast_emod, Int.natCast_emod, Int.natCast_pow, hp] at e1
  exact (cong_iff _ _).2 e1
theorem prime_pp : ∃ p : Nat, Pr p ∧ (p : Int) = pp := ⟨_, pr_p, by decide +kernel⟩
theorem cong_prime (m : Int) (l : List Int) (h : dig 256 l = pp) : Cong (m ^ expo l) m := by
  obtain ⟨p, hp, e⟩ := prime_pp
  have : expo l = p := by unfold expo; omega
  rw [this]
  exact cong_fermat hp e m
theorem dig_zeros (B : Int) : ∀ k, dig B (List.replicate k 0) = 0
  | 0 => rfl
  | k + 1 => by rw [List.replicate_succ]; simp only [dig]; rw [dig_zeros B k]; omega
theorem expo_two (x y : Int) (k : Nat) : expo (x :: y :: List.replicate k 0) = (x + 256 * y).toNat := by
  unfold expo
  simp only [dig]
  rw [dig_zeros]
  omega
theorem expo_three (x y z : Int) (k : Nat) : expo (x :: y :: z :: List.replicate k 0) = (x + 256 * y + 65536 * z).toNat := by
  unfold expo
  simp only [dig]
  rw [dig_zeros]
  omega
/-- The sum's power is the product of the powers. -/
theorem cong_sum (m : Int) (k a b : Nat) (h : k = a + b) : Cong (m ^ k) (m ^ a * m ^ b) := by
  rw [h, Int.pow_add]
  exact Cong.refl _
end Go.Proofs.YtdpafemcpbhlfaaDoor
