/-
  Pocklington's criterion, and with it: 2^255 - 19 is a prime. No program.
-/
import Derived.Test.YtpjkmocabnnhaaaDoorFermat
namespace Go.Proofs.YtpjkmocabnnhaaaDoor

theorem prime_factor : ∀ n, 1 < n → ∃ q, Pr q ∧ q ∣ n := by
  intro n
  induction n using Nat.strongRecOn with
  | ind n ih =>
    intro h
    by_cases hp : Pr n
    · exact ⟨n, hp, Nat.dvd_refl n⟩
    · have : ∃ d, d ∣ n ∧ d ≠ 1 ∧ d ≠ n := by
        apply Classical.byContradiction
        intro hn
        refine hp ⟨h, fun d hd => ?_⟩
        by_cases h1 : d = 1
        · exact Or.inl h1
        · by_cases h2 : d = n
          · exact Or.inr h2
          · exact absurd ⟨d, hd, h1, h2⟩ hn
      obtain ⟨d, hd, h1, h2⟩ := this
      have h3 : d ≤ n := Nat.le_of_dvd (by omega) hd
      have h4 : d ≠ 0 := by
        intro h0
        subst h0
        have := Nat.eq_zero_of_zero_dvd hd
        omega
      obtain ⟨q, hq, hqd⟩ := ih d (by omega) (by omega)
      exact ⟨q, hq, Nat.dvd_trans hqd hd⟩
theorem pow_mod_one {r a x : Nat} (h : a ^ x % r = 1 % r) (k : Nat) : a ^ (x * k) % r = 1 % r := by
  rw [Nat.pow_mul, Nat.pow_mod, h, ← Nat.pow_mod, Nat.one_pow]
theorem pow_gcd {r a : Nat} (x y : Nat) : a ^ x % r = 1 % r → a ^ y % r = 1 % r → a ^ Nat.gcd x y % r = 1 % r := by
  induction x, y using Nat.gcd.induction with
  | H0 y => intro _ h; rw [Nat.gcd_zero_left]; exact h
  | H1 x y hx ih =>
    intro h1 h2
    rw [Nat.gcd_rec]
    refine ih ?_ h1
    have e : a ^ y = a ^ (x * (y / x)) * a ^ (y % x) := by rw [← Nat.pow_add, Nat.div_add_mod]
    rw [e, Nat.mul_mod, pow_mod_one h1, ← Nat.mul_mod, Nat.one_mul] at h2
    exact h2
theorem fermat_one {p a : Nat} (h : Pr p) (ha : ¬ p ∣ a) : a ^ (p - 1) % p = 1 % p := by
  have h1 := h.1
  have hf := fermat h a
  have ha0 : 1 ≤ a := by
    rcases Nat.eq_zero_or_pos a with h0 | h0
    · subst h0; exact absurd (Nat.dvd_zero p) ha
    · exact h0
  have e : a ^ p = a * a ^ (p - 1) := by
    obtain ⟨n, rfl⟩ : ∃ n, p = n + 1 := ⟨p - 1, by omega⟩
    rw [Nat.pow_succ, Nat.mul_comm]; rfl
  have hge : 1 ≤ a ^ (p - 1) := Nat.one_le_pow _ _ ha0
  have hd : p ∣ a * (a ^ (p - 1) - 1) := by
    rw [Nat.mul_sub, Nat.mul_one, ← e]
    have h5 : a ≤ a ^ p := by
      rw [e]; exact Nat.le_mul_of_pos_right a hge
    exact Nat.dvd_of_mod_eq_zero (Nat.sub_mod_eq_zero_of_mod_eq hf)
  rcases h.dvd_mul hd with h2 | h2
  · exact absurd h2 ha
  · obtain ⟨t, ht⟩ := h2
    rw [show a ^ (p - 1) = 1 + p * t by omega, Nat.add_mul_mod_self_left]
/-- A prime factor r of n: q divides r - 1. -/
theorem pock {n q m a v : Nat} (hq : Pr q) (hn : n - 1 = q * m) (h1n : 1 < n) (h1 : a ^ (n - 1) % n = 1 % n) (hv : a ^ m % n = v % n) (hg : Nat.gcd (v + (n - 1)) n = 1) :
    ∀ r, Pr r → r ∣ n → q ∣ r - 1 := by
  intro r hr hrn
  apply Classical.byContradiction
  intro hnq
  have hr1 := hr.1
  have down : ∀ x y : Nat, x % n = y % n → x % r = y % r := by
    intro x y h
    rw [← Nat.mod_mod_of_dvd x hrn, h, Nat.mod_mod_of_dvd y hrn]
  have a1 : a ^ (n - 1) % r = 1 % r := down _ _ h1
  have ha : ¬ r ∣ a := by
    intro h
    have h2 : r ∣ a ^ (n - 1) := by
      obtain ⟨k, hk⟩ : ∃ k, n - 1 = k + 1 := ⟨n - 2, by omega⟩
      rw [hk, Nat.pow_succ]
      exact Nat.dvd_trans h (Nat.dvd_mul_left a _)
    rw [Nat.mod_eq_zero_of_dvd h2, Nat.mod_eq_of_lt hr1] at a1
    omega
  have a2 := fermat_one hr ha
  have a3 := pow_gcd _ _ a1 a2
  have hc : Nat.Coprime (Nat.gcd (n - 1) (r - 1)) q :=
    Nat.Coprime.coprime_dvd_left (Nat.gcd_dvd_right (n - 1) (r - 1)) (hq.coprime hnq).symm
  have hd : Nat.gcd (n - 1) (r - 1) ∣ m := by
    have h2 : Nat.gcd (n - 1) (r - 1) ∣ q * m := by rw [← hn]; exact Nat.gcd_dvd_left _ _
    exact hc.dvd_of_dvd_mul_left h2
  obtain ⟨k, hk⟩ := hd
  have a4 : a ^ m % r = 1 % r := by
    conv => lhs; rw [hk]
    exact pow_mod_one a3 k
  have a5 : v % r = 1 % r := by rw [← down _ _ hv]; exact a4
  have hdv : r ∣ v + (n - 1) := by
    apply Nat.dvd_of_mod_eq_zero
    rw [Nat.add_mod, a5, ← Nat.add_mod, show 1 + (n - 1) = n by omega]
    exact Nat.mod_eq_zero_of_dvd hrn
  have h6 : r ∣ 1 := hg ▸ Nat.dvd_gcd hdv hrn
  have := Nat.le_of_dvd (by omega) h6
  omega
/-- All prime factors are above F, whose square is past n. -/
theorem pr_of_big {n F : Nat} (h1 : 1 < n) (hF : n < (F + 1) * (F + 1)) (h : ∀ r, Pr r → r ∣ n → F ≤ r - 1) : Pr n := by
  refine ⟨h1, fun d hd => ?_⟩
  obtain ⟨e, he⟩ := hd
  by_cases hd1 : d = 1
  · exact Or.inl hd1
  by_cases he1 : e = 1
  · right; rw [he, he1, Nat.mul_one]
  exfalso
  have hd0 : d ≠ 0 := by intro h0; rw [h0, Nat.zero_mul] at he; omega
  have he0 : e ≠ 0 := by intro h0; rw [h0, Nat.mul_zero] at he; omega
  obtain ⟨r, hr, hrd⟩ := prime_factor d (by omega)
  obtain ⟨s, hs, hse⟩ := prime_factor e (by omega)
  have b1 := h r hr (Nat.dvd_trans hrd ⟨e, he⟩)
  have b2 := h s hs (Nat.dvd_trans hse ⟨d, by rw [he, Nat.mul_comm]⟩)
  have c1 := Nat.le_of_dvd (by omega) hrd
  have c2 := Nat.le_of_dvd (by omega) hse
  have := hr.1
  have := hs.1
  have : (F + 1) * (F + 1) ≤ d * e := Nat.mul_le_mul (by omega) (by omega)
  omega
/-- By trial. -/
def td (n : Nat) : Nat → Bool
  | 0 => true
  | k + 1 => (n % (k + 2) != 0) && td n k
theorem td_no {n : Nat} : ∀ k, td n k = true → ∀ d, 2 ≤ d → d < k + 2 → ¬ d ∣ n
  | 0, _, d, h1, h2 => by omega
  | k + 1, h, d, h1, h2 => by
    have h' : ((n % (k + 2) != 0) && td n k) = true := h
    rw [Bool.and_eq_true] at h'
    by_cases hd : d = k + 2
    · intro hdv
      have := Nat.mod_eq_zero_of_dvd hdv
      rw [hd] at this
      rw [this] at h'
      exact absurd h'.1 (by decide)
    · exact td_no k h'.2 d h1 (by omega)
theorem pr_of_td {n k : Nat} (h1 : 1 < n) (hk : n < (k + 2) * (k + 2)) (h : td n k = true) : Pr n := by
  refine pr_of_big (F := k + 1) h1 hk (fun r hr hrn => ?_)
  apply Classical.byContradiction
  intro hlt
  have := hr.1
  exact td_no k h r (by omega) (by omega) hrn
/-- Powers, in the kernel. -/
def force (x : Nat) (k : Nat → Nat) : Nat := match x with
  | 0 => k 0
  | n + 1 => k (n + 1)
theorem force_eq (x : Nat) (k : Nat → Nat) : force x k = k x := by cases x <;> rfl
def pm (n : Nat) : Nat → Nat → Nat → Nat → Nat
  | 0, _, _, acc => acc
  | f + 1, a, e, acc => force (a * a % n) fun a' => force (e / 2) fun e' => force (bif e % 2 == 1 then acc * a % n else acc) fun acc' => pm n f a' e' acc'
theorem pm_eq (n : Nat) : ∀ (f a e acc : Nat), e < 2 ^ f → pm n f a e acc % n = acc * a ^ e % n
  | 0, a, e, acc, h => by
    have : e = 0 := by simpa using h
    rw [this, Nat.pow_zero, Nat.mul_one]; rfl
  | f + 1, a, e, acc, h => by
    show force _ _ % n = _
    rw [force_eq, force_eq, force_eq, pm_eq n f _ _ _ (by rw [Nat.pow_succ] at h; omega)]
    have hsq : ∀ k, (a * a % n) ^ k % n = a ^ (2 * k) % n := by
      intro k
      rw [← Nat.pow_mod, Nat.pow_mul, Nat.pow_two]
    have he : e = 2 * (e / 2) + e % 2 := by omega
    rcases Nat.mod_two_eq_zero_or_one e with h0 | h0
    · rw [h0]
      show acc * _ % n = _
      rw [Nat.mul_mod, hsq, ← Nat.mul_mod]
      congr 3
      omega
    · rw [h0]
      show acc * a % n * _ % n = _
      rw [Nat.mul_mod, hsq, Nat.mod_mod, ← Nat.mul_mod]
      conv => rhs; rw [he, h0, Nat.pow_add, Nat.pow_one]
      congr 1
      rw [Nat.mul_assoc, Nat.mul_comm a]
theorem pm_pow {n f a e v : Nat} (hf : e < 2 ^ f) (h : pm n f a e 1 = v) : a ^ e % n = v % n := by
  rw [← h, pm_eq n f a e 1 hf, Nat.one_mul]
/-- One prime, or two. -/
theorem pock1 {n q m f v : Nat} (hq : Pr q) (hn : n - 1 = q * m) (h1n : 1 < n) (hF : n < (q + 1) * (q + 1)) (hf : n < 2 ^ f) (h1 : pm n f 2 (n - 1) 1 = 1) (hv : pm n f 2 m 1 = v) (hg : Nat.gcd (v + (n - 1)) n = 1) : Pr n := by
  have hm : m < 2 ^ f := by
    have h2 : m ≤ q * m := Nat.le_mul_of_pos_left m (by have := hq.1; omega)
    omega
  refine pr_of_big h1n hF (fun r hr hrn => ?_)
  have := hr.1
  exact Nat.le_of_dvd (by omega) (pock hq hn h1n (pm_pow (by omega) h1) (pm_pow hm hv) hg r hr hrn)
theorem pock2 {n q q' m m' f v v' : Nat} (hq : Pr q) (hq' : Pr q') (hc : Nat.gcd q q' = 1) (hn : n - 1 = q * m) (hn' : n - 1 = q' * m') (h1n : 1 < n) (hF : n < (q * q' + 1) * (q * q' + 1)) (hf : n < 2 ^ f) (h1 : pm n f 2 (n - 1) 1 = 1)
    (hv : pm n f 2 m 1 = v) (hg : Nat.gcd (v + (n - 1)) n = 1) (hv' : pm n f 2 m' 1 = v') (hg' : Nat.gcd (v' + (n - 1)) n = 1) : Pr n := by
  have hm : m < 2 ^ f := by
    have h2 : m ≤ q * m := Nat.le_mul_of_pos_left m (by have := hq.1; omega)
    omega
  have hm' : m' < 2 ^ f := by
    have h2 : m' ≤ q' * m' := Nat.le_mul_of_pos_left m' (by have := hq'.1; omega)
    omega
  refine pr_of_big h1n hF (fun r hr hrn => ?_)
  have := hr.1
  have d1 := pock hq hn h1n (pm_pow (by omega) h1) (pm_pow hm hv) hg r hr hrn
  have d2 := pock hq' hn' h1n (pm_pow (by omega) h1) (pm_pow hm' hv') hg' r hr hrn
  exact Nat.le_of_dvd (by omega) (Nat.Coprime.mul_dvd_of_dvd_of_dvd hc d1 d2)
theorem pr_569003 : Pr 569003 := pr_of_td (k := 753) (by decide) (by decide) (by decide +kernel)
theorem pr_991 : Pr 991 := pr_of_td (k := 30) (by decide) (by decide) (by decide +kernel)
theorem pr_7 : Pr 7 := pr_of_td (k := 1) (by decide) (by decide) (by decide +kernel)
theorem pr_430751 : Pr 430751 := pr_of_td (k := 655) (by decide) (by decide) (by decide +kernel)
theorem pr_4153 : Pr 4153 := pr_of_td (k := 63) (by decide) (by decide) (by decide +kernel)
theorem pr_127 : Pr 127 := pr_of_td (k := 10) (by decide) (by decide) (by decide +kernel)
theorem pr_2773320623 : Pr 2773320623 := pock1 (m := 4874) (f := 32) (v := 2039232613) pr_569003 (by decide +kernel) (by decide +kernel) (by decide +kernel) (by decide +kernel) (by decide +kernel) (by decide +kernel) (by decide +kernel)
theorem pr_8574133 : Pr 8574133 := pock2 (m := 8652) (m' := 1224876) (f := 24) (v := 3435729) (v' := 7470406) pr_991 pr_7 (by decide +kernel) (by decide +kernel) (by decide +kernel) (by decide +kernel) (by decide +kernel) (by decide +kernel) (by decide +kernel) (by decide +kernel) (by decide +kernel) (by decide +kernel) (by decide +kernel)
theorem pr_D : Pr 72106336199 := pock1 (m := 26) (f := 37) (v := 67108864) pr_2773320623 (by decide +kernel) (by decide +kernel) (by decide +kernel) (by decide +kernel) (by decide +kernel) (by decide +kernel) (by decide +kernel)
theorem pr_C : Pr 1919519569386763 := pock2 (m := 223873314) (m' := 15114327318006) (f := 51) (v := 1059928654987441) (v' := 576774792492622) pr_8574133 pr_127 (by decide +kernel) (by decide +kernel) (by decide +kernel) (by decide +kernel) (by decide +kernel) (by decide +kernel) (by decide +kernel) (by decide +kernel) (by decide +kernel) (by decide +kernel) (by decide +kernel)
theorem pr_A : Pr 31757755568855353 := pock2 (m := 73726481352) (m' := 7646943310584) (f := 55) (v := 15280470251845350) (v' := 28256283979054930) pr_430751 pr_4153 (by decide +kernel) (by decide +kernel) (by decide +kernel) (by decide +kernel) (by decide +kernel) (by decide +kernel) (by decide +kernel) (by decide +kernel) (by decide +kernel) (by decide +kernel) (by decide +kernel)
theorem pr_B : Pr 75445702479781427272750846543864801 := pock2 (m := 39304471641247389600) (m' := 1046311689884858398375200) (f := 116) (v := 56747016255153332959347766392083459) (v' := 71619851993489548214160924360205394) pr_C pr_D (by decide +kernel) (by decide +kernel) (by decide +kernel) (by decide +kernel) (by decide +kernel) (by decide +kernel) (by decide +kernel) (by decide +kernel) (by decide +kernel) (by decide +kernel) (by decide +kernel)
theorem pr_q1 : Pr 74058212732561358302231226437062788676166966415465897661863160754340907 := pock2 (m := 2331972502653487852620185443007392165117953542933313402) (m' := 981609426360740691344999861639072106) (f := 236) (v := 50366660687963342066214195241331738400016478712605795091965648721912165) (v' := 69490809710348678725736597923071784769591275419387514694139338586948360) pr_A pr_B (by decide +kernel) (by decide +kernel) (by decide +kernel) (by decide +kernel) (by decide +kernel) (by decide +kernel) (by decide +kernel) (by decide +kernel) (by decide +kernel) (by decide +kernel) (by decide +kernel)
theorem pr_p : Pr 57896044618658097711785492504343953926634992332820282019728792003956564819949 := pock1 (m := 781764) (f := 255) (v := 427094198651976259540344842774561673889945192655078505504941250475370961481) pr_q1 (by decide +kernel) (by decide +kernel) (by decide +kernel) (by decide +kernel) (by decide +kernel) (by decide +kernel) (by decide +kernel)
end Go.Proofs.YtpjkmocabnnhaaaDoor
