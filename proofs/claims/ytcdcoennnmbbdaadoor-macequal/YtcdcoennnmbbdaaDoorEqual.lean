/-
  mac.Equal.
-/
import Derived.Test.YtcdcoennnmbbdaaDoorWrite
namespace Go.Proofs.YtcdcoennnmbbdaaDoor
open Go.RowKit

/-- Numbers that are bytes. -/
def Byt (l : List Int) : Prop := ∀ j, 0 ≤ l.getD j 0 ∧ l.getD j 0 < 256
def dz (p q : List Int) : Nat → Int
  | 0 => 0
  | k + 1 => bits .or .u8 (dz p q k) (bits .xor .u8 (p.getD k 0) (q.getD k 0))
theorem xor8_zero (a b : Int) (ha : 0 ≤ a ∧ a < 256) (hb : 0 ≤ b ∧ b < 256) : 0 ≤ bits .xor .u8 a b ∧ bits .xor .u8 a b < 256 ∧ (bits .xor .u8 a b = 0 ↔ a = b) := by
  obtain ⟨m, rfl⟩ := Int.eq_ofNat_of_zero_le ha.1
  obtain ⟨n, rfl⟩ := Int.eq_ofNat_of_zero_le hb.1
  rw [u8_xor_nat m n (by omega) (by omega)]
  have h1 : m ^^^ n < 2 ^ 8 := Nat.xor_lt_two_pow (by omega) (by omega)
  refine ⟨by omega, by omega, ?_⟩
  constructor
  · intro h
    have h2 : m ^^^ n = 0 := by omega
    have : m = n := by
      have h3 : m ^^^ n ^^^ n = 0 ^^^ n := by rw [h2]
      rwa [Nat.xor_assoc, Nat.xor_self, Nat.xor_zero, Nat.zero_xor] at h3
    omega
  · intro h
    have : m = n := by omega
    subst this
    simp
theorem or8_zero (a b : Int) (ha : 0 ≤ a ∧ a < 256) (hb : 0 ≤ b ∧ b < 256) : 0 ≤ bits .or .u8 a b ∧ bits .or .u8 a b < 256 ∧ (bits .or .u8 a b = 0 ↔ a = 0 ∧ b = 0) := by
  obtain ⟨m, rfl⟩ := Int.eq_ofNat_of_zero_le ha.1
  obtain ⟨n, rfl⟩ := Int.eq_ofNat_of_zero_le hb.1
  rw [u8_or_nat m n (by omega) (by omega)]
  have h1 : m ||| n < 2 ^ 8 := Nat.or_lt_two_pow (by omega) (by omega)
  refine ⟨by omega, by omega, ?_⟩
  have h2 : m ||| n = 0 ↔ m = 0 ∧ n = 0 := Nat.or_eq_zero_iff
  constructor
  · intro h
    have := h2.1 (by omega)
    omega
  · intro h
    have := h2.2 (by omega)
    omega
theorem dz_spec (p q : List Int) (hp : Byt p) (hq : Byt q) (k : Nat) : 0 ≤ dz p q k ∧ dz p q k < 256 ∧ (dz p q k = 0 ↔ ∀ j, j < k → p.getD j 0 = q.getD j 0) := by
  induction k with
  | zero => exact ⟨by simp [dz], by simp [dz], by simp [dz]⟩
  | succ k ih =>
    obtain ⟨x0, x1, x2⟩ := xor8_zero _ _ (hp k) (hq k)
    obtain ⟨o0, o1, o2⟩ := or8_zero (dz p q k) _ ⟨ih.1, ih.2.1⟩ ⟨x0, x1⟩
    refine ⟨o0, o1, ?_⟩
    rw [dz, o2, ih.2.2, x2]
    constructor
    · intro h j hj
      by_cases e : j = k
      · rw [e]; exact h.2
      · exact h.1 j (by omega)
    · intro h
      exact ⟨fun j hj => h j (by omega), h k (by omega)⟩
theorem list_ext_getD {p q : List Int} (hl : p.length = q.length) (h : ∀ j, j < p.length → p.getD j 0 = q.getD j 0) : p = q := by
  apply List.ext_getElem hl
  intro j h1 h2
  have := h j h1
  simpa [List.getD_eq_getElem?_getD, h1, h2] using this

set_option maxHeartbeats 1000000 in
theorem equal_any (p q : List Int) (v u : Value) (w : World) (S : Nat → Prop) (hv : Sl w S v p) (hu : Sl w S u q) (hp : Byt p) (hq : Byt q) :
    Calls Tryd.prog 21 #[v, u] w fun e w' => e = .returned (.bool (decide (p = q))) ∧ w = w' := by
  obtain ⟨sp, cp, rfl, h1, h2, h3⟩ := hv
  obtain ⟨sq, cq, rfl, k1, k2, k3⟩ := hu
  by_cases hl : p.length = q.length
  · have HD := Lib.hid (dz_spec p q hp hq)
    have Hfin : Hid (decide (p = q) = decide (dz p q p.length = 0)) := by
      show _ = _
      rw [decide_eq_decide, (HD.out _).2.2]
      exact ⟨fun h j _ => by rw [h], fun h => list_ext_getD hl h⟩
    rw [← hl] at k1 k3 ⊢
    obtain ⟨n, hn⟩ : ∃ n, n = p.length := ⟨_, rfl⟩
    rw [← hn] at h1 h3 k1 k3 Hfin ⊢
    have H3 := Lib.hid h3
    have K3 := Lib.hid k3
    have hne : ((n : Int) != (n : Int)) = false := by simp
    clear hn hl h3 k3 hp hq
    go_enter Tryd.func21, Tryd.ntmps21
    go_wp2
    go_loop [15, 5] (fun i d => ∃ k : Nat, k ≤ n ∧ i = .int .i64 k ∧ d = .int .u8 (dz p q k)) (fun i _ => n - (intOf i).toNat)
    case atStart => exact ⟨0, by omega, rfl, rfl⟩
    case round =>
      obtain ⟨k, hk, rfl, rfl⟩ := hrel
      by_cases hlt : k < n
      · obtain ⟨pb, po, rfl, _, hc⟩ := H3.out (by omega)
        obtain ⟨qb, qo, rfl, _, hd⟩ := K3.out (by omega)
        have c1 := hc k hlt
        have c2 := hd k hlt
        clear hc hd
        go_wp2
        go_round
        case rel => exact ⟨k + 1, by omega, by go_num, rfl⟩
        case measure => simp [intOf]; omega
      · obtain rfl : k = n := by omega
        go_wp2
        go_ret
        exact ⟨by rw [Hfin.out]; rfl, rfl⟩
  · have hf : decide (p = q) = false := by
      rw [decide_eq_false_iff_not]
      intro h; exact hl (by rw [h])
    rw [hf]
    have hne : ((p.length : Int) != (q.length : Int)) = true := by rw [bne_iff_ne]; omega
    clear hf h3 k3
    go_enter Tryd.func21, Tryd.ntmps21
    go_wp2
    go_ret
    exact ⟨rfl, rfl⟩
end Go.Proofs.YtcdcoennnmbbdaaDoor
