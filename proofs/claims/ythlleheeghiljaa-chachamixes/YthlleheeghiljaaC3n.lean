/-
  chacha: mixed twice it is as it was.
-/
import Derived.Test.YthlleheeghiljaaC2n
import Derived.Test.YthlleheeghiljaaOy
namespace Go.Proofs.Ythlleheeghiljaa
open Go.RowKit
set_option maxRecDepth 100000

theorem Bys.at {l : List Int} (h : Bys l) (k : Nat) : 0 ≤ l.getD k 0 ∧ l.getD k 0 < 256 := by
  rw [List.getD_eq_getElem?_getD]
  cases e : l[k]? with
  | none => simp
  | some x => exact h x (List.mem_of_getElem? e)
theorem Bys.set {l : List Int} (h : Bys l) (k : Nat) {x : Int} (hx : 0 ≤ x ∧ x < 256) : Bys (l.set k x) := by
  intro y hy
  rcases List.mem_or_eq_of_mem_set hy with h1 | rfl
  · exact h y h1
  · exact hx
theorem Bys.drop {l : List Int} (h : Bys l) (k : Nat) : Bys (l.drop k) := fun x hx => h x (List.mem_of_mem_drop hx)
theorem Bys.take {l : List Int} (h : Bys l) (k : Nat) : Bys (l.take k) := fun x hx => h x (List.mem_of_mem_take hx)
theorem wrapU8 (x : Int) : IntKind.wrap .u8 x = x % 256 := by simp [IntKind.wrap, IntKind.bits, IntKind.signed]
theorem wrapU32 (x : Int) : IntKind.wrap .u32 x = x % 4294967296 := by simp [IntKind.wrap, IntKind.bits, IntKind.signed]
theorem wrapU8_in (x : Int) : 0 ≤ IntKind.wrap .u8 x ∧ IntKind.wrap .u8 x < 256 := by rw [wrapU8]; omega
theorem putL_bys {l : List Int} (h : Bys l) (k : Nat) (x : Int) : Bys (putL l k x) :=
  (((h.set _ (wrapU8_in _)).set _ (wrapU8_in _)).set _ (wrapU8_in _)).set _ (wrapU8_in _)
theorem putL_len (l : List Int) (k : Nat) (x : Int) : (putL l k x).length = l.length := by simp [putL]
theorem outL_bys (x l : List Int) : ∀ n b, Bys b → Bys (outL x l n b)
  | 0, _, h => h
  | n + 1, b, h => putL_bys (outL_bys x l n b h) _ _
theorem outL_len (x l : List Int) : ∀ n b, (outL x l n b).length = b.length
  | 0, _ => rfl
  | n + 1, b => by rw [outL, putL_len, outL_len x l n b]
theorem chachaL_bys (k n : List Int) (x : Int) : Bys (chachaL k n x) := outL_bys _ _ _ _ (fun y hy => by rw [List.mem_replicate] at hy; omega)
theorem chachaL_len (k n : List Int) (x : Int) : (chachaL k n x).length = 64 := by
  unfold chachaL blockL
  rw [outL_len]; simp
def xorB (a b : Int) : Int := bits .xor .u8 a b
theorem xorB_nat (a b : Nat) (ha : a < 256) (hb : b < 256) : xorB a b = ((a ^^^ b : Nat) : Int) := by
  have ha' : a % 2 ^ IntKind.bits .u8 = a := Nat.mod_eq_of_lt ha
  have hb' : b % 2 ^ IntKind.bits .u8 = b := Nat.mod_eq_of_lt hb
  have hx : a ^^^ b < 256 := Nat.xor_lt_two_pow (n := 8) ha hb
  unfold xorB
  simp only [bits, BitVec.ofInt_natCast, BitVec.toNat_xor, BitVec.toNat_ofNat, ha', hb']
  rw [wrapU8]; omega
theorem xorB_in (a b : Int) : 0 ≤ xorB a b ∧ xorB a b < 256 := ⟨bits_lo_u8 _ _ _, by have := bits_hi_u8 .xor a b; unfold xorB; omega⟩
theorem xorB_back {a b : Int} (ha : 0 ≤ a ∧ a < 256) (hb : 0 ≤ b ∧ b < 256) : xorB (xorB a b) b = a := by
  obtain ⟨m, rfl⟩ := Int.eq_ofNat_of_zero_le ha.1
  obtain ⟨n, rfl⟩ := Int.eq_ofNat_of_zero_le hb.1
  have hm : m < 256 := by omega
  have hn : n < 256 := by omega
  rw [xorB_nat m n hm hn, xorB_nat _ _ (Nat.xor_lt_two_pow (n := 8) hm hn) hn, Nat.xor_assoc, Nat.xor_self, Nat.xor_zero]
theorem xorB_zero {b : Int} (hb : 0 ≤ b ∧ b < 256) : xorB 0 b = b := by
  obtain ⟨n, rfl⟩ := Int.eq_ofNat_of_zero_le hb.1
  have hn : n < 256 := by omega
  have := xorB_nat 0 n (by omega) hn
  rw [Nat.zero_xor] at this
  exact this
theorem getDset (l : List Int) (i p : Nat) (x : Int) (h : i < l.length) : (l.set i x).getD p 0 = if i = p then x else l.getD p 0 := by
  rw [List.getD_eq_getElem?_getD, List.getElem?_set, List.getD_eq_getElem?_getD]
  by_cases e : i = p
  · subst e; simp [h]
  · simp [e]
theorem covL_at (l : List Int) (k : Nat) (b : List Int) (p : Nat) : ∀ i, k + i ≤ l.length → (covL l k b i).getD p 0 = if k ≤ p ∧ p < k + i then xorB (l.getD p 0) (b.getD (p - k) 0) else l.getD p 0
  | 0, _ => by rw [if_neg (by omega)]; rfl
  | i + 1, h => by
    rw [covL, getDset _ _ _ _ (by rw [covL_len]; omega), covL_at l k b (k + i) i (by omega), covL_at l k b p i (by omega)]
    by_cases e : k + i = p
    · subst e
      rw [if_pos rfl, if_neg (by omega), if_pos (by omega), show k + i - k = i by omega]; rfl
    · rw [if_neg e]
      by_cases e2 : k ≤ p ∧ p < k + i
      · rw [if_pos e2, if_pos (by omega)]
      · rw [if_neg e2, if_neg (by omega)]
/-- The stream's byte at a place. -/
def strm (key nonce : List Int) (x : Int) (p : Nat) : Int := (chachaL key nonce (IntKind.wrap .u32 (x + IntKind.wrap .u32 ((p / 64 : Nat) : Int)))).getD (p % 64) 0
theorem strm_in (key nonce : List Int) (x : Int) (p : Nat) : 0 ≤ strm key nonce x p ∧ strm key nonce x p < 256 := (chachaL_bys _ _ _).at _
theorem mixL_at (key nonce : List Int) (x : Int) (t : List Int) (n : Nat) (hn : t.length = n) (p : Nat) (hp : p < n) : ∀ i, i ≤ (n + 63) / 64 → (mixL key nonce x t n i).getD p 0 = if p < 64 * i then xorB (t.getD p 0) (strm key nonce x p) else t.getD p 0
  | 0, _ => by rw [if_neg (by omega)]; rfl
  | i + 1, h => by
    have ih := mixL_at key nonce x t n hn p hp i (by omega)
    rw [mixL, covL_at _ _ _ _ _ (by rw [mixL_len]; omega), ih]
    by_cases e : p < 64 * i
    · rw [if_neg (by omega), if_pos e, if_pos (by omega)]
    · by_cases e2 : p < 64 * i + 64
      · rw [if_pos (by omega), if_neg e, if_pos (by omega)]
        unfold strm
        rw [show p / 64 = i by omega, show p % 64 = p - 64 * i by omega]
      · rw [if_neg (by omega), if_neg e, if_neg (by omega)]
theorem mixA_len (key nonce : List Int) (x : Int) (t : List Int) : (mixA key nonce x t).length = t.length := mixL_len _ _ _ _ _ _
theorem mixA_at (key nonce : List Int) (x : Int) (t : List Int) (p : Nat) (hp : p < t.length) : (mixA key nonce x t).getD p 0 = xorB (t.getD p 0) (strm key nonce x p) := by
  unfold mixA
  rw [mixL_at key nonce x t _ rfl p hp _ (Nat.le_refl _), if_pos (by omega)]
theorem ext_getD {l m : List Int} (hl : l.length = m.length) (h : ∀ p, p < l.length → l.getD p 0 = m.getD p 0) : l = m := by
  apply List.ext_getElem hl
  intro p h1 h2
  have := h p h1
  simpa [List.getD_eq_getElem?_getD, h1, h2] using this
theorem mixA_back (key nonce : List Int) (x : Int) {t : List Int} (ht : Bys t) : mixA key nonce x (mixA key nonce x t) = t := by
  refine ext_getD (by rw [mixA_len, mixA_len]) (fun p hp => ?_)
  rw [mixA_len, mixA_len] at hp
  rw [mixA_at _ _ _ _ _ (by rw [mixA_len]; exact hp), mixA_at _ _ _ _ _ hp, xorB_back (ht.at p) (strm_in _ _ _ _)]
end Go.Proofs.Ythlleheeghiljaa
