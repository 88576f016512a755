/-
  Numbers of eight words, the order, and what push does. No program.
-/
import Derived.Test.YtdpafemcpbhlfaaDoorScDig
namespace Go.Proofs.YtdpafemcpbhlfaaDoor.Sc
set_option maxRecDepth 100000
open Go.RowKit

/-- The group's order. -/
def oo : Int := 7237005577332262213973186563042994240857116359379907606001950938285454250989
def ordL : List Int := [1559614445, 1477600026, 2734136534, 350157278, 0, 0, 0, 268435456]
theorem dig_ordL : dig 4294967296 ordL = oo := by decide +kernel
theorem oo_pos : 0 < oo := by decide +kernel
theorem ordL_bd (j : Nat) : 0 ≤ ordL.getD j 0 ∧ ordL.getD j 0 < 4294967296 :=
  (show Digs 4294967296 ordL by intro x hx; simp only [ordL, List.mem_cons, List.not_mem_nil, or_false] at hx; omega).get (by omega) j
theorem dig_take_succ (B : Int) (A : List Int) (k : Nat) (h : k < A.length) : dig B (A.take (k + 1)) = dig B (A.take k) + B ^ k * A.getD k 0 := by
  rw [List.take_succ_eq_append_getElem h, dig_append, List.length_take, Nat.min_eq_left (by omega), List.getD_eq_getElem?_getD, List.getElem?_eq_getElem h]
  simp [dig]
theorem dig_take_all (B : Int) (A : List Int) (k : Nat) (h : A.length ≤ k) : dig B (A.take k) = dig B A := by rw [List.take_of_length_le h]
theorem digs_set {B : Int} {M : List Int} (h : Digs B M) (k : Nat) (x : Int) (h0 : 0 ≤ x) (h1 : x < B) : Digs B (M.set k x) := fun y hy => by
  rcases List.mem_or_eq_of_mem_set hy with g | g
  · exact h y g
  · omega
/-- Words as they are after k rounds of addOrder. -/
structure AddO (L M : List Int) (t : Int) (k : Nat) (c : Int) : Prop where
  len : M.length = 8
  digs : Digs 4294967296 M
  same : ∀ j, k ≤ j → M.getD j 0 = L.getD j 0
  c0 : -5000 ≤ c
  c1 : c ≤ 5000
  eq : dig 4294967296 M + 4294967296 ^ k * c = dig 4294967296 L + t * dig 4294967296 (ordL.take k)
theorem AddO.start {L : List Int} (hl : L.length = 8) (hd : Digs 4294967296 L) (t : Int) : AddO L L t 0 0 := ⟨hl, hd, fun _ _ => rfl, by omega, by omega, by simp [dig]⟩
theorem mul_bd4 {t o : Int} (ht : -4096 ≤ t ∧ t ≤ 4096) (ho : 0 ≤ o ∧ o < 4294967296) : -17592186044416 ≤ t * o ∧ t * o ≤ 17592186044416 := by
  have h1 : t * o ≤ 4096 * o := Int.mul_le_mul_of_nonneg_right ht.2 ho.1
  have h2 : -4096 * o ≤ t * o := Int.mul_le_mul_of_nonneg_right ht.1 ho.1
  omega
theorem AddO.step {L M : List Int} {t : Int} {k : Nat} {c : Int} (h : AddO L M t k c) (hk : k < 8) (ht : -4096 ≤ t ∧ t ≤ 4096) :
    AddO L (M.set k ((L.getD k 0 + t * ordL.getD k 0 + c) % 4294967296)) t (k + 1) ((L.getD k 0 + t * ordL.getD k 0 + c) / 4294967296) := by
  have hs := h.same k (by omega)
  have hb := h.digs.get (B := 4294967296) (by omega) k
  have hm := mul_bd4 ht (ordL_bd k)
  have h0 := h.c0
  have h1 := h.c1
  have he := h.eq
  rw [hs] at hb
  refine ⟨by rw [List.length_set]; exact h.len, digs_set h.digs k _ (by omega) (by omega), fun j hj => by rw [getD_set_ne _ _ _ _ (by omega)]; exact h.same j (by omega), by omega, by omega, ?_⟩
  rw [dig_set _ _ _ _ (by rw [h.len]; exact hk), hs, dig_take_succ _ _ _ (show k < ordL.length from hk), Int.pow_succ, Int.mul_assoc, Int.add_assoc, ← Int.mul_add, Int.mul_add t, ← Int.add_assoc, ← he]
  generalize L.getD k 0 = l at *
  rw [Int.mul_left_comm t]
  generalize t * ordL.getD k 0 = q at *
  generalize (4294967296 : Int) ^ k = z at *
  have e1 := Int.mul_ediv_add_emod (l + q + c) 4294967296
  rw [show (l + q + c) % 4294967296 - l + 4294967296 * ((l + q + c) / 4294967296) = q + c by omega, Int.mul_add]
  omega
/-- Words as they are after k rounds of push. -/
structure PushR (L M : List Int) (x : Int) (k : Nat) (c : Int) : Prop where
  len : M.length = 8
  digs : Digs 4294967296 M
  same : ∀ j, k ≤ j → M.getD j 0 = L.getD j 0
  c0 : 0 ≤ c
  c1 : c < 256
  eq : dig 4294967296 M + 4294967296 ^ k * c = dig 4294967296 L + 255 * dig 4294967296 (L.take k) + x
theorem PushR.start {L : List Int} (hl : L.length = 8) (hd : Digs 4294967296 L) (x : Int) (hx : 0 ≤ x ∧ x < 256) : PushR L L x 0 x := ⟨hl, hd, fun _ _ => rfl, hx.1, hx.2, by simp [dig]⟩
theorem PushR.step {L M : List Int} {x : Int} {k : Nat} {c : Int} (h : PushR L M x k c) (hk : k < 8) (hL : L.length = 8) :
    PushR L (M.set k (L.getD k 0 * 256 % 4294967296 + c)) x (k + 1) (L.getD k 0 / 16777216) := by
  have hs := h.same k (by omega)
  have hb := h.digs.get (B := 4294967296) (by omega) k
  have h0 := h.c0
  have h1 := h.c1
  have he := h.eq
  rw [hs] at hb
  refine ⟨by rw [List.length_set]; exact h.len, digs_set h.digs k _ (by omega) (by omega), fun j hj => by rw [getD_set_ne _ _ _ _ (by omega)]; exact h.same j (by omega), by omega, by omega, ?_⟩
  rw [dig_set _ _ _ _ (by rw [h.len]; exact hk), hs, dig_take_succ _ _ _ (by omega), Int.pow_succ, Int.mul_assoc, Int.add_assoc, ← Int.mul_add]
  generalize L.getD k 0 = l at *
  generalize (4294967296 : Int) ^ k = z at *
  rw [show l * 256 % 4294967296 + c - l + 4294967296 * (l / 16777216) = 255 * l + c by omega, Int.mul_add, Int.mul_left_comm z 255 l]
  omega
theorem bw8 : (4294967296 : Int) ^ 8 = 115792089237316195423570985008687907853269984665640564039457584007913129639936 := by decide
/-- The times that the order is in it, or one less. -/
theorem push_times {L M : List Int} {x c : Int} (h : PushR L M x 8 c) (hL : L.length = 8) (hx : 0 ≤ x ∧ x < 256) (hlt : dig 4294967296 L < oo) :
    c ≤ 16 ∧ dig 4294967296 M + 115792089237316195423570985008687907853269984665640564039457584007913129639936 * c = 256 * dig 4294967296 L + x ∧
    c * 16 + M.getD 7 0 / 268435456 = (256 * dig 4294967296 L + x) / 7237005577332262213973186563042994240829374041602535252466099000494570602496 := by
  have he := h.eq
  rw [dig_take_all _ _ _ (by omega), bw8] at he
  have h0 := h.c0
  have hm0 := dig_nonneg (B := 4294967296) (by omega) h.digs
  have h7 := dig_take_succ 4294967296 M 7 (by rw [h.len]; omega)
  rw [dig_take_all _ _ _ (by rw [h.len]; omega)] at h7
  have hD7 : Digs 4294967296 (M.take 7) := fun y hy => h.digs y (List.mem_of_mem_take hy)
  have h70 := dig_nonneg (B := 4294967296) (by omega) hD7
  have h71 := dig_lt (B := 4294967296) (by omega) hD7
  rw [List.length_take, Nat.min_eq_left (by rw [h.len]; omega)] at h71
  rw [show (4294967296 : Int) ^ 7 = 26959946667150639794667015087019630673637144422540572481103610249216 by decide] at *
  have hg := h.digs.get (B := 4294967296) (by omega) 7
  generalize M.getD 7 0 = m at *
  unfold oo at hlt
  refine ⟨by omega, by omega, ?_⟩
  omega
/-- What is left is below the order. -/
theorem push_left {V q : Int} (h0 : 0 ≤ V) (h1 : V < 256 * oo) (hq : q = V / 7237005577332262213973186563042994240829374041602535252466099000494570602496) :
    0 ≤ q ∧ q ≤ 256 ∧ (V - q * oo < 0 → V - q * oo + oo = V % oo) ∧ (¬ V - q * oo < 0 → V - q * oo = V % oo) := by
  have e := Int.mul_ediv_add_emod V 7237005577332262213973186563042994240829374041602535252466099000494570602496
  have e0 := Int.emod_nonneg V (b := 7237005577332262213973186563042994240829374041602535252466099000494570602496) (by omega)
  have e1 := Int.emod_lt_of_pos V (b := 7237005577332262213973186563042994240829374041602535252466099000494570602496) (by omega)
  rw [← hq] at e
  have hq0 : 0 ≤ q := by rw [hq]; exact Int.ediv_nonneg h0 (by omega)
  have hq1 : q ≤ 256 := by unfold oo at h1; omega
  have key : ∀ r k, V = r + oo * k → 0 ≤ r → r < oo → r = V % oo := fun r k hv h0 h1 => by
    rw [hv, Int.add_mul_emod_self_left]
    exact (Int.emod_eq_of_lt h0 h1).symm
  refine ⟨hq0, hq1, fun h => key _ (q - 1) (by unfold oo; omega) ?_ (by unfold oo at *; omega), fun h => key _ q (by unfold oo; omega) (by omega) ?_⟩
  · unfold oo at *
    omega
  · unfold oo at *
    omega
theorem or32 (q c : Int) (hq : 0 ≤ q) (hq2 : 256 * q < 4294967296) (hc : 0 ≤ c ∧ c < 256) : bits .or .u32 (256 * q) c = 256 * q + c := by
  obtain ⟨x, rfl⟩ := Int.eq_ofNat_of_zero_le hq
  obtain ⟨y, rfl⟩ := Int.eq_ofNat_of_zero_le hc.1
  have e1 : (256 : Int) * (x : Int) = ((2 ^ 8 * x : Nat) : Int) := by simp
  rw [e1, u32_or_nat _ _ (by omega) (by omega), ← Nat.two_pow_add_eq_or_of_lt (by omega)]
  simp
end Go.Proofs.YtdpafemcpbhlfaaDoor.Sc
