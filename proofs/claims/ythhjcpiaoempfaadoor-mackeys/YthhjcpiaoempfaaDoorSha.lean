/-
  sha2: what a sum of parts hangs on: the bytes alone, one behind the other.
-/
import Derived.Test.YthhjcpiaoempfaaDoorH4
namespace Go.Proofs.YthhjcpiaoempfaaDoor
open Go.RowKit

theorem blkN_app (s : List Int) (m p : List Int) : ∀ k, 64 * k ≤ m.length → blkN s (m ++ p) k = blkN s m k
  | 0, _ => rfl
  | k + 1, h => by
    rw [blkN, blkN, blkN_app s m p k (by omega), List.drop_append_of_le_length (by omega), List.take_append_of_le_length (by rw [List.length_drop]; omega)]
theorem blkN_add (s m : List Int) (j : Nat) : ∀ k, blkN s m (j + k) = blkN (blkN s m j) (m.drop (64 * j)) k
  | 0 => rfl
  | k + 1 => by
    rw [← Nat.add_assoc, blkN, blkN, blkN_add s m j k, List.drop_drop, Nat.mul_add]
theorem lay_takeH {B x : List Int} {f : Nat} (h : f + x.length ≤ B.length) : (lay B f x).take (f + x.length) = B.take f ++ x := by
  unfold lay
  exact List.take_left' (by simp; omega)
/-- The hash has taken in just these bytes. -/
structure Rch (h : HS) (m : List Int) : Prop where
  hc : h.c = m.length
  hr : h.rest.length = 128
  ht : h.rest.take (m.length % 64) = m.drop (64 * (m.length / 64))
  hs : h.s = blkN h0L m (m.length / 64)
theorem rch0 : Rch hs0 [] := ⟨rfl, rfl, rfl, rfl⟩
theorem feed_rch {h : HS} {m : List Int} (R : Rch h m) (p : List Int) : Rch (feedH h p) (m ++ p) := by
  obtain ⟨hc, hr, ht, hs⟩ := R
  have hlt := Nat.mod_lt m.length (show 0 < 64 by decide)
  have hdl : (m.drop (64 * (m.length / 64))).length = m.length % 64 := by rw [List.length_drop]; omega
  have hd0 : (m ++ p).drop (64 * (m.length / 64)) = m.drop (64 * (m.length / 64)) ++ p := List.drop_append_of_le_length (by omega)
  have hb0 : blkN h0L (m ++ p) (m.length / 64) = h.s := by rw [blkN_app _ _ _ _ (by omega), hs]
  unfold feedH feedR feedS
  rw [hc]
  by_cases r0 : m.length % 64 = 0
  · have c0 : ¬ (0 < m.length % 64 ∧ m.length % 64 + p.length < 64) := by omega
    have e1 : fdP m.length p = p := if_pos r0
    have e2 : fdR h.rest m.length p = h.rest := if_pos r0
    have e3 : fdS h.rest m.length h.s p = h.s := if_pos r0
    rw [if_neg c0, if_neg c0, e1, e2, e3]
    have q1 : (m ++ p).length / 64 = m.length / 64 + p.length / 64 := by rw [List.length_append]; omega
    have q2 : (m ++ p).length % 64 = p.length % 64 := by rw [List.length_append]; omega
    have hm : m.drop (64 * (m.length / 64)) = [] := List.drop_of_length_le (by omega)
    rw [hm, List.nil_append] at hd0
    have hpl : (p.drop (64 * (p.length / 64))).length = p.length % 64 := by rw [List.length_drop]; omega
    refine ⟨(List.length_append ..).symm, ?_, ?_, ?_⟩
    · show (lay _ _ _).length = _
      rw [lay_length _ _ _ (by rw [hpl]; omega), hr]
    · show (lay _ _ _).take _ = _
      rw [q1, q2, Nat.mul_add, ← List.drop_drop, hd0]
      have := lay_takeH (B := h.rest) (x := p.drop (64 * (p.length / 64))) (f := 0) (by rw [hpl]; omega)
      rw [hpl, Nat.zero_add, List.take_zero, List.nil_append] at this
      exact this
    · rw [q1, blkN_add, hb0, hd0]
  · by_cases r1 : m.length % 64 + p.length < 64
    · have c0 : 0 < m.length % 64 ∧ m.length % 64 + p.length < 64 := by omega
      rw [if_pos c0, if_pos c0]
      have q1 : (m ++ p).length / 64 = m.length / 64 := by rw [List.length_append]; omega
      have q2 : (m ++ p).length % 64 = m.length % 64 + p.length := by rw [List.length_append]; omega
      have e1 : fdM m.length p = p.length := Nat.min_eq_left (by omega)
      have e2 : fd1 h.rest m.length p = lay h.rest (m.length % 64) p := by unfold fd1; rw [e1, List.take_length]
      rw [e2]
      refine ⟨(List.length_append ..).symm, ?_, ?_, ?_⟩
      · show (lay _ _ _).length = _
        rw [lay_length _ _ _ (by omega), hr]
      · show (lay _ _ _).take _ = _
        rw [q1, q2, lay_takeH (by omega), ht, hd0]
      · rw [q1, hb0]
    · have c0 : ¬ (0 < m.length % 64 ∧ m.length % 64 + p.length < 64) := by omega
      rw [if_neg c0, if_neg c0]
      have e1 : fdM m.length p = 64 - m.length % 64 := Nat.min_eq_right (by omega)
      have htl : (p.take (64 - m.length % 64)).length = 64 - m.length % 64 := by rw [List.length_take]; omega
      have e2 : fd1 h.rest m.length p = lay h.rest (m.length % 64) (p.take (64 - m.length % 64)) := by unfold fd1; rw [e1]
      have e3 : fdP m.length p = p.drop (64 - m.length % 64) := by unfold fdP; rw [if_neg r0, e1]
      have e4 : fdR h.rest m.length p = lay h.rest (m.length % 64) (p.take (64 - m.length % 64)) := by unfold fdR; rw [if_neg r0, e2]
      have l1 := lay_takeH (B := h.rest) (x := p.take (64 - m.length % 64)) (f := m.length % 64) (by rw [htl]; omega)
      rw [htl, show m.length % 64 + (64 - m.length % 64) = 64 by omega, ht] at l1
      have e5 : fdS h.rest m.length h.s p = blkN h0L (m ++ p) (m.length / 64 + 1) := by
        unfold fdS
        rw [if_neg r0, e2, l1, blkN, hb0, hd0]
        congr 1
        have := List.take_append (l₁ := m.drop (64 * (m.length / 64))) (l₂ := p) (i := 64)
        rw [hdl, List.take_of_length_le (l := m.drop (64 * (m.length / 64))) (by omega)] at this
        exact this.symm
      have hdp : (m ++ p).drop (64 * (m.length / 64 + 1)) = p.drop (64 - m.length % 64) := by
        rw [List.drop_append, List.drop_of_length_le (by omega), List.nil_append]
        congr 1; omega
      rw [e3, e4, e5]
      have q1 : (m ++ p).length / 64 = m.length / 64 + 1 + (p.drop (64 - m.length % 64)).length / 64 := by rw [List.length_append, List.length_drop]; omega
      have q2 : (m ++ p).length % 64 = (p.drop (64 - m.length % 64)).length % 64 := by rw [List.length_append, List.length_drop]; omega
      generalize hP : p.drop (64 - m.length % 64) = P at *
      have hpl : (P.drop (64 * (P.length / 64))).length = P.length % 64 := by rw [List.length_drop]; omega
      have hl1 : (lay h.rest (m.length % 64) (p.take (64 - m.length % 64))).length = 128 := by rw [lay_length _ _ _ (by rw [htl]; omega), hr]
      refine ⟨(List.length_append ..).symm, ?_, ?_, ?_⟩
      · show (lay _ _ _).length = _
        rw [lay_length _ _ _ (by rw [hpl, hl1]; omega), hl1]
      · show (lay _ _ _).take _ = _
        rw [q1, q2, Nat.mul_add, ← List.drop_drop, hdp]
        have := lay_takeH (B := lay h.rest (m.length % 64) (p.take (64 - m.length % 64))) (x := P.drop (64 * (P.length / 64))) (f := 0) (by rw [hpl, hl1]; omega)
        rw [hpl, Nat.zero_add, List.take_zero, List.nil_append] at this
        exact this
      · rw [q1, blkN_add _ _ (m.length / 64 + 1), hdp]
theorem write_rch : ∀ (ls : List (List Int)) {h : HS} {m : List Int}, Rch h m → Rch (writeH h ls) (m ++ ls.flatten)
  | [], _, _, R => by rw [List.flatten_nil, List.append_nil]; exact R
  | p :: r, h, m, R => by rw [List.flatten_cons, ← List.append_assoc]; exact write_rch r (feed_rch R p)
/-- The SHA-256 of bytes. -/
def shaL (m : List Int) : List Int := outW (blkN h0L (m ++ padH m.length) ((m ++ padH m.length).length / 64)) 8
theorem sumH_eq {h : HS} {m : List Int} (R : Rch h m) : sumH h = shaL m := by
  unfold sumH shaL
  have := write_rch [padH h.c] R
  rw [this.hs, R.hc, List.flatten_cons, List.flatten_nil, List.append_nil]
theorem sum256_eq (ls : List (List Int)) : sum256 ls = shaL ls.flatten := sumH_eq (by have := write_rch ls rch0; rwa [List.nil_append] at this)
end Go.Proofs.YthhjcpiaoempfaaDoor
