/-
  The reference's Mod, as lists of bytes. No program.
-/
import Derived.Test.YtmfjlicchgacmaaDoorRef1
namespace Go.Proofs.YtmfjlicchgacmaaDoor
open Go.RowKit

/-- The order with a nought above. -/
def OL : List Int := ordB ++ [0]
theorem OL_length : OL.length = 33 := rfl
theorem dig_OL : dig 256 OL = oo := by decide +kernel
theorem OL_digs : Digs 256 OL := by
  have : ∀ x ∈ OL, decide (0 ≤ x ∧ x < 256) = true := by decide +kernel
  exact fun x hx => of_decide_eq_true (this x hx)
theorem digits_getD {B : Int} (hB : 0 < B) : ∀ (n : Nat) (v : Int) (j : Nat), j < n → (digits B n v).getD j 0 = v / B ^ j % B
  | 0, _, _, h => by omega
  | n + 1, v, 0, _ => by simp [digits]
  | n + 1, v, j + 1, h => by
    simp only [digits, List.getD_cons_succ]
    rw [digits_getD hB n (v / B) j (by omega), Int.pow_succ, Int.mul_comm (B ^ j) B, Int.ediv_ediv_of_nonneg (by omega)]
/-- The bytes above k, one up. -/
def shl (L : List Int) (k : Nat) : List Int := (List.range 33).map fun j => if j ≤ k then L.getD j 0 else L.getD (j - 1) 0
theorem shl_length (L : List Int) (k : Nat) : (shl L k).length = 33 := by simp [shl]
theorem shl_get (L : List Int) (k j : Nat) (hj : j < 33) : (shl L k).getD j 0 = if j ≤ k then L.getD j 0 else L.getD (j - 1) 0 := by
  simp [shl, List.getD_eq_getElem?_getD, hj]
theorem shl_start {L : List Int} (hl : L.length = 33) : shl L 32 = L := by
  refine list_ext_getD (by rw [shl_length, hl]) (fun j hj => ?_)
  rw [shl_length] at hj
  rw [shl_get _ _ _ hj, if_pos (by omega)]
theorem shl_step (L : List Int) (k : Nat) : (shl L (k + 1)).set (k + 1) (L.getD k 0) = shl L k := by
  refine list_ext_getD (by rw [List.length_set, shl_length, shl_length]) (fun j hj => ?_)
  rw [List.length_set, shl_length] at hj
  by_cases e : j = k + 1
  · subst e
    rw [getD_set_eq _ _ _ (by rw [shl_length]; omega), shl_get _ _ _ hj, if_neg (by omega)]
    rfl
  · rw [getD_set_ne _ _ _ _ e, shl_get _ _ _ hj, shl_get _ _ _ hj]
    by_cases c : j ≤ k
    · rw [if_pos (by omega), if_pos c]
    · rw [if_neg (by omega), if_neg c]
theorem shl_done (R d : Int) (hd : 0 ≤ d ∧ d < 256) : (shl (digits 256 33 R) 0).set 0 d = digits 256 33 (256 * R + d) := by
  refine list_ext_getD (by rw [List.length_set, shl_length, digits_length]) (fun j hj => ?_)
  rw [List.length_set, shl_length] at hj
  rw [digits_getD (by omega) 33 _ j hj]
  cases j with
  | zero =>
    rw [getD_set_eq _ _ _ (by rw [shl_length]; omega)]
    simp
    omega
  | succ j =>
    rw [getD_set_ne _ _ _ _ (by omega), shl_get _ _ _ hj, if_neg (by omega), Nat.add_sub_cancel, digits_getD (by omega) 33 _ j (by omega), Int.pow_succ, Int.mul_comm ((256 : Int) ^ j) 256, ← Int.ediv_ediv_of_nonneg (by omega)]
    rw [show (256 * R + d) / 256 = R by omega]
theorem p33 : (256 : Int) ^ 33 = 29642774844752946028434172162224104410437116074403984394101141506025761187823616 := by decide
theorem p31 : (256 : Int) ^ 31 = 452312848583266388373324160190187140051835877600158453279131187530910662656 := by decide
theorem p32 : (256 : Int) ^ 32 = 115792089237316195423570985008687907853269984665640564039457584007913129639936 := by decide
theorem dig33 {N : Int} (h0 : 0 ≤ N) (h1 : N < 256 * oo) : dig 256 (digits 256 33 N) = N := by
  rw [dig_digits (by omega), p33]
  unfold oo at h1
  omega
/-- How often the order is taken away, at a number. -/
def qOf (N : Int) : Int := if N / 452312848583266388373324160190187140051835877600158453279131187530910662656 / 17 < 1 then 1 else N / 452312848583266388373324160190187140051835877600158453279131187530910662656 / 17
theorem top_two {N : Int} (h0 : 0 ≤ N) (h1 : N < 256 * oo) : (digits 256 33 N).getD 32 0 * 256 + (digits 256 33 N).getD 31 0 = N / 452312848583266388373324160190187140051835877600158453279131187530910662656 := by
  rw [digits_getD (by omega) 33 N 32 (by omega), digits_getD (by omega) 33 N 31 (by omega), p31, p32]
  unfold oo at h1
  omega
theorem qOf_bd {N : Int} (h0 : oo ≤ N) (h1 : N < 256 * oo) : 1 ≤ qOf N ∧ qOf N ≤ 256 ∧ 0 ≤ N - qOf N * oo ∧ N - qOf N * oo < N := by
  unfold qOf
  split
  · unfold oo at *
    omega
  · rename_i h
    generalize hq : N / 452312848583266388373324160190187140051835877600158453279131187530910662656 / 17 = q at *
    have e1 := Int.mul_ediv_add_emod N 452312848583266388373324160190187140051835877600158453279131187530910662656
    have e2 := Int.mul_ediv_add_emod (N / 452312848583266388373324160190187140051835877600158453279131187530910662656) 17
    have a0 := Int.emod_nonneg N (b := 452312848583266388373324160190187140051835877600158453279131187530910662656) (by omega)
    have b0 := Int.emod_nonneg (N / 452312848583266388373324160190187140051835877600158453279131187530910662656) (b := 17) (by omega)
    rw [hq] at e2
    unfold oo at *
    refine ⟨by omega, by omega, by omega, by omega⟩
theorem qOf_mod (N : Int) : (N - qOf N * oo) % oo = N % oo := by
  rw [Int.sub_eq_add_neg, ← Int.neg_mul, Int.add_mul_emod_self_right]
/-- Bytes as they are after k rounds of taking q times the order away. -/
structure SubO (L M : List Int) (q : Int) (k : Nat) (b : Int) : Prop where
  len : M.length = 33
  digs : Digs 256 M
  same : ∀ j, k ≤ j → M.getD j 0 = L.getD j 0
  b0 : 0 ≤ b
  b1 : b ≤ 300
  eq : dig 256 M - 256 ^ k * b = dig 256 L - q * dig 256 (OL.take k)
theorem SubO.start {L : List Int} (hl : L.length = 33) (hd : Digs 256 L) (q : Int) : SubO L L q 0 0 := ⟨hl, hd, fun _ _ => rfl, by omega, by omega, by simp [dig]⟩
theorem mul_bdq {q o : Int} (hq : 1 ≤ q ∧ q ≤ 256) (ho : 0 ≤ o ∧ o < 256) : 0 ≤ q * o ∧ q * o ≤ 65280 := by
  have h1 : q * o ≤ 256 * o := Int.mul_le_mul_of_nonneg_right hq.2 ho.1
  have h2 := Int.mul_nonneg (show 0 ≤ q by omega) ho.1
  omega
theorem SubO.step {L M : List Int} {q : Int} {k : Nat} {b : Int} (h : SubO L M q k b) (hk : k < 33) (hq : 1 ≤ q ∧ q ≤ 256) :
    SubO L (M.set k ((L.getD k 0 - q * OL.getD k 0 - b) % 256)) q (k + 1) (-((L.getD k 0 - q * OL.getD k 0 - b) / 256)) := by
  have hs := h.same k (by omega)
  have hb := h.digs.get (B := 256) (by omega) k
  have hm := mul_bdq hq (OL_digs.get (B := 256) (by omega) k)
  have h0 := h.b0
  have h1 := h.b1
  have he := h.eq
  rw [hs] at hb
  refine ⟨by rw [List.length_set]; exact h.len, digs_set h.digs k _ (by omega) (by omega), fun j hj => by rw [getD_set_ne _ _ _ _ (by omega)]; exact h.same j (by omega), by omega, by omega, ?_⟩
  rw [dig_set _ _ _ _ (by rw [h.len]; exact hk), hs, dig_take_succ _ _ _ (show k < OL.length from hk), Int.pow_succ, Int.mul_add q, Int.mul_left_comm q]
  generalize L.getD k 0 = l at *
  generalize q * OL.getD k 0 = p at *
  generalize (256 : Int) ^ k = z at *
  have e1 := Int.mul_ediv_add_emod (l - p - b) 256
  rw [Int.mul_assoc, Int.mul_neg, Int.mul_neg, Int.sub_neg, Int.add_assoc, ← Int.mul_add, show (l - p - b) % 256 - l + 256 * ((l - p - b) / 256) = -(p + b) by omega, Int.mul_neg, Int.mul_add]
  omega
theorem SubO.done {L M : List Int} {q b : Int} {N : Int} (h : SubO L M q 33 b) (hL : dig 256 L = N) (h0 : 0 ≤ N - q * oo) (h1 : N - q * oo < 256 * oo) : M = digits 256 33 (N - q * oo) := by
  have he := h.eq
  rw [dig_take_all _ _ _ (show OL.length ≤ 33 by decide), dig_OL, hL, p33] at he
  have g0 := dig_nonneg (B := 256) (by omega) h.digs
  have g1 := dig_lt (B := 256) (by omega) h.digs
  rw [h.len, p33] at g1
  have hb := h.b0
  have e : dig 256 M = N - q * oo := by
    unfold oo at *
    omega
  rw [← e, ← h.len, digits_dig (by omega) h.digs]
/-- The number that a block's bytes hold. -/
def numAt (b : Nat) (w : World) : Nat := match w.heap[b]? with
  | some (.cells arr _ _) => (dig 256 (arr.toList.map intOf)).toNat
  | _ => 0
theorem numAt_of {b : Nat} {w : World} {t : TypeId} {L : List Int} (h : Blk w b t (numsA .i64 L)) : numAt b w = (dig 256 L).toNat := by
  have h' : w.heap[b]? = some (.cells (numsA .i64 L) t (0, 0)) := h
  unfold numAt
  rw [h']
  show (dig 256 ((numsA .i64 L).toList.map intOf)).toNat = _
  have e : (numsA .i64 L).toList.map intOf = L := by
    unfold numsA
    rw [List.map_map]
    conv => rhs; rw [← List.map_id L]
    apply List.map_congr_left
    intro x _
    rfl
  rw [e]
/-- Mod's blocks. -/
structure MdRel (w wr : World) (gr gl : Nat) (M : List Int) : Prop where
  upd : Upd (fun _ => False) w wr
  r : Blk wr gr 3 (numsA .i64 M)
  l : CellsI wr gl OL
  res : Blk wr w.heap.size 25 zeroK
theorem MdRel.set {w wr : World} {gr gl : Nat} {M : List Int} (h : MdRel w wr gr gl M) (hr : w.heap.size < gr) (hl : gl ≠ gr) (j : Nat) (x : Int) : MdRel w (wr.setCell ⟨gr, j, none⟩ (.int .i64 x)) gr gl (M.set j x) := by
  have hu : Upd (· = gr) wr (wr.setCell ⟨gr, j, none⟩ (.int .i64 x)) := (Upd.refl _ wr).set _ (fun _ => rfl)
  refine ⟨h.upd.set _ (fun hb => absurd hb (by simp; omega)), ?_, h.l.upd hu hl, hu.blk h.res (show ¬ w.heap.size = gr by omega)⟩
  rw [← numsA_set]
  exact h.r.set j _
theorem MdRel.drewN {w wr : World} {gr gl : Nat} {M : List Int} (h : MdRel w wr gr gl M) (n : Nat) : MdRel w (wr.drewN n) gr gl M := ⟨h.upd.drewN n, h.r.drewN n, h.l.drewN n, h.res.drewN n⟩
theorem MdRel.of {w wr wr' : World} {gr gl : Nat} {M : List Int} (h : MdRel w wr gr gl M) (hu : Upd (fun _ => False) wr wr') : MdRel w wr' gr gl M := ⟨h.upd.trans hu, hu.blk h.r (fun h => h), h.l.upd hu (fun h => h), hu.blk h.res (fun h => h)⟩
theorem MdRel.cell {w wr : World} {gr gl : Nat} {M : List Int} (h : MdRel w wr gr gl M) (j : Nat) (hj : j < M.length) : wr.cell? ⟨gr, j, none⟩ = some (.int .i64 (M.getD j 0)) := by rw [h.r.cell, numsA_get _ _ _ hj]
end Go.Proofs.YtmfjlicchgacmaaDoor
