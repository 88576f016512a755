/-
  Values known by the field's elements that they are: Elems and the reference's Nums, alone or one behind the other in a struct; the calls of field and of the reference in these terms.
-/
/-
  The shapes of structs of Elems and of Nums; small helps for walks that are written by program.
-/
import Derived.Test.YthnpbodkcdbckaaDoorFp
import Derived.Test.YthnpbodkcdbckaaDoorWk
import Derived.Test.YthnpbodkcdbckaaDoorRootWalk
import Derived.Test.YthnpbodkcdbckaaDoorRefQ
import Derived.Test.YthnpbodkcdbckaaDoorSub
import Derived.Test.YthnpbodkcdbckaaDoorCanon
import Derived.Test.YthnpbodkcdbckaaDoorPower
namespace Go.Proofs.YthnpbodkcdbckaaDoor
set_option maxRecDepth 100000
open Go.RowKit

/-- Cells in parts of c each, one behind the other, of which R holds. -/
def Ch (c : Nat) (R : Fp → Array Value → Prop) (vs : List Fp) (arr : Array Value) : Prop :=
  arr.size = c * vs.length ∧ (∀ v ∈ arr.toList, v.oneCell' = true) ∧ ∀ (i : Nat) (v : Fp), vs[i]? = some v → R v (arr.extract (c * i) (c * i + c))
/-- An Elem that is v. -/
def RE (v : Fp) (a : Array Value) : Prop := ∃ (a0 a1 a2 a3 a4 n : Int), a = #[.int .u64 a0, .int .u64 a1, .int .u64 a2, .int .u64 a3, .int .u64 a4] ∧ Fits a0 a1 a2 a3 a4 n ∧ fv n = v
/-- A Num that is v. -/
def RN (v : Fp) (a : Array Value) : Prop := ∃ (r n : Int), a = numN r ∧ NumOk r n ∧ fv n = v
def IsC (c : Nat) (R : Fp → Array Value → Prop) (vs : List Fp) (v : Value) : Prop := ∃ arr, v = .agg arr ∧ Ch c R vs arr
/-- A call's answer. -/
def RetC (c : Nat) (R : Fp → Array Value → Prop) (vs : List Fp) (w : World) (e : Ending) (w' : World) : Prop := ∃ arr, e = .returned (.agg arr) ∧ Ch c R vs arr ∧ Upd (fun _ => False) w w'
theorem RetC.sq {c : Nat} {R : Fp → Array Value → Prop} {vs : List Fp} {w w' : World} {base : Nat} {e : Ending} (h : RetC c R vs w e w') : ∃ v, e = .returned v ∧ (SQ.like (IsC c R vs)).holds base v w' ∧ Upd (fun _ => False) w w' := by
  obtain ⟨arr, rfl, h1, hu⟩ := h
  exact ⟨_, rfl, ⟨arr, rfl, h1⟩, hu⟩
theorem Ch.size {c : Nat} {R : Fp → Array Value → Prop} {vs : List Fp} {arr : Array Value} (h : Ch c R vs arr) : arr.size = c * vs.length := h.1
theorem Ch.one' {c : Nat} {R : Fp → Array Value → Prop} {vs : List Fp} {arr : Array Value} (h : Ch c R vs arr) : ∀ v ∈ arr.toList, v.oneCell' = true := h.2.1
theorem Ch.get {c : Nat} {R : Fp → Array Value → Prop} {v : Fp} {arr : Array Value} (h : Ch c R [v] arr) : R v arr := by
  have h1 := h.2.2 0 v rfl
  have h2 := h.1
  rw [List.length_singleton, Nat.mul_one] at h2
  rw [Nat.mul_zero, Nat.zero_add] at h1
  have h3 := extract_all arr c h2
  rw [Nat.zero_add] at h3
  rwa [h3] at h1
theorem Ch.mk {c : Nat} {R : Fp → Array Value → Prop} {v : Fp} {arr : Array Value} (hs : arr.size = c) (h1 : ∀ v ∈ arr.toList, v.oneCell' = true) (h : R v arr) : Ch c R [v] arr := by
  refine ⟨by simpa using hs, h1, fun i u hu => ?_⟩
  match i, hu with
  | 0, hu =>
    cases hu
    rw [Nat.mul_zero, extract_all _ _ hs]
    exact h
  | i + 1, hu => cases hu
/-- One part of them. -/
theorem Ch.at {c : Nat} {R : Fp → Array Value → Prop} {vs : List Fp} {v : Fp} {arr : Array Value} (h : Ch c R vs arr) (i o : Nat) (ho : o = c * i) (hv : vs[i]? = some v) : Ch c R [v] (arr.extract o (o + c)) := by
  subst ho
  have hi : i < vs.length := by
    by_cases hi : i < vs.length
    · exact hi
    · rw [List.getElem?_eq_none (by omega)] at hv; cases hv
  have hle : c * i + c ≤ arr.size := by
    rw [h.1, ← Nat.mul_succ]
    exact Nat.mul_le_mul_left c hi
  refine Ch.mk (by rw [Array.size_extract]; omega) (fun u hu => ?_) (h.2.2 i v hv)
  rw [Array.toList_extract, List.extract_eq_take_drop] at hu
  exact h.2.1 u (List.mem_of_mem_drop (List.mem_of_mem_take hu))
theorem Ch.cat {c : Nat} {R : Fp → Array Value → Prop} {us vs : List Fp} {A B : Array Value} (h : Ch c R us A) (g : Ch c R vs B) : Ch c R (us ++ vs) (A ++ B) := by
  refine ⟨by rw [Array.size_append, h.1, g.1, List.length_append, Nat.mul_add], fun v hv => ?_, fun i v hv => ?_⟩
  · rw [Array.toList_append, List.mem_append] at hv
    exact hv.elim (h.2.1 v) (g.2.1 v)
  · have hs := h.1
    by_cases hi : i < us.length
    · rw [List.getElem?_append_left hi] at hv
      have hle : c * i + c ≤ A.size := by
        rw [hs, ← Nat.mul_succ]
        exact Nat.mul_le_mul_left c hi
      have h1 := h.2.2 i v hv
      have e : (A ++ B).extract (c * i) (c * i + c) = A.extract (c * i) (c * i + c) := by
        apply Array.ext_getElem?
        intro j
        rw [Array.getElem?_extract, Array.getElem?_extract, Array.size_append]
        by_cases hj : j < c
        · rw [if_pos (by omega), if_pos (by omega), Array.getElem?_append_left (by omega)]
        · rw [if_neg (by omega), if_neg (by omega)]
      rwa [e]
    · rw [List.getElem?_append_right (by omega)] at hv
      have h1 := g.2.2 _ v hv
      have hi2 : i - us.length < vs.length := by
        by_cases hi2 : i - us.length < vs.length
        · exact hi2
        · rw [List.getElem?_eq_none (by omega)] at hv; cases hv
      have hle : c * (i - us.length) + c ≤ B.size := by
        rw [g.1, ← Nat.mul_succ]
        exact Nat.mul_le_mul_left c hi2
      have hci : c * i = c * us.length + c * (i - us.length) := by rw [← Nat.mul_add]; congr 1; omega
      have e : (A ++ B).extract (c * i) (c * i + c) = B.extract (c * (i - us.length)) (c * (i - us.length) + c) := by
        apply Array.ext_getElem?
        intro j
        rw [Array.getElem?_extract, Array.getElem?_extract, Array.size_append]
        by_cases hj : j < c
        · rw [if_pos (by omega), if_pos (by omega), Array.getElem?_append_right (by omega)]
          congr 1
          omega
        · rw [if_neg (by omega), if_neg (by omega)]
      rwa [e]
theorem one5' (a0 a1 a2 a3 a4 : Int) : ∀ v ∈ (#[.int .u64 a0, .int .u64 a1, .int .u64 a2, .int .u64 a3, .int .u64 a4] : Array Value).toList, v.oneCell' = true := by
  intro v hv
  simp at hv
  rcases hv with rfl | rfl | rfl | rfl | rfl <;> rfl
theorem Ch.elem {a0 a1 a2 a3 a4 n : Int} {v : Fp} (h : Fits a0 a1 a2 a3 a4 n) (hv : fv n = v) : Ch 5 RE [v] #[.int .u64 a0, .int .u64 a1, .int .u64 a2, .int .u64 a3, .int .u64 a4] := Ch.mk rfl (one5' _ _ _ _ _) ⟨_, _, _, _, _, n, rfl, h, hv⟩
theorem Ch.num {r n : Int} {v : Fp} (h : NumOk r n) (hv : fv n = v) : Ch 16 RN [v] (numN r) := Ch.mk (numN_size r) (numsA_one _ _) ⟨r, n, rfl, h, hv⟩
theorem Ch.to {c : Nat} {R : Fp → Array Value → Prop} {us vs : List Fp} {A : Array Value} (h : Ch c R us A) (e : us = vs) : Ch c R vs A := e ▸ h
theorem RetE.c {n : Int} {v : Fp} {w w' : World} {e : Ending} (h : RetE n w e w') (hv : fv n = v) : RetC 5 RE [v] w e w' := by
  obtain ⟨a0, a1, a2, a3, a4, hF, rfl, hu⟩ := h
  exact ⟨_, rfl, Ch.elem hF hv, hu⟩
theorem RetN.c {n : Int} {v : Fp} {w w' : World} {e : Ending} (h : RetN n w e w') (hv : fv n = v) : RetC 16 RN [v] w e w' := by
  obtain ⟨r, hN, rfl, hu⟩ := h
  exact ⟨_, rfl, Ch.num hN hv, hu⟩
/-- The bytes of an element. -/
def keyOf (v : Fp) : List Int := digits 256 32 (v.val : Int)
theorem keyOf_length (v : Fp) : (keyOf v).length = 32 := digits_length _ _ _
theorem keyOf_digs (v : Fp) : Digs 256 (keyOf v) := digits_digs (by omega) _ _
/-- The element of 32 bytes. -/
def ofKey (l : List Int) : Fp := fv (keyNum l)
section
variable {x y : Fp} {a b : Array Value} {w : World}
theorem mulE (ha : Ch 5 RE [x] a) (hb : Ch 5 RE [y] b) : Calls Tryd.prog 44 #[.agg a, .agg b] w (RetC 5 RE [x * y] w) := by
  obtain ⟨a0, a1, a2, a3, a4, m, rfl, hm, rfl⟩ := ha.get
  obtain ⟨b0, b1, b2, b3, b4, n, rfl, hn, rfl⟩ := hb.get
  exact (mul_any _ _ _ _ _ _ _ _ _ _ m n w hm hn).mono fun _ _ h => h.c (fv_mul m n)
theorem subE (hT : Tw w) (ha : Ch 5 RE [x] a) (hb : Ch 5 RE [y] b) : Calls Tryd.prog 46 #[.agg a, .agg b] w (RetC 5 RE [x - y] w) := by
  obtain ⟨a0, a1, a2, a3, a4, m, rfl, hm, rfl⟩ := ha.get
  obtain ⟨b0, b1, b2, b3, b4, n, rfl, hn, rfl⟩ := hb.get
  exact (sub_any _ _ _ _ _ _ _ _ _ _ m n w hT hm hn).mono fun _ _ h => h.c (fv_sub m n)
theorem negE (hT : Tw w) (ha : Ch 5 RE [x] a) : Calls Tryd.prog 63 #[.agg a] w (RetC 5 RE [-x] w) := by
  obtain ⟨a0, a1, a2, a3, a4, m, rfl, hm, rfl⟩ := ha.get
  exact (neg_any _ _ _ _ _ m w hT hm).mono fun _ _ h => h.c (fv_neg m)
theorem invE (ha : Ch 5 RE [x] a) : Calls Tryd.prog 47 #[.agg a] w (RetC 5 RE [finv x] w) := by
  obtain ⟨a0, a1, a2, a3, a4, m, rfl, hm, rfl⟩ := ha.get
  exact (invert_any _ _ _ _ _ m w hm).mono fun _ _ h => h.c (fv_inv m)
theorem smallE (n : Int) (h0 : 0 ≤ n) (h1 : n < 4294967296) : Calls Tryd.prog 43 #[.int .u32 n] w (RetC 5 RE [fv n] w) :=
  (small_any n w h0 h1).mono fun _ _ h => h.c rfl
theorem ofE (l : List Int) (hl : l.length = 32) (hd : Digs 256 l) : Calls Tryd.prog 42 #[.agg (numsA .u8 l)] w (RetC 5 RE [ofKey l] w) :=
  (of_any l w hl hd).mono fun _ _ h => h.c rfl
theorem bytesE (ha : Ch 5 RE [x] a) : Calls Tryd.prog 48 #[.agg a] w fun e w' => e = .returned (.agg (numsA .u8 (keyOf x))) ∧ Upd (fun _ => False) w w' := by
  obtain ⟨a0, a1, a2, a3, a4, m, rfl, hm, rfl⟩ := ha.get
  refine (bytes_any _ _ _ _ _ m w hm).mono fun _ _ h => ?_
  unfold keyOf
  rw [fv_val]
  exact h
theorem dec_fv (m n : Int) : decide (m % pp = n % pp) = decide (fv m = fv n) := by
  rw [decide_eq_decide, fv_cong, cong_iff]
theorem equalE (ha : Ch 5 RE [x] a) (hb : Ch 5 RE [y] b) : Calls Tryd.prog 71 #[.agg a, .agg b] w fun e w' => e = .returned (.bool (decide (x = y))) ∧ Upd (fun _ => False) w w' := by
  obtain ⟨a0, a1, a2, a3, a4, m, rfl, hm, rfl⟩ := ha.get
  obtain ⟨b0, b1, b2, b3, b4, n, rfl, hn, rfl⟩ := hb.get
  rw [← dec_fv]
  exact equal_any _ _ _ _ _ _ _ _ _ _ m n w hm hn
theorem isZeroE (ha : Ch 5 RE [x] a) : Calls Tryd.prog 62 #[.agg a] w fun e w' => e = .returned (.bool (decide (x = 0))) ∧ Upd (fun _ => False) w w' := by
  obtain ⟨a0, a1, a2, a3, a4, m, rfl, hm, rfl⟩ := ha.get
  rw [show decide (fv m = 0) = decide (m % pp = 0) by rw [decide_eq_decide, fv_eq_zero]]
  exact isZero_any _ _ _ _ _ m w hm
theorem oddE (ha : Ch 5 RE [x] a) : Calls Tryd.prog 69 #[.agg a] w fun e w' => e = .returned (.bool (decide (x.val % 2 = 1))) ∧ Upd (fun _ => False) w w' := by
  obtain ⟨a0, a1, a2, a3, a4, m, rfl, hm, rfl⟩ := ha.get
  have e : decide ((fv m).val % 2 = 1) = decide (m % pp % 2 = 1) := by
    have := fv_val m
    rw [decide_eq_decide]
    omega
  rw [e]
  exact odd_any _ _ _ _ _ m w hm
theorem addE {bl : Nat} {t : TypeId} {arr : Array Value} (hb : Blk w bl t arr) (h : Ch 5 RE [x, y] arr) : Calls Tryd.prog 45 #[.slice (some ⟨bl, 0, none⟩) 2 2] w (RetC 5 RE [x + y] w) := by
  have h1 := (h.at 0 0 rfl rfl).get
  have h2 := (h.at 1 5 rfl rfl).get
  have hs : arr.size = 10 := h.size
  obtain ⟨a0, a1, a2, a3, a4, m, e1, hm, rfl⟩ := h1
  obtain ⟨b0, b1, b2, b3, b4, n, e2, hn, rfl⟩ := h2
  have c1 : ∀ j v, (#[.int .u64 a0, .int .u64 a1, .int .u64 a2, .int .u64 a3, .int .u64 a4] : Array Value)[j]? = some v → w.cell? ⟨bl, j, none⟩ = some v := fun j v hv => by
    rw [← e1, Array.getElem?_extract] at hv
    split at hv
    · rw [hb.cell, ← hv, Nat.zero_add]
    · cases hv
  have c2 : ∀ j v, (#[.int .u64 b0, .int .u64 b1, .int .u64 b2, .int .u64 b3, .int .u64 b4] : Array Value)[j]? = some v → w.cell? ⟨bl, 5 + j, none⟩ = some v := fun j v hv => by
    rw [← e2, Array.getElem?_extract] at hv
    split at hv
    · rw [hb.cell, ← hv]
    · cases hv
  have hE : ElsAt w (.slice (some ⟨bl, 0, none⟩) 2 2) [⟨a0, a1, a2, a3, a4⟩, ⟨b0, b1, b2, b3, b4⟩] [m, n] := by
    refine ⟨rfl, fun i x hq => ?_, _, _, rfl, Nat.le_refl _, by simp, fun _ => ⟨_, rfl, fun i x hq => ?_⟩⟩
    · match i, hq with
      | 0, hq => cases hq; exact hm
      | 1, hq => cases hq; exact hn
      | i + 2, hq => cases hq
    · match i, hq with
      | 0, hq => cases hq; exact ⟨c1 0 _ rfl, c1 1 _ rfl, c1 2 _ rfl, c1 3 _ rfl, c1 4 _ rfl⟩
      | 1, hq => cases hq; exact ⟨c2 0 _ rfl, c2 1 _ rfl, c2 2 _ rfl, c2 3 _ rfl, c2 4 _ rfl⟩
      | i + 2, hq => cases hq
  refine (add_any _ _ _ w hE).mono fun _ _ h => h.c ?_
  show fv (0 + m + n) = _
  rw [Int.zero_add, fv_add]
/-- What Swap answers. -/
def swapped (t : Bool) (a b : Array Value) : Value := if t then .tuple #[.agg b, .agg a] else .tuple #[.agg a, .agg b]
theorem swapE (t : Bool) (ha : Ch 5 RE [x] a) (hb : Ch 5 RE [y] b) : Calls Tryd.prog 85 #[.bool t, .agg a, .agg b] w fun e w' => e = .returned (swapped t a b) ∧ Upd (fun _ => False) w w' := by
  obtain ⟨a0, a1, a2, a3, a4, m, rfl, hm, rfl⟩ := ha.get
  obtain ⟨b0, b1, b2, b3, b4, n, rfl, hn, rfl⟩ := hb.get
  cases t
  · exact swapF_any _ _ _ _ _ _ _ _ _ _ w
  · exact swapT_any _ _ _ _ _ _ _ _ _ _ w
theorem canonicalE (l : List Int) (hl : l.length = 32) (hd : Digs 256 l) : Calls Tryd.prog 60 #[.agg (numsA .u8 l)] w fun e w' => e = .returned (.bool (canonB l)) ∧ Upd (fun _ => False) w w' := canonical_any l w hl hd
theorem rMulE (ha : Ch 16 RN [x] a) (hb : Ch 16 RN [y] b) : Calls Tryd.prog 58 #[.agg a, .agg b] w (RetC 16 RN [x * y] w) := by
  obtain ⟨r, m, rfl, hm, rfl⟩ := ha.get
  obtain ⟨s, n, rfl, hn, rfl⟩ := hb.get
  exact (rMul_any r s m n w hm hn).mono fun _ _ h => h.c (fv_mul m n)
theorem rAddE (ha : Ch 16 RN [x] a) (hb : Ch 16 RN [y] b) : Calls Tryd.prog 67 #[.agg a, .agg b] w (RetC 16 RN [x + y] w) := by
  obtain ⟨r, m, rfl, hm, rfl⟩ := ha.get
  obtain ⟨s, n, rfl, hn, rfl⟩ := hb.get
  exact (rAdd_any r s m n w hm hn).mono fun _ _ h => h.c (fv_add m n)
theorem rSubE (ha : Ch 16 RN [x] a) (hb : Ch 16 RN [y] b) : Calls Tryd.prog 66 #[.agg a, .agg b] w (RetC 16 RN [x - y] w) := by
  obtain ⟨r, m, rfl, hm, rfl⟩ := ha.get
  obtain ⟨s, n, rfl, hn, rfl⟩ := hb.get
  exact (rSub_any r s m n w hm hn).mono fun _ _ h => h.c (fv_sub m n)
theorem rNegE (ha : Ch 16 RN [x] a) : Calls Tryd.prog 68 #[.agg a] w (RetC 16 RN [-x] w) := by
  obtain ⟨r, m, rfl, hm, rfl⟩ := ha.get
  exact (rNeg_any r m w hm).mono fun _ _ h => h.c (fv_neg m)
theorem rInvE (ha : Ch 16 RN [x] a) : Calls Tryd.prog 59 #[.agg a] w (RetC 16 RN [finv x] w) := by
  obtain ⟨r, m, rfl, hm, rfl⟩ := ha.get
  exact (rInvert_any r m w hm).mono fun _ _ h => h.c (fv_inv m)
theorem rSmallE (n : Int) (h0 : 0 ≤ n) (h1 : n < 4294967296) : Calls Tryd.prog 54 #[.int .u64 n] w (RetC 16 RN [fv n] w) :=
  (rSmall_any n w h0 h1).mono fun _ _ h => ⟨_, h.1, Ch.num (okNum h0 (by omega)) rfl, h.2⟩
theorem rOfE (l : List Int) (hl : l.length = 32) (hd : Digs 256 l) : Calls Tryd.prog 53 #[.agg (numsA .u8 l)] w (RetC 16 RN [ofKey l] w) :=
  (rOf_any l w hl hd).mono fun _ _ h => ⟨_, h.1, Ch.num (okKey l) rfl, h.2⟩
theorem rBytesE (ha : Ch 16 RN [x] a) : Calls Tryd.prog 57 #[.agg a] w fun e w' => e = .returned (.agg (numsA .u8 (keyOf x))) ∧ Upd (fun _ => False) w w' := by
  obtain ⟨r, m, rfl, hm, rfl⟩ := ha.get
  refine (rBytes_ok r m w hm).mono fun _ _ h => ?_
  unfold keyOf
  rw [fv_val]
  exact h
theorem rCanonE (ha : Ch 16 RN [x] a) : Calls Tryd.prog 88 #[.agg a] w fun e w' => e = .returned (.agg (numN (x.val : Int))) ∧ Upd (fun _ => False) w w' := by
  obtain ⟨r, m, rfl, hm, rfl⟩ := ha.get
  refine (rCanon_ok r m w hm).mono fun _ _ h => ?_
  rw [fv_val]
  exact h
end
/-- Lists of two Elems made for a call. -/
theorem size5_ex (a : Array Value) (h : a.size = 5) : ∃ x0 x1 x2 x3 x4, a = #[x0, x1, x2, x3, x4] := by
  obtain ⟨l⟩ := a
  match l, h with
  | [x0, x1, x2, x3, x4], _ => exact ⟨x0, x1, x2, x3, x4, rfl⟩
theorem run_pairQ {o : Oper} {a : Act} {p q : Operand} {A B : Array Value} (ho : o.op = .buildSlice 108 2 #[(0, p), (1, q)]) (hp : a.eval p = .agg A) (hq : a.eval q = .agg B) (hA : A.size = 5) (hB : B.size = 5) (w : World) :
    (execOp a.eval o).run Tryd.prog w = .ok (.value (.slice (some ⟨w.heap.size, 0, none⟩) 2 2)) (w.alloc (.cells (A ++ B) 39)) := by
  obtain ⟨x0, x1, x2, x3, x4, rfl⟩ := size5_ex A hA
  obtain ⟨y0, y1, y2, y3, y4, rfl⟩ := size5_ex B hB
  generalize a.eval = ev at hp hq ⊢
  unfold execOp
  simp only [ho]
  simp [hp, hq, go_sem]
end Go.Proofs.YthnpbodkcdbckaaDoor
namespace Go.Proofs.YthnpbodkcdbckaaDoor
set_option maxRecDepth 100000
open Go.RowKit

def orAll (i : Nat) : List Nat → Prop
  | [] => False
  | k :: l => i = k ∨ orAll i l
theorem orAll_of {i : Nat} : ∀ {l : List Nat}, i ∈ l → orAll i l
  | k :: l, h => by
    rcases List.mem_cons.1 h with h | h
    · exact .inl h
    · exact .inr (orAll_of h)
theorem slot_cases {ops : Array Oper} {stop : Array Bool} {i : Nat} {o : Oper} {l : List Nat} (h : (List.range stop.size).filter (fun j => stop.getD j false) = l) (ho : ops[i]? = some o) (hst : stop.getD i false = true) : orAll i l := by
  apply orAll_of
  rw [← h, List.mem_filter]
  refine ⟨?_, hst⟩
  by_cases hi : i < stop.size
  · exact List.mem_range.2 hi
  · simp [Array.getD, hi] at hst
def newIdx (ops : Array Oper) : List Nat := (List.range ops.size).filter fun j => match ops[j]? with
  | some o => newB o
  | none => false
def AllNew (sp : List SQ) : List Nat → Prop
  | [] => True
  | k :: l => (∃ t p, sp[k]? = some (.blk ptrTo t p)) ∧ AllNew sp l
theorem newsQ_spec {ops : Array Oper} {sp : List SQ} {l : List Nat} (h : newIdx ops = l) (g : AllNew sp l) (j : Nat) (oj : Oper) (hj : ops[j]? = some oj) (hn : newB oj = true) : ∃ t p, sp[j]? = some (.blk ptrTo t p) := by
  have hm : j ∈ l := by
    rw [← h]
    unfold newIdx
    rw [List.mem_filter]
    exact ⟨List.mem_range.2 (idx_lt hj), by rw [hj]; exact hn⟩
  clear h
  induction l with
  | nil => cases hm
  | cons k l ih =>
    rcases List.mem_cons.1 hm with h | h
    · subst h; exact g.1
    · exact ih g.2 h
theorem step_pureQ {P : Program} {ops : Array Oper} {o : Oper} {a : Act} {w : World} {K : Act → World → Prop} {Q : Exit → Act → World → Prop} {E : Prop} (hgd : o.guard = none) (d : Nat) (hd : o.dst = some d) (v : Value)
    (hrun : (execOp a.eval o).run P w = .ok (.value v) w) (h : K { a with tmps := a.tmps.setIfInBounds d v } w) : if Region.wanted o (yielded ops a.tmps) = true then Oper.wp P o a w K Q else E := by
  have hw : Region.wanted o (yielded ops a.tmps) = true := by simp [Region.wanted, hgd]
  rw [if_pos hw]
  unfold Oper.wp
  rw [hrun, Oper.upon_value]
  have : a.put o.dst v = { a with tmps := a.tmps.setIfInBounds d v } := by rw [hd]; rfl
  rw [this]
  exact h
/-- The one operation that is ready is a store. -/
theorem wpAny_storeQ {P : Program} {ops : Array Oper} {Q : Exit → Act → World → Prop} {fuel : Nat} {listed : Array Bool} {a : Act} {w : World} (i : Nat) {o : Oper} (ho : ops[i]? = some o) (hr : Region.ready .any ops listed = [i]) (hgd : o.guard = none) (hd : o.dst = none) (ty : TypeId) (x y : Operand) (hop : o.op = .store ty x y)
    (g off n : Nat) (hx : a.eval x = .pointer (some ⟨g, off, none⟩)) (vs : Array Value) (hy : a.eval y = .agg vs) (t : TypeId) (cs : Array Value) (hg : Blk w g t cs)
    (hi : (P.info? ty).map (·.size) = some n) (hv : vs.size = n) (hn : off + n ≤ cs.size) (h1 : ∀ v ∈ vs.toList, v.oneCell' = true)
    (h : ∀ w', Blk w' g t (splice cs off vs.toList) → Upd (· = g) w w' → wpAny P .any ops Q fuel (listed.setIfInBounds i true) a w') : wpAny P .any ops Q (fuel + 1) listed a w := by
  refine wpAny_ready hr (by simp) (AllReady.cons ho (fun K hK => ?_) AllReady.nil)
  refine step_storeBlk2 hgd ty x y hop g off n hx vs hy t cs hg hi hv hn h1 ?_
  intro w' h2 h3 _
  rw [hd]
  exact hK _ _ (h w' h2 h3)
/-- The one operation that is ready yields a value. -/
theorem wpAny_pureQ {P : Program} {ops : Array Oper} {Q : Exit → Act → World → Prop} {fuel : Nat} {listed : Array Bool} {a : Act} {w : World} (i : Nat) {o : Oper} (ho : ops[i]? = some o) (hr : Region.ready .any ops listed = [i]) (hgd : o.guard = none) (d : Nat) (hd : o.dst = some d) (v : Value)
    (hrun : (execOp a.eval o).run P w = .ok (.value v) w) (h : wpAny P .any ops Q fuel (listed.setIfInBounds i true) { a with tmps := a.tmps.setIfInBounds d v } w) : wpAny P .any ops Q (fuel + 1) listed a w := by
  refine wpAny_ready hr (by simp) (AllReady.cons ho (fun K hK => ?_) AllReady.nil)
  refine step_pureQ hgd d hd v hrun ?_
  exact hK _ _ h
section
variable {P : Program} {o : Oper} {a : Act} {p q : Operand} {T T' : TypeId} {k : IntKind} {x y r : Int} {b : Bool}
theorem run_lss (ho : o.op = .binOp .lss T p q T') (hp : a.eval p = .int k x) (hq : a.eval q = .int k y) (h : decide (x < y) = b) (w : World) : (execOp a.eval o).run P w = .ok (.value (.bool b)) w := by
  subst h; generalize a.eval = ev at *; unfold execOp; simp only [ho]; simp [hp, hq, go_sem]
theorem run_leq (ho : o.op = .binOp .leq T p q T') (hp : a.eval p = .int k x) (hq : a.eval q = .int k y) (h : decide (x ≤ y) = b) (w : World) : (execOp a.eval o).run P w = .ok (.value (.bool b)) w := by
  subst h; generalize a.eval = ev at *; unfold execOp; simp only [ho]; simp [hp, hq, go_sem]
theorem run_gtr (ho : o.op = .binOp .gtr T p q T') (hp : a.eval p = .int k x) (hq : a.eval q = .int k y) (h : decide (y < x) = b) (w : World) : (execOp a.eval o).run P w = .ok (.value (.bool b)) w := by
  subst h; generalize a.eval = ev at *; unfold execOp; simp only [ho]; simp [hp, hq, go_sem]
theorem run_geq (ho : o.op = .binOp .geq T p q T') (hp : a.eval p = .int k x) (hq : a.eval q = .int k y) (h : decide (y ≤ x) = b) (w : World) : (execOp a.eval o).run P w = .ok (.value (.bool b)) w := by
  subst h; generalize a.eval = ev at *; unfold execOp; simp only [ho]; simp [hp, hq, go_sem]
theorem run_eql (ho : o.op = .binOp .eql T p q T') (hp : a.eval p = .int k x) (hq : a.eval q = .int k y) (h : decide (x = y) = b) (w : World) : (execOp a.eval o).run P w = .ok (.value (.bool b)) w := by
  subst h; generalize a.eval = ev at *; unfold execOp; simp only [ho]; simp [hp, hq, go_sem]
  by_cases e : x = y <;> simp [e]
theorem run_neq (ho : o.op = .binOp .neq T p q T') (hp : a.eval p = .int k x) (hq : a.eval q = .int k y) (h : decide (x ≠ y) = b) (w : World) : (execOp a.eval o).run P w = .ok (.value (.bool b)) w := by
  subst h; generalize a.eval = ev at *; unfold execOp; simp only [ho]; simp [hp, hq, go_sem]
  by_cases e : x = y <;> simp [e]
theorem run_add (ho : o.op = .binOp .add T p q T') (hp : a.eval p = .int k x) (hq : a.eval q = .int k y) (h : k.wrap (x + y) = r) (w : World) : (execOp a.eval o).run P w = .ok (.value (.int k r)) w := by
  subst h; generalize a.eval = ev at *; unfold execOp; simp only [ho]; simp [hp, hq, go_sem]
theorem run_sub (ho : o.op = .binOp .sub T p q T') (hp : a.eval p = .int k x) (hq : a.eval q = .int k y) (h : k.wrap (x - y) = r) (w : World) : (execOp a.eval o).run P w = .ok (.value (.int k r)) w := by
  subst h; generalize a.eval = ev at *; unfold execOp; simp only [ho]; simp [hp, hq, go_sem]
theorem run_mul (ho : o.op = .binOp .mul T p q T') (hp : a.eval p = .int k x) (hq : a.eval q = .int k y) (h : k.wrap (x * y) = r) (w : World) : (execOp a.eval o).run P w = .ok (.value (.int k r)) w := by
  subst h; generalize a.eval = ev at *; unfold execOp; simp only [ho]; simp [hp, hq, go_sem]
theorem run_rem (ho : o.op = .binOp .rem T p q T') (hp : a.eval p = .int k x) (hq : a.eval q = .int k y) (h0 : y ≠ 0) (h : x.tmod y = r) (w : World) : (execOp a.eval o).run P w = .ok (.value (.int k r)) w := by
  subst h; generalize a.eval = ev at *; unfold execOp; simp only [ho]; simp [hp, hq, go_sem, h0]
theorem run_quo (ho : o.op = .binOp .quo T p q T') (hp : a.eval p = .int k x) (hq : a.eval q = .int k y) (h0 : y ≠ 0) (h : k.wrap (x.tdiv y) = r) (w : World) : (execOp a.eval o).run P w = .ok (.value (.int k r)) w := by
  subst h; generalize a.eval = ev at *; unfold execOp; simp only [ho]; simp [hp, hq, go_sem, h0]
theorem run_conv {k' : IntKind} (ho : o.op = .convert T T' p) (hT : ∃ d, P.underlying T = some d) (hT' : P.underlying T' = some (.int k')) (hp : a.eval p = .int k x) (h : k'.wrap x = r) (w : World) : (execOp a.eval o).run P w = .ok (.value (.int k' r)) w := by
  obtain ⟨d, hd⟩ := hT
  subst h; generalize a.eval = ev at *; unfold execOp; simp only [ho]; simp [hp, go_sem, run_underlying hd, run_underlying hT', convert]
theorem run_adr {n : Nat} {e : TypeId} {g off i : Nat} (ho : o.op = .indexAddr T p q) (hT : P.underlying T = some (.array n e)) (hs : (P.info? e).map (·.size) = some 1) (hp : a.eval p = .pointer (some ⟨g, off, none⟩)) (hq : a.eval q = .int k i) (hi : i < n) (w : World) :
    (execOp a.eval o).run P w = .ok (.value (.pointer (some ⟨g, off + i, none⟩))) w := by
  have hsz : ∀ w, (sizeOf e).run P w = .ok 1 w := fun w => by
    cases hq : P.info? e with
    | none => simp [hq] at hs
    | some i => have : i.size = 1 := by simpa [hq] using hs
                simp [sizeOf, typeInfo, hq, this]
  generalize a.eval = ev at *; unfold execOp; simp only [ho]; simp [hp, hq, go_sem, hT, hsz, hi, Addr.add]
theorem run_shr8 {n : Nat} (ho : o.op = .binOp .shr T p q T') (hp : a.eval p = .int .u8 x) (hq : a.eval q = .int .i64 (n : Int)) (hn : n < 8) (w : World) : (execOp a.eval o).run P w = .ok (.value (.int .u8 (x / 2 ^ n))) w := by
  have hm : min n 8 = n := by omega
  generalize a.eval = ev at *; unfold execOp; simp only [ho]; simp [hp, hq, go_sem, hm]
theorem run_and8 (ho : o.op = .binOp .and T p q T') (hp : a.eval p = .int .u8 x) (hq : a.eval q = .int .u8 1) (hx : 0 ≤ x ∧ x < 256) (w : World) : (execOp a.eval o).run P w = .ok (.value (.int .u8 (x % 2))) w := by
  have hb := and8_one x hx.1 hx.2
  generalize a.eval = ev at *; unfold execOp; simp only [ho]; simp [hp, hq, go_sem, hb]
end
theorem quo8 (j : Nat) (h : j < 1000) : IntKind.wrap .i64 (Int.tdiv (j : Int) 8) = ((j / 8 : Nat) : Int) := by
  have e : Int.tdiv (j : Int) 8 = ((j / 8 : Nat) : Int) := by
    rw [Int.tdiv_eq_ediv_of_nonneg (by omega)]
    omega
  rw [e]
  exact IntWalk.i64_in _ (by omega)
theorem rem8 (j : Nat) : Int.tmod (j : Int) 8 = ((j % 8 : Nat) : Int) := by
  rw [Int.tmod_eq_emod_of_nonneg (by omega)]
  omega
/-- Bit j of a key, as a test. -/
def kb (l : List Int) (j : Nat) : Bool := decide (bitAt l j = 1)
theorem wp_exit_block {P : Program} {id : Nat} {a : Act} {w : World} {I : Act → World → Prop} {Q : Exit → Act → World → Prop} (h : Q .normal a w) : (Code.exit id).wp P (Exit.then I (Exit.inBlock id Q)) a w := wp_exit (by simpa [Exit.then, Exit.inBlock] using h)
theorem wp_exit_then {P : Program} {id : Nat} {a : Act} {w : World} {I J : Act → World → Prop} {Q : Exit → Act → World → Prop} (h : Q .normal a w) : (Code.exit id).wp P (Exit.then J (Exit.then I (Exit.inBlock id Q))) a w := wp_exit (by simpa [Exit.then, Exit.inBlock] using h)
/-- The first m are listed. -/
def preL (n m : Nat) : Array Bool := Array.ofFn (n := n) fun i => decide (i.val < m)
theorem preL_size (n m : Nat) : (preL n m).size = n := by simp [preL]
theorem preL_get (n m i : Nat) (d : Bool) (h : i < n) : (preL n m).getD i d = decide (i < m) := by
  have : i < (preL n m).size := by rw [preL_size]; exact h
  simp [Array.getD, this, preL, h]
theorem preL_set (n m : Nat) (h : m < n) : (preL n m).setIfInBounds m true = preL n (m + 1) := by
  apply Array.ext
  · simp [preL]
  · intro i h1 h2
    have hi : i < n := by simpa [preL] using h2
    rw [Array.getElem_setIfInBounds (by simpa [preL] using hi)]
    by_cases e : m = i
    · subst e; simp [preL]
    · have : decide (i < m) = decide (i < m + 1) := by rw [decide_eq_decide]; omega
      simp [preL, e, this]
theorem preL_zero (n : Nat) : preL n 0 = Array.replicate n false := by
  apply Array.ext
  · simp [preL]
  · intro i h1 h2
    simp [preL]
theorem preL_out (n m i : Nat) (h : m ≤ i) : (preL n m).getD i false = false := by
  by_cases hi : i < n
  · rw [preL_get _ _ _ _ hi]; simp; omega
  · have : ¬ i < (preL n m).size := by rw [preL_size]; exact hi
    simp [Array.getD, this]
/-- None ahead of i writes slot t. -/
def noDstTo (ops : Array Oper) (t i : Nat) : Bool := (List.range i).all fun j => match ops[j]? with
  | some o => (match o.dst with | some d => d != t | none => true)
  | none => true
theorem Slots.oldS {ops : Array Oper} {sp : List SQ} {a0 : Act} {w0 : World} {listed : Array Bool} {a : Act} {w : World} {base : Nat} (h : Slots ops (specQ base sp) a0 w0 listed a w) {i : Nat} (hpre : ∀ j, i ≤ j → listed.getD j false = false) {t : Nat} (hn : noDstTo ops t i = true) {v : Value} (hv : a0.tmps[t]? = some v) : a.eval (.tmp t) = v := by
  refine eval_of ((h.other t (fun j o ho hl hd => ?_)).trans hv)
  by_cases hj : i ≤ j
  · rw [hpre j hj] at hl; cases hl
  · have h1 := List.all_eq_true.1 hn j (List.mem_range.2 (by omega))
    simp [ho, hd] at h1
def prefB (ops : Array Oper) (k : Nat) : Bool := (List.range k).all fun i => match ops[i]? with
  | some o => o.after.all fun e => !Region.binds .any e || decide (e.on < i)
  | none => false
section
variable {P : Program} {ops : Array Oper} {Q : Exit → Act → World → Prop}
/-- A region in the order of the text: first those that write nothing. -/
theorem wp_region_qS {id : Nat} {a : Act} {w : World} (k : Nat) (stop : Array Bool) (l : List Nat) (sp : List SQ) (hs : preL ops.size k = stop) (hl : List.range ops.size = List.range k ++ l) (hb : prefB ops k = true)
    (hstep : ∀ i o listed a' w', ops[i]? = some o → listed.size = ops.size → stop.getD i false = true → listed.getD i true = false → (∀ e ∈ o.after, Region.binds .any e = true → listed.getD e.on false = true) → Slots ops (specQ w.heap.size sp) a w listed a' w' →
      (∀ j, i ≤ j → listed.getD j false = false) →
      ∀ K' : Act → World → Prop, (∀ a'' w'', Slots ops (specQ w.heap.size sp) a w (listed.setIfInBounds i true) a'' w'' → K' a'' w'') → if Region.wanted o (yielded ops a'.tmps) = true then Oper.wp P o a' w' K' Q else K' (a'.put o.dst undef) w')
    (hfin : ∀ a' w', Slots ops (specQ w.heap.size sp) a w stop a' w' → wpOps P ops Q l a' w') : (Code.region id ops false).wp P Q a w := by
  have hk : k ≤ ops.size := by
    have := congrArg List.length hl
    simp at this
    omega
  have key : ∀ (j m : Nat), m + j = k → ∀ a' w', Slots ops (specQ w.heap.size sp) a w (preL ops.size m) a' w' → wpOps P ops Q (List.range' m j ++ l) a' w' := by
    intro j
    induction j with
    | zero =>
      intro m hm a' w' hI
      have : m = k := by omega
      subst this
      rw [hs] at hI
      exact hfin a' w' hI
    | succ j ih =>
      intro m hm a' w' hI
      rw [List.range'_succ, List.cons_append, wpOps_cons]
      have hlt : m < ops.size := by omega
      have ho : ops[m]? = some ops[m] := Array.getElem?_eq_getElem hlt
      refine wpOp_step ho (fun K hK => ?_)
      refine hstep m _ _ a' w' ho (preL_size _ _) (by rw [← hs, preL_get _ _ _ _ hlt]; simp; omega) (by rw [preL_get _ _ _ _ hlt]; simp) (fun e he hbd => ?_) hI (fun q hq => preL_out _ _ q hq) K (fun a2 w2 h2 => hK _ _ (ih (m + 1) (by omega) a2 w2 (by rw [← preL_set _ _ hlt]; exact h2)))
      have h1 := List.all_eq_true.1 hb m (List.mem_range.2 (by omega))
      rw [ho] at h1
      have h2 := (Array.all_eq_true_iff_forall_mem.1 h1) e he
      rw [hbd] at h2
      have h3 : e.on < m := by simpa using h2
      rw [preL_get _ _ _ _ (by omega)]
      simpa using h3
  refine wp_region ?_
  rw [hl, List.range_eq_range']
  exact key k 0 (by omega) a w (by rw [preL_zero]; exact Slots.start _ _ _ _ _)
theorem wpOps_storeQ {a : Act} {w : World} {l : List Nat} (i : Nat) {o : Oper} (ho : ops[i]? = some o) (hgd : o.guard = none) (hd : o.dst = none) (ty : TypeId) (x y : Operand) (hop : o.op = .store ty x y)
    (g off n : Nat) (hx : a.eval x = .pointer (some ⟨g, off, none⟩)) (vs : Array Value) (hy : a.eval y = .agg vs) (t : TypeId) (cs : Array Value) (hg : Blk w g t cs)
    (hi : (P.info? ty).map (·.size) = some n) (hv : vs.size = n) (hn : off + n ≤ cs.size) (h1 : ∀ v ∈ vs.toList, v.oneCell' = true)
    (h : ∀ w', Blk w' g t (splice cs off vs.toList) → Upd (· = g) w w' → wpOps P ops Q l a w') : wpOps P ops Q (i :: l) a w := by
  rw [wpOps_cons]
  refine wpOp_step ho (fun K hK => ?_)
  refine step_storeBlk2 hgd ty x y hop g off n hx vs hy t cs hg hi hv hn h1 ?_
  intro w' h2 h3 _
  rw [hd]
  exact hK _ _ (h w' h2 h3)
theorem wpOps_pureQ {a : Act} {w : World} {l : List Nat} (i : Nat) {o : Oper} (ho : ops[i]? = some o) (hgd : o.guard = none) (d : Nat) (hd : o.dst = some d) (v : Value)
    (hrun : (execOp a.eval o).run P w = .ok (.value v) w) (h : wpOps P ops Q l { a with tmps := a.tmps.setIfInBounds d v } w) : wpOps P ops Q (i :: l) a w := by
  rw [wpOps_cons]
  refine wpOp_step ho (fun K hK => ?_)
  refine step_pureQ hgd d hd v hrun ?_
  exact hK _ _ h
theorem wpOps_nil {a : Act} {w : World} (h : Q .normal a w) : wpOps P ops Q [] a w := by simpa [wpOps] using h
end
/-- Two are ready: one that yields a value, and a store; in either order. -/
theorem wpAny_bothQ {P : Program} {ops : Array Oper} {Q : Exit → Act → World → Prop} {fuel : Nat} {listed : Array Bool} {a : Act} {w : World} (i j : Nat) (hij : i ≠ j) {oi oj : Oper} (hoi : ops[i]? = some oi) (hoj : ops[j]? = some oj) (rs : List Nat) (hr : Region.ready .any ops listed = rs) (hrs : rs = [i, j] ∨ rs = [j, i])
    (hri : Region.ready .any ops (listed.setIfInBounds i true) = [j]) (hrj : Region.ready .any ops (listed.setIfInBounds j true) = [i]) (hgi : oi.guard = none) (hgd : oj.guard = none) (d : Nat) (hdi : oi.dst = some d) (hd : oj.dst = none) (v : Value) (hrun : ∀ W, (execOp a.eval oi).run P W = .ok (.value v) W)
    (ty : TypeId) (x y : Operand) (hop : oj.op = .store ty x y) (g off n : Nat) (hx : a.eval x = .pointer (some ⟨g, off, none⟩)) (hx2 : Act.eval { a with tmps := a.tmps.setIfInBounds d v } x = .pointer (some ⟨g, off, none⟩)) (vs : Array Value) (hy : a.eval y = .agg vs) (hy2 : Act.eval { a with tmps := a.tmps.setIfInBounds d v } y = .agg vs) (t : TypeId) (cs : Array Value) (hg : Blk w g t cs)
    (hi : (P.info? ty).map (·.size) = some n) (hv : vs.size = n) (hn : off + n ≤ cs.size) (h1 : ∀ v ∈ vs.toList, v.oneCell' = true)
    (h : ∀ w', Blk w' g t (splice cs off vs.toList) → Upd (· = g) w w' → wpAny P .any ops Q fuel ((listed.setIfInBounds i true).setIfInBounds j true) { a with tmps := a.tmps.setIfInBounds d v } w') : wpAny P .any ops Q (fuel + 1 + 1) listed a w := by
  have A1 : wpOp P ops Q i (wpAny P .any ops Q (fuel + 1) (listed.setIfInBounds i true)) a w := by
    refine wpOp_step hoi (fun K hK => ?_)
    refine step_pureQ hgi d hdi v (hrun w) (hK _ _ ?_)
    exact wpAny_storeQ j hoj hri hgd hd ty x y hop g off n hx2 vs hy2 t cs hg hi hv hn h1 h
  have A2 : wpOp P ops Q j (wpAny P .any ops Q (fuel + 1) (listed.setIfInBounds j true)) a w := by
    refine wpOp_step hoj (fun K hK => ?_)
    refine step_storeBlk2 hgd ty x y hop g off n hx vs hy t cs hg hi hv hn h1 ?_
    intro w' h2 h3 _
    rw [hd]
    refine hK _ _ ?_
    refine wpAny_pureQ i hoi hrj hgi d hdi v (hrun w') ?_
    rw [Array.setIfInBounds_comm _ _ (Ne.symm hij)]
    exact h w' h2 h3
  rcases hrs with rfl | rfl
  · refine wpAny_ready hr (by simp) (fun k hk => ?_)
    rcases List.mem_cons.1 hk with rfl | hk
    · exact A1
    · obtain rfl := List.mem_singleton.1 hk
      exact A2
  · refine wpAny_ready hr (by simp) (fun k hk => ?_)
    rcases List.mem_cons.1 hk with rfl | hk
    · exact A2
    · obtain rfl := List.mem_singleton.1 hk
      exact A1
/-- Two structs answered off two variables: what is loaded second may be loaded behind the first store. -/
theorem wp_region_two {P : Program} {ops : Array Oper} {Q : Exit → Act → World → Prop} {id : Nat} {a : Act} {w : World} (o0 o1 o2 o3 : Oper) (hops : ops = #[o0, o1, o2, o3]) (hm : P.follows .mixedOrders = true)
    (T0 T1 : TypeId) (s0 s1 d0 d1 p0 p1 : Nat) (g0 : o0.guard = none) (g1 : o1.guard = none) (g2 : o2.guard = none) (g3 : o3.guard = none) (e0 : o0.dst = some d0) (e1 : o1.dst = some d1) (e2 : o2.dst = none) (e3 : o3.dst = none)
    (h0 : o0.op = .load T0 (.tmp s0)) (h1 : o1.op = .load T1 (.tmp s1)) (h2 : o2.op = .store T0 (.tmp p0) (.tmp d0)) (h3 : o3.op = .store T1 (.tmp p1) (.tmp d1))
    (r0 : Region.ready .any ops (Array.replicate ops.size false) = [0, 1]) (r1 : Region.ready .any ops #[true, false, false, false] = [1, 2]) (r2 : Region.ready .any ops #[false, true, false, false] = [0]) (r3 : Region.ready .any ops #[true, true, false, false] = [2]) (r4 : Region.ready .any ops #[true, false, true, false] = [1])
    (r5 : Region.ready .any ops #[true, true, true, false] = [3]) (r6 : Region.ready .any ops #[true, true, true, true] = [])
    (b0 b1 q0 q1 : Nat) (A0 A1 Z0 Z1 : Array Value) (t0 t1 u0 u1 : TypeId) (hb0 : Blk w b0 t0 A0) (hb1 : Blk w b1 t1 A1) (hq0 : Blk w q0 u0 Z0) (hq1 : Blk w q1 u1 Z1)
    (n1 : b1 ≠ q0) (n2 : q1 ≠ q0)
    (x0 : a.tmps[s0]? = some (ptrTo b0)) (x1 : a.tmps[s1]? = some (ptrTo b1)) (y0 : a.tmps[p0]? = some (ptrTo q0)) (y1 : a.tmps[p1]? = some (ptrTo q1)) (m0 : d0 < a.tmps.size) (m1 : d1 < a.tmps.size) (hdd : (d0 != d1 && s0 != d0 && s0 != d1 && s1 != d0 && s1 != d1 && p0 != d0 && p0 != d1 && p1 != d0 && p1 != d1) = true)
    {dd0 dd1 : TypeDesc} (v0 : P.underlying T0 = some dd0) (w0 : (match dd0 with | .struct _ | .array _ _ => true | _ => false) = true) (z0 : (P.info? T0).map (·.size) = some A0.size) (k0 : Z0.size = A0.size) (l0 : ∀ v ∈ A0.toList, v.oneCell' = true)
    (v1 : P.underlying T1 = some dd1) (w1 : (match dd1 with | .struct _ | .array _ _ => true | _ => false) = true) (z1 : (P.info? T1).map (·.size) = some A1.size) (k1 : Z1.size = A1.size) (l1 : ∀ v ∈ A1.toList, v.oneCell' = true)
    (h : ∀ w', Blk w' q0 u0 A0 → Blk w' q1 u1 A1 → Upd (fun k => k = q0 ∨ k = q1) w.drew w' → Q .normal ⟨(a.tmps.setIfInBounds d0 (.agg A0)).setIfInBounds d1 (.agg A1), a.defers⟩ w') : (Code.region id ops true).wp P Q a w := by
  simp only [Bool.and_eq_true, bne_iff_ne] at hdd
  obtain ⟨⟨⟨⟨⟨⟨⟨⟨c0, c1⟩, c2⟩, c3⟩, c4⟩, c5⟩, c6⟩, c7⟩, c8⟩ := hdd
  have i0 : ops[0]? = some o0 := by rw [hops]; rfl
  have i1 : ops[1]? = some o1 := by rw [hops]; rfl
  have i2 : ops[2]? = some o2 := by rw [hops]; rfl
  have i3 : ops[3]? = some o3 := by rw [hops]; rfl
  have hsz : ops.size = 4 := by rw [hops]; rfl
  have ex0 : A0.extract 0 (0 + A0.size) = A0 := extract_all _ _ rfl
  have ex1 : A1.extract 0 (0 + A1.size) = A1 := extract_all _ _ rfl
  have put0 : ∀ (b : Act) v, b.put o0.dst v = ⟨b.tmps.setIfInBounds d0 v, b.defers⟩ := fun b v => by rw [e0]; rfl
  have put1 : ∀ (b : Act) v, b.put o1.dst v = ⟨b.tmps.setIfInBounds d1 v, b.defers⟩ := fun b v => by rw [e1]; rfl
  have last : ∀ (f : Nat) (A : Act) (W : World), Blk W q0 u0 A0 → Blk W q1 u1 Z1 → Upd (fun k => k = q0 ∨ k = q1) w.drew W → A = ⟨(a.tmps.setIfInBounds d0 (.agg A0)).setIfInBounds d1 (.agg A1), a.defers⟩ → wpAny P .any ops Q (f + 1) #[true, true, true, false] A W := by
    intro f A W H0 H1 HU hA
    subst hA
    refine wpAny_storeQ 3 i3 r5 g3 e3 T1 _ _ h3 q1 0 A1.size (eval_of (by simp only []; rw [Array.getElem?_setIfInBounds_ne (Ne.symm c8), Array.getElem?_setIfInBounds_ne (Ne.symm c7)]; exact y1)) A1 (eval_of (by simp only []; rw [Array.getElem?_setIfInBounds_self_of_lt (by simpa using m1)])) u1 Z1 H1 z1 rfl (by omega) l1 ?_
    intro W' B1 U1
    rw [splice_all _ _ _ k1 rfl] at B1
    refine wpAny_done r6 ?_ _
    exact h W' (U1.blk H0 (fun e => n2 e.symm)) B1 (HU.step U1 (fun i _ hi => .inr hi))
  refine wp_region_any hm ?_
  rw [hsz] at r0 ⊢
  refine wpAny_ready r0 (by simp) (AllReady.cons i0 (fun K hK => ?_) (AllReady.cons i1 (fun K hK => ?_) AllReady.nil))
  · refine step_loadBlk g0 T0 _ h0 b0 0 A0.size (eval_of x0) t0 A0 _ (show Blk w.drew b0 t0 A0 from hb0) v0 w0 z0 (by omega) ?_
    rw [ex0, put0]
    refine hK _ _ (wpAny_ready (rs := [1, 2]) r1 (by simp) (AllReady.cons i1 (fun K hK => ?_) (AllReady.cons i2 (fun K hK => ?_) AllReady.nil)))
    · refine step_loadBlk g1 T1 _ h1 b1 0 A1.size (eval_of (by simp only []; rw [Array.getElem?_setIfInBounds_ne (Ne.symm c3)]; exact x1)) t1 A1 _ (show Blk w.drew b1 t1 A1 from hb1) v1 w1 z1 (by omega) ?_
      rw [ex1, put1]
      refine hK _ _ (wpAny_storeQ 2 i2 r3 g2 e2 T0 _ _ h2 q0 0 A0.size (eval_of (by simp only []; rw [Array.getElem?_setIfInBounds_ne (Ne.symm c6), Array.getElem?_setIfInBounds_ne (Ne.symm c5)]; exact y0)) A0 (eval_of (by simp only []; rw [Array.getElem?_setIfInBounds_ne (Ne.symm c0), Array.getElem?_setIfInBounds_self_of_lt m0])) u0 Z0 (show Blk w.drew q0 u0 Z0 from hq0) z0 rfl (by omega) l0 ?_)
      intro W B0 U0
      rw [splice_all _ _ _ k0 rfl] at B0
      exact last 0 _ W B0 (U0.blk (show Blk w.drew q1 u1 Z1 from hq1) n2) (U0.mono fun i _ hi => .inl hi) rfl
    · refine step_storeBlk2 g2 T0 _ _ h2 q0 0 A0.size (eval_of (by simp only []; rw [Array.getElem?_setIfInBounds_ne (Ne.symm c5)]; exact y0)) A0 (eval_of (by simp only []; rw [Array.getElem?_setIfInBounds_self_of_lt m0])) u0 Z0 (show Blk w.drew q0 u0 Z0 from hq0) z0 rfl (by omega) l0 ?_
      intro W B0 U0 _
      rw [splice_all _ _ _ k0 rfl] at B0
      rw [e2]
      refine hK _ _ (wpAny_ready (rs := [1]) r4 (by simp) (AllReady.cons i1 (fun K hK => ?_) AllReady.nil))
      refine step_loadBlk g1 T1 _ h1 b1 0 A1.size (eval_of (by simp only [Act.put]; rw [Array.getElem?_setIfInBounds_ne (Ne.symm c3)]; exact x1)) t1 A1 _ (U0.blk (show Blk w.drew b1 t1 A1 from hb1) n1) v1 w1 z1 (by omega) ?_
      rw [ex1, put1]
      exact hK _ _ (last 0 _ W B0 (U0.blk (show Blk w.drew q1 u1 Z1 from hq1) n2) (U0.mono fun i _ hi => .inl hi) rfl)
  · refine step_loadBlk g1 T1 _ h1 b1 0 A1.size (eval_of x1) t1 A1 _ (show Blk w.drew b1 t1 A1 from hb1) v1 w1 z1 (by omega) ?_
    rw [ex1, put1]
    refine hK _ _ (wpAny_ready (rs := [0]) r2 (by simp) (AllReady.cons i0 (fun K hK => ?_) AllReady.nil))
    refine step_loadBlk g0 T0 _ h0 b0 0 A0.size (eval_of (by simp only []; rw [Array.getElem?_setIfInBounds_ne (Ne.symm c2)]; exact x0)) t0 A0 _ (show Blk w.drew b0 t0 A0 from hb0) v0 w0 z0 (by omega) ?_
    rw [ex0, put0]
    refine hK _ _ (wpAny_storeQ 2 i2 r3 g2 e2 T0 _ _ h2 q0 0 A0.size (eval_of (by simp only []; rw [Array.getElem?_setIfInBounds_ne (Ne.symm c5), Array.getElem?_setIfInBounds_ne (Ne.symm c6)]; exact y0)) A0 (eval_of (by simp only []; rw [Array.getElem?_setIfInBounds_self_of_lt (by simpa using m0)])) u0 Z0 (show Blk w.drew q0 u0 Z0 from hq0) z0 rfl (by omega) l0 ?_)
    intro W B0 U0
    rw [splice_all _ _ _ k0 rfl] at B0
    exact last 0 _ W B0 (U0.blk (show Blk w.drew q1 u1 Z1 from hq1) n2) (U0.mono fun i _ hi => .inl hi) (by rw [Array.setIfInBounds_comm _ _ (Ne.symm c0)])
theorem run_swap0 {P : Program} {o : Oper} {a : Act} {x : Operand} {t : Bool} {A B : Array Value} (ho : o.op = .extract x 0) (hx : a.eval x = swapped t A B) (w : World) : (execOp a.eval o).run P w = .ok (.value (.agg (if t then B else A))) w := by
  cases t
  · exact run_extractQ ho hx rfl w
  · exact run_extractQ ho hx rfl w
theorem run_swap1 {P : Program} {o : Oper} {a : Act} {x : Operand} {t : Bool} {A B : Array Value} (ho : o.op = .extract x 1) (hx : a.eval x = swapped t A B) (w : World) : (execOp a.eval o).run P w = .ok (.value (.agg (if t then A else B))) w := by
  cases t
  · exact run_extractQ ho hx rfl w
  · exact run_extractQ ho hx rfl w
theorem Ch.pick {c : Nat} {R : Fp → Array Value → Prop} {x y : Fp} {A B : Array Value} (t : Bool) (h : Ch c R [x] A) (g : Ch c R [y] B) : Ch c R [if t then x else y] (if t then A else B) := by
  cases t
  · exact g
  · exact h
/-- One part changed. -/
theorem Ch.put {c : Nat} {R : Fp → Array Value → Prop} {vs : List Fp} {v : Fp} {A B : Array Value} (h : Ch c R vs A) (i o : Nat) (ho : o = c * i) (hi : i < vs.length) (g : Ch c R [v] B) : Ch c R (vs.set i v) (splice A o B.toList) := by
  subst ho
  have hB : B.size = c := by have := g.1; simpa using this
  have hle : c * i + c ≤ A.size := by
    rw [h.1, ← Nat.mul_succ]
    exact Nat.mul_le_mul_left c hi
  have hlen : c * i + B.toList.length ≤ A.size := by rw [Array.length_toList, hB]; exact hle
  have hsz := splice_size A (c * i) B.toList hlen
  refine ⟨by rw [hsz, h.1, List.length_set], fun u hu => ?_, fun j u hu => ?_⟩
  · obtain ⟨k, hk, rfl⟩ := List.getElem_of_mem hu
    have hk2 : k < A.size := by rw [← hsz]; simpa using hk
    have e := splice_get A (c * i) B.toList hlen k
    have e2 : (splice A (c * i) B.toList)[k]? = some ((splice A (c * i) B.toList).toList[k]) := by
      rw [← Array.getElem?_toList, List.getElem?_eq_getElem hk]
    rw [e2] at e
    split at e
    · exact g.2.1 _ (List.mem_of_getElem? e.symm)
    · exact h.2.1 _ (List.mem_of_getElem? (by rw [Array.getElem?_toList]; exact e.symm))
  · by_cases e : j = i
    · subst e
      rw [List.getElem?_set_self hi] at hu
      cases hu
      have e3 : (splice A (c * j) B.toList).extract (c * j) (c * j + c) = B := by
        apply Array.ext_getElem?
        intro k
        rw [Array.getElem?_extract, hsz]
        by_cases hk : k < c
        · rw [if_pos (by omega), splice_get A (c * j) B.toList hlen, if_pos (by rw [Array.length_toList]; omega), Nat.add_sub_cancel_left, Array.getElem?_toList]
        · rw [if_neg (by omega), Array.getElem?_eq_none (by omega)]
      rw [e3]
      exact g.get
    · rw [List.getElem?_set_ne (fun h => e h.symm)] at hu
      have h1 := h.2.2 j u hu
      have hj : j < vs.length := by
        by_cases hj : j < vs.length
        · exact hj
        · rw [List.getElem?_eq_none (by omega)] at hu; cases hu
      have hjle : c * j + c ≤ A.size := by
        rw [h.1, ← Nat.mul_succ]
        exact Nat.mul_le_mul_left c hj
      have hap : c * j + c ≤ c * i ∨ c * i + c ≤ c * j := by
        rcases Nat.lt_or_gt_of_ne e with h2 | h2
        · left; rw [← Nat.mul_succ]; exact Nat.mul_le_mul_left c h2
        · right; rw [← Nat.mul_succ]; exact Nat.mul_le_mul_left c h2
      have e3 : (splice A (c * i) B.toList).extract (c * j) (c * j + c) = A.extract (c * j) (c * j + c) := by
        apply Array.ext_getElem?
        intro k
        rw [Array.getElem?_extract, Array.getElem?_extract, hsz]
        by_cases hk : k < c
        · rw [if_pos (by omega), if_pos (by omega), splice_get A (c * i) B.toList hlen, if_neg (by rw [Array.length_toList]; omega)]
        · rw [if_neg (by omega), if_neg (by omega)]
      rw [e3]
      exact h1
/-- Two structs answered. -/
def RetC2 (c : Nat) (R : Fp → Array Value → Prop) (us vs : List Fp) (w : World) (e : Ending) (w' : World) : Prop := ∃ a b, e = .returned (.tuple #[.agg a, .agg b]) ∧ Ch c R us a ∧ Ch c R vs b ∧ Upd (fun _ => False) w w'
def IsC2 (c : Nat) (R : Fp → Array Value → Prop) (us vs : List Fp) (v : Value) : Prop := ∃ a b, v = .tuple #[.agg a, .agg b] ∧ Ch c R us a ∧ Ch c R vs b
theorem RetC2.sq {c : Nat} {R : Fp → Array Value → Prop} {us vs : List Fp} {w w' : World} {base : Nat} {e : Ending} (h : RetC2 c R us vs w e w') : ∃ v, e = .returned v ∧ (SQ.like (IsC2 c R us vs)).holds base v w' ∧ Upd (fun _ => False) w w' := by
  obtain ⟨a, b, rfl, h1, h2, hu⟩ := h
  exact ⟨_, rfl, ⟨a, b, rfl, h1, h2⟩, hu⟩
theorem ret_val {v : Value} {w w' : World} {base : Nat} {e : Ending} (h : e = .returned v ∧ Upd (fun _ => False) w w') : ∃ u, e = .returned u ∧ (SQ.val v).holds base u w' ∧ Upd (fun _ => False) w w' := ⟨v, h.1, rfl, h.2⟩
theorem results_cell_row2 {P : Program} {fn : Func} {p q : Tmp} {ty tq : TypeId} (h : fn.results = #[.cell p ty, .cell q tq]) (tmps : Array Value) (w : World) (b c : Nat) (A B : Array Value) {d dq : TypeDesc}
    (hp : tmps.getD p undef = ptrTo b) (hq : tmps.getD q undef = ptrTo c) (hb : Blk w b ty A) (hc : Blk w c tq B) (hu : P.underlying ty = some d) (hd : (match d with | .struct _ | .array _ _ => true | _ => false) = true) (hi : (P.info? ty).map (·.size) = some A.size)
    (hu2 : P.underlying tq = some dq) (hd2 : (match dq with | .struct _ | .array _ _ => true | _ => false) = true) (hi2 : (P.info? tq).map (·.size) = some B.size) :
    (results fn tmps).run P w = .ok (.tuple #[.agg A, .agg B]) w := by
  have h1 := run_loadVar_blk w b 0 A.size ty ty A d hb hu hd hi (by omega)
  have h2 := run_loadVar_blk w c 0 B.size tq tq B dq hc hu2 hd2 hi2 (by omega)
  rw [extract_all _ _ rfl] at h1 h2
  have hp' : tmps[p]?.getD undef = .pointer (some ⟨b, 0, none⟩) := by simpa [ptrTo] using hp
  have hq' : tmps[q]?.getD undef = .pointer (some ⟨c, 0, none⟩) := by simpa [ptrTo] using hq
  simp [results, h, hp', hq', asAddr, h1, h2]
theorem size16_ex (a : Array Value) (h : a.size = 16) : ∃ x0 x1 x2 x3 x4 x5 x6 x7 x8 x9 x10 x11 x12 x13 x14 x15, a = #[x0, x1, x2, x3, x4, x5, x6, x7, x8, x9, x10, x11, x12, x13, x14, x15] := by
  obtain ⟨l⟩ := a
  match l, h with
  | [x0, x1, x2, x3, x4, x5, x6, x7, x8, x9, x10, x11, x12, x13, x14, x15], _ => exact ⟨x0, x1, x2, x3, x4, x5, x6, x7, x8, x9, x10, x11, x12, x13, x14, x15, rfl⟩
theorem digs_of_all {l : List Int} (h : l.all (fun x => decide (0 ≤ x) && decide (x < 256)) = true) : Digs 256 l := by
  intro x hx
  have := List.all_eq_true.1 h x hx
  simpa using this
def zeroKL : List Int := List.replicate 32 0
theorem zeroKL_length : zeroKL.length = 32 := rfl
theorem zeroKL_digs : Digs 256 zeroKL := digs_of_all (by decide)
theorem zeroKL_bld {o : Oper} {a : Act} (ho : o.op = .build 23 #[]) (w : World) : (execOp a.eval o).run Tryd.prog w = .ok (.value (.agg (numsA .u8 zeroKL))) w := by
  have hb : (Instr.build 23 #[]).run Tryd.prog w = .ok (.agg (numsA .u8 zeroKL)) w := by kernel_rfl
  have hm : (#[] : Array (Nat × Operand)).map (fun (i, x) => (i, a.eval x)) = #[] := by simp
  unfold execOp
  simp only [ho]
  rw [hm, Sem.run_bind, hb]
  rfl
theorem run_eqlK {o : Oper} {a : Act} {p q : Operand} {A B : List Int} {b : Bool} (ho : o.op = .binOp .eql 23 p q 23) (hp : a.eval p = .agg (numsA .u8 A)) (hq : a.eval q = .agg (numsA .u8 B)) (hA : A.length = 32) (hB : B.length = 32) (h : decide (A = B) = b) (w : World) :
    (execOp a.eval o).run Tryd.prog w = .ok (.value (.bool b)) w := by
  rw [run_eqlKey ho hp hq hA hB w, h]
theorem run_neqK {o : Oper} {a : Act} {p q : Operand} {A B : List Int} {b : Bool} (ho : o.op = .binOp .neq 23 p q 23) (hp : a.eval p = .agg (numsA .u8 A)) (hq : a.eval q = .agg (numsA .u8 B)) (hA : A.length = 32) (hB : B.length = 32) (h : decide (A = B) = !b) (w : World) :
    (execOp a.eval o).run Tryd.prog w = .ok (.value (.bool b)) w := by
  have he := eqKey A B hA hB
  have hg := guardKey'
  rw [h] at he
  generalize a.eval = ev at hp hq ⊢
  unfold execOp
  simp only [ho]
  cases b <;> simp [hp, hq, go_sem, he, hg]
theorem run_pickQ {P : Program} {o : Oper} {a : Act} {c x y : Operand} {t : Bool} {v : Value} (ho : o.op = .pick c x y) (hc : a.eval c = .bool t) (h : (if t then a.eval x else a.eval y) = v) (w : World) : (execOp a.eval o).run P w = .ok (.value v) w := by
  generalize a.eval = ev at *; unfold execOp; simp only [ho]
  subst h
  cases t <;> simp [hc, asBool]
theorem results_cell_tmpQ {P : Program} {fn : Func} {p q : Tmp} {ty : TypeId} (h : fn.results = #[.cell p ty, .tmp q]) (tmps : Array Value) (w : World) (b : Nat) (A : Array Value) (e : Value) {d : TypeDesc}
    (hp : tmps.getD p undef = ptrTo b) (he : tmps.getD q undef = e) (hb : Blk w b ty A) (hu : P.underlying ty = some d) (hd : (match d with | .struct _ | .array _ _ => true | _ => false) = true) (hi : (P.info? ty).map (·.size) = some A.size) :
    (results fn tmps).run P w = .ok (.tuple #[.agg A, e]) w := by
  have h1 := run_loadVar_blk w b 0 A.size ty ty A d hb hu hd hi (by omega)
  rw [extract_all _ _ rfl] at h1
  have hp' : tmps[p]?.getD undef = .pointer (some ⟨b, 0, none⟩) := by simpa [ptrTo] using hp
  have he' : tmps[q]?.getD undef = e := by simpa using he
  simp [results, h, hp', he', asAddr, h1]
def zE : Array Value := #[.int .u64 0, .int .u64 0, .int .u64 0, .int .u64 0, .int .u64 0]
theorem zE_ch : Ch 5 RE [0] zE := Ch.elem fits_zero fv_zero
theorem zE_run (w : World) : (zeroValue 39).run Tryd.prog w = .ok (.agg zE) w := by kernel_rfl
theorem szE : (Tryd.prog.info? 39).map (·.size) = some 5 := by kernel_rfl
theorem zN_ch : Ch 16 RN [0] zeroN := Ch.num (n := 0) (okNum (by omega) (by omega)) fv_zero
theorem szN : (Tryd.prog.info? 45).map (·.size) = some 16 := by kernel_rfl
theorem zN_run (w : World) : (zeroValue 45).run Tryd.prog w = .ok (.agg zeroN) w := by kernel_rfl
def zRatio : Array Value := zE ++ zE
theorem zRatio_ch : Ch 5 RE [0, 0] zRatio := (zE_ch.cat zE_ch)
theorem zRatio_run (w : World) : (zeroValue 72).run Tryd.prog w = .ok (.agg zRatio) w := by kernel_rfl
theorem szRatio : (Tryd.prog.info? 72).map (·.size) = some 10 := by kernel_rfl
theorem run_buildRatio {o : Oper} {a : Act} {p q : Operand} {A B : Array Value} (ho : o.op = .build 72 #[(0, p), (1, q)]) (hp : a.eval p = .agg A) (hq : a.eval q = .agg B) (sA : A.size = 5) (sB : B.size = 5) (w : World) :
    (execOp a.eval o).run Tryd.prog w = .ok (.value (.agg (A ++ B))) w := by
  obtain ⟨a0, a1, a2, a3, a4, rfl⟩ := size5_ex A sA
  obtain ⟨b0, b1, b2, b3, b4, rfl⟩ := size5_ex B sB
  generalize a.eval = ev at *
  unfold execOp
  simp only [ho]
  have hb : (Instr.build 72 #[(0, .agg #[a0, a1, a2, a3, a4]), (1, .agg #[b0, b1, b2, b3, b4])]).run Tryd.prog w = .ok (.agg (#[a0, a1, a2, a3, a4] ++ #[b0, b1, b2, b3, b4])) w := by kernel_rfl
  simp [hp, hq, hb]
theorem run_buildRatio0 {o : Oper} {a : Act} {p : Operand} {A : Array Value} (ho : o.op = .build 72 #[(0, p)]) (hp : a.eval p = .agg A) (sA : A.size = 5) (w : World) :
    (execOp a.eval o).run Tryd.prog w = .ok (.value (.agg (A ++ zE))) w := by
  obtain ⟨a0, a1, a2, a3, a4, rfl⟩ := size5_ex A sA
  generalize a.eval = ev at *
  unfold execOp
  simp only [ho]
  have hb : (Instr.build 72 #[(0, .agg #[a0, a1, a2, a3, a4])]).run Tryd.prog w = .ok (.agg (#[a0, a1, a2, a3, a4] ++ zE)) w := by kernel_rfl
  simp [hp, hb]
def zPt : Array Value := zE ++ zE ++ zE ++ zE
theorem zPt_ch : Ch 5 RE [0, 0, 0, 0] zPt := (((zE_ch.cat zE_ch).cat zE_ch).cat zE_ch)
theorem zPt_run (w : World) : (zeroValue 41).run Tryd.prog w = .ok (.agg zPt) w := by kernel_rfl
theorem szPt : (Tryd.prog.info? 41).map (·.size) = some 20 := by kernel_rfl
theorem run_buildPt {o : Oper} {a : Act} {p q r s : Operand} {A B C D : Array Value} (ho : o.op = .build 41 #[(0, p), (1, q), (2, r), (3, s)]) (hp : a.eval p = .agg A) (hq : a.eval q = .agg B) (hr : a.eval r = .agg C) (hs : a.eval s = .agg D) (sA : A.size = 5) (sB : B.size = 5) (sC : C.size = 5) (sD : D.size = 5) (w : World) :
    (execOp a.eval o).run Tryd.prog w = .ok (.value (.agg (A ++ B ++ C ++ D))) w := by
  obtain ⟨a0, a1, a2, a3, a4, rfl⟩ := size5_ex A sA
  obtain ⟨b0, b1, b2, b3, b4, rfl⟩ := size5_ex B sB
  obtain ⟨c0, c1, c2, c3, c4, rfl⟩ := size5_ex C sC
  obtain ⟨d0, d1, d2, d3, d4, rfl⟩ := size5_ex D sD
  generalize a.eval = ev at *
  unfold execOp
  simp only [ho]
  have hb : (Instr.build 41 #[(0, .agg #[a0, a1, a2, a3, a4]), (1, .agg #[b0, b1, b2, b3, b4]), (2, .agg #[c0, c1, c2, c3, c4]), (3, .agg #[d0, d1, d2, d3, d4])]).run Tryd.prog w = .ok (.agg (#[a0, a1, a2, a3, a4] ++ #[b0, b1, b2, b3, b4] ++ #[c0, c1, c2, c3, c4] ++ #[d0, d1, d2, d3, d4])) w := by kernel_rfl
  simp [hp, hq, hr, hs, hb]
def zR5 : Array Value := zeroN ++ zeroN
theorem zR5_ch : Ch 16 RN [0, 0] zR5 := (zN_ch.cat zN_ch)
theorem zR5_run (w : World) : (zeroValue 80).run Tryd.prog w = .ok (.agg zR5) w := by kernel_rfl
theorem szR5 : (Tryd.prog.info? 80).map (·.size) = some 32 := by kernel_rfl
theorem run_buildR5 {o : Oper} {a : Act} {p q : Operand} {A B : Array Value} (ho : o.op = .build 80 #[(0, p), (1, q)]) (hp : a.eval p = .agg A) (hq : a.eval q = .agg B) (sA : A.size = 16) (sB : B.size = 16) (w : World) :
    (execOp a.eval o).run Tryd.prog w = .ok (.value (.agg (A ++ B))) w := by
  obtain ⟨a0, a1, a2, a3, a4, a5, a6, a7, a8, a9, a10, a11, a12, a13, a14, a15, rfl⟩ := size16_ex A sA
  obtain ⟨b0, b1, b2, b3, b4, b5, b6, b7, b8, b9, b10, b11, b12, b13, b14, b15, rfl⟩ := size16_ex B sB
  generalize a.eval = ev at *
  unfold execOp
  simp only [ho]
  have hb : (Instr.build 80 #[(0, .agg #[a0, a1, a2, a3, a4, a5, a6, a7, a8, a9, a10, a11, a12, a13, a14, a15]), (1, .agg #[b0, b1, b2, b3, b4, b5, b6, b7, b8, b9, b10, b11, b12, b13, b14, b15])]).run Tryd.prog w = .ok (.agg (#[a0, a1, a2, a3, a4, a5, a6, a7, a8, a9, a10, a11, a12, a13, a14, a15] ++ #[b0, b1, b2, b3, b4, b5, b6, b7, b8, b9, b10, b11, b12, b13, b14, b15])) w := by kernel_rfl
  simp [hp, hq, hb]
theorem run_buildR50 {o : Oper} {a : Act} {p : Operand} {A : Array Value} (ho : o.op = .build 80 #[(0, p)]) (hp : a.eval p = .agg A) (sA : A.size = 16) (w : World) :
    (execOp a.eval o).run Tryd.prog w = .ok (.value (.agg (A ++ zeroN))) w := by
  obtain ⟨a0, a1, a2, a3, a4, a5, a6, a7, a8, a9, a10, a11, a12, a13, a14, a15, rfl⟩ := size16_ex A sA
  generalize a.eval = ev at *
  unfold execOp
  simp only [ho]
  have hb : (Instr.build 80 #[(0, .agg #[a0, a1, a2, a3, a4, a5, a6, a7, a8, a9, a10, a11, a12, a13, a14, a15])]).run Tryd.prog w = .ok (.agg (#[a0, a1, a2, a3, a4, a5, a6, a7, a8, a9, a10, a11, a12, a13, a14, a15] ++ zeroN)) w := by kernel_rfl
  simp [hp, hb]
def zR6 : Array Value := zeroN ++ zeroN ++ zeroN
theorem zR6_ch : Ch 16 RN [0, 0, 0] zR6 := ((zN_ch.cat zN_ch).cat zN_ch)
theorem zR6_run (w : World) : (zeroValue 47).run Tryd.prog w = .ok (.agg zR6) w := by kernel_rfl
theorem szR6 : (Tryd.prog.info? 47).map (·.size) = some 48 := by kernel_rfl
theorem run_buildR6 {o : Oper} {a : Act} {p q r : Operand} {A B C : Array Value} (ho : o.op = .build 47 #[(0, p), (1, q), (2, r)]) (hp : a.eval p = .agg A) (hq : a.eval q = .agg B) (hr : a.eval r = .agg C) (sA : A.size = 16) (sB : B.size = 16) (sC : C.size = 16) (w : World) :
    (execOp a.eval o).run Tryd.prog w = .ok (.value (.agg (A ++ B ++ C))) w := by
  obtain ⟨a0, a1, a2, a3, a4, a5, a6, a7, a8, a9, a10, a11, a12, a13, a14, a15, rfl⟩ := size16_ex A sA
  obtain ⟨b0, b1, b2, b3, b4, b5, b6, b7, b8, b9, b10, b11, b12, b13, b14, b15, rfl⟩ := size16_ex B sB
  obtain ⟨c0, c1, c2, c3, c4, c5, c6, c7, c8, c9, c10, c11, c12, c13, c14, c15, rfl⟩ := size16_ex C sC
  generalize a.eval = ev at *
  unfold execOp
  simp only [ho]
  have hb : (Instr.build 47 #[(0, .agg #[a0, a1, a2, a3, a4, a5, a6, a7, a8, a9, a10, a11, a12, a13, a14, a15]), (1, .agg #[b0, b1, b2, b3, b4, b5, b6, b7, b8, b9, b10, b11, b12, b13, b14, b15]), (2, .agg #[c0, c1, c2, c3, c4, c5, c6, c7, c8, c9, c10, c11, c12, c13, c14, c15])]).run Tryd.prog w = .ok (.agg (#[a0, a1, a2, a3, a4, a5, a6, a7, a8, a9, a10, a11, a12, a13, a14, a15] ++ #[b0, b1, b2, b3, b4, b5, b6, b7, b8, b9, b10, b11, b12, b13, b14, b15] ++ #[c0, c1, c2, c3, c4, c5, c6, c7, c8, c9, c10, c11, c12, c13, c14, c15])) w := by kernel_rfl
  simp [hp, hq, hr, hb]
theorem run_buildR612 {o : Oper} {a : Act} {p q : Operand} {A B : Array Value} (ho : o.op = .build 47 #[(1, p), (2, q)]) (hp : a.eval p = .agg A) (hq : a.eval q = .agg B) (sA : A.size = 16) (sB : B.size = 16) (w : World) :
    (execOp a.eval o).run Tryd.prog w = .ok (.value (.agg (zeroN ++ A ++ B))) w := by
  obtain ⟨a0, a1, a2, a3, a4, a5, a6, a7, a8, a9, a10, a11, a12, a13, a14, a15, rfl⟩ := size16_ex A sA
  obtain ⟨b0, b1, b2, b3, b4, b5, b6, b7, b8, b9, b10, b11, b12, b13, b14, b15, rfl⟩ := size16_ex B sB
  generalize a.eval = ev at *
  unfold execOp
  simp only [ho]
  have hb : (Instr.build 47 #[(1, .agg #[a0, a1, a2, a3, a4, a5, a6, a7, a8, a9, a10, a11, a12, a13, a14, a15]), (2, .agg #[b0, b1, b2, b3, b4, b5, b6, b7, b8, b9, b10, b11, b12, b13, b14, b15])]).run Tryd.prog w = .ok (.agg (zeroN ++ #[a0, a1, a2, a3, a4, a5, a6, a7, a8, a9, a10, a11, a12, a13, a14, a15] ++ #[b0, b1, b2, b3, b4, b5, b6, b7, b8, b9, b10, b11, b12, b13, b14, b15])) w := by kernel_rfl
  simp [hp, hq, hb]
end Go.Proofs.YthnpbodkcdbckaaDoor
