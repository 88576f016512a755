/-
  What point and ladder reckon, as functions of the field's elements. No program.
-/
/-
  What point reckons is the group of the curve -x^2 + y^2 = 1 + d x^2 y^2; a point and its bytes. No program.
-/
/-
  Roots, in the field's terms; which points 32 bytes are.
-/
/-
  The base and its order. No program.
-/
import Derived.Test.YtdpafemcpbhlfaaDoorPt1
import Derived.Test.YtdpafemcpbhlfaaDoorKeyF
import Derived.Test.YtdpafemcpbhlfaaDoorClamp
import Derived.Test.YtdpafemcpbhlfaaDoorHf
namespace Go.Proofs.YtdpafemcpbhlfaaDoor
set_option maxRecDepth 100000

/-- A point as point.Point holds it. -/
structure P4 where
  (x y z t : Fp)
/-- What together makes. -/
noncomputable def togF (p q : P4) : P4 := ⟨(p.x * q.y + q.x * p.y) * (p.z * q.z - dC * (p.t * q.t)), (p.y * q.y + p.x * q.x) * (p.z * q.z + dC * (p.t * q.t)), (p.z * q.z + dC * (p.t * q.t)) * (p.z * q.z - dC * (p.t * q.t)), (p.x * q.y + q.x * p.y) * (p.y * q.y + p.x * q.x)⟩
def zeroF : P4 := ⟨fv 0, fv 1, fv 1, fv 0 * fv 1⟩
/-- Multiply, when m bits have been seen to. -/
noncomputable def mulM (l : List Int) (p : P4) : Nat → P4
  | 0 => zeroF
  | m + 1 => if kb l (255 - m) then togF (togF (mulM l p m) (mulM l p m)) p else togF (mulM l p m) (mulM l p m)
noncomputable def mulF (l : List Int) (p : P4) (k : Nat) : P4 := mulM l p (256 - k)
theorem mulF_top (l : List Int) (p : P4) : mulF l p 256 = zeroF := rfl
theorem mulF_step (l : List Int) (p : P4) (j : Nat) (h : j < 256) : mulF l p j = if kb l j then togF (togF (mulF l p (j + 1)) (mulF l p (j + 1))) p else togF (mulF l p (j + 1)) (mulF l p (j + 1)) := by
  unfold mulF
  rw [show 256 - j = 256 - (j + 1) + 1 by omega]
  show (if kb l (255 - (256 - (j + 1))) then _ else _) = _
  rw [show 255 - (256 - (j + 1)) = j by omega]
end Go.Proofs.YtdpafemcpbhlfaaDoor
namespace Go.Proofs.YtdpafemcpbhlfaaDoor
set_option maxRecDepth 100000

abbrev dNat : Nat := 37095705934669439343138083508754565189542113879843219016388785533085940283555
theorem dC_fv : dC = fv ((dNat : Nat) : Int) := by
  rw [dC_eq]
  decide +kernel
theorem goodP : Good (-1) dC := ⟨⟨19681161376707505956807079304988542015446066515923890162744021073123829784752, by decide +kernel⟩, by decide +kernel, by
  rw [dC_fv]
  exact nonsq_of_pm dNat (by decide +kernel)⟩
/-- A point of the curve. -/
abbrev EP := Ed (-1) dC
noncomputable def EP.plus (e f : EP) : EP := e.add goodP f
noncomputable def EP.times (e : EP) (n : Nat) : EP := e.mul goodP n
noncomputable def EP.nil : EP := Ed.zero (-1) dC
noncomputable def EP.back (e : EP) : EP := e.neg
/-- What point.Point holds is a point of the curve. -/
structure Rp (p : P4) (e : EP) : Prop where
  nz : p.z ≠ 0
  hx : p.x = e.x * p.z
  hy : p.y = e.y * p.z
  ht : p.t = e.x * e.y * p.z
theorem rp_zero : Rp zeroF EP.nil := by
  refine ⟨?_, ?_, ?_, ?_⟩
  · show fv 1 ≠ 0
    rw [fv_one]; exact one_ne_zero'
  · show fv 0 = 0 * fv 1
    rw [fv_zero, fv_one]; grobner
  · show fv 1 = 1 * fv 1
    rw [fv_one]; grobner
  · show fv 0 * fv 1 = 0 * 1 * fv 1
    rw [fv_zero, fv_one]; grobner
theorem rp_tog {p q : P4} {e f : EP} (hp : Rp p e) (hq : Rp q f) : Rp (togF p q) (e.plus f) := by
  obtain ⟨n1, n2⟩ := den_ne goodP e.on f.on
  have ax := Ed.add_x goodP e f
  have ay := Ed.add_y goodP e f
  obtain ⟨pz, px, py, pt⟩ := hp
  obtain ⟨qz, qx, qy, qt⟩ := hq
  have hz := fmul_ne pz qz
  have eQ : p.z * q.z + dC * (p.t * q.t) = p.z * q.z * (1 + dC * e.x * f.x * e.y * f.y) := by rw [pt, qt]; grobner
  have eM : p.z * q.z - dC * (p.t * q.t) = p.z * q.z * (1 - dC * e.x * f.x * e.y * f.y) := by rw [pt, qt]; grobner
  have eX : p.x * q.y + q.x * p.y = p.z * q.z * (e.x * f.y + f.x * e.y) := by rw [px, qx, py, qy]; grobner
  have eY : p.y * q.y + p.x * q.x = p.z * q.z * (e.y * f.y - -1 * e.x * f.x) := by rw [px, qx, py, qy]; grobner
  rw [← ax] at eX
  rw [← ay] at eY
  refine ⟨?_, ?_, ?_, ?_⟩
  · show (p.z * q.z + dC * (p.t * q.t)) * (p.z * q.z - dC * (p.t * q.t)) ≠ 0
    rw [eQ, eM]
    exact fmul_ne (fmul_ne hz n1) (fmul_ne hz n2)
  · show (p.x * q.y + q.x * p.y) * (p.z * q.z - dC * (p.t * q.t)) = (e.add goodP f).x * ((p.z * q.z + dC * (p.t * q.t)) * (p.z * q.z - dC * (p.t * q.t)))
    rw [eX, eQ, eM]
    generalize 1 + dC * e.x * f.x * e.y * f.y = A
    generalize 1 - dC * e.x * f.x * e.y * f.y = B
    generalize p.z * q.z = z
    grobner
  · show (p.y * q.y + p.x * q.x) * (p.z * q.z + dC * (p.t * q.t)) = (e.add goodP f).y * ((p.z * q.z + dC * (p.t * q.t)) * (p.z * q.z - dC * (p.t * q.t)))
    rw [eY, eQ, eM]
    generalize 1 + dC * e.x * f.x * e.y * f.y = A
    generalize 1 - dC * e.x * f.x * e.y * f.y = B
    generalize p.z * q.z = z
    grobner
  · show (p.x * q.y + q.x * p.y) * (p.y * q.y + p.x * q.x) = (e.add goodP f).x * (e.add goodP f).y * ((p.z * q.z + dC * (p.t * q.t)) * (p.z * q.z - dC * (p.t * q.t)))
    rw [eX, eY, eQ, eM]
    generalize 1 + dC * e.x * f.x * e.y * f.y = A
    generalize 1 - dC * e.x * f.x * e.y * f.y = B
    generalize p.z * q.z = z
    grobner
theorem rp_mul {p : P4} {e : EP} (hp : Rp p e) (l : List Int) (hl : l.length = 32) (hd : Digs 256 l) : ∀ m, m ≤ 256 → Rp (mulF l p (256 - m)) (e.times (expo l / 2 ^ (256 - m))) := by
  intro m
  induction m with
  | zero =>
    intro _
    rw [Nat.sub_zero, mulF_top, expo_top l hl hd]
    exact rp_zero
  | succ m ih =>
    intro hm
    have i1 := ih (by omega)
    have hj : 256 - m = 256 - (m + 1) + 1 := by omega
    rw [hj] at i1
    have hlt : 256 - (m + 1) < 256 := by omega
    generalize 256 - (m + 1) = j at *
    have hb := expo_bit l hd j
    have hn : expo l / 2 ^ (j + 1) = expo l / 2 ^ j / 2 := by rw [Nat.pow_succ, Nat.div_div_eq_div_mul]
    rw [mulF_step l p j hlt]
    generalize mulF l p (j + 1) = t at *
    generalize expo l / 2 ^ (j + 1) = n at *
    generalize expo l / 2 ^ j = N at *
    have h2 := rp_tog i1 i1
    have e2 : (e.times n).plus (e.times n) = e.times (2 * n) := by
      unfold EP.times EP.plus
      rw [Nat.two_mul, Ed.mul_add]
    rw [e2] at h2
    cases hkb : kb l j with
    | false =>
      have hN : N = 2 * n := by
        unfold kb at hkb
        have h3 : ¬ bitAt l j = 1 := of_decide_eq_false hkb
        rw [← hb] at h3
        omega
      rw [hN]
      exact h2
    | true =>
      have hN : N = 2 * n + 1 := by
        unfold kb at hkb
        have h3 : bitAt l j = 1 := of_decide_eq_true hkb
        rw [← hb] at h3
        omega
      rw [hN]
      exact rp_tog h2 hp
theorem rp_mul0 {p : P4} {e : EP} (hp : Rp p e) (l : List Int) (hl : l.length = 32) (hd : Digs 256 l) : Rp (mulF l p 0) (e.times (expo l)) := by
  have h := rp_mul hp l hl hd 256 (by omega)
  rw [Nat.sub_self, Nat.pow_zero, Nat.div_one] at h
  exact h
theorem rp_neg {p : P4} {e : EP} (hp : Rp p e) : Rp ⟨-p.x, p.y, p.z, -p.t⟩ e.back := by
  obtain ⟨pz, px, py, pt⟩ := hp
  refine ⟨pz, ?_, py, ?_⟩
  · show -p.x = -e.x * p.z
    rw [px]; grobner
  · show -p.t = -e.x * e.y * p.z
    rw [pt]; grobner
theorem rp_of {x y : Fp} {e : EP} (hx : e.x = x) (hy : e.y = y) : Rp ⟨x, y, fv 1, x * y⟩ e := by
  subst hx hy
  refine ⟨by show fv 1 ≠ 0; rw [fv_one]; exact one_ne_zero', ?_, ?_, ?_⟩
  · show e.x = e.x * fv 1
    rw [fv_one]; grobner
  · show e.y = e.y * fv 1
    rw [fv_one]; grobner
  · show e.x * e.y = e.x * e.y * fv 1
    rw [fv_one]; grobner
/-- Are two points the same? -/
noncomputable def edEq (e f : EP) : Bool := @decide (e = f) (Classical.propDecidable _)
theorem edEq_t {e f : EP} (h : e = f) : edEq e f = true := @decide_eq_true _ (Classical.propDecidable _) h
theorem edEq_f {e f : EP} (h : e ≠ f) : edEq e f = false := @decide_eq_false _ (Classical.propDecidable _) h
theorem edEq_iff {e f : EP} : edEq e f = true ↔ e = f := ⟨@of_decide_eq_true _ (Classical.propDecidable _), edEq_t⟩
theorem rp_eq {p q : P4} {e f : EP} (hp : Rp p e) (hq : Rp q f) : (decide (p.x * q.z = q.x * p.z) && decide (p.y * q.z = q.y * p.z)) = edEq e f := by
  obtain ⟨pz, px, py, pt⟩ := hp
  obtain ⟨qz, qx, qy, qt⟩ := hq
  have hz := fmul_ne pz qz
  by_cases h : e = f
  · subst h
    rw [edEq_t rfl, decide_eq_true (by rw [px, qx]; grobner), decide_eq_true (by rw [py, qy]; grobner)]
    rfl
  · rw [edEq_f h]
    by_cases h1 : p.x * q.z = q.x * p.z
    · by_cases h2 : p.y * q.z = q.y * p.z
      · exfalso
        apply h
        rw [px, qx] at h1
        rw [py, qy] at h2
        exact Ed.ext' (fcancel hz (by grobner)) (fcancel hz (by grobner))
      · rw [decide_eq_false h2, Bool.and_false]
    · rw [decide_eq_false h1, Bool.false_and]
/-- A point's bytes. -/
def encL (x y : Fp) : List Int := if x.val % 2 = 1 then (keyOf y).set 31 ((keyOf y).getD 31 0 + 128) else keyOf y
noncomputable def encP (e : EP) : List Int := encL e.x e.y
theorem keyOf_last (v : Fp) : 0 ≤ (keyOf v).getD 31 0 ∧ (keyOf v).getD 31 0 < 128 := by
  have hv : v.val < 57896044618658097711785492504343953926634992332820282019728792003956564819949 := v.isLt
  have hd := (keyOf_digs v).get (B := 256) (by omega) 31
  refine ⟨hd.1, ?_⟩
  have e : (keyOf v).getD 31 0 = (v.val : Int) / 256 ^ 31 % 256 := digits_getD (by omega) 32 31 _ (by omega)
  rw [e, show (256 : Int) ^ 31 = 452312848583266388373324160190187140051835877600158453279131187530910662656 by decide]
  omega
theorem encL_length (x y : Fp) : (encL x y).length = 32 := by
  unfold encL
  split
  · rw [List.length_set]; exact keyOf_length y
  · exact keyOf_length y
theorem encL_digs (x y : Fp) : Digs 256 (encL x y) := by
  have h := keyOf_last y
  unfold encL
  split
  · exact digs_set (keyOf_digs y) 31 _ (by omega) (by omega)
  · exact keyOf_digs y
theorem encP_length (e : EP) : (encP e).length = 32 := encL_length _ _
theorem encP_digs (e : EP) : Digs 256 (encP e) := encL_digs _ _
/-- The bytes without the highest bit. -/
def lowK (k : List Int) : List Int := k.set 31 (k.getD 31 0 % 128)
theorem set_getD {l : List Int} {i : Nat} (h : i < l.length) : l.set i (l.getD i 0) = l := by
  apply List.ext_getElem?
  intro j
  rw [List.getElem?_set]
  by_cases e : i = j
  · subst e; simp [h, List.getD_eq_getElem?_getD]
  · simp [e]
theorem getD_set_self {l : List Int} {i : Nat} (h : i < l.length) (x : Int) : (l.set i x).getD i 0 = x := by
  simp [List.getD_eq_getElem?_getD, h]
theorem lowK_encL (x y : Fp) : lowK (encL x y) = keyOf y := by
  have h := keyOf_last y
  have hl : 31 < (keyOf y).length := by rw [keyOf_length]; omega
  unfold lowK encL
  split
  · rw [getD_set_self hl, List.set_set, show ((keyOf y).getD 31 0 + 128) % 128 = (keyOf y).getD 31 0 by omega, set_getD hl]
  · rw [show ((keyOf y).getD 31 0) % 128 = (keyOf y).getD 31 0 by omega, set_getD hl]
theorem high_encL (x y : Fp) : decide (128 ≤ (encL x y).getD 31 0) = decide (x.val % 2 = 1) := by
  have h := keyOf_last y
  have hl : 31 < (keyOf y).length := by rw [keyOf_length]; omega
  rw [decide_eq_decide]
  unfold encL
  split
  · rw [getD_set_self hl]; omega
  · omega
theorem neg_val {x : Fp} (h : x ≠ 0) : (-x).val = PN - x.val := by
  have hx : x.val ≠ 0 := fun e => h (Fin.ext e)
  have h2 := x.isLt
  rw [Fin.neg_def]
  show (PN - x.val) % PN = _
  exact Nat.mod_eq_of_lt (by omega)
theorem pn_odd : PN % 2 = 1 := by decide +kernel
theorem neg_odd {x : Fp} (h : x ≠ 0) : ((-x).val % 2 = 1) ↔ ¬ (x.val % 2 = 1) := by
  rw [neg_val h]
  have := pn_odd
  have h2 := x.isLt
  omega
theorem sq_eq {x y : Fp} (h : x * x = y * y) : x = y ∨ x = -y := by
  have h1 : (x - y) * (x + y) = 0 := by grobner
  rcases fmul_zero h1 with h2 | h2
  · left; grobner
  · right; grobner
/-- x is determined by y, but for its sign. -/
theorem ep_sq (e f : EP) (h : e.y = f.y) : e.x * e.x = f.x * f.x := by
  have o1 := e.on
  have o2 := f.on
  rw [h] at o1
  have hne : 1 + dC * f.y * f.y ≠ 0 := fun e0 => by
    by_cases hy : f.y = 0
    · rw [hy] at e0
      exact one_ne_zero' (by rw [← e0]; grobner)
    · obtain ⟨s, hs⟩ := goodP.sq
      refine goodP.non ⟨s * finv f.y, ?_⟩
      have hi := finv_mul hy
      generalize finv f.y = i at *
      clear o1 o2 h
      grobner
  apply fcancel hne
  grobner
theorem encP_inj {e f : EP} (h : encP e = encP f) : e = f := by
  have hy : e.y = f.y := by
    have h1 := lowK_encL e.x e.y
    have h2 := lowK_encL f.x f.y
    unfold encP at h
    rw [h, h2] at h1
    exact (keyOf_inj h1).symm
  have hp : decide (e.x.val % 2 = 1) = decide (f.x.val % 2 = 1) := by
    have h1 := high_encL e.x e.y
    have h2 := high_encL f.x f.y
    unfold encP at h
    rw [h, h2] at h1
    exact h1.symm
  rw [decide_eq_decide] at hp
  refine Ed.ext' ?_ hy
  rcases sq_eq (ep_sq e f hy) with h1 | h1
  · exact h1
  · by_cases h0 : f.x = 0
    · rw [h1, h0]; grobner
    · exfalso
      have := neg_odd h0
      rw [h1] at hp
      rw [hp] at this
      by_cases hq : f.x.val % 2 = 1
      · exact (this.1 hq) hq
      · exact hq (this.2 hq)
end Go.Proofs.YtdpafemcpbhlfaaDoor
namespace Go.Proofs.YtdpafemcpbhlfaaDoor
set_option maxRecDepth 100000
open Go.RowKit

theorem encL_t {x y : Fp} (h : x.val % 2 = 1) : encL x y = (keyOf y).set 31 (bits .or .u8 ((keyOf y).getD 31 0) 128) := by
  unfold encL
  rw [if_pos h, or128 _ (keyOf_last y)]
theorem encL_f {x y : Fp} (h : ¬ x.val % 2 = 1) : encL x y = keyOf y := by
  unfold encL
  rw [if_neg h]
/-- Is there a root of u / v? -/
noncomputable def rootO (u v : Fp) : Bool := @decide (∃ z : Fp, z * z * v = u) (Classical.propDecidable _)
theorem rootO_t {u v : Fp} (h : ∃ z : Fp, z * z * v = u) : rootO u v = true := @decide_eq_true _ (Classical.propDecidable _) h
theorem rootO_f {u v : Fp} (h : ¬ ∃ z : Fp, z * z * v = u) : rootO u v = false := @decide_eq_false _ (Classical.propDecidable _) h
theorem rootO_iff {u v : Fp} : rootO u v = true ↔ ∃ z : Fp, z * z * v = u := ⟨@of_decide_eq_true _ (Classical.propDecidable _), rootO_t⟩
theorem root_ex (u v : Fp) : ∃ x : Fp, ((∃ z : Fp, z * z * v = u ∧ z.val % 2 ≠ 1) → x * x * v = u ∧ x.val % 2 ≠ 1) ∧ (¬ (∃ z : Fp, z * z * v = u ∧ z.val % 2 ≠ 1) → x = 0) := by
  by_cases h : ∃ z : Fp, z * z * v = u ∧ z.val % 2 ≠ 1
  · obtain ⟨z, hz⟩ := h
    exact ⟨z, fun _ => hz, fun g => absurd ⟨z, hz⟩ g⟩
  · exact ⟨0, fun g => absurd g h, fun _ => rfl⟩
/-- The even root; nought, if there is none. -/
noncomputable def rootF (u v : Fp) : Fp := Classical.choose (root_ex u v)
theorem even_unique {x y v : Fp} (hv : v ≠ 0) (h : x * x * v = y * y * v) (hx : x.val % 2 ≠ 1) (hy : y.val % 2 ≠ 1) : x = y := by
  rcases sq_eq (fcancel hv h) with h1 | h1
  · exact h1
  · by_cases h0 : y = 0
    · rw [h1, h0]; grobner
    · exfalso
      have := neg_odd h0
      rw [← h1] at this
      exact hx (this.2 hy)
theorem rootF_eq {u v z : Fp} (hv : v ≠ 0) (h : z * z * v = u) (hz : z.val % 2 ≠ 1) : rootF u v = z := by
  have h1 := (Classical.choose_spec (root_ex u v)).1 ⟨z, h, hz⟩
  exact even_unique hv (h1.1.trans h.symm) h1.2 hz
theorem rootF_none {u v : Fp} (h : ¬ ∃ z : Fp, z * z * v = u) : rootF u v = 0 :=
  (Classical.choose_spec (root_ex u v)).2 fun ⟨z, hz, _⟩ => h ⟨z, hz⟩
theorem rootF_some {u v : Fp} (h : ∃ z : Fp, z * z * v = u) : rootF u v * rootF u v * v = u ∧ (rootF u v).val % 2 ≠ 1 := by
  obtain ⟨z, hz⟩ := h
  refine (Classical.choose_spec (root_ex u v)).1 ?_
  by_cases he : z.val % 2 = 1
  · have h0 : z ≠ 0 := fun e => by rw [e] at he; revert he; decide
    refine ⟨-z, by rw [← hz]; grobner, fun g => (neg_odd h0).1 g he⟩
  · exact ⟨z, hz, he⟩
theorem sq_euler {t : Int} {z : Fp} (h : z * z = fv t) : eulerB t = true := by
  have h1 : Cong t ((z.val : Int) * z.val) := by
    rw [← fv_cong, fv_mul, val_fv]
    exact h.symm
  have h2 := h1.pow (pp / 2).toNat
  have h3 : ((z.val : Int) * z.val) ^ (pp / 2).toNat = (z.val : Int) ^ ((pp / 2).toNat * 2) := by
    rw [Nat.mul_comm, Int.pow_mul]
    congr 1
    rw [Int.pow_succ, Int.pow_succ, Int.pow_zero, Int.one_mul]
  rw [h3] at h2
  unfold eulerB
  by_cases hz : (z.val : Int) % pp = 0
  · have h7 : Cong ((z.val : Int) ^ ((pp / 2).toNat * 2)) 0 := by
      have h8 := ((cong_zero_iff _).2 hz).pow ((pp / 2).toNat * 2)
      rw [Int.zero_pow (by decide +kernel)] at h8
      exact h8
    rw [decide_eq_true ((cong_zero_iff _).1 (h2.trans h7)), Bool.true_or]
  · have h7 := (cong_iff _ _).1 (h2.trans (cong_full hz e2))
    rw [show (1 : Int) % pp = 1 by decide +kernel] at h7
    rw [decide_eq_true h7, Bool.or_true]
theorem rootB_fv {m n : Int} (hn : fv n ≠ 0) : rootB m n = rootO (fv m) (fv n) ∧ fv (rootV m n) = rootF (fv m) (fv n) := by
  have hn' : n % pp ≠ 0 := fun e => hn ((fv_eq_zero n).2 e)
  cases hb : rootB m n with
  | true =>
    have h1 := (rootV_root m n hb).fv
    rw [fv_mul, fv_mul] at h1
    refine ⟨(rootO_t ⟨_, h1⟩).symm, (rootF_eq hn h1 ?_).symm⟩
    have h2 := rootV_even m n
    have h3 := fv_val (rootV m n)
    omega
  | false =>
    have h1 : ¬ ∃ z : Fp, z * z * fv n = fv m := by
      rintro ⟨z, hz⟩
      rw [rootB_euler m n hn'] at hb
      have h2 : z * z = fv (m * n ^ expInv) := by
        rw [fv_mul, fv_inv, ← hz]
        have hi := finv_mul hn
        generalize finv (fv n) = i at *
        grobner
      rw [sq_euler h2] at hb
      cases hb
    rw [rootO_f h1, rootF_none h1, rootV_none m n hb, fv_zero]
    exact ⟨rfl, rfl⟩
theorem RetCV.bool {c : Nat} {R : Fp → Array Value → Prop} {vs : List Fp} {b t : Bool} {w w' : World} {e : Ending} (h : RetCV c R vs (.bool b) w e w') (hb : b = t) : RetCV c R vs (.bool t) w e w' := hb ▸ h
theorem rootE {x y : Fp} {a b : Array Value} (w : World) (hT : Tw w) (ha : Ch 5 RE [x] a) (hb : Ch 5 RE [y] b) (hne : y ≠ 0) : Calls Tryd.prog 93 #[.agg a, .agg b] w (RetCV 5 RE [rootF x y] (.bool (rootO x y)) w) := by
  obtain ⟨a0, a1, a2, a3, a4, m, rfl, hm, rfl⟩ := ha.get
  obtain ⟨b0, b1, b2, b3, b4, n, rfl, hn, rfl⟩ := hb.get
  obtain ⟨h1, h2⟩ := rootB_fv (m := m) hne
  rw [← h1, ← h2]
  refine (root_any _ _ _ _ _ _ _ _ _ _ m n w hT hm hn).mono fun _ _ h => ?_
  obtain ⟨r0, r1, r2, r3, r4, hF, rfl, hu⟩ := h
  exact ⟨_, rfl, Ch.elem hF rfl, hu⟩
theorem den_y (y : Fp) : dC * (y * y) + fv 1 ≠ 0 := fun e0 => by
  rw [fv_one] at e0
  by_cases hy : y = 0
  · rw [hy] at e0
    exact one_ne_zero' (by rw [← e0]; grobner)
  · obtain ⟨s, hs⟩ := goodP.sq
    refine goodP.non ⟨s * finv y, ?_⟩
    have hi := finv_mul hy
    generalize finv y = i at *
    grobner
/-- What lies on the curve. -/
theorem on_iff (x y : Fp) : (-1 * x * x + y * y = 1 + dC * x * x * y * y) ↔ x * x * (dC * (y * y) + fv 1) = y * y - fv 1 := by
  rw [fv_one]
  constructor
  · intro h; grobner
  · intro h; grobner
noncomputable def xOf (y : Fp) : Fp := rootF (y * y - fv 1) (dC * (y * y) + fv 1)
noncomputable def isY (y : Fp) : Bool := rootO (y * y - fv 1) (dC * (y * y) + fv 1)
theorem canonB_iff (l : List Int) : canonB l = true ↔ keyOf (ofKey l) = l := by
  have e : keyOf (ofKey l) = digits 256 32 (keyNum l % pp) := by
    unfold keyOf ofKey
    rw [fv_val]
  rw [e]
  unfold canonB
  exact ⟨of_decide_eq_true, decide_eq_true⟩
/-- A point of these bytes: canonical, with a root, and odd only where x isn't nought. -/
theorem dec_yes {k : List Int} (hk : k.length = 32) (hd : Digs 256 k) (hc : canonB (lowK k) = true) (hr : isY (ofKey (lowK k)) = true) (ho : ¬ (128 ≤ k.getD 31 0 ∧ xOf (ofKey (lowK k)) = 0)) :
    ∃ e : EP, encP e = k ∧ e.y = ofKey (lowK k) ∧ e.x = if 128 ≤ k.getD 31 0 then -xOf (ofKey (lowK k)) else xOf (ofKey (lowK k)) := by
  obtain ⟨h1, h2⟩ := rootF_some (rootO_iff.1 hr)
  have h1' : xOf (ofKey (lowK k)) * xOf (ofKey (lowK k)) * (dC * (ofKey (lowK k) * ofKey (lowK k)) + fv 1) = ofKey (lowK k) * ofKey (lowK k) - fv 1 := h1
  have h2' : (xOf (ofKey (lowK k))).val % 2 ≠ 1 := h2
  have hkey := (canonB_iff _).1 hc
  have hb := hd.get (B := 256) (by omega) 31
  have hlow : (lowK k).getD 31 0 = k.getD 31 0 % 128 := getD_set_self (by omega) _
  have hll : 31 < k.length := by omega
  generalize hX : xOf (ofKey (lowK k)) = X at *
  generalize hY : ofKey (lowK k) = Y at *
  by_cases h128 : 128 ≤ k.getD 31 0
  · have hX0 : X ≠ 0 := fun e => ho ⟨h128, e⟩
    refine ⟨⟨-X, Y, (on_iff _ _).2 (by rw [← h1']; grobner)⟩, ?_, rfl, by rw [if_pos h128]⟩
    show encL (-X) Y = k
    unfold encL
    rw [if_pos ((neg_odd hX0).2 h2'), hkey, hlow, show k.getD 31 0 % 128 + 128 = k.getD 31 0 by omega]
    unfold lowK
    rw [List.set_set, set_getD hll]
  · refine ⟨⟨X, Y, (on_iff _ _).2 h1'⟩, ?_, rfl, by rw [if_neg h128]⟩
    show encL X Y = k
    unfold encL
    rw [if_neg h2', hkey]
    unfold lowK
    rw [show k.getD 31 0 % 128 = k.getD 31 0 by omega, set_getD hll]
theorem dec_no {k : List Int} (h : ¬ (canonB (lowK k) = true ∧ isY (ofKey (lowK k)) = true ∧ ¬ (128 ≤ k.getD 31 0 ∧ xOf (ofKey (lowK k)) = 0))) (e : EP) : encP e ≠ k := fun he => by
  subst he
  apply h
  have hl : lowK (encP e) = keyOf e.y := lowK_encL _ _
  rw [hl, ofKey_keyOf]
  have hroot : e.x * e.x * (dC * (e.y * e.y) + fv 1) = e.y * e.y - fv 1 := (on_iff _ _).1 e.on
  refine ⟨(canonB_iff _).2 (by rw [ofKey_keyOf]), rootO_t ⟨e.x, hroot⟩, fun ⟨h1, h2⟩ => ?_⟩
  have h3 : decide (128 ≤ (encP e).getD 31 0) = decide (e.x.val % 2 = 1) := high_encL _ _
  rw [decide_eq_true h1] at h3
  have h4 : e.x.val % 2 = 1 := of_decide_eq_true h3.symm
  obtain ⟨h5, _⟩ := rootF_some ⟨e.x, hroot⟩
  have h6 : xOf e.y * xOf e.y * (dC * (e.y * e.y) + fv 1) = e.y * e.y - fv 1 := h5
  rw [h2] at h6
  have h7 : e.x * e.x * (dC * (e.y * e.y) + fv 1) = 0 := by rw [hroot, ← h6]; grobner
  have h8 : e.x = 0 := (fmul_zero h7).elim fsq_zero (fun g => absurd g (den_y _))
  rw [h8] at h4
  revert h4
  decide
end Go.Proofs.YtdpafemcpbhlfaaDoor
namespace Go.Proofs.YtdpafemcpbhlfaaDoor
set_option maxRecDepth 100000

abbrev xB : Fp := 15112221349535400772501151409588531511454012693041857206046113283949847762202
abbrev yB : Fp := 46316835694926478169428394003475163141307993866256225615783033603165251855960
/-- The base. -/
noncomputable def eB : EP := ⟨xB, yB, by
  rw [dC_fv]
  decide +kernel⟩
def togE (x1 y1 z1 t1 x2 y2 z2 t2 : Nat) (k : Nat → Nat → Nat → Nat → Nat) : Nat :=
  force (z1 * z2 % PN) fun o => force (dNat * (t1 * t2 % PN) % PN) fun b => force ((o + b) % PN) fun q => force ((PN - b + o) % PN) fun m =>
  force ((x1 * y2 % PN + x2 * y1 % PN) % PN) fun x => force ((y1 * y2 % PN + x1 * x2 % PN) % PN) fun y =>
  force (x * m % PN) fun X => force (y * q % PN) fun Y => force (q * m % PN) fun Z => force (x * y % PN) fun T => k X Y Z T
def mulE4 (x y z t : Nat) : List Bool → Nat → Nat → Nat → Nat → (Nat → Nat → Nat → Nat → Nat) → Nat
  | [], a, b, c, d, k => k a b c d
  | s :: bs, a, b, c, d, k => togE a b c d a b c d fun a b c d => bif s then togE a b c d x y z t fun a b c d => mulE4 x y z t bs a b c d k else mulE4 x y z t bs a b c d k
theorem dC_val : dC.val = dNat := by rw [dC_fv]; decide +kernel
theorem togE_eq (p q : P4) (k : Nat → Nat → Nat → Nat → Nat) : togE p.x.val p.y.val p.z.val p.t.val q.x.val q.y.val q.z.val q.t.val k = k (togF p q).x.val (togF p q).y.val (togF p q).z.val (togF p q).t.val := by
  unfold togE
  simp only [force_eq, togF, Fin.val_add, Fin.val_mul, Fin.sub_def, dC_val]
noncomputable def foldP (p : P4) : List Bool → P4 → P4
  | [], s => s
  | t :: bs, s => foldP p bs (if t then togF (togF s s) p else togF s s)
theorem mulE4_eq (p : P4) (k : Nat → Nat → Nat → Nat → Nat) : ∀ (bs : List Bool) (s : P4), mulE4 p.x.val p.y.val p.z.val p.t.val bs s.x.val s.y.val s.z.val s.t.val k = k (foldP p bs s).x.val (foldP p bs s).y.val (foldP p bs s).z.val (foldP p bs s).t.val
  | [], s => rfl
  | true :: bs, s => by
    show togE s.x.val s.y.val s.z.val s.t.val s.x.val s.y.val s.z.val s.t.val _ = _
    rw [togE_eq s s]
    show togE (togF s s).x.val (togF s s).y.val (togF s s).z.val (togF s s).t.val p.x.val p.y.val p.z.val p.t.val _ = _
    rw [togE_eq (togF s s) p]
    exact mulE4_eq p k bs (togF (togF s s) p)
  | false :: bs, s => by
    show togE s.x.val s.y.val s.z.val s.t.val s.x.val s.y.val s.z.val s.t.val _ = _
    rw [togE_eq s s]
    exact mulE4_eq p k bs (togF s s)
theorem foldP_eq (l : List Int) (p : P4) : ∀ k, k ≤ 256 → foldP p (bitsDown l k) (mulF l p k) = mulF l p 0
  | 0, _ => rfl
  | k + 1, h => by
    show foldP p (bitsDown l k) (if kb l k then togF (togF (mulF l p (k + 1)) (mulF l p (k + 1))) p else togF (mulF l p (k + 1)) (mulF l p (k + 1))) = _
    rw [← mulF_step l p k (by omega)]
    exact foldP_eq l p k (by omega)
/-- The order. -/
abbrev ordN : Nat := 7237005577332262213973186563042994240857116359379907606001950938285454250989
def ordL : List Int := digits 256 32 (ordN : Int)
theorem ordL_length : ordL.length = 32 := digits_length _ _ _
theorem ordL_digs : Digs 256 ordL := digits_digs (by omega) _ _
theorem expo_ordL : expo ordL = ordN := by decide +kernel
def baseF : P4 := ⟨xB, yB, fv 1, xB * yB⟩
theorem rp_base : Rp baseF eB := rp_of rfl rfl
set_option maxRecDepth 100000 in
theorem order_base : eB.times ordN = EP.nil := by
  have h := rp_mul0 rp_base ordL ordL_length ordL_digs
  rw [expo_ordL] at h
  have hx : (mulF ordL baseF 0).x.val = 0 := by
    have h1 := mulE4_eq baseF (fun a _ _ _ => a) (bitsDown ordL 256) (mulF ordL baseF 256)
    rw [foldP_eq ordL baseF 256 (by omega), mulF_top] at h1
    rw [← h1]
    decide +kernel
  have hy : (mulF ordL baseF 0).y.val = (mulF ordL baseF 0).z.val := by
    have h1 := mulE4_eq baseF (fun _ a b _ => bif Nat.beq a b then 1 else 0) (bitsDown ordL 256) (mulF ordL baseF 256)
    rw [foldP_eq ordL baseF 256 (by omega), mulF_top] at h1
    have h2 : (1 : Nat) = (bif Nat.beq (mulF ordL baseF 0).y.val (mulF ordL baseF 0).z.val then 1 else 0) := by
      rw [← h1]
      decide +kernel
    cases hb : Nat.beq (mulF ordL baseF 0).y.val (mulF ordL baseF 0).z.val with
    | true => exact Nat.eq_of_beq_eq_true hb
    | false => rw [hb] at h2; cases h2
  have hx' : (mulF ordL baseF 0).x = 0 := Fin.ext hx
  have hy' : (mulF ordL baseF 0).y = (mulF ordL baseF 0).z := Fin.ext hy
  obtain ⟨hz, h1, h2, h3⟩ := h
  rw [hx'] at h1
  rw [hy'] at h2
  apply Ed.ext'
  · exact (fmul_zero h1.symm).elim id (fun e => absurd e hz)
  · show (eB.times ordN).y = 1
    exact fcancel hz (by rw [← h2]; grobner)
theorem times_nil (n : Nat) : EP.nil.times n = EP.nil := Ed.zero_mul goodP n
theorem times_times (e : EP) (m n : Nat) : (e.times m).times n = e.times (m * n) := (Ed.mul_mul goodP e m n).symm
theorem times_add (e : EP) (m n : Nat) : e.times (m + n) = (e.times m).plus (e.times n) := Ed.mul_add goodP e m n
theorem times_mod (e : EP) (l : Nat) (h : e.times l = EP.nil) (n : Nat) : e.times (n % l) = e.times n := Ed.mul_mod goodP e l h n
theorem times_one (e : EP) : e.times 1 = e := Ed.mul_one goodP e
theorem times_succ (e : EP) (n : Nat) : e.times (n + 1) = (e.times n).plus e := rfl
theorem plus_times (e f : EP) (n : Nat) : (e.plus f).times n = (e.times n).plus (f.times n) := Ed.add_mul goodP e f n
theorem plus_comm (e f : EP) : e.plus f = f.plus e := Ed.add_comm goodP e f
theorem plus_assoc (e f g : EP) : (e.plus f).plus g = e.plus (f.plus g) := Ed.add_assoc goodP e f g
theorem plus_nil (e : EP) : e.plus EP.nil = e := Ed.add_zero goodP e
theorem nil_plus (e : EP) : EP.nil.plus e = e := Ed.zero_add goodP e
theorem plus_back (e : EP) : e.plus e.back = EP.nil := Ed.add_neg goodP e
/-- The base isn't tiny. -/
theorem base_eight : eB.times 8 ≠ EP.nil := fun h => by
  have h5 : eB.times 5 = EP.nil := by rw [show 5 = ordN % 8 by decide +kernel, times_mod _ _ h, order_base]
  have h3 : eB.times 3 = EP.nil := by rw [show 3 = 8 % 5 from rfl, times_mod _ _ h5, h]
  have h2 : eB.times 2 = EP.nil := by rw [show 2 = 5 % 3 from rfl, times_mod _ _ h3, h5]
  have h1 : eB.times 1 = EP.nil := by rw [show 1 = 3 % 2 from rfl, times_mod _ _ h2, h3]
  rw [times_one] at h1
  have hx : eB.x = 0 := by rw [h1]; rfl
  have : xB = 0 := hx
  revert this
  decide +kernel
end Go.Proofs.YtdpafemcpbhlfaaDoor
