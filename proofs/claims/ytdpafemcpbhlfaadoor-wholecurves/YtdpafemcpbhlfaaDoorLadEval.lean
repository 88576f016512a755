/-
  Twisted Edwards curves: the law is complete, and makes a group. No program.
-/
/-
  What ladder reckons, as functions of the field's elements. No program.
-/
/-
  The ladder climbs the group: what it holds are two points n P and (n + 1) P. No program.
-/
/-
  The ladder's answer is the first coordinate of so many times a point, at every u. No program.
-/
/-
  The ladder, reckoned by the kernel; what clamped keys are; keys and numbers. No program.
-/
import Derived.Test.YtdpafemcpbhlfaaDoorSh
import Derived.Test.YtdpafemcpbhlfaaDoorClamp
namespace Go.Proofs.YtdpafemcpbhlfaaDoor
set_option maxRecDepth 100000

/-- What makes the law of a twisted Edwards curve complete: a is a square and not nought, d is none. -/
structure Good (a d : Fp) : Prop where
  sq : Sq a
  ne : a ≠ 0
  non : ¬ Sq d
/-- A point of the curve a x^2 + y^2 = 1 + d x^2 y^2. -/
structure Ed (a d : Fp) where
  x : Fp
  y : Fp
  on : a * x * x + y * y = 1 + d * x * x * y * y
theorem Ed.ext' {a d : Fp} {p q : Ed a d} (hx : p.x = q.x) (hy : p.y = q.y) : p = q := by
  cases p; cases q; cases hx; cases hy; rfl
theorem complete_key {a d x1 y1 x2 y2 e s : Fp} (h1 : a * x1 * x1 + y1 * y1 = 1 + d * x1 * x1 * y1 * y1) (h2 : a * x2 * x2 + y2 * y2 = 1 + d * x2 * x2 * y2 * y2) (he : e = d * x1 * x2 * y1 * y2) (hee : e * e = 1) (hs : s * s = a) :
    d * (x1 * y1 * (s * x2 + y2)) * (x1 * y1 * (s * x2 + y2)) = (s * x1 + e * y1) * (s * x1 + e * y1) := by
  have k1 : (s * x2 + y2) * (s * x2 + y2) = 1 + d * x2 * x2 * y2 * y2 + 2 * s * x2 * y2 := by
    have : (s * x2 + y2) * (s * x2 + y2) = s * s * x2 * x2 + y2 * y2 + 2 * s * x2 * y2 := by grobner
    rw [this, hs, h2]
  have k2 : d * (x1 * y1 * (s * x2 + y2)) * (x1 * y1 * (s * x2 + y2)) = d * x1 * x1 * y1 * y1 * ((s * x2 + y2) * (s * x2 + y2)) := by
    clear h1 h2 he hee hs k1
    grobner
  have k3 : d * x1 * x1 * y1 * y1 * (1 + d * x2 * x2 * y2 * y2 + 2 * s * x2 * y2) = d * x1 * x1 * y1 * y1 + e * e + 2 * s * e * x1 * y1 := by
    rw [he]
    clear h1 h2 he hee hs k1 k2
    grobner
  have k4 : (s * x1 + e * y1) * (s * x1 + e * y1) = s * s * x1 * x1 + e * e * y1 * y1 + 2 * s * e * x1 * y1 := by
    clear h1 h2 he hee hs k1 k2 k3
    grobner
  rw [k2, k1, k3, k4, hs, hee]
  clear k1 k2 k3 k4 h2 he hee hs
  grobner
/-- What the coordinates are divided by is never nought. -/
theorem complete {a d : Fp} (G : Good a d) {x1 y1 x2 y2 e : Fp} (h1 : a * x1 * x1 + y1 * y1 = 1 + d * x1 * x1 * y1 * y1) (h2 : a * x2 * x2 + y2 * y2 = 1 + d * x2 * x2 * y2 * y2) (he : e = d * x1 * x2 * y1 * y2) : e * e ≠ 1 := by
  intro hee
  obtain ⟨s, hs⟩ := G.sq
  have hs0 : s ≠ 0 := fun h => G.ne (by rw [← hs, h]; grobner)
  have he0 : e ≠ 0 := fun h => one_ne_zero' (by rw [← hee, h]; grobner)
  have hx1 : x1 ≠ 0 := fun h => he0 (by rw [he, h]; grobner)
  have hx2 : x2 ≠ 0 := fun h => he0 (by rw [he, h]; grobner)
  have hy1 : y1 ≠ 0 := fun h => he0 (by rw [he, h]; grobner)
  have hxy := fmul_ne hx1 hy1
  have key : ∀ s : Fp, s * s = a → s * x2 + y2 = 0 := by
    intro s hs
    apply Classical.byContradiction
    intro hne
    have hm := fmul_ne hxy hne
    have hi := finv_mul hm
    refine G.non ⟨(s * x1 + e * y1) * finv (x1 * y1 * (s * x2 + y2)), ?_⟩
    have hk := complete_key h1 h2 he hee hs
    generalize finv (x1 * y1 * (s * x2 + y2)) = i at *
    generalize x1 * y1 * (s * x2 + y2) = z at *
    generalize s * x1 + e * y1 = t at *
    clear h1 h2 he
    grobner
  have k1 := key s hs
  have k2 := key (-s) (by grobner)
  have k3 : 2 * (s * x2) = 0 := by grobner
  rcases fmul_zero k3 with h | h
  · exact two_ne h
  · exact fmul_ne hs0 hx2 h
theorem den_ne {a d : Fp} (G : Good a d) {x1 y1 x2 y2 : Fp} (h1 : a * x1 * x1 + y1 * y1 = 1 + d * x1 * x1 * y1 * y1) (h2 : a * x2 * x2 + y2 * y2 = 1 + d * x2 * x2 * y2 * y2) :
    1 + d * x1 * x2 * y1 * y2 ≠ 0 ∧ 1 - d * x1 * x2 * y1 * y2 ≠ 0 := by
  constructor
  · intro h
    exact complete G h1 h2 rfl (by grobner)
  · intro h
    exact complete G h1 h2 rfl (by grobner)
/-- Two points together. -/
def Ed.add {a d : Fp} (G : Good a d) (p q : Ed a d) : Ed a d where
  x := (p.x * q.y + q.x * p.y) * finv (1 + d * p.x * q.x * p.y * q.y)
  y := (p.y * q.y - a * p.x * q.x) * finv (1 - d * p.x * q.x * p.y * q.y)
  on := by
    obtain ⟨hn1, hn2⟩ := den_ne G p.on q.on
    have i1 := finv_mul hn1
    have i2 := finv_mul hn2
    have h1 := p.on
    have h2 := q.on
    generalize p.x = x1 at *
    generalize p.y = y1 at *
    generalize q.x = x2 at *
    generalize q.y = y2 at *
    have key : a * (x1 * y2 + x2 * y1) * (x1 * y2 + x2 * y1) * ((1 - d * x1 * x2 * y1 * y2) * (1 - d * x1 * x2 * y1 * y2)) + (y1 * y2 - a * x1 * x2) * (y1 * y2 - a * x1 * x2) * ((1 + d * x1 * x2 * y1 * y2) * (1 + d * x1 * x2 * y1 * y2)) =
        (1 - d * x1 * x2 * y1 * y2) * (1 - d * x1 * x2 * y1 * y2) * ((1 + d * x1 * x2 * y1 * y2) * (1 + d * x1 * x2 * y1 * y2)) + d * (x1 * y2 + x2 * y1) * (x1 * y2 + x2 * y1) * ((y1 * y2 - a * x1 * x2) * (y1 * y2 - a * x1 * x2)) := by
      clear i1 i2 hn1 hn2
      grobner
    clear h1 h2 hn1 hn2
    generalize finv (1 + d * x1 * x2 * y1 * y2) = j1 at *
    generalize finv (1 - d * x1 * x2 * y1 * y2) = j2 at *
    generalize 1 + d * x1 * x2 * y1 * y2 = e1 at *
    generalize 1 - d * x1 * x2 * y1 * y2 = e2 at *
    generalize x1 * y2 + x2 * y1 = n1 at *
    generalize y1 * y2 - a * x1 * x2 = n2 at *
    have r1 : a * (n1 * j1) * (n1 * j1) * (e1 * e1 * (e2 * e2)) = a * n1 * n1 * (e2 * e2) := by grobner
    have r2 : (n2 * j2) * (n2 * j2) * (e1 * e1 * (e2 * e2)) = n2 * n2 * (e1 * e1) := by grobner
    have r3 : d * (n1 * j1) * (n1 * j1) * (n2 * j2) * (n2 * j2) * (e1 * e1 * (e2 * e2)) = d * n1 * n1 * (n2 * n2) := by grobner
    have r4 : e1 * e1 * (e2 * e2) ≠ 0 := fun h => one_ne_zero' (by
      have : (e1 * j1) * (e1 * j1) * ((e2 * j2) * (e2 * j2)) = 0 := by
        rw [show (e1 * j1) * (e1 * j1) * ((e2 * j2) * (e2 * j2)) = e1 * e1 * (e2 * e2) * (j1 * j1 * (j2 * j2)) by grobner, h]; grobner
      rw [i1, i2] at this
      rw [← this]; grobner)
    apply fcancel r4
    generalize (n1 * j1) = X at *
    generalize (n2 * j2) = Y at *
    generalize hQ : e1 * e1 * (e2 * e2) = Q at *
    rw [show (a * X * X + Y * Y) * Q = a * X * X * Q + Y * Y * Q by grobner, r1, r2, key]
    have : (1 + d * X * X * Y * Y) * Q = Q + d * X * X * Y * Y * Q := by grobner
    rw [this, r3, ← hQ]
    grobner
/-- What is a sum's coordinate: the one that times what it is divided by is right. -/
theorem Ed.add_x {a d : Fp} (G : Good a d) (p q : Ed a d) : (p.add G q).x * (1 + d * p.x * q.x * p.y * q.y) = p.x * q.y + q.x * p.y := by
  have h := finv_mul (den_ne G p.on q.on).1
  show (p.x * q.y + q.x * p.y) * finv (1 + d * p.x * q.x * p.y * q.y) * (1 + d * p.x * q.x * p.y * q.y) = _
  generalize finv (1 + d * p.x * q.x * p.y * q.y) = i at *
  generalize 1 + d * p.x * q.x * p.y * q.y = e at *
  grobner
theorem Ed.add_y {a d : Fp} (G : Good a d) (p q : Ed a d) : (p.add G q).y * (1 - d * p.x * q.x * p.y * q.y) = p.y * q.y - a * p.x * q.x := by
  have h := finv_mul (den_ne G p.on q.on).2
  show (p.y * q.y - a * p.x * q.x) * finv (1 - d * p.x * q.x * p.y * q.y) * (1 - d * p.x * q.x * p.y * q.y) = _
  generalize finv (1 - d * p.x * q.x * p.y * q.y) = i at *
  generalize 1 - d * p.x * q.x * p.y * q.y = e at *
  grobner
def Ed.zero (a d : Fp) : Ed a d := ⟨0, 1, by grobner⟩
def Ed.neg {a d : Fp} (p : Ed a d) : Ed a d := ⟨-p.x, p.y, by have h := p.on; grobner⟩
theorem Ed.add_comm {a d : Fp} (G : Good a d) (p q : Ed a d) : p.add G q = q.add G p := by
  apply Ed.ext'
  · show (p.x * q.y + q.x * p.y) * finv (1 + d * p.x * q.x * p.y * q.y) = (q.x * p.y + p.x * q.y) * finv (1 + d * q.x * p.x * q.y * p.y)
    rw [show 1 + d * p.x * q.x * p.y * q.y = 1 + d * q.x * p.x * q.y * p.y by grobner]
    grobner
  · show (p.y * q.y - a * p.x * q.x) * finv (1 - d * p.x * q.x * p.y * q.y) = (q.y * p.y - a * q.x * p.x) * finv (1 - d * q.x * p.x * q.y * p.y)
    rw [show 1 - d * p.x * q.x * p.y * q.y = 1 - d * q.x * p.x * q.y * p.y by grobner]
    grobner
theorem Ed.add_zero {a d : Fp} (G : Good a d) (p : Ed a d) : p.add G (Ed.zero a d) = p := by
  apply Ed.ext'
  · have h := Ed.add_x G p (Ed.zero a d)
    rw [show (Ed.zero a d).x = 0 from rfl, show (Ed.zero a d).y = 1 from rfl] at h
    grobner
  · have h := Ed.add_y G p (Ed.zero a d)
    rw [show (Ed.zero a d).x = 0 from rfl, show (Ed.zero a d).y = 1 from rfl] at h
    grobner
theorem Ed.zero_add {a d : Fp} (G : Good a d) (p : Ed a d) : (Ed.zero a d).add G p = p := by rw [Ed.add_comm, Ed.add_zero]
theorem Ed.add_neg {a d : Fp} (G : Good a d) (p : Ed a d) : p.add G p.neg = Ed.zero a d := by
  obtain ⟨hn1, hn2⟩ := den_ne G p.on p.neg.on
  have h := p.on
  apply Ed.ext'
  · apply fcancel hn1
    rw [Ed.add_x]
    show p.x * p.y + -p.x * p.y = 0 * _
    grobner
  · apply fcancel hn2
    rw [Ed.add_y]
    show p.y * p.y - a * p.x * -p.x = 1 * (1 - d * p.x * -p.x * p.y * p.y)
    grobner
set_option maxHeartbeats 4000000 in
theorem assocX (a d x1 y1 x2 y2 x3 y3 : Fp) (h1 : a*x1*x1 + y1*y1 = 1 + d*x1*x1*y1*y1) (h2 : a*x2*x2 + y2*y2 = 1 + d*x2*x2*y2*y2) (h3 : a*x3*x3 + y3*y3 = 1 + d*x3*x3*y3*y3) :
  ((x1*y2 + x2*y1)*(1 - d*x1*x2*y1*y2)*y3 + x3*(y1*y2 - a*x1*x2)*(1 + d*x1*x2*y1*y2)) * ((1 + d*x2*x3*y2*y3)*(1 - d*x2*x3*y2*y3) + d*x1*y1*(x2*y3 + x3*y2)*(y2*y3 - a*x2*x3)) =
  ((x2*y3 + x3*y2)*(1 - d*x2*x3*y2*y3)*y1 + x1*(y2*y3 - a*x2*x3)*(1 + d*x2*x3*y2*y3)) * ((1 + d*x1*x2*y1*y2)*(1 - d*x1*x2*y1*y2) + d*x3*y3*(x1*y2 + x2*y1)*(y1*y2 - a*x1*x2)) := by grobner
set_option maxHeartbeats 4000000 in
theorem assocY (a d x1 y1 x2 y2 x3 y3 : Fp) (h1 : a*x1*x1 + y1*y1 = 1 + d*x1*x1*y1*y1) (h2 : a*x2*x2 + y2*y2 = 1 + d*x2*x2*y2*y2) (h3 : a*x3*x3 + y3*y3 = 1 + d*x3*x3*y3*y3) :
  ((y1*y2 - a*x1*x2)*(1 + d*x1*x2*y1*y2)*y3 - a*x3*(x1*y2 + x2*y1)*(1 - d*x1*x2*y1*y2)) * ((1 + d*x2*x3*y2*y3)*(1 - d*x2*x3*y2*y3) - d*x1*y1*(x2*y3 + x3*y2)*(y2*y3 - a*x2*x3)) =
  ((y2*y3 - a*x2*x3)*(1 + d*x2*x3*y2*y3)*y1 - a*x1*(x2*y3 + x3*y2)*(1 - d*x2*x3*y2*y3)) * ((1 + d*x1*x2*y1*y2)*(1 - d*x1*x2*y1*y2) - d*x3*y3*(x1*y2 + x2*y1)*(y1*y2 - a*x1*x2)) := by grobner
/-- In any brackets. -/
theorem Ed.add_assoc {a d : Fp} (G : Good a d) (p q r : Ed a d) : (p.add G q).add G r = p.add G (q.add G r) := by
  have kx := assocX a d p.x p.y q.x q.y r.x r.y p.on q.on r.on
  have ky := assocY a d p.x p.y q.x q.y r.x r.y p.on q.on r.on
  obtain ⟨n1, n2⟩ := den_ne G p.on q.on
  obtain ⟨n3, n4⟩ := den_ne G q.on r.on
  obtain ⟨m1, m2⟩ := den_ne G (p.add G q).on r.on
  obtain ⟨m3, m4⟩ := den_ne G p.on (q.add G r).on
  have a1 := Ed.add_x G p q
  have a2 := Ed.add_y G p q
  have b1 := Ed.add_x G q r
  have b2 := Ed.add_y G q r
  have c1 := Ed.add_x G (p.add G q) r
  have c2 := Ed.add_y G (p.add G q) r
  have d1 := Ed.add_x G p (q.add G r)
  have d2 := Ed.add_y G p (q.add G r)
  generalize p.add G q = pq at *
  generalize q.add G r = qr at *
  have hN := fmul_ne (fmul_ne n1 n2) (fmul_ne n3 n4)
  generalize 1 + d * p.x * q.x * p.y * q.y = E at *
  generalize 1 - d * p.x * q.x * p.y * q.y = F at *
  generalize 1 + d * q.x * r.x * q.y * r.y = E' at *
  generalize 1 - d * q.x * r.x * q.y * r.y = F' at *
  apply Ed.ext'
  · apply fcancel (fmul_ne (fmul_ne m1 m3) hN)
    have e1 : (pq.add G r).x * ((1 + d * pq.x * r.x * pq.y * r.y) * (1 + d * p.x * qr.x * p.y * qr.y) * (E * F * (E' * F'))) = (pq.x * r.y + r.x * pq.y) * (1 + d * p.x * qr.x * p.y * qr.y) * (E * F * (E' * F')) := by rw [← c1]; grobner
    have e2 : (p.add G qr).x * ((1 + d * pq.x * r.x * pq.y * r.y) * (1 + d * p.x * qr.x * p.y * qr.y) * (E * F * (E' * F'))) = (p.x * qr.y + qr.x * p.y) * (1 + d * pq.x * r.x * pq.y * r.y) * (E * F * (E' * F')) := by rw [← d1]; grobner
    rw [e1, e2]
    rw [← a1, ← a2, ← b1, ← b2] at kx
    clear ky a1 a2 b1 b2 c1 c2 d1 d2 e1 e2
    grobner
  · apply fcancel (fmul_ne (fmul_ne m2 m4) hN)
    have e1 : (pq.add G r).y * ((1 - d * pq.x * r.x * pq.y * r.y) * (1 - d * p.x * qr.x * p.y * qr.y) * (E * F * (E' * F'))) = (pq.y * r.y - a * pq.x * r.x) * (1 - d * p.x * qr.x * p.y * qr.y) * (E * F * (E' * F')) := by rw [← c2]; grobner
    have e2 : (p.add G qr).y * ((1 - d * pq.x * r.x * pq.y * r.y) * (1 - d * p.x * qr.x * p.y * qr.y) * (E * F * (E' * F'))) = (p.y * qr.y - a * p.x * qr.x) * (1 - d * pq.x * r.x * pq.y * r.y) * (E * F * (E' * F')) := by rw [← d2]; grobner
    rw [e1, e2]
    rw [← a1, ← a2, ← b1, ← b2] at ky
    clear kx a1 a2 b1 b2 c1 c2 d1 d2 e1 e2
    grobner
/-- So many times a point. -/
def Ed.mul {a d : Fp} (G : Good a d) (p : Ed a d) : Nat → Ed a d
  | 0 => Ed.zero a d
  | n + 1 => (p.mul G n).add G p
theorem Ed.mul_zero {a d : Fp} (G : Good a d) (p : Ed a d) : p.mul G 0 = Ed.zero a d := rfl
theorem Ed.mul_succ {a d : Fp} (G : Good a d) (p : Ed a d) (n : Nat) : p.mul G (n + 1) = (p.mul G n).add G p := rfl
theorem Ed.mul_add {a d : Fp} (G : Good a d) (p : Ed a d) (m n : Nat) : p.mul G (m + n) = (p.mul G m).add G (p.mul G n) := by
  induction n with
  | zero => rw [Nat.add_zero, Ed.mul_zero, Ed.add_zero]
  | succ n ih => rw [← Nat.add_assoc, Ed.mul_succ, Ed.mul_succ, ih, Ed.add_assoc]
theorem Ed.mul_one {a d : Fp} (G : Good a d) (p : Ed a d) : p.mul G 1 = p := by
  rw [show (1 : Nat) = 0 + 1 from rfl, Ed.mul_succ, Ed.mul_zero, Ed.zero_add]
theorem Ed.mul_mul {a d : Fp} (G : Good a d) (p : Ed a d) (m n : Nat) : p.mul G (m * n) = (p.mul G m).mul G n := by
  induction n with
  | zero => rw [Nat.mul_zero, Ed.mul_zero, Ed.mul_zero]
  | succ n ih => rw [Nat.mul_succ, Ed.mul_add, Ed.mul_succ, ih]
theorem Ed.mul_swap {a d : Fp} (G : Good a d) (p : Ed a d) (m n : Nat) : (p.mul G m).mul G n = (p.mul G n).mul G m := by
  rw [← Ed.mul_mul, ← Ed.mul_mul, Nat.mul_comm]
theorem Ed.zero_mul {a d : Fp} (G : Good a d) (n : Nat) : (Ed.zero a d).mul G n = Ed.zero a d := by
  induction n with
  | zero => rw [Ed.mul_zero]
  | succ n ih => rw [Ed.mul_succ, ih, Ed.add_zero]
theorem Ed.add_mul {a d : Fp} (G : Good a d) (p q : Ed a d) (n : Nat) : (p.add G q).mul G n = (p.mul G n).add G (q.mul G n) := by
  induction n with
  | zero => rw [Ed.mul_zero, Ed.mul_zero, Ed.mul_zero, Ed.add_zero]
  | succ n ih =>
    rw [Ed.mul_succ, Ed.mul_succ, Ed.mul_succ, ih, Ed.add_assoc, Ed.add_assoc, ← Ed.add_assoc G (q.mul G n) p q, Ed.add_comm G (q.mul G n) p, Ed.add_assoc]
theorem Ed.cancel {a d : Fp} (G : Good a d) {p q r : Ed a d} (h : p.add G r = q.add G r) : p = q := by
  have h1 : (p.add G r).add G r.neg = (q.add G r).add G r.neg := by rw [h]
  rwa [Ed.add_assoc, Ed.add_assoc, Ed.add_neg, Ed.add_zero, Ed.add_zero] at h1
theorem Ed.mul_mod {a d : Fp} (G : Good a d) (p : Ed a d) (l : Nat) (h : p.mul G l = Ed.zero a d) (n : Nat) : p.mul G (n % l) = p.mul G n := by
  conv => rhs; rw [← Nat.mod_add_div n l, Ed.mul_add, Ed.mul_mul, h, Ed.zero_mul, Ed.add_zero]
end Go.Proofs.YtdpafemcpbhlfaaDoor
namespace Go.Proofs.YtdpafemcpbhlfaaDoor
set_option maxRecDepth 100000

/-- Two points of the ladder. -/
structure L4 where
  (x1 z1 x2 z2 : Fp)
def turnF (t : Bool) (s : L4) : L4 := ⟨if t then s.x2 else s.x1, if t then s.z2 else s.z1, if t then s.x1 else s.x2, if t then s.z1 else s.z2⟩
def stepF (u : Fp) (s : L4) : L4 :=
  ⟨(s.x1 + s.z1) * (s.x1 + s.z1) * ((s.x1 - s.z1) * (s.x1 - s.z1)), ((s.x1 + s.z1) * (s.x1 + s.z1) - (s.x1 - s.z1) * (s.x1 - s.z1)) * ((s.x1 + s.z1) * (s.x1 + s.z1) + fv 121665 * ((s.x1 + s.z1) * (s.x1 + s.z1) - (s.x1 - s.z1) * (s.x1 - s.z1))),
    ((s.x1 - s.z1) * (s.x2 + s.z2) + (s.x1 + s.z1) * (s.x2 - s.z2)) * ((s.x1 - s.z1) * (s.x2 + s.z2) + (s.x1 + s.z1) * (s.x2 - s.z2)), u * (((s.x1 - s.z1) * (s.x2 + s.z2) - (s.x1 + s.z1) * (s.x2 - s.z2)) * ((s.x1 - s.z1) * (s.x2 + s.z2) - (s.x1 + s.z1) * (s.x2 - s.z2)))⟩
/-- The ladder, when m bits have been seen to. -/
def ladM (l : List Int) (u : Fp) : Nat → L4
  | 0 => ⟨fv 1, 0, u, fv 1⟩
  | m + 1 => turnF (kb l (254 - m)) (stepF u (turnF (kb l (254 - m)) (ladM l u m)))
def ladF (l : List Int) (u : Fp) (k : Nat) : L4 := ladM l u (255 - k)
theorem ladF_top (l : List Int) (u : Fp) : ladF l u 255 = ⟨fv 1, 0, u, fv 1⟩ := rfl
theorem ladF_step (l : List Int) (u : Fp) (j : Nat) (h : j < 255) : ladF l u j = turnF (kb l j) (stepF u (turnF (kb l j) (ladF l u (j + 1)))) := by
  unfold ladF
  rw [show 255 - j = 255 - (j + 1) + 1 by omega]
  show turnF (kb l (254 - (255 - (j + 1)))) _ = _
  rw [show 254 - (255 - (j + 1)) = j by omega]
/-- What ladder.Multiply answers. -/
def ladV (k : List Int) (u : Fp) : Fp := (ladF k u 0).x1 * finv (ladF k u 0).z1
end Go.Proofs.YtdpafemcpbhlfaaDoor
namespace Go.Proofs.YtdpafemcpbhlfaaDoor
set_option maxRecDepth 100000

/-- A Montgomery curve as a twisted Edwards one: c a = s A + 2, c d = s A - 2, where s is 1 or -1. -/
structure Mont (a d c s A : Fp) : Prop where
  good : Good a d
  ne : c ≠ 0
  sq : s * s = 1
  ha : c * a = s * A + 2
  hd : c * d = s * A - 2
/-- A fraction that is a point's first coordinate. -/
def Rep {a d : Fp} (s : Fp) (X Z : Fp) (p : Ed a d) : Prop := ∃ k : Fp, k ≠ 0 ∧ X = k * (1 + p.y) ∧ Z = s * (k * (1 - p.y))
/-- A point's first coordinate; of the point that has none nought. -/
def uOf {a d : Fp} (s : Fp) (p : Ed a d) : Fp := (1 + p.y) * finv (s * (1 - p.y))
theorem s_ne {s : Fp} (h : s * s = 1) : s ≠ 0 := fun e => one_ne_zero' (by rw [← h, e]; grobner)
theorem finv_mul2 (x y : Fp) : finv (x * y) = finv x * finv y := by
  by_cases hx : x = 0
  · subst hx
    rw [show (0 : Fp) * y = 0 by grobner, finv_zero]; grobner
  · by_cases hy : y = 0
    · subst hy
      rw [show x * (0 : Fp) = 0 by grobner, finv_zero]; grobner
    · apply finv_eq
      have h1 := finv_mul hx
      have h2 := finv_mul hy
      grobner
theorem Rep.div {a d s X Z : Fp} {p : Ed a d} (h : Rep s X Z p) : X * finv Z = uOf s p := by
  obtain ⟨k, hk, rfl, rfl⟩ := h
  unfold uOf
  have h1 := finv_mul hk
  rw [finv_mul2 s, finv_mul2 k, finv_mul2 s]
  generalize finv (1 - p.y) = i
  generalize finv s = j
  generalize finv k = m at *
  grobner
theorem four_ne : (4 : Fp) ≠ 0 := by decide +kernel
/-- Twice a point. -/
theorem Rep.double {a d c s A X Z : Fp} (M : Mont a d c s A) {p : Ed a d} (h : Rep s X Z p) :
    Rep s ((X * X - Z * Z) * (X * X - Z * Z)) (4 * (X * Z) * (X * X + Z * Z + A * (X * Z))) (p.add M.good p) := by
  obtain ⟨k, hk, rfl, rfl⟩ := h
  unfold Rep
  obtain ⟨hn1, hn2⟩ := den_ne M.good p.on p.on
  have hy := Ed.add_y M.good p p
  have on := p.on
  have ha := M.ha
  have hd := M.hd
  have sq := M.sq
  have hc := M.ne
  have hne : a - d * p.y * p.y ≠ 0 := fun e => by
    obtain ⟨t, ht⟩ := M.good.sq
    by_cases hy0 : p.y = 0
    · rw [hy0] at e
      exact M.good.ne (by grobner)
    · refine M.good.non ⟨t * finv p.y, ?_⟩
      have hi := finv_mul hy0
      generalize finv p.y = i at *
      grobner
  generalize (p.add M.good p).y = Y at *
  generalize p.y = y at *
  generalize p.x = x at *
  have hx2 : x * x * (a - d * y * y) = 1 - y * y := by grobner
  have hxx : d * x * x * y * y = d * y * y * (x * x) := by grobner
  refine ⟨2 * (k * k * k * k) * c * ((a - d * y * y) * (1 - d * x * x * y * y)), ?_, ?_, ?_⟩
  · have h4 := fmul_ne (fmul_ne hk hk) (fmul_ne hk hk)
    rw [show k * k * (k * k) = k * k * k * k by grobner] at h4
    exact fmul_ne (fmul_ne (fmul_ne two_ne h4) hc) (fmul_ne hne hn2)
  · have e1 : (a - d * y * y) * (1 - d * x * x * y * y) * (1 + Y) = 2 * (a - d) * y * y := by
      have : (a - d * y * y) * (1 - d * x * x * y * y) * (1 + Y) = (a - d * y * y) * (1 - d * x * x * y * y) + (a - d * y * y) * (Y * (1 - d * x * x * y * y)) := by grobner
      rw [this, hy]
      clear this hy hn1 hn2 on
      grobner
    have e2 : c * (a - d) = 4 := by grobner
    have e3 : 2 * (k * k * k * k) * c * ((a - d * y * y) * (1 - d * x * x * y * y)) * (1 + Y) = 2 * (k * k * k * k) * c * ((a - d * y * y) * (1 - d * x * x * y * y) * (1 + Y)) := by grobner
    rw [e3, e1]
    clear e1 e3 hx2 hxx hy on hn1 hn2 hne
    grobner
  · have e1 : (a - d * y * y) * (1 - d * x * x * y * y) * (1 - Y) = 2 * (1 - y * y) * (a - d * y * y) := by
      have : (a - d * y * y) * (1 - d * x * x * y * y) * (1 - Y) = (a - d * y * y) * (1 - d * x * x * y * y) - (a - d * y * y) * (Y * (1 - d * x * x * y * y)) := by grobner
      rw [this, hy]
      clear this hy hn1 hn2 on
      grobner
    have e3 : s * (2 * (k * k * k * k) * c * ((a - d * y * y) * (1 - d * x * x * y * y)) * (1 - Y)) = s * (2 * (k * k * k * k) * c * ((a - d * y * y) * (1 - d * x * x * y * y) * (1 - Y))) := by grobner
    rw [e3, e1]
    clear e1 e3 hx2 hxx hy on hn1 hn2 hne
    have e4 : s * (2 * (k * k * k * k) * c * (2 * (1 - y * y) * (a - d * y * y))) = 4 * s * (k * k * k * k) * (1 - y * y) * (c * a - c * d * (y * y)) := by grobner
    rw [e4, ha, hd]
    clear e4 ha hd hc
    grobner
/-- Two points' sum, of which the difference is known. -/
theorem diff_key (a d x1 y1 x2 y2 : Fp) (h1 : a * x1 * x1 + y1 * y1 = 1 + d * x1 * x1 * y1 * y1) (h2 : a * x2 * x2 + y2 * y2 = 1 + d * x2 * x2 * y2 * y2) :
    (y1 + y2) * (y1 + y2) * ((1 - d * x1 * x2 * y1 * y2) - (y1 * y2 - a * x1 * x2)) * ((1 + d * x1 * x2 * y1 * y2) - (y1 * y2 + a * x1 * x2)) =
    ((1 - d * x1 * x2 * y1 * y2) + (y1 * y2 - a * x1 * x2)) * ((1 + d * x1 * x2 * y1 * y2) + (y1 * y2 + a * x1 * x2)) * ((y1 - y2) * (y1 - y2)) := by grobner
theorem diff_y {a d : Fp} (G : Good a d) (p q : Ed a d) : (q.add G p.neg).y * (1 + d * p.x * q.x * p.y * q.y) = p.y * q.y + a * p.x * q.x := by
  have h := Ed.add_y G q p.neg
  rw [show p.neg.x = -p.x from rfl, show p.neg.y = p.y from rfl] at h
  generalize (q.add G p.neg).y = Y at *
  rw [show 1 + d * p.x * q.x * p.y * q.y = 1 - d * q.x * -p.x * q.y * p.y by grobner, h]
  grobner
theorem Rep.add {a d c s A X1 Z1 X2 Z2 u f : Fp} (M : Mont a d c s A) {p q r : Ed a d} (h1 : Rep s X1 Z1 p) (h2 : Rep s X2 Z2 q) (hr : q.add M.good p.neg = r ∨ p.add M.good q.neg = r) (hu : u * (s * (1 - r.y)) = 1 + r.y) (hu0 : u ≠ 0) (hr1 : 1 - r.y ≠ 0) (hf : f ≠ 0) :
    Rep s (f * ((X1 * X2 - Z1 * Z2) * (X1 * X2 - Z1 * Z2))) (u * (f * ((X1 * Z2 - Z1 * X2) * (X1 * Z2 - Z1 * X2)))) (p.add M.good q) := by
  obtain ⟨k, hk, rfl, rfl⟩ := h1
  obtain ⟨m, hm, rfl, rfl⟩ := h2
  unfold Rep
  have sq := M.sq
  have hs := s_ne sq
  obtain ⟨hn1, hn2⟩ := den_ne M.good p.on q.on
  have key := diff_key a d p.x p.y q.x q.y p.on q.on
  have hS := Ed.add_y M.good p q
  have hD : r.y * (1 + d * p.x * q.x * p.y * q.y) = p.y * q.y + a * p.x * q.x := by
    rcases hr with rfl | rfl
    · exact diff_y M.good p q
    · have h := diff_y M.good q p
      rw [show 1 + d * p.x * q.x * p.y * q.y = 1 + d * q.x * p.x * q.y * p.y by grobner, h]
      grobner
  have K : (p.y + q.y) * (p.y + q.y) * (1 - (p.add M.good q).y) * (1 - r.y) = (1 + (p.add M.good q).y) * (1 + r.y) * ((p.y - q.y) * (p.y - q.y)) := by
    have hne := fmul_ne hn1 hn2
    apply fcancel hne
    generalize (p.add M.good q).y = S at *
    generalize r.y = D at *
    generalize p.y = y1 at *
    generalize q.y = y2 at *
    rw [← hS, ← hD] at key
    generalize 1 - d * p.x * q.x * y1 * y2 = F at *
    generalize 1 + d * p.x * q.x * y1 * y2 = E at *
    clear hS hD hu sq hn1 hn2 hne
    grobner
  have hboth : ¬ (p.y + q.y = 0 ∧ p.y - q.y = 0) := fun ⟨e1, e2⟩ => by
    have y1 : p.y = 0 := (fmul_zero (show 2 * p.y = 0 by grobner)).elim (fun e => absurd e two_ne) id
    have y2 : q.y = 0 := by grobner
    have o1 := p.on
    have o2 := q.on
    rw [y1] at o1 hD
    rw [y2] at o2 hD
    have : r.y * r.y = 1 := by grobner
    have h3 : (1 - r.y) * (1 + r.y) = 0 := by grobner
    rcases fmul_zero h3 with h4 | h4
    · exact hr1 h4
    · rw [h4] at hu
      rcases fmul_zero hu with h5 | h5
      · exact hu0 h5
      · exact fmul_ne hs hr1 h5
  have hr2 : 1 + r.y ≠ 0 := fun e => by
    rw [e] at hu
    rcases fmul_zero hu with h5 | h5
    · exact hu0 h5
    · exact fmul_ne hs hr1 h5
  generalize (p.add M.good q).y = S at *
  clear hS hD key hn1 hn2
  have eX : k * (1 + p.y) * (m * (1 + q.y)) - s * (k * (1 - p.y)) * (s * (m * (1 - q.y))) = 2 * (k * m) * (p.y + q.y) := by grobner
  have eZ : k * (1 + p.y) * (s * (m * (1 - q.y))) - s * (k * (1 - p.y)) * (m * (1 + q.y)) = s * (2 * (k * m) * (p.y - q.y)) := by grobner
  rw [eX, eZ]
  have hkm := fmul_ne (fmul_ne two_ne (fmul_ne hk hm)) (fmul_ne two_ne (fmul_ne hk hm))
  generalize 2 * (k * m) = g at *
  clear eX eZ
  have hgg : f * (g * g) ≠ 0 := fmul_ne hf hkm
  by_cases hS1 : 1 + S = 0
  · have hS2 : 1 - S = 2 := by grobner
    have e1 : (p.y + q.y) * (p.y + q.y) * (2 * (1 - r.y)) = 0 := by
      rw [hS1, hS2] at K
      rw [show (p.y + q.y) * (p.y + q.y) * (2 * (1 - r.y)) = (p.y + q.y) * (p.y + q.y) * 2 * (1 - r.y) by grobner, K]
      grobner
    have e2 : p.y + q.y = 0 := by
      rcases fmul_zero e1 with h | h
      · exact fsq_zero h
      · exact absurd h (fmul_ne two_ne hr1)
    have e3 : p.y - q.y ≠ 0 := fun e => hboth ⟨e2, e⟩
    have h2i := finv_mul two_ne
    refine ⟨s * u * (f * (g * g)) * ((p.y - q.y) * (p.y - q.y)) * finv 2, fmul_ne (fmul_ne (fmul_ne (fmul_ne hs hu0) hgg) (fmul_ne e3 e3)) (finv_ne two_ne), ?_, ?_⟩
    · rw [hS1, e2]; grobner
    · rw [hS2]
      generalize finv (2 : Fp) = i at *
      generalize p.y - q.y = t at *
      clear K hu e1 e2 hboth
      grobner
  · have hi := finv_mul hS1
    have e3 : p.y + q.y ≠ 0 := fun e => by
      rw [e] at K
      have h6 : (1 + S) * (1 + r.y) * ((p.y - q.y) * (p.y - q.y)) = 0 := by rw [← K]; grobner
      rcases fmul_zero h6 with h | h
      · exact fmul_ne hS1 hr2 h
      · exact hboth ⟨e, fsq_zero h⟩
    refine ⟨f * (g * g) * ((p.y + q.y) * (p.y + q.y)) * finv (1 + S), fmul_ne (fmul_ne hgg (fmul_ne e3 e3)) (finv_ne hS1), ?_, ?_⟩
    · generalize finv (1 + S) = i at *
      generalize p.y + q.y = t at *
      clear K hu hboth
      grobner
    · apply fcancel (fmul_ne hS1 hr1)
      generalize finv (1 + S) = i at *
      have e4 : s * (f * (g * g) * ((p.y + q.y) * (p.y + q.y)) * i * (1 - S)) * ((1 + S) * (1 - r.y)) = s * (f * (g * g)) * ((1 + S) * i) * ((p.y + q.y) * (p.y + q.y) * (1 - S) * (1 - r.y)) := by grobner
      rw [e4, K, hi]
      have e5 : u * (f * (s * (g * (p.y - q.y)) * (s * (g * (p.y - q.y))))) * ((1 + S) * (1 - r.y)) = s * (f * (g * g)) * ((p.y - q.y) * (p.y - q.y)) * (1 + S) * (u * (s * (1 - r.y))) := by grobner
      rw [e5, hu]
      grobner
end Go.Proofs.YtdpafemcpbhlfaaDoor
namespace Go.Proofs.YtdpafemcpbhlfaaDoor
set_option maxRecDepth 100000

theorem n121665 : fv 121665 = (121665 : Fp) := by decide +kernel
/-- One step. -/
theorem step_rep {a d c s : Fp} (M : Mont a d c s 486662) {u : Fp} {t : L4} {p q r : Ed a d} (h1 : Rep s t.x1 t.z1 p) (h2 : Rep s t.x2 t.z2 q) (hr : q.add M.good p.neg = r ∨ p.add M.good q.neg = r) (hu : u * (s * (1 - r.y)) = 1 + r.y) (hu0 : u ≠ 0) (hr1 : 1 - r.y ≠ 0) :
    Rep s (stepF u t).x1 (stepF u t).z1 (p.add M.good p) ∧ Rep s (stepF u t).x2 (stepF u t).z2 (p.add M.good q) := by
  have e1 := h1.double M
  have e2 := Rep.add (f := 4) M h1 h2 hr hu hu0 hr1 four_ne
  have a1 : (stepF u t).x1 = (t.x1 * t.x1 - t.z1 * t.z1) * (t.x1 * t.x1 - t.z1 * t.z1) := by
    show (t.x1 + t.z1) * (t.x1 + t.z1) * ((t.x1 - t.z1) * (t.x1 - t.z1)) = _
    grobner
  have a2 : (stepF u t).z1 = 4 * (t.x1 * t.z1) * (t.x1 * t.x1 + t.z1 * t.z1 + 486662 * (t.x1 * t.z1)) := by
    show ((t.x1 + t.z1) * (t.x1 + t.z1) - (t.x1 - t.z1) * (t.x1 - t.z1)) * ((t.x1 + t.z1) * (t.x1 + t.z1) + fv 121665 * ((t.x1 + t.z1) * (t.x1 + t.z1) - (t.x1 - t.z1) * (t.x1 - t.z1))) = _
    rw [n121665]
    grobner
  have a3 : (stepF u t).x2 = 4 * ((t.x1 * t.x2 - t.z1 * t.z2) * (t.x1 * t.x2 - t.z1 * t.z2)) := by
    show ((t.x1 - t.z1) * (t.x2 + t.z2) + (t.x1 + t.z1) * (t.x2 - t.z2)) * ((t.x1 - t.z1) * (t.x2 + t.z2) + (t.x1 + t.z1) * (t.x2 - t.z2)) = _
    grobner
  have a4 : (stepF u t).z2 = u * (4 * ((t.x1 * t.z2 - t.z1 * t.x2) * (t.x1 * t.z2 - t.z1 * t.x2))) := by
    show u * (((t.x1 - t.z1) * (t.x2 + t.z2) - (t.x1 + t.z1) * (t.x2 - t.z2)) * ((t.x1 - t.z1) * (t.x2 + t.z2) - (t.x1 + t.z1) * (t.x2 - t.z2))) = _
    grobner
  rw [a1, a2, a3, a4]
  exact ⟨e1, e2⟩
theorem turnF_t (t : L4) : turnF true t = ⟨t.x2, t.z2, t.x1, t.z1⟩ := rfl
theorem turnF_f (t : L4) : turnF false t = t := rfl
theorem Ed.sub_self' {a d : Fp} (G : Good a d) (p : Ed a d) (n : Nat) : (p.mul G (n + 1)).add G (p.mul G n).neg = p := by
  rw [Ed.mul_succ, Ed.add_comm G (p.mul G n) p, Ed.add_assoc, Ed.add_neg, Ed.add_zero]
/-- The invariant: n P and (n + 1) P. -/
theorem lad_inv {a d c s : Fp} (M : Mont a d c s 486662) {u : Fp} {p : Ed a d} (hu : u * (s * (1 - p.y)) = 1 + p.y) (hu0 : u ≠ 0) (hr1 : 1 - p.y ≠ 0) (l : List Int) (hd : Digs 256 l) (ht : expo l < 2 ^ 255) :
    ∀ m, m ≤ 255 → Rep s (ladF l u (255 - m)).x1 (ladF l u (255 - m)).z1 (p.mul M.good (expo l / 2 ^ (255 - m))) ∧ Rep s (ladF l u (255 - m)).x2 (ladF l u (255 - m)).z2 (p.mul M.good (expo l / 2 ^ (255 - m) + 1)) := by
  intro m
  induction m with
  | zero =>
    intro _
    rw [Nat.sub_zero, ladF_top, Nat.div_eq_of_lt ht]
    constructor
    · rw [Ed.mul_zero]
      refine ⟨finv 2, finv_ne two_ne, ?_, ?_⟩
      · show fv 1 = finv 2 * (1 + 1)
        rw [fv_one]
        have h2 := finv_mul two_ne
        grobner
      · show (0 : Fp) = s * (finv 2 * (1 - 1))
        grobner
    · rw [Nat.zero_add, Ed.mul_one]
      have hs := s_ne M.sq
      have hk := fmul_ne hs hr1
      have hi := finv_mul hk
      refine ⟨finv (s * (1 - p.y)), finv_ne hk, ?_, ?_⟩
      · show u = _
        generalize finv (s * (1 - p.y)) = i at *
        generalize s * (1 - p.y) = z at *
        rw [← hu]
        grobner
      · show fv 1 = _
        rw [fv_one]
        generalize finv (s * (1 - p.y)) = i at *
        grobner
  | succ m ih =>
    intro hm
    obtain ⟨i1, i2⟩ := ih (by omega)
    have hj : 255 - m = 255 - (m + 1) + 1 := by omega
    rw [hj] at i1 i2
    have hlt : 255 - (m + 1) < 255 := by omega
    generalize 255 - (m + 1) = j at *
    have hb := expo_bit l hd j
    have hn : expo l / 2 ^ (j + 1) = expo l / 2 ^ j / 2 := by rw [Nat.pow_succ, Nat.div_div_eq_div_mul]
    rw [ladF_step l u j hlt]
    generalize ladF l u (j + 1) = t at *
    generalize expo l / 2 ^ (j + 1) = n at *
    generalize expo l / 2 ^ j = N at *
    cases hkb : kb l j with
    | false =>
      have hN : N = 2 * n := by
        unfold kb at hkb
        have h3 : ¬ bitAt l j = 1 := of_decide_eq_false hkb
        rw [← hb] at h3
        omega
      rw [turnF_f, turnF_f]
      have h := step_rep M i1 i2 (.inl (Ed.sub_self' M.good p n)) hu hu0 hr1
      rw [hN]
      constructor
      · rw [Nat.two_mul, Ed.mul_add]; exact h.1
      · rw [show 2 * n + 1 = n + (n + 1) by omega, Ed.mul_add]; exact h.2
    | true =>
      have hN : N = 2 * n + 1 := by
        unfold kb at hkb
        have h3 : bitAt l j = 1 := of_decide_eq_true hkb
        rw [← hb] at h3
        omega
      rw [turnF_t t]
      have h := step_rep M (t := ⟨t.x2, t.z2, t.x1, t.z1⟩) i2 i1 (.inr (Ed.sub_self' M.good p n)) hu hu0 hr1
      rw [turnF_t, hN]
      constructor
      · rw [show 2 * n + 1 = n + 1 + n by omega, Ed.mul_add]; exact h.2
      · rw [show 2 * n + 1 + 1 = n + 1 + (n + 1) by omega, Ed.mul_add]; exact h.1
/-- At nought. -/
theorem lad_zero (l : List Int) (ht : kb l 254 = true) : ∀ m, m < 255 → (ladF l 0 (254 - m)).x1 = 0 ∧ (ladF l 0 (254 - m)).z1 = 0 := by
  intro m
  induction m with
  | zero =>
    intro _
    rw [Nat.sub_zero, ladF_step l 0 254 (by omega), ht, ladF_top, turnF_t, turnF_t]
    constructor
    · show ((0 - fv 1) * (fv 1 + 0) + (0 + fv 1) * (fv 1 - 0)) * ((0 - fv 1) * (fv 1 + 0) + (0 + fv 1) * (fv 1 - 0)) = (0 : Fp)
      grobner
    · show (0 : Fp) * _ = 0
      grobner
  | succ m ih =>
    intro hm
    obtain ⟨i1, i2⟩ := ih (by omega)
    have hj : 254 - m = 254 - (m + 1) + 1 := by omega
    rw [hj] at i1 i2
    rw [ladF_step l 0 (254 - (m + 1)) (by omega)]
    generalize ladF l 0 (254 - (m + 1) + 1) = t at *
    cases kb l (254 - (m + 1)) with
    | false =>
      rw [turnF_f, turnF_f]
      constructor
      · show (t.x1 + t.z1) * (t.x1 + t.z1) * ((t.x1 - t.z1) * (t.x1 - t.z1)) = 0
        rw [i1, i2]; grobner
      · show ((t.x1 + t.z1) * (t.x1 + t.z1) - (t.x1 - t.z1) * (t.x1 - t.z1)) * _ = 0
        rw [i1, i2]; grobner
    | true =>
      rw [turnF_t, turnF_t]
      constructor
      · show ((t.x2 - t.z2) * (t.x1 + t.z1) + (t.x2 + t.z2) * (t.x1 - t.z1)) * _ = 0
        rw [i1, i2]; grobner
      · show (0 : Fp) * _ = 0
        grobner
/-- What a clamped key is. -/
structure Clamped (l : List Int) : Prop where
  digs : Digs 256 l
  lt : expo l < 2 ^ 255
  top : kb l 254 = true
  even : expo l % 2 = 0
theorem ed_one {a d : Fp} (G : Good a d) (p : Ed a d) (h : p.y = 1) : p = Ed.zero a d := by
  have on := p.on
  have hne : a - d ≠ 0 := fun e => by
    obtain ⟨t, ht⟩ := G.sq
    exact G.non ⟨t, by grobner⟩
  apply Ed.ext'
  · show p.x = 0
    have h1 : p.x * p.x * (a - d) = 0 := by rw [h] at on; grobner
    rcases fmul_zero h1 with h2 | h2
    · exact fsq_zero h2
    · exact absurd h2 hne
  · exact h
theorem ed_neg_one {a d : Fp} (G : Good a d) (p : Ed a d) (h : p.y = -1) : p.add G p = Ed.zero a d := by
  have on := p.on
  have hne : a - d ≠ 0 := fun e => by
    obtain ⟨t, ht⟩ := G.sq
    exact G.non ⟨t, by grobner⟩
  have hx : p.x = 0 := by
    have h1 : p.x * p.x * (a - d) = 0 := by rw [h] at on; grobner
    rcases fmul_zero h1 with h2 | h2
    · exact fsq_zero h2
    · exact absurd h2 hne
  apply Ed.ext'
  · have h1 := Ed.add_x G p p
    show (p.add G p).x = 0
    rw [hx] at h1
    grobner
  · have h1 := Ed.add_y G p p
    show (p.add G p).y = 1
    rw [hx, h] at h1
    grobner
theorem uOf_zero (a d s : Fp) : uOf s (Ed.zero a d) = 0 := by
  show (1 + 1) * finv (s * (1 - 1)) = (0 : Fp)
  rw [show s * (1 - 1) = (0 : Fp) by grobner, finv_zero]
  grobner
theorem ladV_zero (l : List Int) (h : Clamped l) : ladV l 0 = 0 := by
  unfold ladV
  have := lad_zero l h.top 254 (by omega)
  rw [Nat.sub_self] at this
  rw [this.1]
  grobner
/-- The ladder multiplies. -/
theorem ladV_mul {a d c s : Fp} (M : Mont a d c s 486662) (p : Ed a d) (l : List Int) (h : Clamped l) : ladV l (uOf s p) = uOf s (p.mul M.good (expo l)) := by
  have hs := s_ne M.sq
  by_cases h1 : 1 - p.y = 0
  · have hy : p.y = 1 := by grobner
    have hp := ed_one M.good p hy
    rw [hp, Ed.zero_mul, uOf_zero, ladV_zero l h]
  · by_cases h2 : 1 + p.y = 0
    · have hy : p.y = -1 := by grobner
      have h2p := ed_neg_one M.good p hy
      have hz : p.mul M.good (expo l) = Ed.zero a d := by
        have := h.even
        rw [show expo l = 2 * (expo l / 2) by omega, Ed.mul_mul, show (2 : Nat) = 1 + 1 from rfl, Ed.mul_add, Ed.mul_one, h2p, Ed.zero_mul]
      have hu : uOf s p = 0 := by unfold uOf; rw [h2]; grobner
      rw [hz, uOf_zero, hu, ladV_zero l h]
    · have hk := fmul_ne hs h1
      have hi := finv_mul hk
      have hu : uOf s p * (s * (1 - p.y)) = 1 + p.y := by
        unfold uOf
        generalize finv (s * (1 - p.y)) = i at *
        generalize s * (1 - p.y) = z at *
        grobner
      have hu0 : uOf s p ≠ 0 := fun e => h2 (by rw [← hu, e]; grobner)
      have key := (lad_inv M hu hu0 h1 l h.digs h.lt 255 (by omega)).1
      rw [Nat.sub_self, Nat.pow_zero, Nat.div_one] at key
      exact key.div
/-- The curve, and its twist. -/
theorem mont1 : Mont 486664 486660 1 1 486662 := ⟨⟨⟨48802004052532134862652268456126542835229456083994414501085850622543968879637, by decide +kernel⟩, by decide +kernel, by
    have := nonsq_of_pm 486660 (by decide +kernel)
    rw [show fv ((486660 : Nat) : Int) = (486660 : Fp) by decide +kernel] at this
    exact this⟩, one_ne_zero', by decide +kernel, by decide +kernel, by decide +kernel⟩
theorem mont2 : Mont 243330 243332 (-2) (-1) 486662 := ⟨⟨⟨51433253462520500264212897900760618405213415304451317506555883227270826074491, by decide +kernel⟩, by decide +kernel, by
    have := nonsq_of_pm 243332 (by decide +kernel)
    rw [show fv ((243332 : Nat) : Int) = (243332 : Fp) by decide +kernel] at this
    exact this⟩, neg_ne two_ne, by decide +kernel, by decide +kernel, by decide +kernel⟩
/-- Every number is a point's first coordinate, on the one or on the other. -/
theorem on_one (u : Fp) (h : u ≠ -1) (hs : Sq (u * (u * u + 486662 * u + 1))) (h0 : u * u + 486662 * u + 1 ≠ 0) : ∃ p : Ed 486664 486660, uOf 1 p = u := by
  obtain ⟨t, ht⟩ := hs
  have hu1 : u + 1 ≠ 0 := fun e => h (by grobner)
  have hi := finv_mul hu1
  have hj := finv_mul h0
  have h2 := finv_mul two_ne
  generalize finv (u + 1) = i at *
  generalize finv (u * u + 486662 * u + 1) = j at *
  refine ⟨⟨t * j, (u - 1) * i, ?_⟩, ?_⟩
  · have hq : t * j * (t * j) = u * j := by
      have : t * j * (t * j) = t * t * (j * j) := by grobner
      rw [this, ht]
      grobner
    have e1 : 486664 * (t * j) * (t * j) = 486664 * (u * j) := by rw [← hq]; grobner
    have e2 : 486660 * (t * j) * (t * j) * ((u - 1) * i) * ((u - 1) * i) = 486660 * (u * j) * ((u - 1) * i) * ((u - 1) * i) := by rw [← hq]; grobner
    rw [e1, e2]
    have hne := fmul_ne h0 (fmul_ne hu1 hu1)
    apply fcancel hne
    have r1 : (486664 * (u * j) + (u - 1) * i * ((u - 1) * i)) * ((u * u + 486662 * u + 1) * ((u + 1) * (u + 1))) = 486664 * u * ((u * u + 486662 * u + 1) * j) * ((u + 1) * (u + 1)) + (u - 1) * (u - 1) * (u * u + 486662 * u + 1) * (((u + 1) * i) * ((u + 1) * i)) := by grobner
    have r2 : (1 + 486660 * (u * j) * ((u - 1) * i) * ((u - 1) * i)) * ((u * u + 486662 * u + 1) * ((u + 1) * (u + 1))) = (u * u + 486662 * u + 1) * ((u + 1) * (u + 1)) + 486660 * u * ((u * u + 486662 * u + 1) * j) * ((u - 1) * (u - 1)) * (((u + 1) * i) * ((u + 1) * i)) := by grobner
    rw [r1, r2, hi, hj]
    grobner
  · show (1 + (u - 1) * i) * finv (1 * (1 - (u - 1) * i)) = u
    have e1 : 1 + (u - 1) * i = 2 * u * i := by grobner
    have e2 : 1 * (1 - (u - 1) * i) = 2 * i := by grobner
    rw [e1, e2]
    have hi0 : i ≠ 0 := fun e => one_ne_zero' (by rw [← hi, e]; grobner)
    have hk := finv_mul (fmul_ne two_ne hi0)
    generalize finv (2 * i) = k at *
    grobner
theorem on_two (u : Fp) (h : u ≠ 1) (hs : Sq (2 * (u * (u * u + 486662 * u + 1)))) (h0 : u * u + 486662 * u + 1 ≠ 0) : ∃ p : Ed 243330 243332, uOf (-1) p = u := by
  obtain ⟨t, ht⟩ := hs
  have hu1 : u - 1 ≠ 0 := fun e => h (by grobner)
  have hi := finv_mul hu1
  have hj := finv_mul h0
  generalize finv (u - 1) = i at *
  generalize finv (u * u + 486662 * u + 1) = j at *
  refine ⟨⟨t * j, (u + 1) * i, ?_⟩, ?_⟩
  · have hq : t * j * (t * j) = 2 * u * j := by
      have : t * j * (t * j) = t * t * (j * j) := by grobner
      rw [this, ht]
      grobner
    have e1 : 243330 * (t * j) * (t * j) = 243330 * (2 * u * j) := by rw [← hq]; grobner
    have e2 : 243332 * (t * j) * (t * j) * ((u + 1) * i) * ((u + 1) * i) = 243332 * (2 * u * j) * ((u + 1) * i) * ((u + 1) * i) := by rw [← hq]; grobner
    rw [e1, e2]
    have hne := fmul_ne h0 (fmul_ne hu1 hu1)
    apply fcancel hne
    have r1 : (243330 * (2 * u * j) + (u + 1) * i * ((u + 1) * i)) * ((u * u + 486662 * u + 1) * ((u - 1) * (u - 1))) = 486660 * u * ((u * u + 486662 * u + 1) * j) * ((u - 1) * (u - 1)) + (u + 1) * (u + 1) * (u * u + 486662 * u + 1) * (((u - 1) * i) * ((u - 1) * i)) := by grobner
    have r2 : (1 + 243332 * (2 * u * j) * ((u + 1) * i) * ((u + 1) * i)) * ((u * u + 486662 * u + 1) * ((u - 1) * (u - 1))) = (u * u + 486662 * u + 1) * ((u - 1) * (u - 1)) + 486664 * u * ((u * u + 486662 * u + 1) * j) * ((u + 1) * (u + 1)) * (((u - 1) * i) * ((u - 1) * i)) := by grobner
    rw [r1, r2, hi, hj]
    grobner
  · show (1 + (u + 1) * i) * finv (-1 * (1 - (u + 1) * i)) = u
    have e1 : 1 + (u + 1) * i = 2 * u * i := by grobner
    have e2 : -1 * (1 - (u + 1) * i) = 2 * i := by grobner
    rw [e1, e2]
    have hi0 : i ≠ 0 := fun e => one_ne_zero' (by rw [← hi, e]; grobner)
    have hk := finv_mul (fmul_ne two_ne hi0)
    generalize finv (2 * i) = k at *
    grobner
/-- u^2 + 486662 u + 1 is never nought: 486662^2 - 4 has no root. -/
theorem quad_ne (u : Fp) : u * u + 486662 * u + 1 ≠ 0 := fun e => by
  have h : (2 * u + 486662) * (2 * u + 486662) = 486662 * 486662 - 4 := by grobner
  have hn := nonsq_of_pm 236839902240 (by decide +kernel)
  rw [show fv ((236839902240 : Nat) : Int) = (486662 * 486662 - 4 : Fp) by decide +kernel] at hn
  exact hn ⟨_, h⟩
/-- It doesn't matter in which order two keys are used, on any number. -/
theorem ladV_swap (k l : List Int) (hk : Clamped k) (hl : Clamped l) (u : Fp) : ladV k (ladV l u) = ladV l (ladV k u) := by
  have one : ∀ {a d c s : Fp} (M : Mont a d c s 486662) (p : Ed a d), uOf s p = u → ladV k (ladV l u) = ladV l (ladV k u) := by
    intro a d c s M p hp
    rw [← hp, ladV_mul M p l hl, ladV_mul M p k hk, ladV_mul M _ k hk, ladV_mul M _ l hl, Ed.mul_swap]
  by_cases hs : Sq (u * (u * u + 486662 * u + 1))
  · by_cases h1 : u = -1
    · exfalso
      have hn := nonsq_of_pm 486660 (by decide +kernel)
      rw [show fv ((486660 : Nat) : Int) = (486660 : Fp) by decide +kernel] at hn
      rw [h1] at hs
      exact hn (by rw [show (486660 : Fp) = -1 * (-1 * -1 + 486662 * -1 + 1) by decide +kernel]; exact hs)
    · obtain ⟨p, hp⟩ := on_one u h1 hs (quad_ne u)
      exact one mont1 p hp
  · by_cases h1 : u = 1
    · exfalso
      apply hs
      rw [h1]
      exact ⟨48802004052532134862652268456126542835229456083994414501085850622543968879637, by decide +kernel⟩
    · obtain ⟨p, hp⟩ := on_two u h1 (sq_twice _ hs) (quad_ne u)
      exact one mont2 p hp
end Go.Proofs.YtdpafemcpbhlfaaDoor
namespace Go.Proofs.YtdpafemcpbhlfaaDoor
set_option maxRecDepth 100000

def stepE (u x1 z1 x2 z2 : Nat) (k : Nat → Nat → Nat → Nat → Nat) : Nat :=
  force ((x1 + z1) % PN) fun a => force ((PN - z1 + x1) % PN) fun b => force (a * a % PN) fun aa => force (b * b % PN) fun bb => force ((PN - bb + aa) % PN) fun f =>
  force (b * ((x2 + z2) % PN) % PN) fun st => force (a * ((PN - z2 + x2) % PN) % PN) fun ac => force ((st + ac) % PN) fun s => force ((PN - ac + st) % PN) fun e =>
  force (aa * bb % PN) fun X1 => force (f * ((aa + 121665 * f % PN) % PN) % PN) fun Z1 => force (s * s % PN) fun X2 => force (u * (e * e % PN) % PN) fun Z2 => k X1 Z1 X2 Z2
def ladE (u : Nat) : List Bool → Nat → Nat → Nat → Nat → Nat
  | [], x1, z1, _, _ => x1 * (pm PN 255 z1 (PN - 2) 1 % PN) % PN
  | t :: bs, x1, z1, x2, z2 => bif t then stepE u x2 z2 x1 z1 (fun a b c d => ladE u bs c d a b) else stepE u x1 z1 x2 z2 (fun a b c d => ladE u bs a b c d)
def foldL (u : Fp) : List Bool → L4 → L4
  | [], s => s
  | t :: bs, s => foldL u bs (turnF t (stepF u (turnF t s)))
theorem n121665v : (fv 121665).val = 121665 := by decide +kernel
theorem stepE_eq (u : Fp) (s : L4) (k : Nat → Nat → Nat → Nat → Nat) : stepE u.val s.x1.val s.z1.val s.x2.val s.z2.val k = k (stepF u s).x1.val (stepF u s).z1.val (stepF u s).x2.val (stepF u s).z2.val := by
  unfold stepE
  simp only [force_eq, stepF, Fin.val_add, Fin.val_mul, Fin.sub_def, n121665v]
theorem finv_val (z : Fp) : (finv z).val = pm PN 255 z.val (PN - 2) 1 % PN := by
  have h := pm_eq PN 255 z.val (PN - 2) 1 (by decide +kernel)
  rw [h, Nat.one_mul]
  unfold finv
  have h2 := fv_val ((z.val : Int) ^ expInv)
  have he : expInv = PN - 2 := by have h3 := eInv; have h4 := pn_nat; have h5 : 2 < PN := (by decide +kernel); omega
  rw [he] at h2 ⊢
  rw [← Int.natCast_pow, pp_nat, ← Int.natCast_emod] at h2
  exact Int.ofNat.inj h2
theorem ladE_eq (u : Fp) : ∀ (bs : List Bool) (s : L4), ladE u.val bs s.x1.val s.z1.val s.x2.val s.z2.val = ((foldL u bs s).x1 * finv (foldL u bs s).z1).val
  | [], s => by
    show s.x1.val * (pm PN 255 s.z1.val (PN - 2) 1 % PN) % PN = (s.x1 * finv s.z1).val
    rw [Fin.val_mul, finv_val]
  | true :: bs, s => by
    show stepE u.val s.x2.val s.z2.val s.x1.val s.z1.val _ = _
    rw [stepE_eq u ⟨s.x2, s.z2, s.x1, s.z1⟩]
    exact ladE_eq u bs (turnF true (stepF u (turnF true s)))
  | false :: bs, s => by
    show stepE u.val s.x1.val s.z1.val s.x2.val s.z2.val _ = _
    rw [stepE_eq u s]
    exact ladE_eq u bs (turnF false (stepF u (turnF false s)))
def bitsDown (l : List Int) : Nat → List Bool
  | 0 => []
  | k + 1 => kb l k :: bitsDown l k
theorem foldL_eq (l : List Int) (u : Fp) : ∀ k, k ≤ 255 → foldL u (bitsDown l k) (ladF l u k) = ladF l u 0
  | 0, _ => rfl
  | k + 1, h => by
    show foldL u (bitsDown l k) (turnF (kb l k) (stepF u (turnF (kb l k) (ladF l u (k + 1))))) = _
    rw [← ladF_step l u k (by omega)]
    exact foldL_eq l u k (by omega)
theorem ladV_eval (l : List Int) (u : Fp) : (ladV l u).val = ladE u.val (bitsDown l 255) 1 0 u.val 1 := by
  have h := ladE_eq u (bitsDown l 255) (ladF l u 255)
  rw [foldL_eq l u 255 (by omega)] at h
  unfold ladV
  rw [← h, ladF_top]
  have e1 : (fv 1).val = 1 := by decide +kernel
  show ladE u.val _ 1 0 u.val 1 = ladE u.val _ (fv 1).val (0 : Fp).val u.val (fv 1).val
  rw [e1]
  rfl
/-- Keys and numbers. -/
theorem ofKey_keyOf (v : Fp) : ofKey (keyOf v) = v := by
  have hv := v.isLt
  have e : keyNum (keyOf v) = (v.val : Int) := by
    unfold keyNum keyOf
    rw [dig_digits (by omega), show (256 : Int) ^ 32 = 115792089237316195423570985008687907853269984665640564039457584007913129639936 by decide]
    have h1 : (v.val : Int) < 57896044618658097711785492504343953926634992332820282019728792003956564819949 := by
      have : v.val < 57896044618658097711785492504343953926634992332820282019728792003956564819949 := hv
      omega
    rw [Int.emod_eq_of_lt (by omega) (by omega), Int.emod_eq_of_lt (by omega) (by omega)]
  unfold ofKey
  rw [e, val_fv]
theorem keyOf_inj {v w : Fp} (h : keyOf v = keyOf w) : v = w := by rw [← ofKey_keyOf v, h, ofKey_keyOf]
theorem keyOf_zero : keyOf 0 = zeroKL := by decide +kernel
theorem keyOf_eq_zero (v : Fp) : keyOf v = zeroKL ↔ v = 0 := by
  rw [← keyOf_zero]
  exact ⟨keyOf_inj, fun h => by rw [h]⟩
theorem clampL_get {l : List Int} (hl : l.length = 32) (_hd : Digs 256 l) (i : Nat) : (clampL l).getD i 0 = if i = 0 then l.getD 0 0 - l.getD 0 0 % 8 else if i = 31 then l.getD 31 0 % 64 + 64 else l.getD i 0 := by
  unfold clampL
  rw [List.getD_eq_getElem?_getD, List.getElem?_set, List.length_set, List.getElem?_set, List.getD_eq_getElem?_getD (i := i)]
  by_cases h31 : i = 31
  · subst h31; simp [hl]
  · by_cases h0 : i = 0
    · subst h0; simp [hl]
    · rw [if_neg (fun e => h31 e.symm), if_neg (fun e => h0 e.symm), if_neg h0, if_neg h31]
theorem clamped_of {l : List Int} (hl : l.length = 32) (hd : Digs 256 l) : Clamped (clampL l) := by
  have hD := clampL_digs hd
  have hL : (clampL l).length = 32 := (clampL_length l).trans hl
  have g0 := hd.get (B := 256) (by omega) 0
  have g1 := hd.get (B := 256) (by omega) 31
  have b0 := expo_bit (clampL l) hD 0
  have b255 := expo_bit (clampL l) hD 255
  have btop := expo_top (clampL l) hL hD
  refine ⟨hD, ?_, ?_, ?_⟩
  · unfold bitAt at b255
    rw [show 255 / 8 = 31 from rfl, show 255 % 8 = 7 from rfl, clampL_get hl hd, if_neg (by decide), if_pos rfl, show ((2 : Int) ^ 7) = 128 from rfl] at b255
    have h1 : expo (clampL l) / 2 ^ 255 % 2 = 0 := by omega
    have h2 : expo (clampL l) / 2 ^ 256 = expo (clampL l) / 2 ^ 255 / 2 := by rw [Nat.pow_succ 2 255, Nat.div_div_eq_div_mul]
    have h3 : expo (clampL l) / 2 ^ 255 = 0 := by omega
    rcases Nat.lt_or_ge (expo (clampL l)) (2 ^ 255) with h | h
    · exact h
    · have := Nat.div_pos h (Nat.two_pow_pos 255)
      omega
  · unfold kb bitAt
    rw [show 254 / 8 = 31 from rfl, show 254 % 8 = 6 from rfl, clampL_get hl hd, if_neg (by decide), if_pos rfl, show ((2 : Int) ^ 6) = 64 from rfl]
    exact decide_eq_true (by omega)
  · unfold bitAt at b0
    rw [show 0 / 8 = 0 from rfl, show 0 % 8 = 0 from rfl, clampL_get hl hd, if_pos rfl, Int.pow_zero, Nat.pow_zero, Nat.div_one, Int.ediv_one] at b0
    omega
/-- Two keys on any number. -/
theorem lad_swap {k l : List Int} (hk : k.length = 32) (dk : Digs 256 k) (hl : l.length = 32) (dl : Digs 256 l) (u : Fp) :
    ladV (clampL k) (ofKey (keyOf (ladV (clampL l) u))) = ladV (clampL l) (ofKey (keyOf (ladV (clampL k) u))) := by
  rw [ofKey_keyOf, ofKey_keyOf]
  exact ladV_swap _ _ (clamped_of hk dk) (clamped_of hl dl) u
end Go.Proofs.YtdpafemcpbhlfaaDoor
