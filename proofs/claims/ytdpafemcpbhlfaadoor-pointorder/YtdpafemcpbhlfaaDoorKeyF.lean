/-
  Twisted Edwards curves: the law is complete, and makes a group. No program.
-/
/-
  Keys and numbers; bits from the highest on. No program.
-/
import Derived.Test.YtdpafemcpbhlfaaDoorSh
namespace Go.Proofs.YtdpafemcpbhlfaaDoor
set_option maxRecDepth 100000

/-- What makes the law of a twisted Edwards curve complete: a is a square and not nought, d is none. -/
structure Good (a d : Fp) : Prop where
  sq : Sq a
  ne : a ≠ 0
  non : ¬ Sq d
/-- A point of the curve a x^2 + y^2 = 1 + d x^2 y^2. -/
structure Ed (a d : Fp) where
  x : Fp
  y : Fp
  on : a * x * x + y * y = 1 + d * x * x * y * y
theorem Ed.ext' {a d : Fp} {p q : Ed a d} (hx : p.x = q.x) (hy : p.y = q.y) : p = q := by
  cases p; cases q; cases hx; cases hy; rfl
theorem complete_key {a d x1 y1 x2 y2 e s : Fp} (h1 : a * x1 * x1 + y1 * y1 = 1 + d * x1 * x1 * y1 * y1) (h2 : a * x2 * x2 + y2 * y2 = 1 + d * x2 * x2 * y2 * y2) (he : e = d * x1 * x2 * y1 * y2) (hee : e * e = 1) (hs : s * s = a) :
    d * (x1 * y1 * (s * x2 + y2)) * (x1 * y1 * (s * x2 + y2)) = (s * x1 + e * y1) * (s * x1 + e * y1) := by
  have k1 : (s * x2 + y2) * (s * x2 + y2) = 1 + d * x2 * x2 * y2 * y2 + 2 * s * x2 * y2 := by
    have : (s * x2 + y2) * (s * x2 + y2) = s * s * x2 * x2 + y2 * y2 + 2 * s * x2 * y2 := by grobner
    rw [this, hs, h2]
  have k2 : d * (x1 * y1 * (s * x2 + y2)) * (x1 * y1 * (s * x2 + y2)) = d * x1 * x1 * y1 * y1 * ((s * x2 + y2) * (s * x2 + y2)) := by
    clear h1 h2 he hee hs k1
    grobner
  have k3 : d * x1 * x1 * y1 * y1 * (1 + d * x2 * x2 * y2 * y2 + 2 * s * x2 * y2) = d * x1 * x1 * y1 * y1 + e * e + 2 * s * e * x1 * y1 := by
    rw [he]
    clear h1 h2 he hee hs k1 k2
    grobner
  have k4 : (s * x1 + e * y1) * (s * x1 + e * y1) = s * s * x1 * x1 + e * e * y1 * y1 + 2 * s * e * x1 * y1 := by
    clear h1 h2 he hee hs k1 k2 k3
    grobner
  rw [k2, k1, k3, k4, hs, hee]
  clear k1 k2 k3 k4 h2 he hee hs
  grobner
/-- What the coordinates are divided by is never nought. -/
theorem complete {a d : Fp} (G : Good a d) {x1 y1 x2 y2 e : Fp} (h1 : a * x1 * x1 + y1 * y1 = 1 + d * x1 * x1 * y1 * y1) (h2 : a * x2 * x2 + y2 * y2 = 1 + d * x2 * x2 * y2 * y2) (he : e = d * x1 * x2 * y1 * y2) : e * e ≠ 1 := by
  intro hee
  obtain ⟨s, hs⟩ := G.sq
  have hs0 : s ≠ 0 := fun h => G.ne (by rw [← hs, h]; grobner)
  have he0 : e ≠ 0 := fun h => one_ne_zero' (by rw [← hee, h]; grobner)
  have hx1 : x1 ≠ 0 := fun h => he0 (by rw [he, h]; grobner)
  have hx2 : x2 ≠ 0 := fun h => he0 (by rw [he, h]; grobner)
  have hy1 : y1 ≠ 0 := fun h => he0 (by rw [he, h]; grobner)
  have hxy := fmul_ne hx1 hy1
  have key : ∀ s : Fp, s * s = a → s * x2 + y2 = 0 := by
    intro s hs
    apply Classical.byContradiction
    intro hne
    have hm := fmul_ne hxy hne
    have hi := finv_mul hm
    refine G.non ⟨(s * x1 + e * y1) * finv (x1 * y1 * (s * x2 + y2)), ?_⟩
    have hk := complete_key h1 h2 he hee hs
    generalize finv (x1 * y1 * (s * x2 + y2)) = i at *
    generalize x1 * y1 * (s * x2 + y2) = z at *
    generalize s * x1 + e * y1 = t at *
    clear h1 h2 he
    grobner
  have k1 := key s hs
  have k2 := key (-s) (by grobner)
  have k3 : 2 * (s * x2) = 0 := by grobner
  rcases fmul_zero k3 with h | h
  · exact two_ne h
  · exact fmul_ne hs0 hx2 h
theorem den_ne {a d : Fp} (G : Good a d) {x1 y1 x2 y2 : Fp} (h1 : a * x1 * x1 + y1 * y1 = 1 + d * x1 * x1 * y1 * y1) (h2 : a * x2 * x2 + y2 * y2 = 1 + d * x2 * x2 * y2 * y2) :
    1 + d * x1 * x2 * y1 * y2 ≠ 0 ∧ 1 - d * x1 * x2 * y1 * y2 ≠ 0 := by
  constructor
  · intro h
    exact complete G h1 h2 rfl (by grobner)
  · intro h
    exact complete G h1 h2 rfl (by grobner)
/-- Two points together. -/
def Ed.add {a d : Fp} (G : Good a d) (p q : Ed a d) : Ed a d where
  x := (p.x * q.y + q.x * p.y) * finv (1 + d * p.x * q.x * p.y * q.y)
  y := (p.y * q.y - a * p.x * q.x) * finv (1 - d * p.x * q.x * p.y * q.y)
  on := by
    obtain ⟨hn1, hn2⟩ := den_ne G p.on q.on
    have i1 := finv_mul hn1
    have i2 := finv_mul hn2
    have h1 := p.on
    have h2 := q.on
    generalize p.x = x1 at *
    generalize p.y = y1 at *
    generalize q.x = x2 at *
    generalize q.y = y2 at *
    have key : a * (x1 * y2 + x2 * y1) * (x1 * y2 + x2 * y1) * ((1 - d * x1 * x2 * y1 * y2) * (1 - d * x1 * x2 * y1 * y2)) + (y1 * y2 - a * x1 * x2) * (y1 * y2 - a * x1 * x2) * ((1 + d * x1 * x2 * y1 * y2) * (1 + d * x1 * x2 * y1 * y2)) =
        (1 - d * x1 * x2 * y1 * y2) * (1 - d * x1 * x2 * y1 * y2) * ((1 + d * x1 * x2 * y1 * y2) * (1 + d * x1 * x2 * y1 * y2)) + d * (x1 * y2 + x2 * y1) * (x1 * y2 + x2 * y1) * ((y1 * y2 - a * x1 * x2) * (y1 * y2 - a * x1 * x2)) := by
      clear i1 i2 hn1 hn2
      grobner
    clear h1 h2 hn1 hn2
    generalize finv (1 + d * x1 * x2 * y1 * y2) = j1 at *
    generalize finv (1 - d * x1 * x2 * y1 * y2) = j2 at *
    generalize 1 + d * x1 * x2 * y1 * y2 = e1 at *
    generalize 1 - d * x1 * x2 * y1 * y2 = e2 at *
    generalize x1 * y2 + x2 * y1 = n1 at *
    generalize y1 * y2 - a * x1 * x2 = n2 at *
    have r1 : a * (n1 * j1) * (n1 * j1) * (e1 * e1 * (e2 * e2)) = a * n1 * n1 * (e2 * e2) := by grobner
    have r2 : (n2 * j2) * (n2 * j2) * (e1 * e1 * (e2 * e2)) = n2 * n2 * (e1 * e1) := by grobner
    have r3 : d * (n1 * j1) * (n1 * j1) * (n2 * j2) * (n2 * j2) * (e1 * e1 * (e2 * e2)) = d * n1 * n1 * (n2 * n2) := by grobner
    have r4 : e1 * e1 * (e2 * e2) ≠ 0 := fun h => one_ne_zero' (by
      have : (e1 * j1) * (e1 * j1) * ((e2 * j2) * (e2 * j2)) = 0 := by
        rw [show (e1 * j1) * (e1 * j1) * ((e2 * j2) * (e2 * j2)) = e1 * e1 * (e2 * e2) * (j1 * j1 * (j2 * j2)) by grobner, h]; grobner
      rw [i1, i2] at this
      rw [← this]; grobner)
    apply fcancel r4
    generalize (n1 * j1) = X at *
    generalize (n2 * j2) = Y at *
    generalize hQ : e1 * e1 * (e2 * e2) = Q at *
    rw [show (a * X * X + Y * Y) * Q = a * X * X * Q + Y * Y * Q by grobner, r1, r2, key]
    have : (1 + d * X * X * Y * Y) * Q = Q + d * X * X * Y * Y * Q := by grobner
    rw [this, r3, ← hQ]
    grobner
/-- What is a sum's coordinate: the one that times what it is divided by is right. -/
theorem Ed.add_x {a d : Fp} (G : Good a d) (p q : Ed a d) : (p.add G q).x * (1 + d * p.x * q.x * p.y * q.y) = p.x * q.y + q.x * p.y := by
  have h := finv_mul (den_ne G p.on q.on).1
  show (p.x * q.y + q.x * p.y) * finv (1 + d * p.x * q.x * p.y * q.y) * (1 + d * p.x * q.x * p.y * q.y) = _
  generalize finv (1 + d * p.x * q.x * p.y * q.y) = i at *
  generalize 1 + d * p.x * q.x * p.y * q.y = e at *
  grobner
theorem Ed.add_y {a d : Fp} (G : Good a d) (p q : Ed a d) : (p.add G q).y * (1 - d * p.x * q.x * p.y * q.y) = p.y * q.y - a * p.x * q.x := by
  have h := finv_mul (den_ne G p.on q.on).2
  show (p.y * q.y - a * p.x * q.x) * finv (1 - d * p.x * q.x * p.y * q.y) * (1 - d * p.x * q.x * p.y * q.y) = _
  generalize finv (1 - d * p.x * q.x * p.y * q.y) = i at *
  generalize 1 - d * p.x * q.x * p.y * q.y = e at *
  grobner
def Ed.zero (a d : Fp) : Ed a d := ⟨0, 1, by grobner⟩
def Ed.neg {a d : Fp} (p : Ed a d) : Ed a d := ⟨-p.x, p.y, by have h := p.on; grobner⟩
theorem Ed.add_comm {a d : Fp} (G : Good a d) (p q : Ed a d) : p.add G q = q.add G p := by
  apply Ed.ext'
  · show (p.x * q.y + q.x * p.y) * finv (1 + d * p.x * q.x * p.y * q.y) = (q.x * p.y + p.x * q.y) * finv (1 + d * q.x * p.x * q.y * p.y)
    rw [show 1 + d * p.x * q.x * p.y * q.y = 1 + d * q.x * p.x * q.y * p.y by grobner]
    grobner
  · show (p.y * q.y - a * p.x * q.x) * finv (1 - d * p.x * q.x * p.y * q.y) = (q.y * p.y - a * q.x * p.x) * finv (1 - d * q.x * p.x * q.y * p.y)
    rw [show 1 - d * p.x * q.x * p.y * q.y = 1 - d * q.x * p.x * q.y * p.y by grobner]
    grobner
theorem Ed.add_zero {a d : Fp} (G : Good a d) (p : Ed a d) : p.add G (Ed.zero a d) = p := by
  apply Ed.ext'
  · have h := Ed.add_x G p (Ed.zero a d)
    rw [show (Ed.zero a d).x = 0 from rfl, show (Ed.zero a d).y = 1 from rfl] at h
    grobner
  · have h := Ed.add_y G p (Ed.zero a d)
    rw [show (Ed.zero a d).x = 0 from rfl, show (Ed.zero a d).y = 1 from rfl] at h
    grobner
theorem Ed.zero_add {a d : Fp} (G : Good a d) (p : Ed a d) : (Ed.zero a d).add G p = p := by rw [Ed.add_comm, Ed.add_zero]
theorem Ed.add_neg {a d : Fp} (G : Good a d) (p : Ed a d) : p.add G p.neg = Ed.zero a d := by
  obtain ⟨hn1, hn2⟩ := den_ne G p.on p.neg.on
  have h := p.on
  apply Ed.ext'
  · apply fcancel hn1
    rw [Ed.add_x]
    show p.x * p.y + -p.x * p.y = 0 * _
    grobner
  · apply fcancel hn2
    rw [Ed.add_y]
    show p.y * p.y - a * p.x * -p.x = 1 * (1 - d * p.x * -p.x * p.y * p.y)
    grobner
set_option maxHeartbeats 4000000 in
theorem assocX (a d x1 y1 x2 y2 x3 y3 : Fp) (h1 : a*x1*x1 + y1*y1 = 1 + d*x1*x1*y1*y1) (h2 : a*x2*x2 + y2*y2 = 1 + d*x2*x2*y2*y2) (h3 : a*x3*x3 + y3*y3 = 1 + d*x3*x3*y3*y3) :
  ((x1*y2 + x2*y1)*(1 - d*x1*x2*y1*y2)*y3 + x3*(y1*y2 - a*x1*x2)*(1 + d*x1*x2*y1*y2)) * ((1 + d*x2*x3*y2*y3)*(1 - d*x2*x3*y2*y3) + d*x1*y1*(x2*y3 + x3*y2)*(y2*y3 - a*x2*x3)) =
  ((x2*y3 + x3*y2)*(1 - d*x2*x3*y2*y3)*y1 + x1*(y2*y3 - a*x2*x3)*(1 + d*x2*x3*y2*y3)) * ((1 + d*x1*x2*y1*y2)*(1 - d*x1*x2*y1*y2) + d*x3*y3*(x1*y2 + x2*y1)*(y1*y2 - a*x1*x2)) := by grobner
set_option maxHeartbeats 4000000 in
theorem assocY (a d x1 y1 x2 y2 x3 y3 : Fp) (h1 : a*x1*x1 + y1*y1 = 1 + d*x1*x1*y1*y1) (h2 : a*x2*x2 + y2*y2 = 1 + d*x2*x2*y2*y2) (h3 : a*x3*x3 + y3*y3 = 1 + d*x3*x3*y3*y3) :
  ((y1*y2 - a*x1*x2)*(1 + d*x1*x2*y1*y2)*y3 - a*x3*(x1*y2 + x2*y1)*(1 - d*x1*x2*y1*y2)) * ((1 + d*x2*x3*y2*y3)*(1 - d*x2*x3*y2*y3) - d*x1*y1*(x2*y3 + x3*y2)*(y2*y3 - a*x2*x3)) =
  ((y2*y3 - a*x2*x3)*(1 + d*x2*x3*y2*y3)*y1 - a*x1*(x2*y3 + x3*y2)*(1 - d*x2*x3*y2*y3)) * ((1 + d*x1*x2*y1*y2)*(1 - d*x1*x2*y1*y2) - d*x3*y3*(x1*y2 + x2*y1)*(y1*y2 - a*x1*x2)) := by grobner
/-- In any brackets. -/
theorem Ed.add_assoc {a d : Fp} (G : Good a d) (p q r : Ed a d) : (p.add G q).add G r = p.add G (q.add G r) := by
  have kx := assocX a d p.x p.y q.x q.y r.x r.y p.on q.on r.on
  have ky := assocY a d p.x p.y q.x q.y r.x r.y p.on q.on r.on
  obtain ⟨n1, n2⟩ := den_ne G p.on q.on
  obtain ⟨n3, n4⟩ := den_ne G q.on r.on
  obtain ⟨m1, m2⟩ := den_ne G (p.add G q).on r.on
  obtain ⟨m3, m4⟩ := den_ne G p.on (q.add G r).on
  have a1 := Ed.add_x G p q
  have a2 := Ed.add_y G p q
  have b1 := Ed.add_x G q r
  have b2 := Ed.add_y G q r
  have c1 := Ed.add_x G (p.add G q) r
  have c2 := Ed.add_y G (p.add G q) r
  have d1 := Ed.add_x G p (q.add G r)
  have d2 := Ed.add_y G p (q.add G r)
  generalize p.add G q = pq at *
  generalize q.add G r = qr at *
  have hN := fmul_ne (fmul_ne n1 n2) (fmul_ne n3 n4)
  generalize 1 + d * p.x * q.x * p.y * q.y = E at *
  generalize 1 - d * p.x * q.x * p.y * q.y = F at *
  generalize 1 + d * q.x * r.x * q.y * r.y = E' at *
  generalize 1 - d * q.x * r.x * q.y * r.y = F' at *
  apply Ed.ext'
  · apply fcancel (fmul_ne (fmul_ne m1 m3) hN)
    have e1 : (pq.add G r).x * ((1 + d * pq.x * r.x * pq.y * r.y) * (1 + d * p.x * qr.x * p.y * qr.y) * (E * F * (E' * F'))) = (pq.x * r.y + r.x * pq.y) * (1 + d * p.x * qr.x * p.y * qr.y) * (E * F * (E' * F')) := by rw [← c1]; grobner
    have e2 : (p.add G qr).x * ((1 + d * pq.x * r.x * pq.y * r.y) * (1 + d * p.x * qr.x * p.y * qr.y) * (E * F * (E' * F'))) = (p.x * qr.y + qr.x * p.y) * (1 + d * pq.x * r.x * pq.y * r.y) * (E * F * (E' * F')) := by rw [← d1]; grobner
    rw [e1, e2]
    rw [← a1, ← a2, ← b1, ← b2] at kx
    clear ky a1 a2 b1 b2 c1 c2 d1 d2 e1 e2
    grobner
  · apply fcancel (fmul_ne (fmul_ne m2 m4) hN)
    have e1 : (pq.add G r).y * ((1 - d * pq.x * r.x * pq.y * r.y) * (1 - d * p.x * qr.x * p.y * qr.y) * (E * F * (E' * F'))) = (pq.y * r.y - a * pq.x * r.x) * (1 - d * p.x * qr.x * p.y * qr.y) * (E * F * (E' * F')) := by rw [← c2]; grobner
    have e2 : (p.add G qr).y * ((1 - d * pq.x * r.x * pq.y * r.y) * (1 - d * p.x * qr.x * p.y * qr.y) * (E * F * (E' * F'))) = (p.y * qr.y - a * p.x * qr.x) * (1 - d * pq.x * r.x * pq.y * r.y) * (E * F * (E' * F')) := by rw [← d2]; grobner
    rw [e1, e2]
    rw [← a1, ← a2, ← b1, ← b2] at ky
    clear kx a1 a2 b1 b2 c1 c2 d1 d2 e1 e2
    grobner
/-- So many times a point. -/
def Ed.mul {a d : Fp} (G : Good a d) (p : Ed a d) : Nat → Ed a d
  | 0 => Ed.zero a d
  | n + 1 => (p.mul G n).add G p
theorem Ed.mul_zero {a d : Fp} (G : Good a d) (p : Ed a d) : p.mul G 0 = Ed.zero a d := rfl
theorem Ed.mul_succ {a d : Fp} (G : Good a d) (p : Ed a d) (n : Nat) : p.mul G (n + 1) = (p.mul G n).add G p := rfl
theorem Ed.mul_add {a d : Fp} (G : Good a d) (p : Ed a d) (m n : Nat) : p.mul G (m + n) = (p.mul G m).add G (p.mul G n) := by
  induction n with
  | zero => rw [Nat.add_zero, Ed.mul_zero, Ed.add_zero]
  | succ n ih => rw [← Nat.add_assoc, Ed.mul_succ, Ed.mul_succ, ih, Ed.add_assoc]
theorem Ed.mul_one {a d : Fp} (G : Good a d) (p : Ed a d) : p.mul G 1 = p := by
  rw [show (1 : Nat) = 0 + 1 from rfl, Ed.mul_succ, Ed.mul_zero, Ed.zero_add]
theorem Ed.mul_mul {a d : Fp} (G : Good a d) (p : Ed a d) (m n : Nat) : p.mul G (m * n) = (p.mul G m).mul G n := by
  induction n with
  | zero => rw [Nat.mul_zero, Ed.mul_zero, Ed.mul_zero]
  | succ n ih => rw [Nat.mul_succ, Ed.mul_add, Ed.mul_succ, ih]
theorem Ed.mul_swap {a d : Fp} (G : Good a d) (p : Ed a d) (m n : Nat) : (p.mul G m).mul G n = (p.mul G n).mul G m := by
  rw [← Ed.mul_mul, ← Ed.mul_mul, Nat.mul_comm]
theorem Ed.zero_mul {a d : Fp} (G : Good a d) (n : Nat) : (Ed.zero a d).mul G n = Ed.zero a d := by
  induction n with
  | zero => rw [Ed.mul_zero]
  | succ n ih => rw [Ed.mul_succ, ih, Ed.add_zero]
theorem Ed.add_mul {a d : Fp} (G : Good a d) (p q : Ed a d) (n : Nat) : (p.add G q).mul G n = (p.mul G n).add G (q.mul G n) := by
  induction n with
  | zero => rw [Ed.mul_zero, Ed.mul_zero, Ed.mul_zero, Ed.add_zero]
  | succ n ih =>
    rw [Ed.mul_succ, Ed.mul_succ, Ed.mul_succ, ih, Ed.add_assoc, Ed.add_assoc, ← Ed.add_assoc G (q.mul G n) p q, Ed.add_comm G (q.mul G n) p, Ed.add_assoc]
theorem Ed.cancel {a d : Fp} (G : Good a d) {p q r : Ed a d} (h : p.add G r = q.add G r) : p = q := by
  have h1 : (p.add G r).add G r.neg = (q.add G r).add G r.neg := by rw [h]
  rwa [Ed.add_assoc, Ed.add_assoc, Ed.add_neg, Ed.add_zero, Ed.add_zero] at h1
theorem Ed.mul_mod {a d : Fp} (G : Good a d) (p : Ed a d) (l : Nat) (h : p.mul G l = Ed.zero a d) (n : Nat) : p.mul G (n % l) = p.mul G n := by
  conv => rhs; rw [← Nat.mod_add_div n l, Ed.mul_add, Ed.mul_mul, h, Ed.zero_mul, Ed.add_zero]
end Go.Proofs.YtdpafemcpbhlfaaDoor
namespace Go.Proofs.YtdpafemcpbhlfaaDoor
set_option maxRecDepth 100000

theorem finv_val (z : Fp) : (finv z).val = pm PN 255 z.val (PN - 2) 1 % PN := by
  have h := pm_eq PN 255 z.val (PN - 2) 1 (by decide +kernel)
  rw [h, Nat.one_mul]
  unfold finv
  have h2 := fv_val ((z.val : Int) ^ expInv)
  have he : expInv = PN - 2 := by have h3 := eInv; have h4 := pn_nat; have h5 : 2 < PN := (by decide +kernel); omega
  rw [he] at h2 ⊢
  rw [← Int.natCast_pow, pp_nat, ← Int.natCast_emod] at h2
  exact Int.ofNat.inj h2
def bitsDown (l : List Int) : Nat → List Bool
  | 0 => []
  | k + 1 => kb l k :: bitsDown l k
/-- Keys and numbers. -/
theorem ofKey_keyOf (v : Fp) : ofKey (keyOf v) = v := by
  have hv := v.isLt
  have e : keyNum (keyOf v) = (v.val : Int) := by
    unfold keyNum keyOf
    rw [dig_digits (by omega), show (256 : Int) ^ 32 = 115792089237316195423570985008687907853269984665640564039457584007913129639936 by decide]
    have h1 : (v.val : Int) < 57896044618658097711785492504343953926634992332820282019728792003956564819949 := by
      have : v.val < 57896044618658097711785492504343953926634992332820282019728792003956564819949 := hv
      omega
    rw [Int.emod_eq_of_lt (by omega) (by omega), Int.emod_eq_of_lt (by omega) (by omega)]
  unfold ofKey
  rw [e, val_fv]
theorem keyOf_inj {v w : Fp} (h : keyOf v = keyOf w) : v = w := by rw [← ofKey_keyOf v, h, ofKey_keyOf]
theorem keyOf_zero : keyOf 0 = zeroKL := by decide +kernel
theorem keyOf_eq_zero (v : Fp) : keyOf v = zeroKL ↔ v = 0 := by
  rw [← keyOf_zero]
  exact ⟨keyOf_inj, fun h => by rw [h]⟩
end Go.Proofs.YtdpafemcpbhlfaaDoor
