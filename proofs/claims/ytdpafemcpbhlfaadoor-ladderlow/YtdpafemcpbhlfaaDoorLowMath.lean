/-
  The points of which eight times is nothing, by the ladder; arrays of keys.
-/
import Derived.Test.YtdpafemcpbhlfaaDoorThreeMath
import Derived.Test.YtdpafemcpbhlfaaDoorPv
namespace Go.Proofs.YtdpafemcpbhlfaaDoor
set_option maxRecDepth 100000
open Go.RowKit

theorem mul8_of {a d : Fp} (G : Good a d) (p : Ed a d) (h : p.mul G 8 = Ed.zero a d) (n : Nat) (hn : n % 8 = 0) : p.mul G n = Ed.zero a d := by
  rw [show n = 8 * (n / 8) by omega, Ed.mul_mul, h, Ed.zero_mul]
theorem mul4_y {a d : Fp} (G : Good a d) (p : Ed a d) (h : p.y = 0) : p.mul G 4 = Ed.zero a d := by
  have on := p.on
  have h1 := Ed.add_y G p p
  rw [h] at on h1
  have h2 : (p.add G p).y = -1 := by grobner
  have h3 := ed_neg_one G _ h2
  rw [show 4 = 2 + 2 from rfl, Ed.mul_add, show 2 = 1 + 1 from rfl, Ed.mul_add, Ed.mul_one]
  exact h3
theorem mul8_y {a d : Fp} (G : Good a d) (p : Ed a d) (h : p.y * p.y - a * p.x * p.x = 0) : p.mul G 8 = Ed.zero a d := by
  have h1 := Ed.add_y G p p
  obtain ⟨_, hn⟩ := den_ne G p.on p.on
  have h2 : (p.add G p).y = 0 := by
    rw [h] at h1
    exact (fmul_zero h1).elim id (fun e => absurd e hn)
  have h3 := mul4_y G _ h2
  rw [show 8 = 2 * 4 from rfl, Ed.mul_mul, show 2 = 1 + 1 from rfl, Ed.mul_add, Ed.mul_one]
  exact h3
theorem uOf_y0 {a d s : Fp} (p : Ed a d) (h : p.y = 0) : uOf s p = finv s := by
  unfold uOf
  rw [h, show s * (1 - 0) = s by grobner]
  grobner
theorem clamp8 {l : List Int} (hl : l.length = 32) (hd : Digs 256 l) : expo (clampL l) % 8 = 0 := by
  have hD := clampL_digs hd
  have g0 := hd.get (B := 256) (by omega) 0
  have b := expo_byte (clampL l) hD 0
  rw [clampL_get hl hd, if_pos rfl, Nat.pow_zero, Nat.div_one] at b
  omega
theorem lad_tiny {a d c s : Fp} (M : Mont a d c s 486662) (p : Ed a d) (h8 : p.mul M.good 8 = Ed.zero a d) {l : List Int} (hl : l.length = 32) (hd : Digs 256 l) : ladV (clampL l) (uOf s p) = 0 := by
  rw [ladV_mul M p _ (clamped_of hl hd), mul8_of M.good p h8 _ (clamp8 hl hd), uOf_zero]
/-- The four. -/
theorem lad_u0 {l : List Int} (hl : l.length = 32) (hd : Digs 256 l) : ladV (clampL l) 0 = 0 := ladV_zero _ (clamped_of hl hd)
theorem mul8_4 {a d : Fp} (G : Good a d) (p : Ed a d) (h : p.y = 0) : p.mul G 8 = Ed.zero a d := by
  rw [show 8 = 4 * 2 from rfl, Ed.mul_mul, mul4_y G p h, Ed.zero_mul]
theorem lad_u1 {l : List Int} (hl : l.length = 32) (hd : Digs 256 l) : ladV (clampL l) 1 = 0 := by
  obtain ⟨t, ht⟩ := mont1.good.sq
  have hi := finv_mul mont1.good.ne
  have hp : (486664 : Fp) * (t * finv 486664) * (t * finv 486664) + 0 * 0 = 1 + 486660 * (t * finv 486664) * (t * finv 486664) * 0 * 0 := by
    generalize finv (486664 : Fp) = i at *
    grobner
  have h := lad_tiny mont1 ⟨t * finv 486664, 0, hp⟩ (mul8_4 mont1.good _ rfl) hl hd
  rw [uOf_y0 _ rfl, finv_eq (x := 1) (y := 1) (by grobner)] at h
  exact h
theorem lad_um {l : List Int} (hl : l.length = 32) (hd : Digs 256 l) : ladV (clampL l) (-1) = 0 := by
  obtain ⟨t, ht⟩ := mont2.good.sq
  have hi := finv_mul mont2.good.ne
  have hp : (243330 : Fp) * (t * finv 243330) * (t * finv 243330) + 0 * 0 = 1 + 243332 * (t * finv 243330) * (t * finv 243330) * 0 * 0 := by
    generalize finv (243330 : Fp) = i at *
    grobner
  have h := lad_tiny mont2 ⟨t * finv 243330, 0, hp⟩ (mul8_4 mont2.good _ rfl) hl hd
  rw [uOf_y0 _ rfl, finv_eq (x := -1) (y := -1) (by grobner)] at h
  exact h
theorem or8_bnd (x y : Int) (hx : 0 ≤ x ∧ x < 256) (hy : 0 ≤ y ∧ y < 256) : 0 ≤ bits .or .u8 x y ∧ bits .or .u8 x y < 256 := by
  obtain ⟨m, rfl⟩ := Int.eq_ofNat_of_zero_le hx.1
  obtain ⟨n, rfl⟩ := Int.eq_ofNat_of_zero_le hy.1
  have h : m ||| n < 2 ^ 8 := Nat.or_lt_two_pow (by omega) (by omega)
  have e : bits .or .u8 (m : Int) (n : Int) = ((m ||| n : Nat) : Int) := u8_or_nat m n (by omega) (by omega)
  rw [e]
  omega
abbrev u8N : Nat := 325606250916557431795983626356110631294008115727848805560023387167927233504
theorem lad_u8 {l : List Int} (hl : l.length = 32) (hd : Digs 256 l) : ladV (clampL l) 325606250916557431795983626356110631294008115727848805560023387167927233504 = 0 := by
  have h := lad_tiny mont1 ⟨13592629009772322593117745678182639703439816571852338917757458366445953075968, 55188659117513257062467267217118295137698188065244968500265048394206261417927, by decide +kernel⟩ (mul8_y mont1.good _ (by decide +kernel)) hl hd
  have hu : uOf 1 (⟨13592629009772322593117745678182639703439816571852338917757458366445953075968, 55188659117513257062467267217118295137698188065244968500265048394206261417927, by decide +kernel⟩ : Ed 486664 486660) = 325606250916557431795983626356110631294008115727848805560023387167927233504 := by
    unfold uOf
    rw [finv_eq (y := 29110825434787327571790738065350032278964500224274065412644407695562246026727) (by decide +kernel)]
    decide +kernel
  rw [hu] at h
  exact h
/-- Lists of 32 bytes, one behind the other. -/
def RK (l : List Int) (arr : Array Value) : Prop := arr = numsA .u8 l ∧ l.length = 32 ∧ Digs 256 l
theorem Ch.key {l : List Int} (hl : l.length = 32) (hd : Digs 256 l) : Ch 32 RK [l] (numsA .u8 l) := Ch.mk (by rw [numsA_size]; exact hl) (numsA_one _ _) ⟨rfl, hl, hd⟩
theorem sz4K : (Tryd.prog.info? 34).map (·.size) = some 128 := by kernel_rfl
def z4K : Array Value := zeroK ++ zeroK ++ zeroK ++ zeroK
theorem z4K_run (w : World) : (zeroValue 34).run Tryd.prog w = .ok (.agg z4K) w := by kernel_rfl
theorem zeroK_nums : zeroK = numsA .u8 zeroKL := by kernel_rfl
theorem z4K_ch : Ch 32 RK [zeroKL, zeroKL, zeroKL, zeroKL] z4K := by
  unfold z4K
  rw [zeroK_nums]
  exact (((Ch.key zeroKL_length zeroKL_digs).cat (Ch.key zeroKL_length zeroKL_digs)).cat (Ch.key zeroKL_length zeroKL_digs)).cat (Ch.key zeroKL_length zeroKL_digs)
theorem run_adrA {P : Program} {o : Oper} {a : Act} {p q : Operand} {T : TypeId} {n c : Nat} {E : TypeId} {g i : Nat} (ho : o.op = .indexAddr T p q) (hT : P.underlying T = some (.array n E)) (hs : (P.info? E).map (·.size) = some c) (hp : a.eval p = .pointer (some ⟨g, 0, none⟩)) (hq : a.eval q = .int .i64 (i : Int)) (hi : i < n) (w : World) :
    (execOp a.eval o).run P w = .ok (.value (.pointer (some ⟨g, c * i, none⟩))) w := by
  have hsz : ∀ w, (sizeOf E).run P w = .ok c w := fun w => by
    cases hq : P.info? E with
    | none => simp [hq] at hs
    | some i => have : i.size = c := by simpa [hq] using hs
                simp [sizeOf, typeInfo, hq, this]
  generalize a.eval = ev at *; unfold execOp; simp only [ho]; simp [hp, hq, go_sem, hT, hsz, hi, Addr.add, Nat.mul_comm]
  intro h; exact h.symm
end Go.Proofs.YtdpafemcpbhlfaaDoor
