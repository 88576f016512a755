/-
  The reference's points, powers and roots; halving in place; small laws for their walks.
-/
import Derived.Test.YtdpafemcpbhlfaaDoorPtR
import Derived.Test.YtdpafemcpbhlfaaDoorRf6
import Derived.Test.YtdpafemcpbhlfaaDoorHf
namespace Go.Proofs.YtdpafemcpbhlfaaDoor
set_option maxRecDepth 100000
open Go.RowKit

/-- 48 cells that are a point of the curve, by the reference; of none nothing is said. -/
def RQ (o : Option EP) (arr : Array Value) : Prop := match o with
  | some e => ∃ X Y Z : Fp, Ch 16 RN [X, Y, Z] arr ∧ Z ≠ 0 ∧ X = e.x * Z ∧ Y = e.y * Z
  | none => True
theorem Ch.rq {X Y Z : Fp} {e : EP} {arr : Array Value} (h : Ch 16 RN [X, Y, Z] arr) (hz : Z ≠ 0) (hx : X = e.x * Z) (hy : Y = e.y * Z) : Ch 48 RQ [some e] arr := Ch.mk h.size h.one' ⟨X, Y, Z, h, hz, hx, hy⟩
theorem Ch.rjunk {vs : List Fp} {arr : Array Value} (h : Ch 16 RN vs arr) (hv : vs.length = 3) : Ch 48 RQ [none] arr := Ch.mk (by rw [h.size, hv]) h.one' trivial
theorem zR6_q : Ch 48 RQ [none] zR6 := Ch.rjunk zR6_ch rfl
theorem dV_eq : -(fv 121665) * finv (fv 121666) = dC := by
  have h : fv 121666 ≠ 0 := by decide +kernel
  have h1 : dC * fv 121666 = -(fv 121665) := by
    rw [dC_fv]
    decide +kernel
  have hi := finv_mul h
  rw [← h1]
  generalize finv (fv 121666) = i at *
  generalize fv 121666 = z at *
  clear h1
  grobner
theorem rDR (w : World) : Calls Tryd.prog 30 #[] w (RetC 16 RN [dC] w) := by
  have h := rDP w
  rw [dV_eq] at h
  exact h
theorem rZeroR (w : World) : Calls Tryd.prog 72 #[] w (RetC 48 RQ [some EP.nil] w) :=
  (rZeroP w).mono fun _ _ ⟨arr, he, hc, hu⟩ => ⟨arr, he, hc.rq (by rw [fv_one]; exact one_ne_zero') (show (0 : Fp) = 0 * fv 1 by grobner) (show fv 1 = 1 * fv 1 by grobner), hu⟩
theorem raddR {e f : EP} {a b c : Array Value} (w : World) (ha : Ch 48 RQ [some e] a) (hb : Ch 48 RQ [some f] b) (hc : Ch 16 RN [dC] c) : Calls Tryd.prog 29 #[.agg a, .agg b, .agg c] w (RetC 48 RQ [some (e.plus f)] w) := by
  obtain ⟨X1, Y1, Z1, h1, z1, x1, y1⟩ := ha.get
  obtain ⟨X2, Y2, Z2, h2, z2, x2, y2⟩ := hb.get
  refine (raddP w h1 h2 hc).mono fun _ _ ⟨arr, he, hch, hu⟩ => ⟨arr, he, hch.rq (e := e.plus f) ?_ ?_ ?_, hu⟩
  all_goals
    obtain ⟨n1, n2⟩ := den_ne goodP e.on f.on
    have ax := Ed.add_x goodP e f
    have ay := Ed.add_y goodP e f
    have hz := fmul_ne z1 z2
    have eM : Z1 * Z2 * (Z1 * Z2) - dC * (X1 * X2 * (Y1 * Y2)) = Z1 * Z2 * (Z1 * Z2) * (1 - dC * e.x * f.x * e.y * f.y) := by rw [x1, x2, y1, y2]; grobner
    have eP : Z1 * Z2 * (Z1 * Z2) + dC * (X1 * X2 * (Y1 * Y2)) = Z1 * Z2 * (Z1 * Z2) * (1 + dC * e.x * f.x * e.y * f.y) := by rw [x1, x2, y1, y2]; grobner
    have eX : (X1 + Y1) * (X2 + Y2) - X1 * X2 - Y1 * Y2 = Z1 * Z2 * (e.x * f.y + f.x * e.y) := by rw [x1, x2, y1, y2]; grobner
    have eY : Y1 * Y2 + X1 * X2 = Z1 * Z2 * (e.y * f.y - -1 * e.x * f.x) := by rw [x1, x2, y1, y2]; grobner
    rw [← ax] at eX
    rw [← ay] at eY
  · rw [eM, eP]
    exact fmul_ne (fmul_ne (fmul_ne hz hz) n2) (fmul_ne (fmul_ne hz hz) n1)
  · show _ = (e.add goodP f).x * _
    rw [eM, eP, eX]
    generalize 1 + dC * e.x * f.x * e.y * f.y = A
    generalize 1 - dC * e.x * f.x * e.y * f.y = B
    generalize Z1 * Z2 = z
    clear n1 n2 ax ay eM eP eX eY
    grobner
  · show _ = (e.add goodP f).y * _
    rw [eM, eP, eY]
    generalize 1 + dC * e.x * f.x * e.y * f.y = A
    generalize 1 - dC * e.x * f.x * e.y * f.y = B
    generalize Z1 * Z2 = z
    clear n1 n2 ax ay eM eP eX eY
    grobner
/-- So many times a point, from the lowest bit on. -/
theorem low_t {e : EP} {l : List Int} (hd : Digs 256 l) {k : Nat} (h : kb l k = true) : e.times (expo l % 2 ^ (k + 1)) = (e.times (expo l % 2 ^ k)).plus (e.times (2 ^ k)) := by
  have hb := expo_bit l hd k
  unfold kb at h
  have h1 : bitAt l k = 1 := of_decide_eq_true h
  rw [← hb] at h1
  have h2 : expo l / 2 ^ k % 2 = 1 := by omega
  rw [Nat.pow_succ, Nat.mod_mul, h2, Nat.mul_one, times_add]
theorem low_f {e : EP} {l : List Int} (hd : Digs 256 l) {k : Nat} (h : kb l k = false) : e.times (expo l % 2 ^ (k + 1)) = e.times (expo l % 2 ^ k) := by
  have hb := expo_bit l hd k
  unfold kb at h
  have h1 : ¬ bitAt l k = 1 := of_decide_eq_false h
  rw [← hb] at h1
  have h2 : expo l / 2 ^ k % 2 = 0 := by omega
  rw [Nat.pow_succ, Nat.mod_mul, h2, Nat.mul_zero, Nat.add_zero]
theorem low_all {l : List Int} (hl : l.length = 32) (hd : Digs 256 l) : expo l % 2 ^ 256 = expo l := by
  have h := expo_top l hl hd
  have h2 := Nat.mod_add_div (expo l) (2 ^ 256)
  rw [h] at h2
  omega
theorem pow_two_plus (e : EP) (k : Nat) : e.times (2 ^ (k + 1)) = (e.times (2 ^ k)).plus (e.times (2 ^ k)) := by rw [Nat.pow_succ, Nat.mul_comm, Nat.two_mul, times_add]
/-- Halving in place: the rounds. -/
def hstep (M : List Int) (c : Int) (j : Nat) : List Int × Int := (M.set j ((M.getD j 0 + c * 65536) / 2), (M.getD j 0 + c * 65536) % 2)
def hsM (A : List Int) : Nat → List Int × Int
  | 0 => (A, 0)
  | m + 1 => hstep (hsM A m).1 (hsM A m).2 (15 - m)
def hsF (A : List Int) (k : Nat) : List Int × Int := hsM A (16 - k)
theorem hsF_step (A : List Int) (j : Nat) (h : j < 16) : hsF A j = hstep (hsF A (j + 1)).1 (hsF A (j + 1)).2 j := by
  unfold hsF
  rw [show 16 - j = 16 - (j + 1) + 1 by omega]
  show hstep _ _ (15 - (16 - (j + 1))) = _
  rw [show 15 - (16 - (j + 1)) = j by omega]
theorem hsM_ok {A : List Int} (hl : A.length = 16) (hd : Digs 65536 A) : ∀ m, (hsM A m).1.length = 16 ∧ Digs 65536 (hsM A m).1 ∧ 0 ≤ (hsM A m).2 ∧ (hsM A m).2 < 2
  | 0 => ⟨hl, hd, by show (0 : Int) ≤ 0; omega, by show (0 : Int) < 2; omega⟩
  | m + 1 => by
    obtain ⟨h1, h2, h3, h4⟩ := hsM_ok hl hd m
    have h5 := h2.get (B := 65536) (by omega) (15 - m)
    refine ⟨?_, ?_, ?_, ?_⟩
    · show ((hsM A m).1.set _ _).length = 16
      rw [List.length_set]; exact h1
    · exact digs_set h2 _ _ (by omega) (by omega)
    · show 0 ≤ ((hsM A m).1.getD (15 - m) 0 + (hsM A m).2 * 65536) % 2
      omega
    · show ((hsM A m).1.getD (15 - m) 0 + (hsM A m).2 * 65536) % 2 < 2
      omega
theorem hsF_ok {A : List Int} (hl : A.length = 16) (hd : Digs 65536 A) (k : Nat) : (hsF A k).1.length = 16 ∧ Digs 65536 (hsF A k).1 ∧ 0 ≤ (hsF A k).2 ∧ (hsF A k).2 < 2 := hsM_ok hl hd (16 - k)
/-- Halved so often. -/
def hit (A : List Int) : Nat → List Int
  | 0 => A
  | k + 1 => (hsF (hit A k) 0).1
theorem hit_ok {A : List Int} (hl : A.length = 16) (hd : Digs 65536 A) : ∀ k, (hit A k).length = 16 ∧ Digs 65536 (hit A k)
  | 0 => ⟨hl, hd⟩
  | k + 1 => by
    obtain ⟨h1, h2⟩ := hit_ok hl hd k
    obtain ⟨h3, h4, _⟩ := hsM_ok h1 h2 16
    exact ⟨h3, h4⟩
theorem set_len16 {l : List Int} (h : l.length = 16) (i : Nat) (v : Int) : (l.set i v).length = 16 := by rw [List.length_set]; exact h
theorem quo64 {x : Int} (h : 0 ≤ x ∧ x ≤ 18446744073709551615) : IntKind.wrap .u64 (Int.tdiv x 2) = x / 2 := by
  rw [Int.tdiv_eq_ediv_of_nonneg h.1]
  exact IntWalk.u64_in _ (by omega)
theorem wpOps_storeK {P : Program} {ops : Array Oper} {Q : Exit → Act → World → Prop} {o : Oper} {a : Act} {w : World} {l : List Nat} (n : Nat) (ho : ops[n]? = some o) (hgd : o.guard = none) (hd : o.dst = none) (ty : TypeId) (x y : Operand) (hop : o.op = .store ty x y) (hs : (P.info? ty).map (·.size) = some 1) (g i : Nat) (hx : a.eval x = .pointer (some ⟨g, i, none⟩)) (kk : IntKind) (v : Int) (hy : a.eval y = .int kk v) (t : TypeId) (L : List Int) (hb : Blk w g t (numsA kk L)) (hi : i < L.length)
    (h : ∀ w', Blk w' g t (numsA kk (L.set i v)) → Upd (· = g) w w' → wpOps P ops Q l a w') : wpOps P ops Q (n :: l) a w := by
  rw [wpOps_cons]
  refine wpOp_step ho (fun K hK => ?_)
  refine step_storeCell hgd ty x y hop hs g i hx _ _ hy t _ hb (by rw [numsA_size]; exact hi) ?_
  intro w' h1 h2
  rw [hd]
  rw [numsA_set] at h1
  exact hK _ _ (h w' h1 h2)
/-- Powers. -/
def fpw (x : Fp) (n : Nat) : Fp := fv ((x.val : Int) ^ n)
theorem fv_pow (m : Int) (n : Nat) : fv (m ^ n) = fpw (fv m) n := ((val_cong m).symm.pow n).fv
theorem fpw_add (x : Fp) (m n : Nat) : fpw x (m + n) = fpw x m * fpw x n := by
  unfold fpw
  rw [Int.pow_add, fv_mul]
theorem fpw_one (x : Fp) : fpw x 1 = x := by
  unfold fpw
  rw [show (x.val : Int) ^ 1 = x.val by rw [Int.pow_succ, Int.pow_zero, Int.one_mul], val_fv]
theorem fpw_two (x : Fp) (n : Nat) : fpw (x * x) n = fpw x (2 * n) := by
  have h : fv ((x.val : Int) * x.val) = x * x := by rw [fv_mul, val_fv]
  rw [← h, ← fv_pow]
  unfold fpw
  congr 1
  rw [Int.pow_mul]
  congr 1
  rw [Int.pow_succ, Int.pow_succ, Int.pow_zero, Int.one_mul]
theorem fpw_full {x : Fp} (h : x ≠ 0) : fpw x (PN - 1) = 1 := by
  have h1 : (x.val : Int) % pp ≠ 0 := fun e => h (by rw [← val_fv x, (fv_eq_zero _).2 e])
  have h2 := (cong_full h1 (k := PN - 1) (by decide +kernel)).fv
  rw [fv_one] at h2
  exact h2
theorem fpw_zero {n : Nat} (h : 0 < n) : fpw 0 n = 0 := by
  unfold fpw
  rw [show (((0 : Fp).val : Nat) : Int) = 0 by decide +kernel, Int.zero_pow (by omega), fv_zero]
theorem fpw_val (x : Fp) (n : Nat) (h : n < 2 ^ 255) : (fpw x n).val = pm PN 255 x.val n 1 % PN := by
  have h1 := pm_eq PN 255 x.val n 1 h
  rw [h1, Nat.one_mul]
  unfold fpw
  have h2 := fv_val ((x.val : Int) ^ n)
  rw [← Int.natCast_pow, pp_nat, ← Int.natCast_emod] at h2
  exact Int.ofNat.inj h2
abbrev e4I : Int := (pp - 1) / 4
abbrev e8I : Int := (pp + 3) / 8
noncomputable def iF : Fp := fpw (fv 2) e4I.toNat
theorem iF_sq : iF * iF = -1 := by
  unfold iF
  rw [← fpw_add]
  apply Fin.ext
  rw [fpw_val _ _ (by decide +kernel)]
  decide +kernel
/-- The reference's root. -/
noncomputable def rrootF (a : Fp) : Fp := if fpw a e8I.toNat * fpw a e8I.toNat = a then fpw a e8I.toNat else fpw a e8I.toNat * iF
theorem rroot_sq {a z : Fp} (h : z * z = a) : rrootF a * rrootF a = a := by
  unfold rrootF
  by_cases h1 : fpw a e8I.toNat * fpw a e8I.toNat = a
  · rw [if_pos h1]; exact h1
  · rw [if_neg h1]
    have h2 : fpw a e8I.toNat * fpw a e8I.toNat = a * fpw a e4I.toNat := by
      rw [← fpw_add, show e8I.toNat + e8I.toNat = 1 + e4I.toNat by decide +kernel, fpw_add, fpw_one]
    by_cases hz : z = 0
    · exfalso
      apply h1
      rw [h2, ← h, hz]
      grobner
    · have h3 : fpw a e4I.toNat * fpw a e4I.toNat = 1 := by
        rw [← fpw_add, ← h, fpw_two, show 2 * (e4I.toNat + e4I.toNat) = PN - 1 by decide +kernel]
        exact fpw_full hz
      have h4 : fpw a e4I.toNat = 1 ∨ fpw a e4I.toNat = -1 := sq_eq (by rw [h3]; grobner)
      have hi := iF_sq
      rcases h4 with h4 | h4
      · exfalso
        apply h1
        rw [h2, h4]
        grobner
      · rw [h4] at h2
        generalize fpw a e8I.toNat = x at *
        generalize iF = i at *
        clear h1 h3 h4 h
        grobner
theorem rpowE {x : Fp} {a : Array Value} {E : Int} (w : World) (ha : Ch 16 RN [x] a) (h0 : 0 ≤ E) (h1 : E < 115792089237316195423570985008687907853269984665640564039457584007913129639936) : Calls Tryd.prog 90 #[.agg a, .agg (numsA .u64 (digits 65536 16 E))] w (RetC 16 RN [fpw x E.toNat] w) := by
  obtain ⟨r, n, rfl, hn, rfl⟩ := ha.get
  exact (rPower_any r n E w hn h0 h1).mono fun _ _ h => h.c (fv_pow n _)
theorem rprimeE (w : World) : Calls Tryd.prog 92 #[] w fun e w' => e = .returned (.agg (numsA .u64 (digits 65536 16 pp))) ∧ Upd (fun _ => False) w w' := rPrime_any w
def pm1L : List Int := digits 65536 16 (pp - 1)
def pp3L : List Int := digits 65536 16 (pp + 3)
theorem pm1L_eq : (digits 65536 16 pp).set 0 ((digits 65536 16 pp).getD 0 0 - 1) = pm1L := by decide +kernel
theorem pp3L_eq : (digits 65536 16 pp).set 0 ((digits 65536 16 pp).getD 0 0 + 3) = pp3L := by decide +kernel
theorem pp_low : (digits 65536 16 pp).getD 0 0 = 65517 := by decide +kernel
theorem pm1L_length : pm1L.length = 16 := digits_length _ _ _
theorem pm1L_digs : Digs 65536 pm1L := digits_digs (by omega) _ _
theorem pp3L_length : pp3L.length = 16 := digits_length _ _ _
theorem pp3L_digs : Digs 65536 pp3L := digits_digs (by omega) _ _
theorem hit_pm1 : hit pm1L 2 = digits 65536 16 e4I := by decide +kernel
theorem hit_pp3 : hit pp3L 3 = digits 65536 16 e8I := by decide +kernel
/-- A number as Canon answers it. -/
def canL (v : Fp) : List Int := digits 65536 16 (v.val : Int)
theorem canL_length (v : Fp) : (canL v).length = 16 := digits_length _ _ _
theorem Ch.can (v : Fp) : Ch 16 RN [v] (numsA .u64 (canL v)) := by
  have h : v.val < 57896044618658097711785492504343953926634992332820282019728792003956564819949 := v.isLt
  exact Ch.num (r := (v.val : Int)) (n := (v.val : Int)) (okNum (by omega) (by omega)) (val_fv v)
theorem canL_inj (x y : Fp) : decide (canL x = canL y) = decide (x = y) := by
  have hx : x.val < 57896044618658097711785492504343953926634992332820282019728792003956564819949 := x.isLt
  have hy : y.val < 57896044618658097711785492504343953926634992332820282019728792003956564819949 := y.isLt
  have h := numN_inj (u := (x.val : Int)) (v := (y.val : Int)) (by omega) (by omega)
  unfold canL
  rw [h, decide_eq_decide]
  exact ⟨fun e => Fin.ext (by omega), fun e => by rw [e]⟩
theorem canL_zero : canL 0 = List.replicate 16 0 := by decide +kernel
theorem canL_odd (v : Fp) : (canL v).getD 0 0 % 2 = ((v.val % 2 : Nat) : Int) := by
  have e : (canL v).getD 0 0 = (v.val : Int) / 65536 ^ 0 % 65536 := digits_getD (by omega) 16 0 _ (by omega)
  rw [e, Int.pow_zero, Int.ediv_one]
  omega
theorem canE {x : Fp} {a : Array Value} (w : World) (ha : Ch 16 RN [x] a) : Calls Tryd.prog 88 #[.agg a] w fun e w' => e = .returned (.agg (numsA .u64 (canL x))) ∧ Upd (fun _ => False) w w' := rCanonE ha
theorem keyOf_par (v : Fp) : (keyOf v).getD 0 0 % 2 = ((v.val % 2 : Nat) : Int) := by
  have e : (keyOf v).getD 0 0 = (v.val : Int) / 256 ^ 0 % 256 := digits_getD (by omega) 32 0 _ (by omega)
  rw [e, Int.pow_zero, Int.ediv_one]
  omega
theorem encL_tr {x y : Fp} (h : (keyOf x).getD 0 0 % 2 = 1) : encL x y = (keyOf y).set 31 ((keyOf y).getD 31 0 + 128) := by
  rw [keyOf_par] at h
  unfold encL
  rw [if_pos (by omega)]
theorem encL_fr {x y : Fp} (h : ¬ (keyOf x).getD 0 0 % 2 = 1) : encL x y = keyOf y := by
  rw [keyOf_par] at h
  unfold encL
  rw [if_neg (by omega)]
theorem run_buildN0 {o : Oper} {a : Act} (ho : o.op = .build 45 #[]) (w : World) : (execOp a.eval o).run Tryd.prog w = .ok (.value (.agg (numsA .u64 (canL 0)))) w := by
  have hb : (Instr.build 45 #[]).run Tryd.prog w = .ok (.agg (numsA .u64 (canL 0))) w := by
    rw [canL_zero]
    kernel_rfl
  have hm : (#[] : Array (Nat × Operand)).map (fun (i, x) => (i, a.eval x)) = #[] := by simp
  unfold execOp
  simp only [ho]
  rw [hm, Sem.run_bind, hb]
  rfl
theorem run_eqlN {o : Oper} {a : Act} {p q : Operand} {x y : Fp} {b : Bool} (ho : o.op = .binOp .eql 45 p q 45) (hp : a.eval p = .agg (numsA .u64 (canL x))) (hq : a.eval q = .agg (numsA .u64 (canL y))) (h : decide (canL x = canL y) = b) (w : World) :
    (execOp a.eval o).run Tryd.prog w = .ok (.value (.bool b)) w := by
  have he := eqNum (x.val : Int) (y.val : Int) w
  have hg := guardNum
  rw [show decide (digits 65536 16 (x.val : Int) = digits 65536 16 (y.val : Int)) = b from h] at he
  have hp' : a.eval p = .agg (numN (x.val : Int)) := hp
  have hq' : a.eval q = .agg (numN (y.val : Int)) := hq
  clear hp hq
  generalize a.eval = ev at hp' hq' ⊢
  unfold execOp
  simp only [ho]
  simp [hp', hq', go_sem, he, hg]
theorem run_neqN {o : Oper} {a : Act} {p q : Operand} {x y : Fp} {b : Bool} (ho : o.op = .binOp .neq 45 p q 45) (hp : a.eval p = .agg (numsA .u64 (canL x))) (hq : a.eval q = .agg (numsA .u64 (canL y))) (h : decide (canL x = canL y) = !b) (w : World) :
    (execOp a.eval o).run Tryd.prog w = .ok (.value (.bool b)) w := by
  have he := eqNum (x.val : Int) (y.val : Int) w
  have hg := guardNum
  rw [show decide (digits 65536 16 (x.val : Int) = digits 65536 16 (y.val : Int)) = !b from h] at he
  have hp' : a.eval p = .agg (numN (x.val : Int)) := hp
  have hq' : a.eval q = .agg (numN (y.val : Int)) := hq
  clear hp hq
  generalize a.eval = ev at hp' hq' ⊢
  unfold execOp
  simp only [ho]
  cases b <;> simp [hp', hq', go_sem, he, hg]
theorem rroot_n {a : Fp} (h : (!(decide ((canL (fpw a e8I.toNat * fpw a e8I.toNat)) = (canL a)))) = true) : rrootF a = fpw a e8I.toNat * iF := by
  rw [canL_inj] at h
  unfold rrootF
  rw [if_neg]
  intro e
  rw [decide_eq_true e] at h
  cases h
theorem rroot_y {a : Fp} (h : (!(decide ((canL (fpw a e8I.toNat * fpw a e8I.toNat)) = (canL a)))) = false) : rrootF a = fpw a e8I.toNat := by
  rw [canL_inj] at h
  unfold rrootF
  rw [if_pos]
  apply Classical.byContradiction
  intro e
  rw [decide_eq_false e] at h
  cases h
theorem canL_nn (x : Fp) : 0 ≤ (canL x).getD 0 0 := ((digits_digs (by omega) _ _).get (B := 65536) (by omega) 0).1
theorem run_buildR60 {o : Oper} {a : Act} (ho : o.op = .build 47 #[]) (w : World) : (execOp a.eval o).run Tryd.prog w = .ok (.value (.agg zR6)) w := by
  have hb : (Instr.build 47 #[]).run Tryd.prog w = .ok (.agg zR6) w := by kernel_rfl
  have hm : (#[] : Array (Nat × Operand)).map (fun (i, x) => (i, a.eval x)) = #[] := by simp
  unfold execOp
  simp only [ho]
  rw [hm, Sem.run_bind, hb]
  rfl
/-- What the reference takes the root of. -/
noncomputable def aOf (y : Fp) : Fp := (y * y - fv 1) * finv (dC * (y * y) + fv 1)
theorem aOf_iff (y z : Fp) : z * z = aOf y ↔ z * z * (dC * (y * y) + fv 1) = y * y - fv 1 := by
  have hi := finv_mul (den_y y)
  unfold aOf
  generalize finv (dC * (y * y) + fv 1) = i at *
  generalize dC * (y * y) + fv 1 = v at *
  generalize y * y - fv 1 = u at *
  constructor
  · intro h; rw [h]; grobner
  · intro h; rw [← h]; grobner
theorem aOf_isY (y : Fp) : isY y = true ↔ rrootF (aOf y) * rrootF (aOf y) = aOf y := by
  constructor
  · intro h
    obtain ⟨z, hz⟩ := rootO_iff.1 h
    exact rroot_sq ((aOf_iff y z).2 hz)
  · intro h
    exact rootO_t ⟨_, (aOf_iff y _).1 h⟩
theorem xOf_sq {y z : Fp} (h : z * z = aOf y) : xOf y * xOf y = z * z := by
  obtain ⟨h1, _⟩ := rootF_some ⟨z, (aOf_iff y z).1 h⟩
  rw [h]
  exact (aOf_iff y _).2 h1
theorem xOf_zero {y z : Fp} (h : z * z = aOf y) : xOf y = 0 ↔ z = 0 := by
  have h1 := xOf_sq h
  constructor
  · intro e
    rw [e] at h1
    exact fsq_zero (by rw [← h1]; grobner)
  · intro e
    rw [e] at h1
    exact fsq_zero (by rw [h1]; grobner)
/-- No point, or one. -/
def NoR (k : List Int) : Prop := ∀ e : EP, encP e ≠ k
def YesR (k : List Int) (x : Fp) : Prop := ∃ e : EP, encP e = k ∧ e.x = x ∧ e.y = ofKey (lowK k)
def DecQ (k : List Int) (w : World) (e : Ending) (w' : World) : Prop := ∃ arr, ((e = .returned (.tuple #[.agg arr, .int .i64 60]) ∧ Ch 16 RN [0, 0, 0] arr ∧ NoR k) ∨ (∃ x, e = .returned (.tuple #[.agg arr, .int .i64 0]) ∧ Ch 16 RN [x, ofKey (lowK k), fv 1] arr ∧ YesR k x)) ∧ Upd (fun _ => False) w w'
theorem notnot' {b : Bool} (h : (!b) = false) : b = true := by cases b <;> simp_all
theorem qA {k : List Int} (h : (!(decide (keyOf (ofKey (lowK k)) = lowK k))) = true) : NoR k := dec_no (fun ⟨h1, _⟩ => by
  rw [decide_eq_true ((canonB_iff _).1 h1)] at h
  cases h)
theorem qB {k : List Int} (h : decide (rrootF (aOf (ofKey (lowK k))) * rrootF (aOf (ofKey (lowK k))) = aOf (ofKey (lowK k))) = false) : NoR k := dec_no (fun ⟨_, h1, _⟩ => of_decide_eq_false h ((aOf_isY _).1 h1))
theorem qC {k : List Int} (g : decide (rrootF (aOf (ofKey (lowK k))) * rrootF (aOf (ofKey (lowK k))) = aOf (ofKey (lowK k))) = true) (z : decide (canL (rrootF (aOf (ofKey (lowK k)))) = canL 0) = true) (o : decide (128 ≤ k.getD 31 0) = true) : NoR k := dec_no (fun ⟨_, _, h1⟩ => by
  rw [canL_inj] at z
  exact h1 ⟨of_decide_eq_true o, (xOf_zero (of_decide_eq_true g)).2 (of_decide_eq_true z)⟩)
theorem qY {k : List Int} (hl : k.length = 32) (hd : Digs 256 k) (c : (!(decide (keyOf (ofKey (lowK k)) = lowK k))) = false) {r x : Fp} (g : r * r = aOf (ofKey (lowK k))) (z : ¬ (r = 0 ∧ 128 ≤ k.getD 31 0)) (hx : x = r ∨ x = -r) (hp : x ≠ 0 → (x.val % 2 = 1 ↔ 128 ≤ k.getD 31 0)) : YesR k x := by
  have hc : canonB (lowK k) = true := (canonB_iff _).2 (of_decide_eq_true (notnot' c))
  have hy : isY (ofKey (lowK k)) = true := rootO_t ⟨r, (aOf_iff _ _).1 g⟩
  obtain ⟨e, he, ey, ex⟩ := dec_yes hl hd hc hy (fun h => z ⟨(xOf_zero g).1 h.2, h.1⟩)
  refine ⟨e, he, ?_, ey⟩
  have hsq : e.x * e.x = x * x := by
    have h1 := xOf_sq g
    rw [ex]
    rcases hx with rfl | rfl <;> split
    · rw [← h1]; grobner
    · exact h1
    · rw [show -r * -r = r * r by grobner, ← h1]; grobner
    · rw [show -r * -r = r * r by grobner]; exact h1
  have hpe : e.x.val % 2 = 1 ↔ 128 ≤ k.getD 31 0 := by
    have h1 : decide (128 ≤ (encP e).getD 31 0) = decide (e.x.val % 2 = 1) := high_encL _ _
    rw [he, decide_eq_decide] at h1
    exact h1.symm
  rcases sq_eq hsq with h1 | h1
  · exact h1
  · by_cases h0 : x = 0
    · rw [h1, h0]; grobner
    · exfalso
      have h2 := neg_odd h0
      rw [← h1] at h2
      rw [hpe, hp h0] at h2
      by_cases hq : 128 ≤ k.getD 31 0
      · exact h2.1 hq hq
      · exact hq (h2.2 hq)
theorem par_eq (r : Fp) : decide ((canL r).getD 0 0 % 2 = 1) = decide (r.val % 2 = 1) := by
  rw [canL_odd, decide_eq_decide]
  omega
theorem bne_t {p q : Prop} [Decidable p] [Decidable q] (h : (decide p != decide q) = true) : ¬ p ↔ q := by
  by_cases hp : p <;> by_cases hq : q <;> simp_all
theorem bne_f {p q : Prop} [Decidable p] [Decidable q] (h : (decide p != decide q) = false) : p ↔ q := by
  by_cases hp : p <;> by_cases hq : q <;> simp_all
theorem zero_par {r : Fp} (h : r.val % 2 = 1) : r ≠ 0 := fun e => by rw [e] at h; revert h; decide
theorem qT {k : List Int} (hl : k.length = 32) (hd : Digs 256 k) (c : (!(decide (keyOf (ofKey (lowK k)) = lowK k))) = false) {r : Fp} (g : decide (r * r = aOf (ofKey (lowK k))) = true) (z : ¬ (r = 0 ∧ 128 ≤ k.getD 31 0)) (h : (decide ((canL r).getD 0 0 % 2 = 1) != decide (128 ≤ k.getD 31 0)) = true) : YesR k (-r) := by
  refine qY hl hd c (of_decide_eq_true g) z (.inr rfl) (fun h0 => ?_)
  have hr : r ≠ 0 := fun e => h0 (by rw [e]; grobner)
  rw [par_eq] at h
  have h2 := neg_odd hr
  rw [h2]
  exact bne_t h
theorem qF {k : List Int} (hl : k.length = 32) (hd : Digs 256 k) (c : (!(decide (keyOf (ofKey (lowK k)) = lowK k))) = false) {r : Fp} (g : decide (r * r = aOf (ofKey (lowK k))) = true) (z : ¬ (r = 0 ∧ 128 ≤ k.getD 31 0)) (h : (decide ((canL r).getD 0 0 % 2 = 1) != decide (128 ≤ k.getD 31 0)) = false) : YesR k r := by
  refine qY hl hd c (of_decide_eq_true g) z (.inl rfl) (fun _ => ?_)
  rw [par_eq] at h
  exact bne_f h
theorem zF {k : List Int} {r : Fp} (z : decide (canL r = canL 0) = false) : ¬ (r = 0 ∧ 128 ≤ k.getD 31 0) := fun h => by
  rw [canL_inj, decide_eq_true h.1] at z
  cases z
theorem zO {k : List Int} {r : Fp} (o : decide (128 ≤ k.getD 31 0) = false) : ¬ (r = 0 ∧ 128 ≤ k.getD 31 0) := fun h => of_decide_eq_false o h.2
theorem can_t {x y : Fp} (h : x = y) : decide (canL x = canL y) = true := by rw [canL_inj]; exact decide_eq_true h
theorem can_f {x y : Fp} (h : ¬ x = y) : decide (canL x = canL y) = false := by rw [canL_inj]; exact decide_eq_false h
theorem odd_t {x : Fp} (h : x.val % 2 = 1) : decide ((canL x).getD 0 0 % 2 = 1) = true := decide_eq_true (by rw [canL_odd]; omega)
theorem odd_f {x : Fp} (h : ¬ x.val % 2 = 1) : decide ((canL x).getD 0 0 % 2 = 1) = false := decide_eq_false (by rw [canL_odd]; omega)
end Go.Proofs.YtdpafemcpbhlfaaDoor
