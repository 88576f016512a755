/-
  The field of 2^255 - 19 elements: numbers that are alike are one there. No program.
-/
/-
  Regions, whether they draw their order or not, walked by what each operation leaves in its slot. For any program.
-/
/-
  Values known by the field's elements that they are: Elems and the reference's Nums, alone or one behind the other in a struct; the calls of field and of the reference in these terms.
-/
/-
  The shapes of structs of Elems and of Nums; small helps for walks that are written by program.
-/
import Derived.Test.YtdpafemcpbhlfaaDoorRootMath
import Derived.Test.YtdpafemcpbhlfaaDoorLists
import Derived.Test.YtdpafemcpbhlfaaDoorRootWalk
import Derived.Test.YtdpafemcpbhlfaaDoorSub
import Derived.Test.YtdpafemcpbhlfaaDoorCanon
import Derived.Test.YtdpafemcpbhlfaaDoorRefP
namespace Go.Proofs.YtdpafemcpbhlfaaDoor
set_option maxRecDepth 100000

/-- The field of 2^255 - 19 elements. -/
abbrev PN : Nat := 57896044618658097711785492504343953926634992332820282019728792003956564819949
abbrev Fp := Fin PN
theorem pp_nat : pp = ((PN : Nat) : Int) := by decide +kernel
theorem pn_nat : pp.toNat = PN := by decide +kernel
/-- The number of an integer in the field. -/
def fv (n : Int) : Fp := ⟨(n % pp).toNat, by
  have h0 := Int.emod_nonneg n (b := pp) (by decide +kernel)
  have h1 := Int.emod_lt_of_pos n pp_pos
  have := pp_nat
  omega⟩
theorem fv_val (n : Int) : ((fv n).val : Int) = n % pp := by
  have h0 := Int.emod_nonneg n (b := pp) (by decide +kernel)
  show (((n % pp).toNat : Nat) : Int) = _
  omega
theorem fv_cong (m n : Int) : fv m = fv n ↔ Cong m n := by
  rw [cong_iff]
  constructor
  · intro h
    rw [← fv_val, ← fv_val, h]
  · intro h
    apply Fin.ext
    have h1 := fv_val m
    have h2 := fv_val n
    omega
theorem Cong.fv {m n : Int} (h : Cong m n) : fv m = fv n := (fv_cong m n).2 h
theorem val_fv (x : Fp) : fv (x.val : Int) = x := by
  apply Fin.ext
  have h := fv_val (x.val : Int)
  have hx := x.isLt
  have e : (x.val : Int) % pp = x.val := Int.emod_eq_of_lt (by omega) (by rw [pp_nat]; omega)
  omega
theorem val_cong (n : Int) : Cong ((fv n).val : Int) n := (fv_cong _ _).1 (val_fv _)
theorem fv_add (m n : Int) : fv (m + n) = fv m + fv n := by
  rw [← val_fv (fv m + fv n), fv_cong, Fin.val_add, Int.natCast_emod, ← pp_nat, Int.natCast_add]
  exact Cong.trans ((val_cong m).symm.add (val_cong n).symm) (Cong.mod _).symm
theorem fv_mul (m n : Int) : fv (m * n) = fv m * fv n := by
  rw [← val_fv (fv m * fv n), fv_cong, Fin.val_mul, Int.natCast_emod, ← pp_nat, Int.natCast_mul]
  exact Cong.trans ((val_cong m).symm.mul (val_cong n).symm) (Cong.mod _).symm
theorem fv_sub (m n : Int) : fv (m - n) = fv m - fv n := by
  have h : fv (m - n) + fv n = fv m := by rw [← fv_add, Int.sub_add_cancel]
  rw [← h]
  grobner
theorem fv_zero : fv 0 = 0 := by decide +kernel
theorem fv_one : fv 1 = 1 := by decide +kernel
theorem fv_neg (m : Int) : fv (-m) = -fv m := by
  rw [← Int.zero_sub, fv_sub, fv_zero]
  grobner
theorem one_ne_zero' : (1 : Fp) ≠ 0 := by decide +kernel
theorem fv_eq_zero (m : Int) : fv m = 0 ↔ m % pp = 0 := by
  rw [← fv_zero, fv_cong, cong_zero_iff]
theorem fmul_zero {x y : Fp} (h : x * y = 0) : x = 0 ∨ y = 0 := by
  rw [← val_fv x, ← val_fv y, ← fv_mul, ← fv_zero, fv_cong] at h
  rcases cong_mul_zero h with h1 | h1
  · left; rw [← val_fv x, ← fv_zero]; exact h1.fv
  · right; rw [← val_fv y, ← fv_zero]; exact h1.fv
theorem fmul_ne {x y : Fp} (hx : x ≠ 0) (hy : y ≠ 0) : x * y ≠ 0 := fun h => (fmul_zero h).elim hx hy
theorem fcancel {x y z : Fp} (hz : z ≠ 0) (h : x * z = y * z) : x = y := by
  have h1 : (x - y) * z = 0 := by grobner
  rcases fmul_zero h1 with h2 | h2
  · grobner
  · exact absurd h2 hz
/-- One divided by a number; of nought nought. -/
def finv (x : Fp) : Fp := fv ((x.val : Int) ^ expInv)
theorem fv_inv (m : Int) : fv (m ^ expInv) = finv (fv m) := ((val_cong m).symm.pow expInv).fv
theorem finv_mul {x : Fp} (h : x ≠ 0) : x * finv x = 1 := by
  have h1 : (x.val : Int) % pp ≠ 0 := fun e => h (by rw [← val_fv x, (fv_eq_zero _).2 e])
  have h2 := (inv_one h1).fv
  rw [fv_mul, fv_one, val_fv] at h2
  exact h2
theorem expInv_pos : 0 < expInv := by
  have h := eInv
  have h2 : 2 < pp.toNat := by decide +kernel
  omega
theorem finv_zero : finv 0 = 0 := by
  unfold finv
  rw [show (((0 : Fp).val : Nat) : Int) = 0 by decide +kernel, Int.zero_pow (by have := expInv_pos; omega), fv_zero]
theorem finv_ne {x : Fp} (h : x ≠ 0) : finv x ≠ 0 := fun e => by
  have h1 := finv_mul h
  rw [e] at h1
  exact one_ne_zero' (by rw [← h1]; grobner)
theorem finv_eq {x y : Fp} (h : x * y = 1) : finv x = y := by
  have hx : x ≠ 0 := fun e => one_ne_zero' (by rw [← h, e]; grobner)
  have h1 := finv_mul hx
  grobner
theorem fsq_zero {x : Fp} (h : x * x = 0) : x = 0 := (fmul_zero h).elim id id
theorem two_ne : (2 : Fp) ≠ 0 := by decide +kernel
theorem neg_ne {x : Fp} (h : x ≠ 0) : -x ≠ 0 := fun e => h (by grobner)
theorem fself_neg {x : Fp} (h : x = -x) : x = 0 := by
  have h1 : 2 * x = 0 := by grobner
  exact (fmul_zero h1).elim (fun e => absurd e two_ne) id
/-- A square. -/
def Sq (x : Fp) : Prop := ∃ y : Fp, y * y = x
theorem half_lt : (pp / 2).toNat < 2 ^ 255 := by decide +kernel
/-- Not a square, by Euler's rule. -/
theorem nonsq_of_pm (c : Nat) (h : pm PN 255 c (pp / 2).toNat 1 = PN - 1) : ¬ Sq (fv (c : Int)) := by
  rintro ⟨y, hy⟩
  have h1 := pm_pow half_lt h
  rw [← val_fv y, ← fv_mul, fv_cong] at hy
  have h3 : ((c ^ (pp / 2).toNat % PN : Nat) : Int) = (((PN - 1) % PN : Nat) : Int) := by rw [h1]
  rw [Int.natCast_emod, Int.natCast_pow, ← pp_nat] at h3
  have h4 : Cong (((c : Int)) ^ (pp / 2).toNat) (-1) := by
    rw [cong_iff, h3]
    decide +kernel
  have h5 := (hy.pow (pp / 2).toNat).trans h4
  have h6 : ((y.val : Int) * (y.val : Int)) ^ (pp / 2).toNat = (y.val : Int) ^ ((pp / 2).toNat * 2) := by
    rw [Nat.mul_comm, Int.pow_mul]
    congr 1
    rw [Int.pow_succ, Int.pow_succ, Int.pow_zero, Int.one_mul]
  rw [h6] at h5
  by_cases hz : (y.val : Int) % pp = 0
  · have h7 : Cong ((y.val : Int) ^ ((pp / 2).toNat * 2)) 0 := by
      have h8 := ((cong_zero_iff _).2 hz).pow ((pp / 2).toNat * 2)
      rw [Int.zero_pow (by decide +kernel)] at h8
      exact h8
    exact absurd ((cong_iff _ _).1 (h7.symm.trans h5)) (by decide +kernel)
  · exact absurd ((cong_iff _ _).1 ((cong_full hz e2).symm.trans h5)) (by decide +kernel)
theorem one_mod : (1 : Int) % pp ≠ 0 := by decide +kernel
theorem sq_of_euler (m : Int) (h : Cong (m ^ (pp / 2).toNat) 1) : Sq (fv m) := by
  have h1 : rootB m 1 = true := by
    rw [rootB_euler m 1 one_mod, Int.one_pow, Int.mul_one]
    unfold eulerB
    rw [(cong_iff _ _).1 h]
    decide +kernel
  have h2 := (rootV_root m 1 h1).fv
  rw [Int.mul_one, fv_mul] at h2
  exact ⟨_, h2⟩
/-- Of a number that is no square twice it is one. -/
theorem sq_twice (t : Fp) (h : ¬ Sq t) : Sq (2 * t) := by
  have hz : (t.val : Int) % pp ≠ 0 := fun e => h ⟨0, by rw [← val_fv t, (fv_eq_zero _).2 e]; grobner⟩
  have h2 : Cong ((2 : Int) ^ (pp / 2).toNat) (-1) := by
    have h1 : 2 ^ (pp / 2).toNat % PN = (PN - 1) % PN := pm_pow half_lt (by decide +kernel)
    have h3 : ((2 ^ (pp / 2).toNat % PN : Nat) : Int) = (((PN - 1) % PN : Nat) : Int) := by rw [h1]
    rw [Int.natCast_emod, Int.natCast_pow, ← pp_nat] at h3
    rw [cong_iff]
    exact h3.trans (by decide +kernel)
  rcases euler_sq _ hz with he | he
  · exact absurd (by have := sq_of_euler _ he; rw [val_fv] at this; exact this) h
  · have h4 : Cong ((2 * (t.val : Int)) ^ (pp / 2).toNat) 1 := by
      rw [Int.mul_pow]
      exact h2.mul he
    have h5 := sq_of_euler _ h4
    rw [fv_mul, val_fv, show fv 2 = 2 by decide +kernel] at h5
    exact h5
end Go.Proofs.YtdpafemcpbhlfaaDoor
namespace Go.Proofs.YtdpafemcpbhlfaaDoor
set_option maxRecDepth 100000
open Go.RowKit

/-- What an operation leaves in its slot: a value; one of which p holds; what points to a new block of which p holds. -/
inductive SQ where
  | val (v : Value)
  | like (p : Value → Prop)
  | blk (f : Nat → Value) (t : TypeId) (p : Array Value → Prop)
def SQ.holds (base : Nat) : SQ → Value → World → Prop
  | .val u, v, _ => v = u
  | .like p, v, _ => p v
  | .blk f t p, v, w => ∃ (b : Nat) (z : Array Value), v = f b ∧ base ≤ b ∧ Blk w b t z ∧ p z
theorem SQ.stable {base : Nat} : ∀ (s : SQ) {v : Value} {w w' : World}, Upd (fun _ => False) w w' → s.holds base v w → s.holds base v w'
  | .val _, _, _, _, _, h => h
  | .like _, _, _, _, _, h => h
  | .blk _ _ _, _, _, _, hu, ⟨b, z, h1, h2, h3, h4⟩ => ⟨b, z, h1, h2, hu.blk h3 (fun h => h), h4⟩
def specQ (base : Nat) (sp : List SQ) (i : Nat) (v : Value) (w : World) : Prop := ∀ s, sp[i]? = some s → s.holds base v w
theorem specQ_stable (base : Nat) (sp : List SQ) (j : Nat) (v : Value) (w w' : World) (hu : Upd (fun _ => False) w w') (h : specQ base sp j v w) : specQ base sp j v w' := fun s hs => s.stable hu (h s hs)
def ptrTo (b : Nat) : Value := .pointer (some ⟨b, 0, none⟩)
/-- Each that makes a block is said to do so. -/
def newsQ (ops : Array Oper) (sp : List (Option TypeId)) : Bool := (List.range ops.size).all fun i => match ops[i]? with
  | some o => !newB o || (match sp[i]? with | some (some _) => true | _ => false)
  | none => true
/-- In the order of the text each is ready in its turn. -/
def extB (ops : Array Oper) : List Nat → Array Bool → Bool
  | [], listed => (Region.ready .any ops listed).isEmpty
  | i :: l, listed => (Region.ready .any ops listed).contains i && extB ops l (listed.setIfInBounds i true)
section
variable {P : Program} {ops : Array Oper} {Q : Exit → Act → World → Prop} {sp : List SQ} {a0 : Act} {w0 : World} {listed : Array Bool} {a : Act} {w : World} {base : Nat} {K' : Act → World → Prop} {E : Prop} {i : Nat} {o : Oper} {d : Nat}
theorem wpAny_ext : ∀ (l : List Nat) (fuel : Nat) (listed : Array Bool) (a : Act) (w : World), wpAny P .any ops Q fuel listed a w → extB ops l listed = true → wpOps P ops Q l a w := by
  intro l
  induction l with
  | nil =>
    intro fuel listed a w h hx
    have hr : Region.ready .any ops listed = [] := List.isEmpty_iff.1 hx
    cases fuel with
    | zero => simpa [wpOps] using h.2
    | succ f => simpa [wpOps] using h.1 hr
  | cons i l ih =>
    intro fuel listed a w h hx
    simp only [extB, Bool.and_eq_true] at hx
    obtain ⟨h1, h2⟩ := hx
    have hmem : i ∈ Region.ready .any ops listed := by simpa using h1
    cases fuel with
    | zero => rw [h.1] at hmem; cases hmem
    | succ f =>
      rw [wpOps_cons]
      exact wpOp_mono (fun a w hk => ih f _ a w hk h2) (h.2 i hmem)
theorem Slots.oq (h : Slots ops (specQ base sp) a0 w0 listed a w) {t : Nat} (hn : noDstB ops t = true) {v : Value} (hv : a0.tmps[t]? = some v) : a.eval (.tmp t) = v :=
  eval_of ((h.other t (fun i o ho _ => noDstB_spec hn i o ho)).trans hv)
theorem Slots.hq (h : Slots ops (specQ base sp) a0 w0 listed a w) (i : Nat) (o : Oper) (d : Nat) (s : SQ) (ho : ops[i]? = some o) (hd : o.dst = some d) (hs : sp[i]? = some s) (hl : listed.getD i false = true) : ∃ v, a.tmps[d]? = some v ∧ s.holds base v w := by
  obtain ⟨v, h1, h2⟩ := h.vals i o d ho hd hl
  exact ⟨v, h1, h2 s hs⟩
/-- A call. -/
theorem Slots.cq (h : Slots ops (specQ base sp) a0 w0 listed a w) (hdst : dstB ops a0.tmps.size = true) (hls : listed.size = ops.size) (ho : ops[i]? = some o) (hw : Region.wanted o (yielded ops a.tmps) = true) (hd : o.dst = some d) (f : FuncId) (xs : Array Operand) (ts : Array TypeId)
    (hop : o.op = .call { callee := .value (.func f), args := xs, argTypes := ts }) (vs : Array Value) (hx : xs.map a.eval = vs) (hf : ∀ vs w, (callFunc f vs).run P w = .ok (.enter f vs) w) (s : SQ) (hsp : sp[i]? = some s) (hnew : newB o = false)
    (hc : Calls P f vs w fun e w' => ∃ v, e = .returned v ∧ s.holds base v w' ∧ Upd (fun _ => False) w w')
    (hK' : ∀ a' w', Slots ops (specQ base sp) a0 w0 (listed.setIfInBounds i true) a' w' → K' a' w') : if Region.wanted o (yielded ops a.tmps) = true then Oper.wp P o a w K' Q else E := by
  refine step_call' hw f xs ts hop vs hx (hf vs) (hc.mono ?_)
  rintro e w' ⟨v, rfl, hs, hu⟩
  exact ⟨v, rfl, hK' _ _ (h.put hdst (specQ_stable base sp) hls ho hd hu (fun s' hs' => by rw [hsp] at hs'; cases hs'; exact hs) (fun hq => by rw [hnew] at hq; cases hq))⟩
/-- An operation that yields one value, and leaves the world as it is. -/
theorem Slots.pq (h : Slots ops (specQ base sp) a0 w0 listed a w) (hdst : dstB ops a0.tmps.size = true) (hls : listed.size = ops.size) (ho : ops[i]? = some o) (hw : Region.wanted o (yielded ops a.tmps) = true) (hd : o.dst = some d) (v : Value)
    (hrun : (execOp a.eval o).run P w = .ok (.value v) w) (s : SQ) (hsp : sp[i]? = some s) (hs : s.holds base v w) (hnew : newB o = false)
    (hK' : ∀ a' w', Slots ops (specQ base sp) a0 w0 (listed.setIfInBounds i true) a' w' → K' a' w') : if Region.wanted o (yielded ops a.tmps) = true then Oper.wp P o a w K' Q else E := by
  rw [if_pos hw]
  unfold Oper.wp
  rw [hrun, Oper.upon_value]
  exact hK' _ _ (h.put hdst (specQ_stable base sp) hls ho hd (Upd.refl _ w) (fun s' hs' => by rw [hsp] at hs'; cases hs'; exact hs) (fun hq => by rw [hnew] at hq; cases hq))
/-- An operation that makes a block, and yields what points to it; no other slot of such a one is looked at. -/
theorem Slots.rowQ (h : Slots ops (specQ base sp) a0 w0 listed a w) (hdst : dstB ops a0.tmps.size = true) (hls : listed.size = ops.size) (hbase : base ≤ w0.heap.size) (ho : ops[i]? = some o) (hw : Region.wanted o (yielded ops a.tmps) = true) (hd : o.dst = some d) (f : Nat → Value) (t : TypeId) (z : Array Value) (p : Array Value → Prop)
    (hrun : (execOp a.eval o).run P w = .ok (.value (f w.heap.size)) (w.alloc (.cells z t))) (hsp : sp[i]? = some (.blk f t p)) (hp : p z) (hnew : newB o = false)
    (hK' : ∀ a' w', Slots ops (specQ base sp) a0 w0 (listed.setIfInBounds i true) a' w' → K' a' w') : if Region.wanted o (yielded ops a.tmps) = true then Oper.wp P o a w K' Q else E := by
  rw [if_pos hw]
  unfold Oper.wp
  rw [hrun, Oper.upon_value]
  exact hK' _ _ (h.put hdst (specQ_stable base sp) hls ho hd ((Upd.refl _ w).alloc _) (fun s hs => by rw [hsp] at hs; cases hs; exact ⟨w.heap.size, z, rfl, Nat.le_trans hbase h.upd.size, Blk.at1 w z t, hp⟩) (fun hq => by rw [hnew] at hq; cases hq))
/-- A new block, apart from all others that are new. -/
theorem Slots.newQ (h : Slots ops (specQ base sp) a0 w0 listed a w) (hdst : dstB ops a0.tmps.size = true) (hls : listed.size = ops.size) (hbase : base ≤ w0.heap.size) (hnews : ∀ (j : Nat) (oj : Oper), ops[j]? = some oj → newB oj = true → ∃ t p, sp[j]? = some (.blk ptrTo t p))
    (ho : ops[i]? = some o) (hw : Region.wanted o (yielded ops a.tmps) = true) (hd : o.dst = some d) (t : TypeId) (z : Array Value) (p : Array Value → Prop)
    (hrun : (execOp a.eval o).run P w = .ok (.value (ptrTo w.heap.size)) (w.alloc (.cells z t))) (hsp : sp[i]? = some (.blk ptrTo t p)) (hp : p z)
    (hK' : ∀ a' w', Slots ops (specQ base sp) a0 w0 (listed.setIfInBounds i true) a' w' → K' a' w') : if Region.wanted o (yielded ops a.tmps) = true then Oper.wp P o a w K' Q else E := by
  rw [if_pos hw]
  unfold Oper.wp
  rw [hrun, Oper.upon_value]
  refine hK' _ _ (h.put hdst (specQ_stable base sp) hls ho hd ((Upd.refl _ w).alloc _) (fun s hs => ?_) (fun _ j oj dj hji hoj nj hdj hl => ?_))
  · rw [hsp] at hs
    cases hs
    exact ⟨w.heap.size, z, rfl, Nat.le_trans hbase h.upd.size, Blk.at1 w z t, hp⟩
  · obtain ⟨tj, pj, hj⟩ := hnews j oj hoj nj
    obtain ⟨v, h1, b, zj, h2, _, h3, _⟩ := h.hq j oj dj _ hoj hdj hj hl
    rw [h1, h2]
    intro e
    have hlt := h3.lt
    simp only [ptrTo, Option.some.injEq, Value.pointer.injEq, Addr.mk.injEq] at e
    omega
/-- An operation whose guard says no. -/
theorem Slots.skipQ (h : Slots ops (specQ base sp) a0 w0 listed a w) (hdst : dstB ops a0.tmps.size = true) (hls : listed.size = ops.size) (ho : ops[i]? = some o) (hw : Region.wanted o (yielded ops a.tmps) = false) (hd : o.dst = some d) (hsp : sp[i]? = some (.val undef)) (hnew : newB o = false)
    (hK' : ∀ a' w', Slots ops (specQ base sp) a0 w0 (listed.setIfInBounds i true) a' w' → K' a' w') : if Region.wanted o (yielded ops a.tmps) = true then Oper.wp P o a w K' Q else K' (a.put o.dst undef) w := by
  rw [if_neg (by rw [hw]; simp)]
  exact hK' _ _ (h.put hdst (specQ_stable base sp) hls ho hd (Upd.refl _ w) (fun s hs => by rw [hsp] at hs; cases hs; rfl) (fun hq => by rw [hnew] at hq; cases hq))
theorem wanted_notQ {j : Nat} {oj : Oper} {dj : Nat} {want b : Bool} (hg : o.guard = some (j, want)) (hoj : ops[j]? = some oj) (hdj : oj.dst = some dj) (hv : a.tmps[dj]? = some (.bool b)) (hb : b = !want) : Region.wanted o (yielded ops a.tmps) = false := by
  subst hb
  cases want <;> simp [Region.wanted, hg, yielded, hoj, hdj, hv]
theorem wanted_undef {j : Nat} {oj : Oper} {dj : Nat} {want : Bool} (hg : o.guard = some (j, want)) (hoj : ops[j]? = some oj) (hdj : oj.dst = some dj) (hv : a.tmps[dj]? = some undef) : Region.wanted o (yielded ops a.tmps) = false := by
  cases want <;> simp [Region.wanted, hg, yielded, hoj, hdj, hv, undef]
theorem wp_region_q {id : Nat} {a : Act} {w : World} (stop : Array Bool) (sp : List SQ) (hm : P.follows .mixedOrders = true) (hsz : stop.size = ops.size) (hok : uptoB ops stop = true)
    (hstep : ∀ i o listed a' w', ops[i]? = some o → listed.size = ops.size → stop.getD i false = true → listed.getD i true = false → (∀ e ∈ o.after, Region.binds .any e = true → listed.getD e.on false = true) → Slots ops (specQ w.heap.size sp) a w.drew listed a' w' →
      ∀ K' : Act → World → Prop, (∀ a'' w'', Slots ops (specQ w.heap.size sp) a w.drew (listed.setIfInBounds i true) a'' w'' → K' a'' w'') → if Region.wanted o (yielded ops a'.tmps) = true then Oper.wp P o a' w' K' Q else K' (a'.put o.dst undef) w')
    (hfin : ∀ fuel a' w', left stop ops.size ≤ fuel → Slots ops (specQ w.heap.size sp) a w.drew stop a' w' → wpAny P .any ops Q fuel stop a' w') : (Code.region id ops true).wp P Q a w :=
  wp_region_upto stop hm hsz hok (Slots ops (specQ w.heap.size sp) a w.drew) (Slots.start _ _ _ _ _) hstep hfin
theorem wp_region_qF {id : Nat} {a : Act} {w : World} (stop : Array Bool) (sp : List SQ) (hx : extB ops (List.range ops.size) (Array.replicate ops.size false) = true) (hsz : stop.size = ops.size) (hok : uptoB ops stop = true)
    (hstep : ∀ i o listed a' w', ops[i]? = some o → listed.size = ops.size → stop.getD i false = true → listed.getD i true = false → (∀ e ∈ o.after, Region.binds .any e = true → listed.getD e.on false = true) → Slots ops (specQ w.heap.size sp) a w listed a' w' →
      ∀ K' : Act → World → Prop, (∀ a'' w'', Slots ops (specQ w.heap.size sp) a w (listed.setIfInBounds i true) a'' w'' → K' a'' w'') → if Region.wanted o (yielded ops a'.tmps) = true then Oper.wp P o a' w' K' Q else K' (a'.put o.dst undef) w')
    (hfin : ∀ fuel a' w', left stop ops.size ≤ fuel → Slots ops (specQ w.heap.size sp) a w stop a' w' → wpAny P .any ops Q fuel stop a' w') : (Code.region id ops false).wp P Q a w := by
  refine wp_region (wpAny_ext _ ops.size (Array.replicate ops.size false) a w (wpAny_upto stop hsz hok (Slots ops (specQ w.heap.size sp) a w) hstep hfin ops.size _ _ _ (by simp) ?_ ?_ ?_ (Slots.start _ _ _ _ _)) hx)
  · intro j hj
    have : (Array.replicate ops.size false).getD j false = false := by by_cases h : j < ops.size <;> simp [Array.getD, h]
    rw [this] at hj; cases hj
  · intro k o _ hk
    have : (Array.replicate ops.size false).getD k false = false := by by_cases h : k < ops.size <;> simp [Array.getD, h]
    rw [this] at hk; cases hk
  · have : ∀ n l, left l n ≤ n := by
      intro n l
      induction n with
      | zero => simp [left]
      | succ n ih => simp only [left]; split <;> omega
    exact this _ _
/-- What single operations do. -/
theorem run_boxQ {T : TypeId} {x : Operand} {arr : Array Value} (ho : o.op = .box T x) (hx : a.eval x = .agg arr) (w : World) : (execOp a.eval o).run P w = .ok (.value (ptrTo w.heap.size)) (w.alloc (.cells arr T)) := by
  generalize a.eval = ev at *; unfold execOp; simp only [ho]; simp [hx, go_sem, Instr.box, ptrTo]
theorem run_box1 {T : TypeId} {x : Operand} {v : Value} (ho : o.op = .box T x) (hx : a.eval x = v) (hv : v.cells = #[v]) (w : World) : (execOp a.eval o).run P w = .ok (.value (ptrTo w.heap.size)) (w.alloc (.cells #[v] T)) := by
  unfold Value.cells at hv
  generalize a.eval = ev at *; unfold execOp; simp only [ho]; simp [hx, go_sem, Instr.box, ptrTo, hv]
theorem run_allocQ {T : TypeId} {z : Array Value} (ho : o.op = .alloc T) (hz : ∀ w, (zeroValue T).run P w = .ok (.agg z) w) (w : World) : (execOp a.eval o).run P w = .ok (.value (ptrTo w.heap.size)) (w.alloc (.cells z T)) := by
  generalize a.eval = ev at *; unfold execOp; simp only [ho]; simp [hz, go_sem, ptrTo]
theorem run_alloc1 {T : TypeId} {z : Value} (ho : o.op = .alloc T) (hz : ∀ w, (zeroValue T).run P w = .ok z w) (hv : z.cells = #[z]) (w : World) : (execOp a.eval o).run P w = .ok (.value (ptrTo w.heap.size)) (w.alloc (.cells #[z] T)) := by
  unfold Value.cells at hv
  generalize a.eval = ev at *; unfold execOp; simp only [ho]; simp [hz, go_sem, ptrTo, hv]
theorem run_fieldQ {T : TypeId} {x : Operand} {f g off k : Nat} {fs : Array Field} {fd : Field} (ho : o.op = .fieldAddr T x f) (hx : a.eval x = .pointer (some ⟨g, off, none⟩)) (hT : P.underlying T = some (.struct fs)) (hf : fs[f]? = some fd) (hk : fd.offset = k)
    {n : Nat} (hn : (P.info? fd.type).map (·.size) = some (n + 1)) (w : World) :
    (execOp a.eval o).run P w = .ok (.value (.pointer (some ⟨g, off + k, none⟩))) w := by
  have hsz : ∀ w, (sizeOf fd.type).run P w = .ok (n + 1) w := fun w => by
    cases hq : P.info? fd.type with
    | none => simp [hq] at hn
    | some i => have : i.size = n + 1 := by simpa [hq] using hn
                simp [sizeOf, typeInfo, hq, this]
  subst hk
  generalize a.eval = ev at *; unfold execOp; simp only [ho]; simp [hx, go_sem, run_underlying hT, hf, hsz]
theorem run_loadQ {T : TypeId} {x : Operand} {g off n : Nat} {t : TypeId} {cs : Array Value} {dd : TypeDesc} (ho : o.op = .load T x) (hx : a.eval x = .pointer (some ⟨g, off, none⟩)) (w : World) (hg : Blk w g t cs)
    (hu : P.underlying T = some dd) (hd : (match dd with | .struct _ | .array _ _ => true | _ => false) = true) (hi : (P.info? T).map (·.size) = some n) (hn : off + n ≤ cs.size) :
    (execOp a.eval o).run P w = .ok (.value (.agg (cs.extract off (off + n)))) w := by
  generalize a.eval = ev at *; unfold execOp; simp only [ho]
  simp only [hx, Instr.loadAt, Instr.sureAddr, Sem.run_bind, Sem.run_pure, Result.andThen_ok, run_loadVar_blk w g off n t T cs dd hg hu hd hi hn]
theorem run_cellQ {T : TypeId} {x : Operand} {k : IntKind} {g i : Nat} {t : TypeId} {cs : Array Value} {v : Value} (ho : o.op = .load T x) (hT : P.underlying T = some (.int k)) (hx : a.eval x = .pointer (some ⟨g, i, none⟩)) (w : World) (hg : Blk w g t cs) (hv : cs[i]? = some v) :
    (execOp a.eval o).run P w = .ok (.value v) w := by
  have hc : w.cell? ⟨g, i, none⟩ = some v := by rw [hg.cell, hv]
  have hagg : (isAgg T).run P w = .ok false w := by
    unfold isAgg
    rw [Sem.run_bind, run_underlying hT w]
    simp
  generalize a.eval = ev at *; unfold execOp; simp only [ho]; simp [hx, go_sem, hagg, hc]
theorem run_moveQ {x : Operand} {v : Value} (ho : o.op = .move x ∨ o.op = .assign x) (hx : a.eval x = v) (w : World) : (execOp a.eval o).run P w = .ok (.value v) w := by
  generalize a.eval = ev at *; unfold execOp; rcases ho with ho | ho <;> simp only [ho] <;> simp [hx]
theorem run_extractQ {x : Operand} {vs : Array Value} {k : Nat} {v : Value} (ho : o.op = .extract x k) (hx : a.eval x = .tuple vs) (hv : vs[k]? = some v) (w : World) : (execOp a.eval o).run P w = .ok (.value v) w := by
  generalize a.eval = ev at *; unfold execOp; simp only [ho]; simp [hx, go_sem, Instr.extract, hv]
end
end Go.Proofs.YtdpafemcpbhlfaaDoor
namespace Go.Proofs.YtdpafemcpbhlfaaDoor
set_option maxRecDepth 100000
open Go.RowKit

/-- Cells in parts of c each, one behind the other, of which R holds. -/
def Ch {α : Type} (c : Nat) (R : α → Array Value → Prop) (vs : List α) (arr : Array Value) : Prop :=
  arr.size = c * vs.length ∧ (∀ v ∈ arr.toList, v.oneCell' = true) ∧ ∀ (i : Nat) (v : α), vs[i]? = some v → R v (arr.extract (c * i) (c * i + c))
/-- An Elem that is v. -/
def RE (v : Fp) (a : Array Value) : Prop := ∃ (a0 a1 a2 a3 a4 n : Int), a = #[.int .u64 a0, .int .u64 a1, .int .u64 a2, .int .u64 a3, .int .u64 a4] ∧ Fits a0 a1 a2 a3 a4 n ∧ fv n = v
/-- A Num that is v. -/
def RN (v : Fp) (a : Array Value) : Prop := ∃ (r n : Int), a = numN r ∧ NumOk r n ∧ fv n = v
def IsC {α : Type} (c : Nat) (R : α → Array Value → Prop) (vs : List α) (v : Value) : Prop := ∃ arr, v = .agg arr ∧ Ch c R vs arr
/-- A call's answer. -/
def RetC {α : Type} (c : Nat) (R : α → Array Value → Prop) (vs : List α) (w : World) (e : Ending) (w' : World) : Prop := ∃ arr, e = .returned (.agg arr) ∧ Ch c R vs arr ∧ Upd (fun _ => False) w w'
theorem RetC.sq {α : Type} {c : Nat} {R : α → Array Value → Prop} {vs : List α} {w w' : World} {base : Nat} {e : Ending} (h : RetC c R vs w e w') : ∃ v, e = .returned v ∧ (SQ.like (IsC c R vs)).holds base v w' ∧ Upd (fun _ => False) w w' := by
  obtain ⟨arr, rfl, h1, hu⟩ := h
  exact ⟨_, rfl, ⟨arr, rfl, h1⟩, hu⟩
theorem Ch.size {α : Type} {c : Nat} {R : α → Array Value → Prop} {vs : List α} {arr : Array Value} (h : Ch c R vs arr) : arr.size = c * vs.length := h.1
theorem Ch.one' {α : Type} {c : Nat} {R : α → Array Value → Prop} {vs : List α} {arr : Array Value} (h : Ch c R vs arr) : ∀ v ∈ arr.toList, v.oneCell' = true := h.2.1
theorem Ch.get {α : Type} {c : Nat} {R : α → Array Value → Prop} {v : α} {arr : Array Value} (h : Ch c R [v] arr) : R v arr := by
  have h1 := h.2.2 0 v rfl
  have h2 := h.1
  rw [List.length_singleton, Nat.mul_one] at h2
  rw [Nat.mul_zero, Nat.zero_add] at h1
  have h3 := extract_all arr c h2
  rw [Nat.zero_add] at h3
  rwa [h3] at h1
theorem Ch.mk {α : Type} {c : Nat} {R : α → Array Value → Prop} {v : α} {arr : Array Value} (hs : arr.size = c) (h1 : ∀ v ∈ arr.toList, v.oneCell' = true) (h : R v arr) : Ch c R [v] arr := by
  refine ⟨by simpa using hs, h1, fun i u hu => ?_⟩
  match i, hu with
  | 0, hu =>
    cases hu
    rw [Nat.mul_zero, extract_all _ _ hs]
    exact h
  | i + 1, hu => cases hu
/-- One part of them. -/
theorem Ch.at {α : Type} {c : Nat} {R : α → Array Value → Prop} {vs : List α} {v : α} {arr : Array Value} (h : Ch c R vs arr) (i o : Nat) (ho : o = c * i) (hv : vs[i]? = some v) : Ch c R [v] (arr.extract o (o + c)) := by
  subst ho
  have hi : i < vs.length := by
    by_cases hi : i < vs.length
    · exact hi
    · rw [List.getElem?_eq_none (by omega)] at hv; cases hv
  have hle : c * i + c ≤ arr.size := by
    rw [h.1, ← Nat.mul_succ]
    exact Nat.mul_le_mul_left c hi
  refine Ch.mk (by rw [Array.size_extract]; omega) (fun u hu => ?_) (h.2.2 i v hv)
  rw [Array.toList_extract, List.extract_eq_take_drop] at hu
  exact h.2.1 u (List.mem_of_mem_drop (List.mem_of_mem_take hu))
theorem Ch.cat {α : Type} {c : Nat} {R : α → Array Value → Prop} {us vs : List α} {A B : Array Value} (h : Ch c R us A) (g : Ch c R vs B) : Ch c R (us ++ vs) (A ++ B) := by
  refine ⟨by rw [Array.size_append, h.1, g.1, List.length_append, Nat.mul_add], fun v hv => ?_, fun i v hv => ?_⟩
  · rw [Array.toList_append, List.mem_append] at hv
    exact hv.elim (h.2.1 v) (g.2.1 v)
  · have hs := h.1
    by_cases hi : i < us.length
    · rw [List.getElem?_append_left hi] at hv
      have hle : c * i + c ≤ A.size := by
        rw [hs, ← Nat.mul_succ]
        exact Nat.mul_le_mul_left c hi
      have h1 := h.2.2 i v hv
      have e : (A ++ B).extract (c * i) (c * i + c) = A.extract (c * i) (c * i + c) := by
        apply Array.ext_getElem?
        intro j
        rw [Array.getElem?_extract, Array.getElem?_extract, Array.size_append]
        by_cases hj : j < c
        · rw [if_pos (by omega), if_pos (by omega), Array.getElem?_append_left (by omega)]
        · rw [if_neg (by omega), if_neg (by omega)]
      rwa [e]
    · rw [List.getElem?_append_right (by omega)] at hv
      have h1 := g.2.2 _ v hv
      have hi2 : i - us.length < vs.length := by
        by_cases hi2 : i - us.length < vs.length
        · exact hi2
        · rw [List.getElem?_eq_none (by omega)] at hv; cases hv
      have hle : c * (i - us.length) + c ≤ B.size := by
        rw [g.1, ← Nat.mul_succ]
        exact Nat.mul_le_mul_left c hi2
      have hci : c * i = c * us.length + c * (i - us.length) := by rw [← Nat.mul_add]; congr 1; omega
      have e : (A ++ B).extract (c * i) (c * i + c) = B.extract (c * (i - us.length)) (c * (i - us.length) + c) := by
        apply Array.ext_getElem?
        intro j
        rw [Array.getElem?_extract, Array.getElem?_extract, Array.size_append]
        by_cases hj : j < c
        · rw [if_pos (by omega), if_pos (by omega), Array.getElem?_append_right (by omega)]
          congr 1
          omega
        · rw [if_neg (by omega), if_neg (by omega)]
      rwa [e]
theorem one5' (a0 a1 a2 a3 a4 : Int) : ∀ v ∈ (#[.int .u64 a0, .int .u64 a1, .int .u64 a2, .int .u64 a3, .int .u64 a4] : Array Value).toList, v.oneCell' = true := by
  intro v hv
  simp at hv
  rcases hv with rfl | rfl | rfl | rfl | rfl <;> rfl
theorem Ch.elem {a0 a1 a2 a3 a4 n : Int} {v : Fp} (h : Fits a0 a1 a2 a3 a4 n) (hv : fv n = v) : Ch 5 RE [v] #[.int .u64 a0, .int .u64 a1, .int .u64 a2, .int .u64 a3, .int .u64 a4] := Ch.mk rfl (one5' _ _ _ _ _) ⟨_, _, _, _, _, n, rfl, h, hv⟩
theorem Ch.num {r n : Int} {v : Fp} (h : NumOk r n) (hv : fv n = v) : Ch 16 RN [v] (numN r) := Ch.mk (numN_size r) (numsA_one _ _) ⟨r, n, rfl, h, hv⟩
theorem Ch.to {α : Type} {c : Nat} {R : α → Array Value → Prop} {us vs : List α} {A : Array Value} (h : Ch c R us A) (e : us = vs) : Ch c R vs A := e ▸ h
theorem RetE.c {n : Int} {v : Fp} {w w' : World} {e : Ending} (h : RetE n w e w') (hv : fv n = v) : RetC 5 RE [v] w e w' := by
  obtain ⟨a0, a1, a2, a3, a4, hF, rfl, hu⟩ := h
  exact ⟨_, rfl, Ch.elem hF hv, hu⟩
theorem RetN.c {n : Int} {v : Fp} {w w' : World} {e : Ending} (h : RetN n w e w') (hv : fv n = v) : RetC 16 RN [v] w e w' := by
  obtain ⟨r, hN, rfl, hu⟩ := h
  exact ⟨_, rfl, Ch.num hN hv, hu⟩
/-- The bytes of an element. -/
def keyOf (v : Fp) : List Int := digits 256 32 (v.val : Int)
theorem keyOf_length (v : Fp) : (keyOf v).length = 32 := digits_length _ _ _
theorem keyOf_digs (v : Fp) : Digs 256 (keyOf v) := digits_digs (by omega) _ _
/-- The element of 32 bytes. -/
def ofKey (l : List Int) : Fp := fv (keyNum l)
section
variable {x y : Fp} {a b : Array Value} {w : World}
theorem mulE (ha : Ch 5 RE [x] a) (hb : Ch 5 RE [y] b) : Calls Tryd.prog 44 #[.agg a, .agg b] w (RetC 5 RE [x * y] w) := by
  obtain ⟨a0, a1, a2, a3, a4, m, rfl, hm, rfl⟩ := ha.get
  obtain ⟨b0, b1, b2, b3, b4, n, rfl, hn, rfl⟩ := hb.get
  exact (mul_any _ _ _ _ _ _ _ _ _ _ m n w hm hn).mono fun _ _ h => h.c (fv_mul m n)
theorem subE (hT : Tw w) (ha : Ch 5 RE [x] a) (hb : Ch 5 RE [y] b) : Calls Tryd.prog 46 #[.agg a, .agg b] w (RetC 5 RE [x - y] w) := by
  obtain ⟨a0, a1, a2, a3, a4, m, rfl, hm, rfl⟩ := ha.get
  obtain ⟨b0, b1, b2, b3, b4, n, rfl, hn, rfl⟩ := hb.get
  exact (sub_any _ _ _ _ _ _ _ _ _ _ m n w hT hm hn).mono fun _ _ h => h.c (fv_sub m n)
theorem negE (hT : Tw w) (ha : Ch 5 RE [x] a) : Calls Tryd.prog 63 #[.agg a] w (RetC 5 RE [-x] w) := by
  obtain ⟨a0, a1, a2, a3, a4, m, rfl, hm, rfl⟩ := ha.get
  exact (neg_any _ _ _ _ _ m w hT hm).mono fun _ _ h => h.c (fv_neg m)
theorem invE (ha : Ch 5 RE [x] a) : Calls Tryd.prog 47 #[.agg a] w (RetC 5 RE [finv x] w) := by
  obtain ⟨a0, a1, a2, a3, a4, m, rfl, hm, rfl⟩ := ha.get
  exact (invert_any _ _ _ _ _ m w hm).mono fun _ _ h => h.c (fv_inv m)
theorem smallE (n : Int) (h0 : 0 ≤ n) (h1 : n < 4294967296) : Calls Tryd.prog 43 #[.int .u32 n] w (RetC 5 RE [fv n] w) :=
  (small_any n w h0 h1).mono fun _ _ h => h.c rfl
theorem ofE (l : List Int) (hl : l.length = 32) (hd : Digs 256 l) : Calls Tryd.prog 42 #[.agg (numsA .u8 l)] w (RetC 5 RE [ofKey l] w) :=
  (of_any l w hl hd).mono fun _ _ h => h.c rfl
theorem bytesE (ha : Ch 5 RE [x] a) : Calls Tryd.prog 48 #[.agg a] w fun e w' => e = .returned (.agg (numsA .u8 (keyOf x))) ∧ Upd (fun _ => False) w w' := by
  obtain ⟨a0, a1, a2, a3, a4, m, rfl, hm, rfl⟩ := ha.get
  refine (bytes_any _ _ _ _ _ m w hm).mono fun _ _ h => ?_
  unfold keyOf
  rw [fv_val]
  exact h
theorem dec_fv (m n : Int) : decide (m % pp = n % pp) = decide (fv m = fv n) := by
  rw [decide_eq_decide, fv_cong, cong_iff]
theorem equalE (ha : Ch 5 RE [x] a) (hb : Ch 5 RE [y] b) : Calls Tryd.prog 71 #[.agg a, .agg b] w fun e w' => e = .returned (.bool (decide (x = y))) ∧ Upd (fun _ => False) w w' := by
  obtain ⟨a0, a1, a2, a3, a4, m, rfl, hm, rfl⟩ := ha.get
  obtain ⟨b0, b1, b2, b3, b4, n, rfl, hn, rfl⟩ := hb.get
  rw [← dec_fv]
  exact equal_any _ _ _ _ _ _ _ _ _ _ m n w hm hn
theorem isZeroE (ha : Ch 5 RE [x] a) : Calls Tryd.prog 62 #[.agg a] w fun e w' => e = .returned (.bool (decide (x = 0))) ∧ Upd (fun _ => False) w w' := by
  obtain ⟨a0, a1, a2, a3, a4, m, rfl, hm, rfl⟩ := ha.get
  rw [show decide (fv m = 0) = decide (m % pp = 0) by rw [decide_eq_decide, fv_eq_zero]]
  exact isZero_any _ _ _ _ _ m w hm
theorem oddE (ha : Ch 5 RE [x] a) : Calls Tryd.prog 69 #[.agg a] w fun e w' => e = .returned (.bool (decide (x.val % 2 = 1))) ∧ Upd (fun _ => False) w w' := by
  obtain ⟨a0, a1, a2, a3, a4, m, rfl, hm, rfl⟩ := ha.get
  have e : decide ((fv m).val % 2 = 1) = decide (m % pp % 2 = 1) := by
    have := fv_val m
    rw [decide_eq_decide]
    omega
  rw [e]
  exact odd_any _ _ _ _ _ m w hm
theorem addE {bl : Nat} {t : TypeId} {arr : Array Value} (hb : Blk w bl t arr) (h : Ch 5 RE [x, y] arr) : Calls Tryd.prog 45 #[.slice (some ⟨bl, 0, none⟩) 2 2] w (RetC 5 RE [x + y] w) := by
  have h1 := (h.at 0 0 rfl rfl).get
  have h2 := (h.at 1 5 rfl rfl).get
  have hs : arr.size = 10 := h.size
  obtain ⟨a0, a1, a2, a3, a4, m, e1, hm, rfl⟩ := h1
  obtain ⟨b0, b1, b2, b3, b4, n, e2, hn, rfl⟩ := h2
  have c1 : ∀ j v, (#[.int .u64 a0, .int .u64 a1, .int .u64 a2, .int .u64 a3, .int .u64 a4] : Array Value)[j]? = some v → w.cell? ⟨bl, j, none⟩ = some v := fun j v hv => by
    rw [← e1, Array.getElem?_extract] at hv
    split at hv
    · rw [hb.cell, ← hv, Nat.zero_add]
    · cases hv
  have c2 : ∀ j v, (#[.int .u64 b0, .int .u64 b1, .int .u64 b2, .int .u64 b3, .int .u64 b4] : Array Value)[j]? = some v → w.cell? ⟨bl, 5 + j, none⟩ = some v := fun j v hv => by
    rw [← e2, Array.getElem?_extract] at hv
    split at hv
    · rw [hb.cell, ← hv]
    · cases hv
  have hE : ElsAt w (.slice (some ⟨bl, 0, none⟩) 2 2) [⟨a0, a1, a2, a3, a4⟩, ⟨b0, b1, b2, b3, b4⟩] [m, n] := by
    refine ⟨rfl, fun i x hq => ?_, _, _, rfl, Nat.le_refl _, by simp, fun _ => ⟨_, rfl, fun i x hq => ?_⟩⟩
    · match i, hq with
      | 0, hq => cases hq; exact hm
      | 1, hq => cases hq; exact hn
      | i + 2, hq => cases hq
    · match i, hq with
      | 0, hq => cases hq; exact ⟨c1 0 _ rfl, c1 1 _ rfl, c1 2 _ rfl, c1 3 _ rfl, c1 4 _ rfl⟩
      | 1, hq => cases hq; exact ⟨c2 0 _ rfl, c2 1 _ rfl, c2 2 _ rfl, c2 3 _ rfl, c2 4 _ rfl⟩
      | i + 2, hq => cases hq
  refine (add_any _ _ _ w hE).mono fun _ _ h => h.c ?_
  show fv (0 + m + n) = _
  rw [Int.zero_add, fv_add]
/-- What Swap answers. -/
def swapped (t : Bool) (a b : Array Value) : Value := if t then .tuple #[.agg b, .agg a] else .tuple #[.agg a, .agg b]
theorem swapE (t : Bool) (ha : Ch 5 RE [x] a) (hb : Ch 5 RE [y] b) : Calls Tryd.prog 85 #[.bool t, .agg a, .agg b] w fun e w' => e = .returned (swapped t a b) ∧ Upd (fun _ => False) w w' := by
  obtain ⟨a0, a1, a2, a3, a4, m, rfl, hm, rfl⟩ := ha.get
  obtain ⟨b0, b1, b2, b3, b4, n, rfl, hn, rfl⟩ := hb.get
  cases t
  · exact swapF_any _ _ _ _ _ _ _ _ _ _ w
  · exact swapT_any _ _ _ _ _ _ _ _ _ _ w
theorem canonicalE (l : List Int) (hl : l.length = 32) (hd : Digs 256 l) : Calls Tryd.prog 60 #[.agg (numsA .u8 l)] w fun e w' => e = .returned (.bool (canonB l)) ∧ Upd (fun _ => False) w w' := canonical_any l w hl hd
theorem rMulE (ha : Ch 16 RN [x] a) (hb : Ch 16 RN [y] b) : Calls Tryd.prog 58 #[.agg a, .agg b] w (RetC 16 RN [x * y] w) := by
  obtain ⟨r, m, rfl, hm, rfl⟩ := ha.get
  obtain ⟨s, n, rfl, hn, rfl⟩ := hb.get
  exact (rMul_any r s m n w hm hn).mono fun _ _ h => h.c (fv_mul m n)
theorem rAddE (ha : Ch 16 RN [x] a) (hb : Ch 16 RN [y] b) : Calls Tryd.prog 67 #[.agg a, .agg b] w (RetC 16 RN [x + y] w) := by
  obtain ⟨r, m, rfl, hm, rfl⟩ := ha.get
  obtain ⟨s, n, rfl, hn, rfl⟩ := hb.get
  exact (rAdd_any r s m n w hm hn).mono fun _ _ h => h.c (fv_add m n)
theorem rSubE (ha : Ch 16 RN [x] a) (hb : Ch 16 RN [y] b) : Calls Tryd.prog 66 #[.agg a, .agg b] w (RetC 16 RN [x - y] w) := by
  obtain ⟨r, m, rfl, hm, rfl⟩ := ha.get
  obtain ⟨s, n, rfl, hn, rfl⟩ := hb.get
  exact (rSub_any r s m n w hm hn).mono fun _ _ h => h.c (fv_sub m n)
theorem rNegE (ha : Ch 16 RN [x] a) : Calls Tryd.prog 68 #[.agg a] w (RetC 16 RN [-x] w) := by
  obtain ⟨r, m, rfl, hm, rfl⟩ := ha.get
  exact (rNeg_any r m w hm).mono fun _ _ h => h.c (fv_neg m)
theorem rInvE (ha : Ch 16 RN [x] a) : Calls Tryd.prog 59 #[.agg a] w (RetC 16 RN [finv x] w) := by
  obtain ⟨r, m, rfl, hm, rfl⟩ := ha.get
  exact (rInvert_any r m w hm).mono fun _ _ h => h.c (fv_inv m)
theorem rSmallE (n : Int) (h0 : 0 ≤ n) (h1 : n < 4294967296) : Calls Tryd.prog 54 #[.int .u64 n] w (RetC 16 RN [fv n] w) :=
  (rSmall_any n w h0 h1).mono fun _ _ h => ⟨_, h.1, Ch.num (okNum h0 (by omega)) rfl, h.2⟩
theorem rOfE (l : List Int) (hl : l.length = 32) (hd : Digs 256 l) : Calls Tryd.prog 53 #[.agg (numsA .u8 l)] w (RetC 16 RN [ofKey l] w) :=
  (rOf_any l w hl hd).mono fun _ _ h => ⟨_, h.1, Ch.num (okKey l) rfl, h.2⟩
theorem rBytesE (ha : Ch 16 RN [x] a) : Calls Tryd.prog 57 #[.agg a] w fun e w' => e = .returned (.agg (numsA .u8 (keyOf x))) ∧ Upd (fun _ => False) w w' := by
  obtain ⟨r, m, rfl, hm, rfl⟩ := ha.get
  refine (rBytes_ok r m w hm).mono fun _ _ h => ?_
  unfold keyOf
  rw [fv_val]
  exact h
theorem rCanonE (ha : Ch 16 RN [x] a) : Calls Tryd.prog 88 #[.agg a] w fun e w' => e = .returned (.agg (numN (x.val : Int))) ∧ Upd (fun _ => False) w w' := by
  obtain ⟨r, m, rfl, hm, rfl⟩ := ha.get
  refine (rCanon_ok r m w hm).mono fun _ _ h => ?_
  rw [fv_val]
  exact h
end
/-- Lists of two Elems made for a call. -/
theorem size5_ex (a : Array Value) (h : a.size = 5) : ∃ x0 x1 x2 x3 x4, a = #[x0, x1, x2, x3, x4] := by
  obtain ⟨l⟩ := a
  match l, h with
  | [x0, x1, x2, x3, x4], _ => exact ⟨x0, x1, x2, x3, x4, rfl⟩
theorem run_pairQ {o : Oper} {a : Act} {p q : Operand} {A B : Array Value} (ho : o.op = .buildSlice 108 2 #[(0, p), (1, q)]) (hp : a.eval p = .agg A) (hq : a.eval q = .agg B) (hA : A.size = 5) (hB : B.size = 5) (w : World) :
    (execOp a.eval o).run Tryd.prog w = .ok (.value (.slice (some ⟨w.heap.size, 0, none⟩) 2 2)) (w.alloc (.cells (A ++ B) 39)) := by
  obtain ⟨x0, x1, x2, x3, x4, rfl⟩ := size5_ex A hA
  obtain ⟨y0, y1, y2, y3, y4, rfl⟩ := size5_ex B hB
  generalize a.eval = ev at hp hq ⊢
  unfold execOp
  simp only [ho]
  simp [hp, hq, go_sem]
end Go.Proofs.YtdpafemcpbhlfaaDoor
namespace Go.Proofs.YtdpafemcpbhlfaaDoor
set_option maxRecDepth 100000
open Go.RowKit

theorem Upd.keep {w w' : World} (h : Upd (fun _ => False) w w') {g : Nat} {t : TypeId} {cs : Array Value} (H : Hid (Blk w g t cs)) : Hid (Blk w' g t cs) := Lib.hid (h.blk H.out (fun h => h))
theorem Upd.keepD {w w' : World} (h : Upd (fun _ => False) w.drew w') {g : Nat} {t : TypeId} {cs : Array Value} (H : Hid (Blk w g t cs)) : Hid (Blk w' g t cs) := Lib.hid (h.blk (show Blk w.drew g t cs from H.out) (fun h => h))
theorem Upd.keepS {w w' : World} {d : Nat} (h : Upd (· = d) w w') {g : Nat} {t : TypeId} {cs : Array Value} (H : Hid (Blk w g t cs)) (hn : g = d → False) : Hid (Blk w' g t cs) := Lib.hid (h.blk H.out hn)
theorem hh {p : Prop} (h : p) : Hid p := Lib.hid h
theorem apartB {w : World} {g b : Nat} {t : TypeId} {cs : Array Value} (H : Hid (Blk w g t cs)) (hn : w.heap.size ≤ b) : Hid (b ≠ g) := Lib.hid (Nat.ne_of_gt (Nat.lt_of_lt_of_le H.out.lt hn))
theorem geB {w w' : World} {S : Nat → Prop} {b : Nat} (H : Hid (Upd S w w')) (hn : w'.heap.size ≤ b) : Hid (w.heap.size ≤ b) := Lib.hid (Nat.le_trans H.out.size hn)
theorem dp {o : Oper} {listed : Array Bool} (h : ∀ e ∈ o.after, Region.binds .any e = true → listed.getD e.on false = true) (n : Nat) {e : Edge} (he : o.after[n]? = some e) (hb : Region.binds .any e = true) : listed.getD e.on false = true := h e (Array.mem_of_getElem? he) hb
def orAll (i : Nat) : List Nat → Prop
  | [] => False
  | k :: l => i = k ∨ orAll i l
theorem orAll_of {i : Nat} : ∀ {l : List Nat}, i ∈ l → orAll i l
  | k :: l, h => by
    rcases List.mem_cons.1 h with h | h
    · exact .inl h
    · exact .inr (orAll_of h)
theorem slot_cases {ops : Array Oper} {stop : Array Bool} {i : Nat} {o : Oper} {l : List Nat} (h : (List.range stop.size).filter (fun j => stop.getD j false) = l) (_ho : ops[i]? = some o) (hst : stop.getD i false = true) : orAll i l := by
  apply orAll_of
  rw [← h, List.mem_filter]
  refine ⟨?_, hst⟩
  by_cases hi : i < stop.size
  · exact List.mem_range.2 hi
  · simp [Array.getD, hi] at hst
def newIdx (ops : Array Oper) : List Nat := (List.range ops.size).filter fun j => match ops[j]? with
  | some o => newB o
  | none => false
def AllNew (sp : List SQ) : List Nat → Prop
  | [] => True
  | k :: l => (∃ t p, sp[k]? = some (.blk ptrTo t p)) ∧ AllNew sp l
theorem newsQ_spec {ops : Array Oper} {sp : List SQ} {l : List Nat} (h : newIdx ops = l) (g : AllNew sp l) (j : Nat) (oj : Oper) (hj : ops[j]? = some oj) (hn : newB oj = true) : ∃ t p, sp[j]? = some (.blk ptrTo t p) := by
  have hm : j ∈ l := by
    rw [← h]
    unfold newIdx
    rw [List.mem_filter]
    exact ⟨List.mem_range.2 (idx_lt hj), by rw [hj]; exact hn⟩
  clear h
  induction l with
  | nil => cases hm
  | cons k l ih =>
    rcases List.mem_cons.1 hm with h | h
    · subst h; exact g.1
    · exact ih g.2 h
theorem step_pureQ {P : Program} {ops : Array Oper} {o : Oper} {a : Act} {w : World} {K : Act → World → Prop} {Q : Exit → Act → World → Prop} {E : Prop} (hgd : o.guard = none) (d : Nat) (hd : o.dst = some d) (v : Value)
    (hrun : (execOp a.eval o).run P w = .ok (.value v) w) (h : K { a with tmps := a.tmps.setIfInBounds d v } w) : if Region.wanted o (yielded ops a.tmps) = true then Oper.wp P o a w K Q else E := by
  have hw : Region.wanted o (yielded ops a.tmps) = true := by simp [Region.wanted, hgd]
  rw [if_pos hw]
  unfold Oper.wp
  rw [hrun, Oper.upon_value]
  have : a.put o.dst v = { a with tmps := a.tmps.setIfInBounds d v } := by rw [hd]; rfl
  rw [this]
  exact h
/-- The one operation that is ready is a store. -/
theorem wpAny_storeQ {P : Program} {ops : Array Oper} {Q : Exit → Act → World → Prop} {fuel : Nat} {listed : Array Bool} {a : Act} {w : World} (i : Nat) {o : Oper} (ho : ops[i]? = some o) (hr : Region.ready .any ops listed = [i]) (hgd : o.guard = none) (hd : o.dst = none) (ty : TypeId) (x y : Operand) (hop : o.op = .store ty x y)
    (g off n : Nat) (hx : a.eval x = .pointer (some ⟨g, off, none⟩)) (vs : Array Value) (hy : a.eval y = .agg vs) (t : TypeId) (cs : Array Value) (hg : Blk w g t cs)
    (hi : (P.info? ty).map (·.size) = some n) (hv : vs.size = n) (hn : off + n ≤ cs.size) (h1 : ∀ v ∈ vs.toList, v.oneCell' = true)
    (h : ∀ w', Blk w' g t (splice cs off vs.toList) → Upd (· = g) w w' → wpAny P .any ops Q fuel (listed.setIfInBounds i true) a w') : wpAny P .any ops Q (fuel + 1) listed a w := by
  refine wpAny_ready hr (by simp) (AllReady.cons ho (fun K hK => ?_) AllReady.nil)
  refine step_storeBlk2 hgd ty x y hop g off n hx vs hy t cs hg hi hv hn h1 ?_
  intro w' h2 h3 _
  rw [hd]
  exact hK _ _ (h w' h2 h3)
/-- The one operation that is ready yields a value. -/
theorem wpAny_pureQ {P : Program} {ops : Array Oper} {Q : Exit → Act → World → Prop} {fuel : Nat} {listed : Array Bool} {a : Act} {w : World} (i : Nat) {o : Oper} (ho : ops[i]? = some o) (hr : Region.ready .any ops listed = [i]) (hgd : o.guard = none) (d : Nat) (hd : o.dst = some d) (v : Value)
    (hrun : (execOp a.eval o).run P w = .ok (.value v) w) (h : wpAny P .any ops Q fuel (listed.setIfInBounds i true) { a with tmps := a.tmps.setIfInBounds d v } w) : wpAny P .any ops Q (fuel + 1) listed a w := by
  refine wpAny_ready hr (by simp) (AllReady.cons ho (fun K hK => ?_) AllReady.nil)
  refine step_pureQ hgd d hd v hrun ?_
  exact hK _ _ h
section
variable {P : Program} {o : Oper} {a : Act} {p q : Operand} {T T' : TypeId} {k : IntKind} {x y r : Int} {b : Bool}
theorem run_lss (ho : o.op = .binOp .lss T p q T') (hp : a.eval p = .int k x) (hq : a.eval q = .int k y) (h : decide (x < y) = b) (w : World) : (execOp a.eval o).run P w = .ok (.value (.bool b)) w := by
  subst h; generalize a.eval = ev at *; unfold execOp; simp only [ho]; simp [hp, hq, go_sem]
theorem run_leq (ho : o.op = .binOp .leq T p q T') (hp : a.eval p = .int k x) (hq : a.eval q = .int k y) (h : decide (x ≤ y) = b) (w : World) : (execOp a.eval o).run P w = .ok (.value (.bool b)) w := by
  subst h; generalize a.eval = ev at *; unfold execOp; simp only [ho]; simp [hp, hq, go_sem]
theorem run_gtr (ho : o.op = .binOp .gtr T p q T') (hp : a.eval p = .int k x) (hq : a.eval q = .int k y) (h : decide (y < x) = b) (w : World) : (execOp a.eval o).run P w = .ok (.value (.bool b)) w := by
  subst h; generalize a.eval = ev at *; unfold execOp; simp only [ho]; simp [hp, hq, go_sem]
theorem run_geq (ho : o.op = .binOp .geq T p q T') (hp : a.eval p = .int k x) (hq : a.eval q = .int k y) (h : decide (y ≤ x) = b) (w : World) : (execOp a.eval o).run P w = .ok (.value (.bool b)) w := by
  subst h; generalize a.eval = ev at *; unfold execOp; simp only [ho]; simp [hp, hq, go_sem]
theorem run_eql (ho : o.op = .binOp .eql T p q T') (hp : a.eval p = .int k x) (hq : a.eval q = .int k y) (h : decide (x = y) = b) (w : World) : (execOp a.eval o).run P w = .ok (.value (.bool b)) w := by
  subst h; generalize a.eval = ev at *; unfold execOp; simp only [ho]; simp [hp, hq, go_sem]
  by_cases e : x = y <;> simp [e]
theorem run_neq (ho : o.op = .binOp .neq T p q T') (hp : a.eval p = .int k x) (hq : a.eval q = .int k y) (h : decide (x ≠ y) = b) (w : World) : (execOp a.eval o).run P w = .ok (.value (.bool b)) w := by
  subst h; generalize a.eval = ev at *; unfold execOp; simp only [ho]; simp [hp, hq, go_sem]
  by_cases e : x = y <;> simp [e]
theorem run_add (ho : o.op = .binOp .add T p q T') (hp : a.eval p = .int k x) (hq : a.eval q = .int k y) (h : k.wrap (x + y) = r) (w : World) : (execOp a.eval o).run P w = .ok (.value (.int k r)) w := by
  subst h; generalize a.eval = ev at *; unfold execOp; simp only [ho]; simp [hp, hq, go_sem]
theorem run_sub (ho : o.op = .binOp .sub T p q T') (hp : a.eval p = .int k x) (hq : a.eval q = .int k y) (h : k.wrap (x - y) = r) (w : World) : (execOp a.eval o).run P w = .ok (.value (.int k r)) w := by
  subst h; generalize a.eval = ev at *; unfold execOp; simp only [ho]; simp [hp, hq, go_sem]
theorem run_mul (ho : o.op = .binOp .mul T p q T') (hp : a.eval p = .int k x) (hq : a.eval q = .int k y) (h : k.wrap (x * y) = r) (w : World) : (execOp a.eval o).run P w = .ok (.value (.int k r)) w := by
  subst h; generalize a.eval = ev at *; unfold execOp; simp only [ho]; simp [hp, hq, go_sem]
theorem run_rem (ho : o.op = .binOp .rem T p q T') (hp : a.eval p = .int k x) (hq : a.eval q = .int k y) (h0 : y ≠ 0) (h : x.tmod y = r) (w : World) : (execOp a.eval o).run P w = .ok (.value (.int k r)) w := by
  subst h; generalize a.eval = ev at *; unfold execOp; simp only [ho]; simp [hp, hq, go_sem, h0]
theorem run_quo (ho : o.op = .binOp .quo T p q T') (hp : a.eval p = .int k x) (hq : a.eval q = .int k y) (h0 : y ≠ 0) (h : k.wrap (x.tdiv y) = r) (w : World) : (execOp a.eval o).run P w = .ok (.value (.int k r)) w := by
  subst h; generalize a.eval = ev at *; unfold execOp; simp only [ho]; simp [hp, hq, go_sem, h0]
theorem run_conv {k' : IntKind} (ho : o.op = .convert T T' p) (hT : ∃ d, P.underlying T = some d) (hT' : P.underlying T' = some (.int k')) (hp : a.eval p = .int k x) (h : k'.wrap x = r) (w : World) : (execOp a.eval o).run P w = .ok (.value (.int k' r)) w := by
  obtain ⟨d, hd⟩ := hT
  subst h; generalize a.eval = ev at *; unfold execOp; simp only [ho]; simp [hp, go_sem, run_underlying hd, run_underlying hT', convert]
theorem run_adr {n : Nat} {e : TypeId} {g off i : Nat} (ho : o.op = .indexAddr T p q) (hT : P.underlying T = some (.array n e)) (hs : (P.info? e).map (·.size) = some 1) (hp : a.eval p = .pointer (some ⟨g, off, none⟩)) (hq : a.eval q = .int k i) (hi : i < n) (w : World) :
    (execOp a.eval o).run P w = .ok (.value (.pointer (some ⟨g, off + i, none⟩))) w := by
  have hsz : ∀ w, (sizeOf e).run P w = .ok 1 w := fun w => by
    cases hq : P.info? e with
    | none => simp [hq] at hs
    | some i => have : i.size = 1 := by simpa [hq] using hs
                simp [sizeOf, typeInfo, hq, this]
  generalize a.eval = ev at *; unfold execOp; simp only [ho]; simp [hp, hq, go_sem, hT, hsz, hi, Addr.add]
theorem run_shr8 {n : Nat} (ho : o.op = .binOp .shr T p q T') (hp : a.eval p = .int .u8 x) (hq : a.eval q = .int .i64 (n : Int)) (hn : n < 8) (w : World) : (execOp a.eval o).run P w = .ok (.value (.int .u8 (x / 2 ^ n))) w := by
  generalize a.eval = ev at *; unfold execOp; simp only [ho]; simp [hp, hq, go_sem]
theorem run_and8 (ho : o.op = .binOp .and T p q T') (hp : a.eval p = .int .u8 x) (hq : a.eval q = .int .u8 1) (hx : 0 ≤ x ∧ x < 256) (w : World) : (execOp a.eval o).run P w = .ok (.value (.int .u8 (x % 2))) w := by
  have hb := and8_one x hx.1 hx.2
  generalize a.eval = ev at *; unfold execOp; simp only [ho]; simp [hp, hq, go_sem, hb]
end
theorem quo8 (j : Nat) (h : j < 1000) : IntKind.wrap .i64 (Int.tdiv (j : Int) 8) = ((j / 8 : Nat) : Int) := by
  have e : Int.tdiv (j : Int) 8 = ((j / 8 : Nat) : Int) := by
    rw [Int.tdiv_eq_ediv_of_nonneg (by omega)]
    omega
  rw [e]
  exact IntWalk.i64_in _ (by omega)
theorem rem8 (j : Nat) : Int.tmod (j : Int) 8 = ((j % 8 : Nat) : Int) := by
  rw [Int.tmod_eq_emod_of_nonneg (by omega)]
  omega
/-- Bit j of a key, as a test. -/
def kb (l : List Int) (j : Nat) : Bool := decide (bitAt l j = 1)
theorem wp_exit_block {P : Program} {id : Nat} {a : Act} {w : World} {I : Act → World → Prop} {Q : Exit → Act → World → Prop} (h : Q .normal a w) : (Code.exit id).wp P (Exit.then I (Exit.inBlock id Q)) a w := wp_exit (by simpa [Exit.then, Exit.inBlock] using h)
theorem wp_exit_then {P : Program} {id : Nat} {a : Act} {w : World} {I J : Act → World → Prop} {Q : Exit → Act → World → Prop} (h : Q .normal a w) : (Code.exit id).wp P (Exit.then J (Exit.then I (Exit.inBlock id Q))) a w := wp_exit (by simpa [Exit.then, Exit.inBlock] using h)
/-- The first m are listed. -/
def preL (n m : Nat) : Array Bool := Array.ofFn (n := n) fun i => decide (i.val < m)
theorem preL_size (n m : Nat) : (preL n m).size = n := by simp [preL]
theorem preL_get (n m i : Nat) (d : Bool) (h : i < n) : (preL n m).getD i d = decide (i < m) := by
  have : i < (preL n m).size := by rw [preL_size]; exact h
  simp [Array.getD, preL, h]
theorem preL_set (n m : Nat) (_h : m < n) : (preL n m).setIfInBounds m true = preL n (m + 1) := by
  apply Array.ext
  · simp [preL]
  · intro i h1 h2
    have hi : i < n := by simpa [preL] using h2
    rw [Array.getElem_setIfInBounds (by simpa [preL] using hi)]
    by_cases e : m = i
    · subst e; simp [preL]
    · have : decide (i < m) = decide (i < m + 1) := by rw [decide_eq_decide]; omega
      simp [preL, e, this]
theorem preL_zero (n : Nat) : preL n 0 = Array.replicate n false := by
  apply Array.ext
  · simp [preL]
  · intro i h1 h2
    simp [preL]
theorem preL_out (n m i : Nat) (h : m ≤ i) : (preL n m).getD i false = false := by
  by_cases hi : i < n
  · rw [preL_get _ _ _ _ hi]; simp; omega
  · have : ¬ i < (preL n m).size := by rw [preL_size]; exact hi
    simp [Array.getD, this]
/-- None ahead of i writes slot t. -/
def noDstTo (ops : Array Oper) (t i : Nat) : Bool := (List.range i).all fun j => match ops[j]? with
  | some o => (match o.dst with | some d => d != t | none => true)
  | none => true
theorem Slots.oldS {ops : Array Oper} {sp : List SQ} {a0 : Act} {w0 : World} {listed : Array Bool} {a : Act} {w : World} {base : Nat} (h : Slots ops (specQ base sp) a0 w0 listed a w) {i : Nat} (hpre : ∀ j, i ≤ j → listed.getD j false = false) {t : Nat} (hn : noDstTo ops t i = true) {v : Value} (hv : a0.tmps[t]? = some v) : a.eval (.tmp t) = v := by
  refine eval_of ((h.other t (fun j o ho hl hd => ?_)).trans hv)
  by_cases hj : i ≤ j
  · rw [hpre j hj] at hl; cases hl
  · have h1 := List.all_eq_true.1 hn j (List.mem_range.2 (by omega))
    simp [ho, hd] at h1
def prefB (ops : Array Oper) (k : Nat) : Bool := (List.range k).all fun i => match ops[i]? with
  | some o => o.after.all fun e => !Region.binds .any e || decide (e.on < i)
  | none => false
section
variable {P : Program} {ops : Array Oper} {Q : Exit → Act → World → Prop}
/-- A region in the order of the text: first those that write nothing. -/
theorem wp_region_qS {id : Nat} {a : Act} {w : World} (k : Nat) (stop : Array Bool) (l : List Nat) (sp : List SQ) (hs : preL ops.size k = stop) (hl : List.range ops.size = List.range k ++ l) (hb : prefB ops k = true)
    (hstep : ∀ i o listed a' w', ops[i]? = some o → listed.size = ops.size → stop.getD i false = true → listed.getD i true = false → (∀ e ∈ o.after, Region.binds .any e = true → listed.getD e.on false = true) → Slots ops (specQ w.heap.size sp) a w listed a' w' →
      (∀ j, i ≤ j → listed.getD j false = false) →
      ∀ K' : Act → World → Prop, (∀ a'' w'', Slots ops (specQ w.heap.size sp) a w (listed.setIfInBounds i true) a'' w'' → K' a'' w'') → if Region.wanted o (yielded ops a'.tmps) = true then Oper.wp P o a' w' K' Q else K' (a'.put o.dst undef) w')
    (hfin : ∀ a' w', Slots ops (specQ w.heap.size sp) a w stop a' w' → wpOps P ops Q l a' w') : (Code.region id ops false).wp P Q a w := by
  have hk : k ≤ ops.size := by
    have := congrArg List.length hl
    simp at this
    omega
  have key : ∀ (j m : Nat), m + j = k → ∀ a' w', Slots ops (specQ w.heap.size sp) a w (preL ops.size m) a' w' → wpOps P ops Q (List.range' m j ++ l) a' w' := by
    intro j
    induction j with
    | zero =>
      intro m hm a' w' hI
      have : m = k := by omega
      subst this
      rw [hs] at hI
      exact hfin a' w' hI
    | succ j ih =>
      intro m hm a' w' hI
      rw [List.range'_succ, List.cons_append, wpOps_cons]
      have hlt : m < ops.size := by omega
      have ho : ops[m]? = some ops[m] := Array.getElem?_eq_getElem hlt
      refine wpOp_step ho (fun K hK => ?_)
      refine hstep m _ _ a' w' ho (preL_size _ _) (by rw [← hs, preL_get _ _ _ _ hlt]; simp; omega) (by rw [preL_get _ _ _ _ hlt]; simp) (fun e he hbd => ?_) hI (fun q hq => preL_out _ _ q hq) K (fun a2 w2 h2 => hK _ _ (ih (m + 1) (by omega) a2 w2 (by rw [← preL_set _ _ hlt]; exact h2)))
      have h1 := List.all_eq_true.1 hb m (List.mem_range.2 (by omega))
      rw [ho] at h1
      have h2 := (Array.all_eq_true_iff_forall_mem.1 h1) e he
      rw [hbd] at h2
      have h3 : e.on < m := by simpa using h2
      rw [preL_get _ _ _ _ (by omega)]
      simpa using h3
  refine wp_region ?_
  rw [hl, List.range_eq_range']
  exact key k 0 (by omega) a w (by rw [preL_zero]; exact Slots.start _ _ _ _ _)
theorem wp_region_qD {id : Nat} {a : Act} {w : World} (stop : Array Bool) (sp : List SQ) (hdst : dstB ops a.tmps.size = true) (hm : P.follows .mixedOrders = true) (hsz : stop.size = ops.size) (hok : uptoB ops stop = true)
    (hstep : ∀ i o listed a' w', ops[i]? = some o → listed.size = ops.size → stop.getD i false = true → listed.getD i true = false → (∀ e ∈ o.after, Region.binds .any e = true → listed.getD e.on false = true) → Slots ops (specQ w.heap.size sp) a w.drew listed a' w' → dstB ops a.tmps.size = true →
      ∀ K' : Act → World → Prop, (∀ a'' w'', Slots ops (specQ w.heap.size sp) a w.drew (listed.setIfInBounds i true) a'' w'' → K' a'' w'') → if Region.wanted o (yielded ops a'.tmps) = true then Oper.wp P o a' w' K' Q else K' (a'.put o.dst undef) w')
    (hfin : ∀ fuel a' w', left stop ops.size ≤ fuel → Slots ops (specQ w.heap.size sp) a w.drew stop a' w' → wpAny P .any ops Q fuel stop a' w') : (Code.region id ops true).wp P Q a w :=
  wp_region_q stop sp hm hsz hok (fun i o listed a' w' h1 h2 h3 h4 h5 h6 => hstep i o listed a' w' h1 h2 h3 h4 h5 h6 hdst) hfin
theorem wp_region_qSD {id : Nat} {a : Act} {w : World} (k : Nat) (stop : Array Bool) (l : List Nat) (sp : List SQ) (hdst : dstB ops a.tmps.size = true) (hs : preL ops.size k = stop) (hl : List.range ops.size = List.range k ++ l) (hb : prefB ops k = true)
    (hstep : ∀ i o listed a' w', ops[i]? = some o → listed.size = ops.size → stop.getD i false = true → listed.getD i true = false → (∀ e ∈ o.after, Region.binds .any e = true → listed.getD e.on false = true) → Slots ops (specQ w.heap.size sp) a w listed a' w' → dstB ops a.tmps.size = true →
      (∀ j, i ≤ j → listed.getD j false = false) →
      ∀ K' : Act → World → Prop, (∀ a'' w'', Slots ops (specQ w.heap.size sp) a w (listed.setIfInBounds i true) a'' w'' → K' a'' w'') → if Region.wanted o (yielded ops a'.tmps) = true then Oper.wp P o a' w' K' Q else K' (a'.put o.dst undef) w')
    (hfin : ∀ a' w', Slots ops (specQ w.heap.size sp) a w stop a' w' → wpOps P ops Q l a' w') : (Code.region id ops false).wp P Q a w :=
  wp_region_qS k stop l sp hs hl hb (fun i o listed a' w' h1 h2 h3 h4 h5 h6 => hstep i o listed a' w' h1 h2 h3 h4 h5 h6 hdst) hfin
theorem wpOps_storeQ {a : Act} {w : World} {l : List Nat} (i : Nat) {o : Oper} (ho : ops[i]? = some o) (hgd : o.guard = none) (hd : o.dst = none) (ty : TypeId) (x y : Operand) (hop : o.op = .store ty x y)
    (g off n : Nat) (hx : a.eval x = .pointer (some ⟨g, off, none⟩)) (vs : Array Value) (hy : a.eval y = .agg vs) (t : TypeId) (cs : Array Value) (hg : Blk w g t cs)
    (hi : (P.info? ty).map (·.size) = some n) (hv : vs.size = n) (hn : off + n ≤ cs.size) (h1 : ∀ v ∈ vs.toList, v.oneCell' = true)
    (h : ∀ w', Blk w' g t (splice cs off vs.toList) → Upd (· = g) w w' → wpOps P ops Q l a w') : wpOps P ops Q (i :: l) a w := by
  rw [wpOps_cons]
  refine wpOp_step ho (fun K hK => ?_)
  refine step_storeBlk2 hgd ty x y hop g off n hx vs hy t cs hg hi hv hn h1 ?_
  intro w' h2 h3 _
  rw [hd]
  exact hK _ _ (h w' h2 h3)
theorem wpOps_pureQ {a : Act} {w : World} {l : List Nat} (i : Nat) {o : Oper} (ho : ops[i]? = some o) (hgd : o.guard = none) (d : Nat) (hd : o.dst = some d) (v : Value)
    (hrun : (execOp a.eval o).run P w = .ok (.value v) w) (h : wpOps P ops Q l { a with tmps := a.tmps.setIfInBounds d v } w) : wpOps P ops Q (i :: l) a w := by
  rw [wpOps_cons]
  refine wpOp_step ho (fun K hK => ?_)
  refine step_pureQ hgd d hd v hrun ?_
  exact hK _ _ h
theorem wpOps_nil {a : Act} {w : World} (h : Q .normal a w) : wpOps P ops Q [] a w := by simpa [wpOps] using h
end
/-- Two are ready: one that yields a value, and a store; in either order. -/
theorem wpAny_bothQ {P : Program} {ops : Array Oper} {Q : Exit → Act → World → Prop} {fuel : Nat} {listed : Array Bool} {a : Act} {w : World} (i j : Nat) (hij : i ≠ j) {oi oj : Oper} (hoi : ops[i]? = some oi) (hoj : ops[j]? = some oj) (rs : List Nat) (hr : Region.ready .any ops listed = rs) (hrs : rs = [i, j] ∨ rs = [j, i])
    (hri : Region.ready .any ops (listed.setIfInBounds i true) = [j]) (hrj : Region.ready .any ops (listed.setIfInBounds j true) = [i]) (hgi : oi.guard = none) (hgd : oj.guard = none) (d : Nat) (hdi : oi.dst = some d) (hd : oj.dst = none) (v : Value) (hrun : ∀ W, (execOp a.eval oi).run P W = .ok (.value v) W)
    (ty : TypeId) (x y : Operand) (hop : oj.op = .store ty x y) (g off n : Nat) (hx : a.eval x = .pointer (some ⟨g, off, none⟩)) (hx2 : Act.eval { a with tmps := a.tmps.setIfInBounds d v } x = .pointer (some ⟨g, off, none⟩)) (vs : Array Value) (hy : a.eval y = .agg vs) (hy2 : Act.eval { a with tmps := a.tmps.setIfInBounds d v } y = .agg vs) (t : TypeId) (cs : Array Value) (hg : Blk w g t cs)
    (hi : (P.info? ty).map (·.size) = some n) (hv : vs.size = n) (hn : off + n ≤ cs.size) (h1 : ∀ v ∈ vs.toList, v.oneCell' = true)
    (h : ∀ w', Blk w' g t (splice cs off vs.toList) → Upd (· = g) w w' → wpAny P .any ops Q fuel ((listed.setIfInBounds i true).setIfInBounds j true) { a with tmps := a.tmps.setIfInBounds d v } w') : wpAny P .any ops Q (fuel + 1 + 1) listed a w := by
  have A1 : wpOp P ops Q i (wpAny P .any ops Q (fuel + 1) (listed.setIfInBounds i true)) a w := by
    refine wpOp_step hoi (fun K hK => ?_)
    refine step_pureQ hgi d hdi v (hrun w) (hK _ _ ?_)
    exact wpAny_storeQ j hoj hri hgd hd ty x y hop g off n hx2 vs hy2 t cs hg hi hv hn h1 h
  have A2 : wpOp P ops Q j (wpAny P .any ops Q (fuel + 1) (listed.setIfInBounds j true)) a w := by
    refine wpOp_step hoj (fun K hK => ?_)
    refine step_storeBlk2 hgd ty x y hop g off n hx vs hy t cs hg hi hv hn h1 ?_
    intro w' h2 h3 _
    rw [hd]
    refine hK _ _ ?_
    refine wpAny_pureQ i hoi hrj hgi d hdi v (hrun w') ?_
    rw [Array.setIfInBounds_comm _ _ (Ne.symm hij)]
    exact h w' h2 h3
  rcases hrs with rfl | rfl
  · refine wpAny_ready hr (by simp) (fun k hk => ?_)
    rcases List.mem_cons.1 hk with rfl | hk
    · exact A1
    · obtain rfl := List.mem_singleton.1 hk
      exact A2
  · refine wpAny_ready hr (by simp) (fun k hk => ?_)
    rcases List.mem_cons.1 hk with rfl | hk
    · exact A2
    · obtain rfl := List.mem_singleton.1 hk
      exact A1
/-- Two structs answered off two variables: what is loaded second may be loaded behind the first store. -/
theorem wp_region_two {P : Program} {ops : Array Oper} {Q : Exit → Act → World → Prop} {id : Nat} {a : Act} {w : World} (o0 o1 o2 o3 : Oper) (hops : ops = #[o0, o1, o2, o3]) (hm : P.follows .mixedOrders = true)
    (T0 T1 : TypeId) (s0 s1 d0 d1 p0 p1 : Nat) (g0 : o0.guard = none) (g1 : o1.guard = none) (g2 : o2.guard = none) (g3 : o3.guard = none) (e0 : o0.dst = some d0) (e1 : o1.dst = some d1) (e2 : o2.dst = none) (e3 : o3.dst = none)
    (h0 : o0.op = .load T0 (.tmp s0)) (h1 : o1.op = .load T1 (.tmp s1)) (h2 : o2.op = .store T0 (.tmp p0) (.tmp d0)) (h3 : o3.op = .store T1 (.tmp p1) (.tmp d1))
    (r0 : Region.ready .any ops (Array.replicate ops.size false) = [0, 1]) (r1 : Region.ready .any ops #[true, false, false, false] = [1, 2]) (r2 : Region.ready .any ops #[false, true, false, false] = [0]) (r3 : Region.ready .any ops #[true, true, false, false] = [2]) (r4 : Region.ready .any ops #[true, false, true, false] = [1])
    (r5 : Region.ready .any ops #[true, true, true, false] = [3]) (r6 : Region.ready .any ops #[true, true, true, true] = [])
    (b0 b1 q0 q1 : Nat) (A0 A1 Z0 Z1 : Array Value) (t0 t1 u0 u1 : TypeId) (hb0 : Blk w b0 t0 A0) (hb1 : Blk w b1 t1 A1) (hq0 : Blk w q0 u0 Z0) (hq1 : Blk w q1 u1 Z1)
    (n1 : b1 ≠ q0) (n2 : q1 ≠ q0)
    (x0 : a.tmps[s0]? = some (ptrTo b0)) (x1 : a.tmps[s1]? = some (ptrTo b1)) (y0 : a.tmps[p0]? = some (ptrTo q0)) (y1 : a.tmps[p1]? = some (ptrTo q1)) (m0 : d0 < a.tmps.size) (m1 : d1 < a.tmps.size) (hdd : (d0 != d1 && s0 != d0 && s0 != d1 && s1 != d0 && s1 != d1 && p0 != d0 && p0 != d1 && p1 != d0 && p1 != d1) = true)
    {dd0 dd1 : TypeDesc} (v0 : P.underlying T0 = some dd0) (w0 : (match dd0 with | .struct _ | .array _ _ => true | _ => false) = true) (z0 : (P.info? T0).map (·.size) = some A0.size) (k0 : Z0.size = A0.size) (l0 : ∀ v ∈ A0.toList, v.oneCell' = true)
    (v1 : P.underlying T1 = some dd1) (w1 : (match dd1 with | .struct _ | .array _ _ => true | _ => false) = true) (z1 : (P.info? T1).map (·.size) = some A1.size) (k1 : Z1.size = A1.size) (l1 : ∀ v ∈ A1.toList, v.oneCell' = true)
    (h : ∀ w', Blk w' q0 u0 A0 → Blk w' q1 u1 A1 → Upd (fun k => k = q0 ∨ k = q1) w.drew w' → Q .normal ⟨(a.tmps.setIfInBounds d0 (.agg A0)).setIfInBounds d1 (.agg A1), a.defers⟩ w') : (Code.region id ops true).wp P Q a w := by
  simp only [Bool.and_eq_true, bne_iff_ne] at hdd
  obtain ⟨⟨⟨⟨⟨⟨⟨⟨c0, c1⟩, c2⟩, c3⟩, c4⟩, c5⟩, c6⟩, c7⟩, c8⟩ := hdd
  have i0 : ops[0]? = some o0 := by rw [hops]; rfl
  have i1 : ops[1]? = some o1 := by rw [hops]; rfl
  have i2 : ops[2]? = some o2 := by rw [hops]; rfl
  have i3 : ops[3]? = some o3 := by rw [hops]; rfl
  have hsz : ops.size = 4 := by rw [hops]; rfl
  have ex0 : A0.extract 0 (0 + A0.size) = A0 := extract_all _ _ rfl
  have ex1 : A1.extract 0 (0 + A1.size) = A1 := extract_all _ _ rfl
  have put0 : ∀ (b : Act) v, b.put o0.dst v = ⟨b.tmps.setIfInBounds d0 v, b.defers⟩ := fun b v => by rw [e0]; rfl
  have put1 : ∀ (b : Act) v, b.put o1.dst v = ⟨b.tmps.setIfInBounds d1 v, b.defers⟩ := fun b v => by rw [e1]; rfl
  have last : ∀ (f : Nat) (A : Act) (W : World), Blk W q0 u0 A0 → Blk W q1 u1 Z1 → Upd (fun k => k = q0 ∨ k = q1) w.drew W → A = ⟨(a.tmps.setIfInBounds d0 (.agg A0)).setIfInBounds d1 (.agg A1), a.defers⟩ → wpAny P .any ops Q (f + 1) #[true, true, true, false] A W := by
    intro f A W H0 H1 HU hA
    subst hA
    refine wpAny_storeQ 3 i3 r5 g3 e3 T1 _ _ h3 q1 0 A1.size (eval_of (by simp only []; rw [Array.getElem?_setIfInBounds_ne (Ne.symm c8), Array.getElem?_setIfInBounds_ne (Ne.symm c7)]; exact y1)) A1 (eval_of (by simp only []; rw [Array.getElem?_setIfInBounds_self_of_lt (by simpa using m1)])) u1 Z1 H1 z1 rfl (by omega) l1 ?_
    intro W' B1 U1
    rw [splice_all _ _ _ k1 rfl] at B1
    refine wpAny_done r6 ?_ _
    exact h W' (U1.blk H0 (fun e => n2 e.symm)) B1 (HU.step U1 (fun i _ hi => .inr hi))
  refine wp_region_any hm ?_
  rw [hsz] at r0 ⊢
  refine wpAny_ready r0 (by simp) (AllReady.cons i0 (fun K hK => ?_) (AllReady.cons i1 (fun K hK => ?_) AllReady.nil))
  · refine step_loadBlk g0 T0 _ h0 b0 0 A0.size (eval_of x0) t0 A0 _ (show Blk w.drew b0 t0 A0 from hb0) v0 w0 z0 (by omega) ?_
    rw [ex0, put0]
    refine hK _ _ (wpAny_ready (rs := [1, 2]) r1 (by simp) (AllReady.cons i1 (fun K hK => ?_) (AllReady.cons i2 (fun K hK => ?_) AllReady.nil)))
    · refine step_loadBlk g1 T1 _ h1 b1 0 A1.size (eval_of (by simp only []; rw [Array.getElem?_setIfInBounds_ne (Ne.symm c3)]; exact x1)) t1 A1 _ (show Blk w.drew b1 t1 A1 from hb1) v1 w1 z1 (by omega) ?_
      rw [ex1, put1]
      refine hK _ _ (wpAny_storeQ 2 i2 r3 g2 e2 T0 _ _ h2 q0 0 A0.size (eval_of (by simp only []; rw [Array.getElem?_setIfInBounds_ne (Ne.symm c6), Array.getElem?_setIfInBounds_ne (Ne.symm c5)]; exact y0)) A0 (eval_of (by simp only []; rw [Array.getElem?_setIfInBounds_ne (Ne.symm c0), Array.getElem?_setIfInBounds_self_of_lt m0])) u0 Z0 (show Blk w.drew q0 u0 Z0 from hq0) z0 rfl (by omega) l0 ?_)
      intro W B0 U0
      rw [splice_all _ _ _ k0 rfl] at B0
      exact last 0 _ W B0 (U0.blk (show Blk w.drew q1 u1 Z1 from hq1) n2) (U0.mono fun i _ hi => .inl hi) rfl
    · refine step_storeBlk2 g2 T0 _ _ h2 q0 0 A0.size (eval_of (by simp only []; rw [Array.getElem?_setIfInBounds_ne (Ne.symm c5)]; exact y0)) A0 (eval_of (by simp only []; rw [Array.getElem?_setIfInBounds_self_of_lt m0])) u0 Z0 (show Blk w.drew q0 u0 Z0 from hq0) z0 rfl (by omega) l0 ?_
      intro W B0 U0 _
      rw [splice_all _ _ _ k0 rfl] at B0
      rw [e2]
      refine hK _ _ (wpAny_ready (rs := [1]) r4 (by simp) (AllReady.cons i1 (fun K hK => ?_) AllReady.nil))
      refine step_loadBlk g1 T1 _ h1 b1 0 A1.size (eval_of (by simp only [Act.put]; rw [Array.getElem?_setIfInBounds_ne (Ne.symm c3)]; exact x1)) t1 A1 _ (U0.blk (show Blk w.drew b1 t1 A1 from hb1) n1) v1 w1 z1 (by omega) ?_
      rw [ex1, put1]
      exact hK _ _ (last 0 _ W B0 (U0.blk (show Blk w.drew q1 u1 Z1 from hq1) n2) (U0.mono fun i _ hi => .inl hi) rfl)
  · refine step_loadBlk g1 T1 _ h1 b1 0 A1.size (eval_of x1) t1 A1 _ (show Blk w.drew b1 t1 A1 from hb1) v1 w1 z1 (by omega) ?_
    rw [ex1, put1]
    refine hK _ _ (wpAny_ready (rs := [0]) r2 (by simp) (AllReady.cons i0 (fun K hK => ?_) AllReady.nil))
    refine step_loadBlk g0 T0 _ h0 b0 0 A0.size (eval_of (by simp only []; rw [Array.getElem?_setIfInBounds_ne (Ne.symm c2)]; exact x0)) t0 A0 _ (show Blk w.drew b0 t0 A0 from hb0) v0 w0 z0 (by omega) ?_
    rw [ex0, put0]
    refine hK _ _ (wpAny_storeQ 2 i2 r3 g2 e2 T0 _ _ h2 q0 0 A0.size (eval_of (by simp only []; rw [Array.getElem?_setIfInBounds_ne (Ne.symm c5), Array.getElem?_setIfInBounds_ne (Ne.symm c6)]; exact y0)) A0 (eval_of (by simp only []; rw [Array.getElem?_setIfInBounds_self_of_lt (by simpa using m0)])) u0 Z0 (show Blk w.drew q0 u0 Z0 from hq0) z0 rfl (by omega) l0 ?_)
    intro W B0 U0
    rw [splice_all _ _ _ k0 rfl] at B0
    exact last 0 _ W B0 (U0.blk (show Blk w.drew q1 u1 Z1 from hq1) n2) (U0.mono fun i _ hi => .inl hi) (by rw [Array.setIfInBounds_comm _ _ (Ne.symm c0)])
theorem run_swap0 {P : Program} {o : Oper} {a : Act} {x : Operand} {t : Bool} {A B : Array Value} (ho : o.op = .extract x 0) (hx : a.eval x = swapped t A B) (w : World) : (execOp a.eval o).run P w = .ok (.value (.agg (if t then B else A))) w := by
  cases t
  · exact run_extractQ ho hx rfl w
  · exact run_extractQ ho hx rfl w
theorem run_swap1 {P : Program} {o : Oper} {a : Act} {x : Operand} {t : Bool} {A B : Array Value} (ho : o.op = .extract x 1) (hx : a.eval x = swapped t A B) (w : World) : (execOp a.eval o).run P w = .ok (.value (.agg (if t then A else B))) w := by
  cases t
  · exact run_extractQ ho hx rfl w
  · exact run_extractQ ho hx rfl w
theorem Ch.pick {α : Type} {c : Nat} {R : α → Array Value → Prop} {x y : α} {A B : Array Value} (t : Bool) (h : Ch c R [x] A) (g : Ch c R [y] B) : Ch c R [if t then x else y] (if t then A else B) := by
  cases t
  · exact g
  · exact h
/-- One part changed. -/
theorem Ch.put {α : Type} {c : Nat} {R : α → Array Value → Prop} {vs : List α} {v : α} {A B : Array Value} (h : Ch c R vs A) (i o : Nat) (ho : o = c * i) (hi : i < vs.length) (g : Ch c R [v] B) : Ch c R (vs.set i v) (splice A o B.toList) := by
  subst ho
  have hB : B.size = c := by have := g.1; simpa using this
  have hle : c * i + c ≤ A.size := by
    rw [h.1, ← Nat.mul_succ]
    exact Nat.mul_le_mul_left c hi
  have hlen : c * i + B.toList.length ≤ A.size := by rw [Array.length_toList, hB]; exact hle
  have hsz := splice_size A (c * i) B.toList hlen
  refine ⟨by rw [hsz, h.1, List.length_set], fun u hu => ?_, fun j u hu => ?_⟩
  · obtain ⟨k, hk, rfl⟩ := List.getElem_of_mem hu
    have hk2 : k < A.size := by rw [← hsz]; simpa using hk
    have e := splice_get A (c * i) B.toList hlen k
    have e2 : (splice A (c * i) B.toList)[k]? = some ((splice A (c * i) B.toList).toList[k]) := by
      rw [← Array.getElem?_toList, List.getElem?_eq_getElem hk]
    rw [e2] at e
    split at e
    · exact g.2.1 _ (List.mem_of_getElem? e.symm)
    · exact h.2.1 _ (List.mem_of_getElem? (by rw [Array.getElem?_toList]; exact e.symm))
  · by_cases e : j = i
    · subst e
      rw [List.getElem?_set_self hi] at hu
      cases hu
      have e3 : (splice A (c * j) B.toList).extract (c * j) (c * j + c) = B := by
        apply Array.ext_getElem?
        intro k
        rw [Array.getElem?_extract, hsz]
        by_cases hk : k < c
        · rw [if_pos (by omega), splice_get A (c * j) B.toList hlen, if_pos (by rw [Array.length_toList]; omega), Nat.add_sub_cancel_left, Array.getElem?_toList]
        · rw [if_neg (by omega), Array.getElem?_eq_none (by omega)]
      rw [e3]
      exact g.get
    · rw [List.getElem?_set_ne (fun h => e h.symm)] at hu
      have h1 := h.2.2 j u hu
      have hj : j < vs.length := by
        by_cases hj : j < vs.length
        · exact hj
        · rw [List.getElem?_eq_none (by omega)] at hu; cases hu
      have hjle : c * j + c ≤ A.size := by
        rw [h.1, ← Nat.mul_succ]
        exact Nat.mul_le_mul_left c hj
      have hap : c * j + c ≤ c * i ∨ c * i + c ≤ c * j := by
        rcases Nat.lt_or_gt_of_ne e with h2 | h2
        · left; rw [← Nat.mul_succ]; exact Nat.mul_le_mul_left c h2
        · right; rw [← Nat.mul_succ]; exact Nat.mul_le_mul_left c h2
      have e3 : (splice A (c * i) B.toList).extract (c * j) (c * j + c) = A.extract (c * j) (c * j + c) := by
        apply Array.ext_getElem?
        intro k
        rw [Array.getElem?_extract, Array.getElem?_extract, hsz]
        by_cases hk : k < c
        · rw [if_pos (by omega), if_pos (by omega), splice_get A (c * i) B.toList hlen, if_neg (by rw [Array.length_toList]; omega)]
        · rw [if_neg (by omega), if_neg (by omega)]
      rw [e3]
      exact h1
/-- Two structs answered. -/
def RetC2 {α : Type} (c : Nat) (R : α → Array Value → Prop) (us vs : List α) (w : World) (e : Ending) (w' : World) : Prop := ∃ a b, e = .returned (.tuple #[.agg a, .agg b]) ∧ Ch c R us a ∧ Ch c R vs b ∧ Upd (fun _ => False) w w'
def IsC2 {α : Type} (c : Nat) (R : α → Array Value → Prop) (us vs : List α) (v : Value) : Prop := ∃ a b, v = .tuple #[.agg a, .agg b] ∧ Ch c R us a ∧ Ch c R vs b
theorem RetC2.sq {α : Type} {c : Nat} {R : α → Array Value → Prop} {us vs : List α} {w w' : World} {base : Nat} {e : Ending} (h : RetC2 c R us vs w e w') : ∃ v, e = .returned v ∧ (SQ.like (IsC2 c R us vs)).holds base v w' ∧ Upd (fun _ => False) w w' := by
  obtain ⟨a, b, rfl, h1, h2, hu⟩ := h
  exact ⟨_, rfl, ⟨a, b, rfl, h1, h2⟩, hu⟩
theorem ret_val {v : Value} {w w' : World} {base : Nat} {e : Ending} (h : e = .returned v ∧ Upd (fun _ => False) w w') : ∃ u, e = .returned u ∧ (SQ.val v).holds base u w' ∧ Upd (fun _ => False) w w' := ⟨v, h.1, rfl, h.2⟩
theorem results_cell_row2 {P : Program} {fn : Func} {p q : Tmp} {ty tq : TypeId} (h : fn.results = #[.cell p ty, .cell q tq]) (tmps : Array Value) (w : World) (b c : Nat) (A B : Array Value) {d dq : TypeDesc}
    (hp : tmps.getD p undef = ptrTo b) (hq : tmps.getD q undef = ptrTo c) (hb : Blk w b ty A) (hc : Blk w c tq B) (hu : P.underlying ty = some d) (hd : (match d with | .struct _ | .array _ _ => true | _ => false) = true) (hi : (P.info? ty).map (·.size) = some A.size)
    (hu2 : P.underlying tq = some dq) (hd2 : (match dq with | .struct _ | .array _ _ => true | _ => false) = true) (hi2 : (P.info? tq).map (·.size) = some B.size) :
    (results fn tmps).run P w = .ok (.tuple #[.agg A, .agg B]) w := by
  have h1 := run_loadVar_blk w b 0 A.size ty ty A d hb hu hd hi (by omega)
  have h2 := run_loadVar_blk w c 0 B.size tq tq B dq hc hu2 hd2 hi2 (by omega)
  rw [extract_all _ _ rfl] at h1 h2
  have hp' : tmps[p]?.getD undef = .pointer (some ⟨b, 0, none⟩) := by simpa [ptrTo] using hp
  have hq' : tmps[q]?.getD undef = .pointer (some ⟨c, 0, none⟩) := by simpa [ptrTo] using hq
  simp [results, h, hp', hq', asAddr, h1, h2]
theorem size16_ex (a : Array Value) (h : a.size = 16) : ∃ x0 x1 x2 x3 x4 x5 x6 x7 x8 x9 x10 x11 x12 x13 x14 x15, a = #[x0, x1, x2, x3, x4, x5, x6, x7, x8, x9, x10, x11, x12, x13, x14, x15] := by
  obtain ⟨l⟩ := a
  match l, h with
  | [x0, x1, x2, x3, x4, x5, x6, x7, x8, x9, x10, x11, x12, x13, x14, x15], _ => exact ⟨x0, x1, x2, x3, x4, x5, x6, x7, x8, x9, x10, x11, x12, x13, x14, x15, rfl⟩
theorem digs_of_all {l : List Int} (h : l.all (fun x => decide (0 ≤ x) && decide (x < 256)) = true) : Digs 256 l := by
  intro x hx
  have := List.all_eq_true.1 h x hx
  simpa using this
def zeroKL : List Int := List.replicate 32 0
theorem zeroKL_length : zeroKL.length = 32 := rfl
theorem zeroKL_digs : Digs 256 zeroKL := digs_of_all (by decide)
theorem zeroKL_bld {o : Oper} {a : Act} (ho : o.op = .build 23 #[]) (w : World) : (execOp a.eval o).run Tryd.prog w = .ok (.value (.agg (numsA .u8 zeroKL))) w := by
  have hb : (Instr.build 23 #[]).run Tryd.prog w = .ok (.agg (numsA .u8 zeroKL)) w := by kernel_rfl
  have hm : (#[] : Array (Nat × Operand)).map (fun (i, x) => (i, a.eval x)) = #[] := by simp
  unfold execOp
  simp only [ho]
  rw [hm, Sem.run_bind, hb]
  rfl
theorem run_eqlK {o : Oper} {a : Act} {p q : Operand} {A B : List Int} {b : Bool} (ho : o.op = .binOp .eql 23 p q 23) (hp : a.eval p = .agg (numsA .u8 A)) (hq : a.eval q = .agg (numsA .u8 B)) (hA : A.length = 32) (hB : B.length = 32) (h : decide (A = B) = b) (w : World) :
    (execOp a.eval o).run Tryd.prog w = .ok (.value (.bool b)) w := by
  rw [run_eqlKey ho hp hq hA hB w, h]
theorem run_neqK {o : Oper} {a : Act} {p q : Operand} {A B : List Int} {b : Bool} (ho : o.op = .binOp .neq 23 p q 23) (hp : a.eval p = .agg (numsA .u8 A)) (hq : a.eval q = .agg (numsA .u8 B)) (hA : A.length = 32) (hB : B.length = 32) (h : decide (A = B) = !b) (w : World) :
    (execOp a.eval o).run Tryd.prog w = .ok (.value (.bool b)) w := by
  have he := eqKey A B hA hB
  have hg := guardKey'
  rw [h] at he
  generalize a.eval = ev at hp hq ⊢
  unfold execOp
  simp only [ho]
  cases b <;> simp [hp, hq, go_sem, he, hg]
theorem run_pickQ {P : Program} {o : Oper} {a : Act} {c x y : Operand} {t : Bool} {v : Value} (ho : o.op = .pick c x y) (hc : a.eval c = .bool t) (h : (if t then a.eval x else a.eval y) = v) (w : World) : (execOp a.eval o).run P w = .ok (.value v) w := by
  generalize a.eval = ev at *; unfold execOp; simp only [ho]
  subst h
  cases t <;> simp [hc, asBool]
theorem results_cell_tmpQ {P : Program} {fn : Func} {p q : Tmp} {ty : TypeId} (h : fn.results = #[.cell p ty, .tmp q]) (tmps : Array Value) (w : World) (b : Nat) (A : Array Value) (e : Value) {d : TypeDesc}
    (hp : tmps.getD p undef = ptrTo b) (he : tmps.getD q undef = e) (hb : Blk w b ty A) (hu : P.underlying ty = some d) (hd : (match d with | .struct _ | .array _ _ => true | _ => false) = true) (hi : (P.info? ty).map (·.size) = some A.size) :
    (results fn tmps).run P w = .ok (.tuple #[.agg A, e]) w := by
  have h1 := run_loadVar_blk w b 0 A.size ty ty A d hb hu hd hi (by omega)
  rw [extract_all _ _ rfl] at h1
  have hp' : tmps[p]?.getD undef = .pointer (some ⟨b, 0, none⟩) := by simpa [ptrTo] using hp
  have he' : tmps[q]?.getD undef = e := by simpa using he
  simp [results, h, hp', he', asAddr, h1]
def zE : Array Value := #[.int .u64 0, .int .u64 0, .int .u64 0, .int .u64 0, .int .u64 0]
theorem zE_ch : Ch 5 RE [0] zE := Ch.elem fits_zero fv_zero
theorem zE_run (w : World) : (zeroValue 39).run Tryd.prog w = .ok (.agg zE) w := by kernel_rfl
theorem szE : (Tryd.prog.info? 39).map (·.size) = some 5 := by kernel_rfl
theorem zN_ch : Ch 16 RN [0] zeroN := Ch.num (n := 0) (okNum (by omega) (by omega)) fv_zero
theorem szN : (Tryd.prog.info? 45).map (·.size) = some 16 := by kernel_rfl
theorem zN_run (w : World) : (zeroValue 45).run Tryd.prog w = .ok (.agg zeroN) w := by kernel_rfl
def zRatio : Array Value := zE ++ zE
theorem zRatio_ch : Ch 5 RE [0, 0] zRatio := (zE_ch.cat zE_ch)
theorem zRatio_run (w : World) : (zeroValue 72).run Tryd.prog w = .ok (.agg zRatio) w := by kernel_rfl
theorem szRatio : (Tryd.prog.info? 72).map (·.size) = some 10 := by kernel_rfl
theorem run_buildRatio {o : Oper} {a : Act} {p q : Operand} {A B : Array Value} (ho : o.op = .build 72 #[(0, p), (1, q)]) (hp : a.eval p = .agg A) (hq : a.eval q = .agg B) (sA : A.size = 5) (sB : B.size = 5) (w : World) :
    (execOp a.eval o).run Tryd.prog w = .ok (.value (.agg (A ++ B))) w := by
  obtain ⟨a0, a1, a2, a3, a4, rfl⟩ := size5_ex A sA
  obtain ⟨b0, b1, b2, b3, b4, rfl⟩ := size5_ex B sB
  generalize a.eval = ev at *
  unfold execOp
  simp only [ho]
  have hb : (Instr.build 72 #[(0, .agg #[a0, a1, a2, a3, a4]), (1, .agg #[b0, b1, b2, b3, b4])]).run Tryd.prog w = .ok (.agg (#[a0, a1, a2, a3, a4] ++ #[b0, b1, b2, b3, b4])) w := by kernel_rfl
  simp [hp, hq, hb]
theorem run_buildRatio0 {o : Oper} {a : Act} {p : Operand} {A : Array Value} (ho : o.op = .build 72 #[(0, p)]) (hp : a.eval p = .agg A) (sA : A.size = 5) (w : World) :
    (execOp a.eval o).run Tryd.prog w = .ok (.value (.agg (A ++ zE))) w := by
  obtain ⟨a0, a1, a2, a3, a4, rfl⟩ := size5_ex A sA
  generalize a.eval = ev at *
  unfold execOp
  simp only [ho]
  have hb : (Instr.build 72 #[(0, .agg #[a0, a1, a2, a3, a4])]).run Tryd.prog w = .ok (.agg (#[a0, a1, a2, a3, a4] ++ zE)) w := by kernel_rfl
  simp [hp, hb]
def zPt : Array Value := zE ++ zE ++ zE ++ zE
theorem zPt_ch : Ch 5 RE [0, 0, 0, 0] zPt := (((zE_ch.cat zE_ch).cat zE_ch).cat zE_ch)
theorem zPt_run (w : World) : (zeroValue 41).run Tryd.prog w = .ok (.agg zPt) w := by kernel_rfl
theorem szPt : (Tryd.prog.info? 41).map (·.size) = some 20 := by kernel_rfl
theorem run_buildPt {o : Oper} {a : Act} {p q r s : Operand} {A B C D : Array Value} (ho : o.op = .build 41 #[(0, p), (1, q), (2, r), (3, s)]) (hp : a.eval p = .agg A) (hq : a.eval q = .agg B) (hr : a.eval r = .agg C) (hs : a.eval s = .agg D) (sA : A.size = 5) (sB : B.size = 5) (sC : C.size = 5) (sD : D.size = 5) (w : World) :
    (execOp a.eval o).run Tryd.prog w = .ok (.value (.agg (A ++ B ++ C ++ D))) w := by
  obtain ⟨a0, a1, a2, a3, a4, rfl⟩ := size5_ex A sA
  obtain ⟨b0, b1, b2, b3, b4, rfl⟩ := size5_ex B sB
  obtain ⟨c0, c1, c2, c3, c4, rfl⟩ := size5_ex C sC
  obtain ⟨d0, d1, d2, d3, d4, rfl⟩ := size5_ex D sD
  generalize a.eval = ev at *
  unfold execOp
  simp only [ho]
  have hb : (Instr.build 41 #[(0, .agg #[a0, a1, a2, a3, a4]), (1, .agg #[b0, b1, b2, b3, b4]), (2, .agg #[c0, c1, c2, c3, c4]), (3, .agg #[d0, d1, d2, d3, d4])]).run Tryd.prog w = .ok (.agg (#[a0, a1, a2, a3, a4] ++ #[b0, b1, b2, b3, b4] ++ #[c0, c1, c2, c3, c4] ++ #[d0, d1, d2, d3, d4])) w := by kernel_rfl
  simp [hp, hq, hr, hs, hb]
def zR5 : Array Value := zeroN ++ zeroN
theorem zR5_ch : Ch 16 RN [0, 0] zR5 := (zN_ch.cat zN_ch)
theorem zR5_run (w : World) : (zeroValue 80).run Tryd.prog w = .ok (.agg zR5) w := by kernel_rfl
theorem szR5 : (Tryd.prog.info? 80).map (·.size) = some 32 := by kernel_rfl
theorem run_buildR5 {o : Oper} {a : Act} {p q : Operand} {A B : Array Value} (ho : o.op = .build 80 #[(0, p), (1, q)]) (hp : a.eval p = .agg A) (hq : a.eval q = .agg B) (sA : A.size = 16) (sB : B.size = 16) (w : World) :
    (execOp a.eval o).run Tryd.prog w = .ok (.value (.agg (A ++ B))) w := by
  obtain ⟨a0, a1, a2, a3, a4, a5, a6, a7, a8, a9, a10, a11, a12, a13, a14, a15, rfl⟩ := size16_ex A sA
  obtain ⟨b0, b1, b2, b3, b4, b5, b6, b7, b8, b9, b10, b11, b12, b13, b14, b15, rfl⟩ := size16_ex B sB
  generalize a.eval = ev at *
  unfold execOp
  simp only [ho]
  have hb : (Instr.build 80 #[(0, .agg #[a0, a1, a2, a3, a4, a5, a6, a7, a8, a9, a10, a11, a12, a13, a14, a15]), (1, .agg #[b0, b1, b2, b3, b4, b5, b6, b7, b8, b9, b10, b11, b12, b13, b14, b15])]).run Tryd.prog w = .ok (.agg (#[a0, a1, a2, a3, a4, a5, a6, a7, a8, a9, a10, a11, a12, a13, a14, a15] ++ #[b0, b1, b2, b3, b4, b5, b6, b7, b8, b9, b10, b11, b12, b13, b14, b15])) w := by kernel_rfl
  simp [hp, hq, hb]
theorem run_buildR50 {o : Oper} {a : Act} {p : Operand} {A : Array Value} (ho : o.op = .build 80 #[(0, p)]) (hp : a.eval p = .agg A) (sA : A.size = 16) (w : World) :
    (execOp a.eval o).run Tryd.prog w = .ok (.value (.agg (A ++ zeroN))) w := by
  obtain ⟨a0, a1, a2, a3, a4, a5, a6, a7, a8, a9, a10, a11, a12, a13, a14, a15, rfl⟩ := size16_ex A sA
  generalize a.eval = ev at *
  unfold execOp
  simp only [ho]
  have hb : (Instr.build 80 #[(0, .agg #[a0, a1, a2, a3, a4, a5, a6, a7, a8, a9, a10, a11, a12, a13, a14, a15])]).run Tryd.prog w = .ok (.agg (#[a0, a1, a2, a3, a4, a5, a6, a7, a8, a9, a10, a11, a12, a13, a14, a15] ++ zeroN)) w := by kernel_rfl
  simp [hp, hb]
def zR6 : Array Value := zeroN ++ zeroN ++ zeroN
theorem zR6_ch : Ch 16 RN [0, 0, 0] zR6 := ((zN_ch.cat zN_ch).cat zN_ch)
theorem zR6_run (w : World) : (zeroValue 47).run Tryd.prog w = .ok (.agg zR6) w := by kernel_rfl
theorem szR6 : (Tryd.prog.info? 47).map (·.size) = some 48 := by kernel_rfl
theorem run_buildR6 {o : Oper} {a : Act} {p q r : Operand} {A B C : Array Value} (ho : o.op = .build 47 #[(0, p), (1, q), (2, r)]) (hp : a.eval p = .agg A) (hq : a.eval q = .agg B) (hr : a.eval r = .agg C) (sA : A.size = 16) (sB : B.size = 16) (sC : C.size = 16) (w : World) :
    (execOp a.eval o).run Tryd.prog w = .ok (.value (.agg (A ++ B ++ C))) w := by
  obtain ⟨a0, a1, a2, a3, a4, a5, a6, a7, a8, a9, a10, a11, a12, a13, a14, a15, rfl⟩ := size16_ex A sA
  obtain ⟨b0, b1, b2, b3, b4, b5, b6, b7, b8, b9, b10, b11, b12, b13, b14, b15, rfl⟩ := size16_ex B sB
  obtain ⟨c0, c1, c2, c3, c4, c5, c6, c7, c8, c9, c10, c11, c12, c13, c14, c15, rfl⟩ := size16_ex C sC
  generalize a.eval = ev at *
  unfold execOp
  simp only [ho]
  have hb : (Instr.build 47 #[(0, .agg #[a0, a1, a2, a3, a4, a5, a6, a7, a8, a9, a10, a11, a12, a13, a14, a15]), (1, .agg #[b0, b1, b2, b3, b4, b5, b6, b7, b8, b9, b10, b11, b12, b13, b14, b15]), (2, .agg #[c0, c1, c2, c3, c4, c5, c6, c7, c8, c9, c10, c11, c12, c13, c14, c15])]).run Tryd.prog w = .ok (.agg (#[a0, a1, a2, a3, a4, a5, a6, a7, a8, a9, a10, a11, a12, a13, a14, a15] ++ #[b0, b1, b2, b3, b4, b5, b6, b7, b8, b9, b10, b11, b12, b13, b14, b15] ++ #[c0, c1, c2, c3, c4, c5, c6, c7, c8, c9, c10, c11, c12, c13, c14, c15])) w := by kernel_rfl
  simp [hp, hq, hr, hb]
theorem run_buildR612 {o : Oper} {a : Act} {p q : Operand} {A B : Array Value} (ho : o.op = .build 47 #[(1, p), (2, q)]) (hp : a.eval p = .agg A) (hq : a.eval q = .agg B) (sA : A.size = 16) (sB : B.size = 16) (w : World) :
    (execOp a.eval o).run Tryd.prog w = .ok (.value (.agg (zeroN ++ A ++ B))) w := by
  obtain ⟨a0, a1, a2, a3, a4, a5, a6, a7, a8, a9, a10, a11, a12, a13, a14, a15, rfl⟩ := size16_ex A sA
  obtain ⟨b0, b1, b2, b3, b4, b5, b6, b7, b8, b9, b10, b11, b12, b13, b14, b15, rfl⟩ := size16_ex B sB
  generalize a.eval = ev at *
  unfold execOp
  simp only [ho]
  have hb : (Instr.build 47 #[(1, .agg #[a0, a1, a2, a3, a4, a5, a6, a7, a8, a9, a10, a11, a12, a13, a14, a15]), (2, .agg #[b0, b1, b2, b3, b4, b5, b6, b7, b8, b9, b10, b11, b12, b13, b14, b15])]).run Tryd.prog w = .ok (.agg (zeroN ++ #[a0, a1, a2, a3, a4, a5, a6, a7, a8, a9, a10, a11, a12, a13, a14, a15] ++ #[b0, b1, b2, b3, b4, b5, b6, b7, b8, b9, b10, b11, b12, b13, b14, b15])) w := by kernel_rfl
  simp [hp, hq, hb]
end Go.Proofs.YtdpafemcpbhlfaaDoor
