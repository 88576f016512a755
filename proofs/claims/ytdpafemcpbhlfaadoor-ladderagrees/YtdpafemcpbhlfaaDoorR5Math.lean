/-
  The reference's ladder as a function, and that it comes to the same; small laws for its walk.
-/
import Derived.Test.YtdpafemcpbhlfaaDoorThreeMath
import Derived.Test.YtdpafemcpbhlfaaDoorPv
namespace Go.Proofs.YtdpafemcpbhlfaaDoor
set_option maxRecDepth 100000
open Go.RowKit

/-- Halved so many times. -/
def halfI (b : Int) : Nat → Int
  | 0 => b
  | n + 1 => halfI b n / 2
theorem half_quo {x : Int} (h : 0 ≤ x ∧ x < 256) : IntKind.wrap .i64 (Int.tdiv x 2) = x / 2 := by
  rw [Int.tdiv_eq_ediv_of_nonneg h.1]
  exact IntWalk.i64_in _ (by omega)
theorem half_bnd {b : Int} (h : 0 ≤ b ∧ b < 256) : ∀ n, 0 ≤ halfI b n ∧ halfI b n < 256
  | 0 => h
  | n + 1 => by
    have := half_bnd h n
    show 0 ≤ halfI b n / 2 ∧ halfI b n / 2 < 256
    omega
theorem half_pow (b : Int) : ∀ n, halfI b n = b / 2 ^ n
  | 0 => by rw [Int.pow_zero, Int.ediv_one]; rfl
  | n + 1 => by
    show halfI b n / 2 = _
    rw [half_pow b n, Int.pow_succ, Int.ediv_ediv_of_nonneg (Int.pow_nonneg (by decide))]
theorem half_kb (l : List Int) (j : Nat) : decide (halfI (l.getD (j / 8) 0) (j % 8) % 2 = 1) = kb l j := by
  rw [half_pow]
  rfl
theorem rem8_bnd (m : Int) (hm : 0 < m) {x : Int} (h : 0 ≤ x ∧ x < 256) : 0 ≤ x % m ∧ x % m < 256 := by
  have h1 := Int.emod_nonneg x (Int.ne_of_gt hm)
  have h2 := Int.emod_add_mul_ediv x m
  have h3 : 0 ≤ m * (x / m) := Int.mul_nonneg (Int.le_of_lt hm) (Int.ediv_nonneg h.1 (Int.le_of_lt hm))
  omega
theorem i64_of8 {x : Int} (h : 0 ≤ x ∧ x < 256) : -9223372036854775808 ≤ x ∧ x ≤ 9223372036854775807 := by omega
theorem run_loadAll {P : Program} {o : Oper} {a : Act} {T : TypeId} {x : Operand} {g n : Nat} {t : TypeId} {cs : Array Value} {dd : TypeDesc} (ho : o.op = .load T x) (hx : a.eval x = ptrTo g) (w : World) (hg : Blk w g t cs)
    (hu : P.underlying T = some dd) (hd : (match dd with | .struct _ | .array _ _ => true | _ => false) = true) (hi : (P.info? T).map (·.size) = some n) (hn : cs.size = n) :
    (execOp a.eval o).run P w = .ok (.value (.agg cs)) w := by
  have h := run_loadQ ho hx w hg hu hd hi (by omega)
  rw [extract_all _ _ hn] at h
  exact h
/-- Two are ready: a load, and a store elsewhere; in either order. -/
theorem wpAny_bothL {P : Program} {ops : Array Oper} {Q : Exit → Act → World → Prop} {fuel : Nat} {listed : Array Bool} {a : Act} {w : World} (i j : Nat) (hij : i ≠ j) {oi oj : Oper} (hoi : ops[i]? = some oi) (hoj : ops[j]? = some oj) (rs : List Nat) (hr : Region.ready .any ops listed = rs) (hrs : rs = [i, j] ∨ rs = [j, i])
    (hri : Region.ready .any ops (listed.setIfInBounds i true) = [j]) (hrj : Region.ready .any ops (listed.setIfInBounds j true) = [i]) (hgi : oi.guard = none) (hgd : oj.guard = none) (d : Nat) (hdi : oi.dst = some d) (hd : oj.dst = none) (v : Value) (bl : Nat) (tl : TypeId) (cl : Array Value) (hbl : Blk w bl tl cl)
    {g : Nat} (hne : bl ≠ g) (hrun : ∀ W, Blk W bl tl cl → (execOp a.eval oi).run P W = .ok (.value v) W)
    (ty : TypeId) (x y : Operand) (hop : oj.op = .store ty x y) (g' off n : Nat) (hx : a.eval x = .pointer (some ⟨g', off, none⟩)) (hx2 : Act.eval { a with tmps := a.tmps.setIfInBounds d v } x = .pointer (some ⟨g', off, none⟩)) (vs : Array Value) (hy : a.eval y = .agg vs) (hy2 : Act.eval { a with tmps := a.tmps.setIfInBounds d v } y = .agg vs) (t : TypeId) (cs : Array Value) (hg : Blk w g' t cs)
    (hi : (P.info? ty).map (·.size) = some n) (hv : vs.size = n) (hn : off + n ≤ cs.size) (h1 : ∀ v ∈ vs.toList, v.oneCell' = true) (hgg : g' = g := by rfl)
    (h : ∀ w', Blk w' g' t (splice cs off vs.toList) → Upd (· = g') w w' → wpAny P .any ops Q fuel ((listed.setIfInBounds i true).setIfInBounds j true) { a with tmps := a.tmps.setIfInBounds d v } w') : wpAny P .any ops Q (fuel + 1 + 1) listed a w := by
  subst hgg
  have A1 : wpOp P ops Q i (wpAny P .any ops Q (fuel + 1) (listed.setIfInBounds i true)) a w := by
    refine wpOp_step hoi (fun K hK => ?_)
    refine step_pureQ hgi d hdi v (hrun w hbl) (hK _ _ ?_)
    exact wpAny_storeQ j hoj hri hgd hd ty x y hop g' off n hx2 vs hy2 t cs hg hi hv hn h1 h
  have A2 : wpOp P ops Q j (wpAny P .any ops Q (fuel + 1) (listed.setIfInBounds j true)) a w := by
    refine wpOp_step hoj (fun K hK => ?_)
    refine step_storeBlk2 hgd ty x y hop g' off n hx vs hy t cs hg hi hv hn h1 ?_
    intro w' h2 h3 _
    rw [hd]
    refine hK _ _ ?_
    refine wpAny_pureQ i hoi hrj hgi d hdi v (hrun w' (h3.blk hbl hne)) ?_
    rw [Array.setIfInBounds_comm _ _ (Ne.symm hij)]
    exact h w' h2 h3
  rcases hrs with rfl | rfl
  · refine wpAny_ready hr (by simp) (fun k hk => ?_)
    rcases List.mem_cons.1 hk with rfl | hk
    · exact A1
    · obtain rfl := List.mem_singleton.1 hk
      exact A2
  · refine wpAny_ready hr (by simp) (fun k hk => ?_)
    rcases List.mem_cons.1 hk with rfl | hk
    · exact A2
    · obtain rfl := List.mem_singleton.1 hk
      exact A1
theorem getset_ne {ts : Array Value} {i j : Nat} {v : Value} (h : i ≠ j) : (ts.setIfInBounds j v)[i]? = ts[i]? := Array.getElem?_setIfInBounds_ne (Ne.symm h)
theorem getset_eq {ts : Array Value} {j : Nat} {v : Value} (h : j < ts.size) : (ts.setIfInBounds j v)[j]? = some v := Array.getElem?_setIfInBounds_self_of_lt h
/-- A load and a call of it, another load; both stored into elder variables, the first into the one that it came from. -/
theorem wp_region_lcls {P : Program} {ops : Array Oper} {Q : Exit → Act → World → Prop} {id : Nat} {a : Act} {w : World} (o0 o1 o2 o3 o4 : Oper) (hops : ops = #[o0, o1, o2, o3, o4]) (hm : P.follows .mixedOrders = true)
    (T : TypeId) (f : FuncId) (ts : Array TypeId) (p s2 q d0 d1 d2 : Nat) (g0 : o0.guard = none) (g1 : o1.guard = none) (g2 : o2.guard = none) (g3 : o3.guard = none) (g4 : o4.guard = none) (e0 : o0.dst = some d0) (e1 : o1.dst = some d1) (e2 : o2.dst = some d2) (e3 : o3.dst = none) (e4 : o4.dst = none)
    (h0 : o0.op = .load T (.tmp p)) (h1 : o1.op = .call { callee := .value (.func f), args := #[.tmp d0], argTypes := ts }) (h2 : o2.op = .load T (.tmp s2)) (h3 : o3.op = .store T (.tmp p) (.tmp d1)) (h4 : o4.op = .store T (.tmp q) (.tmp d2))
    (r0 : Region.ready .any ops (Array.replicate ops.size false) = [0, 2]) (r1 : Region.ready .any ops #[true, false, false, false, false] = [1, 2]) (r2 : Region.ready .any ops #[false, false, true, false, false] = [0]) (r3 : Region.ready .any ops #[true, true, false, false, false] = [2, 3]) (r4 : Region.ready .any ops #[true, false, true, false, false] = [1])
    (r5 : Region.ready .any ops #[true, true, false, true, false] = [2]) (r6 : Region.ready .any ops #[true, true, true, false, false] = [3]) (r7 : Region.ready .any ops #[true, true, true, true, false] = [4]) (r8 : Region.ready .any ops #[true, true, true, true, true] = [])
    (b0 b1 b2 : Nat) (A0 A2 Z1 : Array Value) (t0 t1 t2 : TypeId) (hb0 : Blk w b0 t0 A0) (hb1 : Blk w b1 t1 Z1) (hb2 : Blk w b2 t2 A2) (n1 : b1 ≠ b0) (n2 : b2 ≠ b0)
    (xp : a.tmps[p]? = some (ptrTo b0)) (xs : a.tmps[s2]? = some (ptrTo b2)) (xq : a.tmps[q]? = some (ptrTo b1)) (m0 : d0 < a.tmps.size) (m1 : d1 < a.tmps.size) (m2 : d2 < a.tmps.size)
    (hdd : (p != d0 && p != d1 && p != d2 && s2 != d0 && s2 != d1 && s2 != d2 && q != d0 && q != d1 && q != d2 && d0 != d1 && d0 != d2 && d1 != d2) = true)
    {n : Nat} {dd : TypeDesc} (v0 : P.underlying T = some dd) (w0 : (match dd with | .struct _ | .array _ _ => true | _ => false) = true) (z0 : (P.info? T).map (·.size) = some n) (k0 : A0.size = n) (k1 : Z1.size = n) (k2 : A2.size = n) (l2 : ∀ v ∈ A2.toList, v.oneCell' = true)
    (R : Array Value → Prop) (hR : ∀ C, R C → C.size = n ∧ ∀ v ∈ C.toList, v.oneCell' = true) (hf : ∀ w, (callFunc f #[.agg A0]).run P w = .ok (.enter f #[.agg A0]) w) (hc : ∀ W, Calls P f #[.agg A0] W fun e W' => ∃ C, e = .returned (.agg C) ∧ R C ∧ Upd (fun _ => False) W W')
    (h : ∀ C w', R C → Blk w' b0 t0 C → Blk w' b1 t1 A2 → Upd (fun k => k = b0 ∨ k = b1) w.drew w' → Q .normal ⟨((a.tmps.setIfInBounds d0 (.agg A0)).setIfInBounds d1 (.agg C)).setIfInBounds d2 (.agg A2), a.defers⟩ w') : (Code.region id ops true).wp P Q a w := by
  simp only [Bool.and_eq_true, bne_iff_ne] at hdd
  obtain ⟨⟨⟨⟨⟨⟨⟨⟨⟨⟨⟨c0, c1⟩, c2⟩, c3⟩, c4⟩, c5⟩, c6⟩, c7⟩, c8⟩, c9⟩, c10⟩, c11⟩ := hdd
  have i0 : ops[0]? = some o0 := by rw [hops]; rfl
  have i1 : ops[1]? = some o1 := by rw [hops]; rfl
  have i2 : ops[2]? = some o2 := by rw [hops]; rfl
  have i3 : ops[3]? = some o3 := by rw [hops]; rfl
  have i4 : ops[4]? = some o4 := by rw [hops]; rfl
  have hsz : ops.size = 5 := by rw [hops]; rfl
  have ex0 : A0.extract 0 (0 + n) = A0 := extract_all _ _ k0
  have ex2 : A2.extract 0 (0 + n) = A2 := extract_all _ _ k2
  have put0 : ∀ (b : Act) v, b.put o0.dst v = ⟨b.tmps.setIfInBounds d0 v, b.defers⟩ := fun b v => by rw [e0]; rfl
  have put1 : ∀ (b : Act) v, b.put o1.dst v = ⟨b.tmps.setIfInBounds d1 v, b.defers⟩ := fun b v => by rw [e1]; rfl
  have put2 : ∀ (b : Act) v, b.put o2.dst v = ⟨b.tmps.setIfInBounds d2 v, b.defers⟩ := fun b v => by rw [e2]; rfl
  have wt1 : ∀ ys, Region.wanted o1 ys = true := fun ys => by simp [Region.wanted, g1]
  have hev : ∀ (b : Act), b.tmps[d0]? = some (.agg A0) → (#[Operand.tmp d0] : Array Operand).map b.eval = #[.agg A0] := fun b hb => by simp [eval_of hb]
  have s1 : ∀ (x : Array Value) i v, (x.setIfInBounds i v).size = x.size := fun x i v => by simp
  -- the last store
  have fin : ∀ (k : Nat) (C : Array Value) (W : World), R C → Blk W b0 t0 C → Blk W b1 t1 Z1 → Upd (fun k => k = b0 ∨ k = b1) w.drew W →
      wpAny P .any ops Q (k + 1) #[true, true, true, true, false] ⟨((a.tmps.setIfInBounds d0 (.agg A0)).setIfInBounds d1 (.agg C)).setIfInBounds d2 (.agg A2), a.defers⟩ W := by
    intro k C W hC B0 B1 HU
    refine wpAny_storeQ 4 i4 r7 g4 e4 T _ _ h4 b1 0 n (eval_of (by simp only []; rw [getset_ne c8, getset_ne c7, getset_ne c6]; exact xq)) A2 (eval_of (by simp only []; rw [getset_eq (by rw [s1, s1]; exact m2)])) t1 Z1 B1 z0 k2 (by omega) l2 ?_
    intro W' B1' U1
    rw [splice_all _ _ _ k1 k2] at B1'
    refine wpAny_done r8 ?_ _
    exact h C W' hC (U1.blk B0 (fun e => n1 e.symm)) B1' (HU.step U1 (fun i _ hi => .inr hi))
  have st3 : ∀ (k : Nat) (C : Array Value) (W : World), R C → Blk W b0 t0 A0 → Blk W b1 t1 Z1 → Upd (fun k => k = b0 ∨ k = b1) w.drew W →
      wpAny P .any ops Q (k + 1 + 1) #[true, true, true, false, false] ⟨((a.tmps.setIfInBounds d0 (.agg A0)).setIfInBounds d1 (.agg C)).setIfInBounds d2 (.agg A2), a.defers⟩ W := by
    intro k C W hC B0 B1 HU
    refine wpAny_storeQ 3 i3 r6 g3 e3 T _ _ h3 b0 0 n (eval_of (by simp only []; rw [getset_ne c2, getset_ne c1, getset_ne c0]; exact xp)) C (eval_of (by simp only []; rw [getset_ne c11, getset_eq (by rw [s1]; exact m1)])) t0 A0 B0 z0 (hR C hC).1 (by omega) (hR C hC).2 ?_
    intro W' B0' U0
    rw [splice_all _ _ _ k0 (hR C hC).1] at B0'
    exact fin k C W' hC B0' (U0.blk B1 n1) (HU.step U0 (fun i _ hi => .inl hi))
  -- behind both loads: the call
  have two : ∀ (W : World), Blk W b0 t0 A0 → Blk W b1 t1 Z1 → Upd (fun k => k = b0 ∨ k = b1) w.drew W →
      wpAny P .any ops Q 3 #[true, false, true, false, false] ⟨(a.tmps.setIfInBounds d0 (.agg A0)).setIfInBounds d2 (.agg A2), a.defers⟩ W := by
    intro W B0 B1 HU
    refine wpAny_ready (rs := [1]) r4 (by simp) (AllReady.cons i1 (fun K hK => ?_) AllReady.nil)
    refine step_call' (wt1 _) f _ ts h1 #[.agg A0] (hev _ (by simp only []; rw [getset_ne c10, getset_eq m0])) hf ((hc W).mono ?_)
    rintro e W' ⟨C, rfl, hC, hu⟩
    refine ⟨_, rfl, ?_⟩
    rw [put1]
    refine hK _ _ ?_
    have := st3 0 C W' hC (hu.blk B0 (fun h => h)) (hu.blk B1 (fun h => h)) (HU.step hu (fun i _ hi => hi.elim))
    rw [Array.setIfInBounds_comm _ _ c11] at this
    exact this
  refine wp_region_any hm ?_
  rw [hsz] at r0 ⊢
  have D0 : Upd (fun k => k = b0 ∨ k = b1) w.drew w.drew := Upd.refl _ _
  refine wpAny_ready r0 (by simp) (AllReady.cons i0 (fun K hK => ?_) (AllReady.cons i2 (fun K hK => ?_) AllReady.nil))
  · refine step_loadBlk g0 T _ h0 b0 0 n (eval_of xp) t0 A0 _ (show Blk w.drew b0 t0 A0 from hb0) v0 w0 z0 (by omega) ?_
    rw [ex0, put0]
    refine hK _ _ (wpAny_ready (rs := [1, 2]) r1 (by simp) (AllReady.cons i1 (fun K hK => ?_) (AllReady.cons i2 (fun K hK => ?_) AllReady.nil)))
    · refine step_call' (wt1 _) f _ ts h1 #[.agg A0] (hev _ (by simp only []; rw [getset_eq m0])) hf ((hc _).mono ?_)
      rintro e W ⟨C, rfl, hC, hu⟩
      refine ⟨_, rfl, ?_⟩
      rw [put1]
      have B0 := hu.blk (show Blk w.drew b0 t0 A0 from hb0) (fun h => h)
      have B1 := hu.blk (show Blk w.drew b1 t1 Z1 from hb1) (fun h => h)
      have B2 := hu.blk (show Blk w.drew b2 t2 A2 from hb2) (fun h => h)
      have HU := D0.step hu (fun i _ hi => hi.elim)
      refine hK _ _ (wpAny_ready (rs := [2, 3]) r3 (by simp) (AllReady.cons i2 (fun K hK => ?_) (AllReady.cons i3 (fun K hK => ?_) AllReady.nil)))
      · refine step_loadBlk g2 T _ h2 b2 0 n (eval_of (by simp only []; rw [getset_ne c4, getset_ne c3]; exact xs)) t2 A2 _ B2 v0 w0 z0 (by omega) ?_
        rw [ex2, put2]
        exact hK _ _ (st3 0 C W hC B0 B1 HU)
      · refine step_storeBlk2 g3 T _ _ h3 b0 0 n (eval_of (by simp only []; rw [getset_ne c1, getset_ne c0]; exact xp)) C (eval_of (by simp only []; rw [getset_eq (by rw [s1]; exact m1)])) t0 A0 B0 z0 (hR C hC).1 (by omega) (hR C hC).2 ?_
        intro W' B0' U0 _
        rw [splice_all _ _ _ k0 (hR C hC).1] at B0'
        rw [e3]
        refine hK _ _ (wpAny_ready (rs := [2]) r5 (by simp) (AllReady.cons i2 (fun K hK => ?_) AllReady.nil))
        refine step_loadBlk g2 T _ h2 b2 0 n (eval_of (by simp only [Act.put]; rw [getset_ne c4, getset_ne c3]; exact xs)) t2 A2 _ (U0.blk B2 n2) v0 w0 z0 (by omega) ?_
        rw [ex2, put2]
        exact hK _ _ (fin 0 C W' hC B0' (U0.blk B1 n1) (HU.step U0 (fun i _ hi => .inl hi)))
    · refine step_loadBlk g2 T _ h2 b2 0 n (eval_of (by simp only []; rw [getset_ne c3]; exact xs)) t2 A2 _ (show Blk w.drew b2 t2 A2 from hb2) v0 w0 z0 (by omega) ?_
      rw [ex2, put2]
      exact hK _ _ (two _ (show Blk w.drew b0 t0 A0 from hb0) (show Blk w.drew b1 t1 Z1 from hb1) D0)
  · refine step_loadBlk g2 T _ h2 b2 0 n (eval_of xs) t2 A2 _ (show Blk w.drew b2 t2 A2 from hb2) v0 w0 z0 (by omega) ?_
    rw [ex2, put2]
    refine hK _ _ (wpAny_ready (rs := [0]) r2 (by simp) (AllReady.cons i0 (fun K hK => ?_) AllReady.nil))
    refine step_loadBlk g0 T _ h0 b0 0 n (eval_of (by simp only []; rw [getset_ne c2]; exact xp)) t0 A0 _ (show Blk w.drew b0 t0 A0 from hb0) v0 w0 z0 (by omega) ?_
    rw [ex0, put0]
    have := two _ (show Blk w.drew b0 t0 A0 from hb0) (show Blk w.drew b1 t1 Z1 from hb1) D0
    rw [Array.setIfInBounds_comm _ _ c10] at this
    exact hK _ _ this
/-- The reference's step: the sum. -/
def rsumX (s : L4) : Fp := (s.x1 * s.x2 - s.z1 * s.z2) * (s.x1 * s.x2 - s.z1 * s.z2)
def rsumZ (u : Fp) (s : L4) : Fp := u * ((s.x1 * s.z2 - s.z1 * s.x2) * (s.x1 * s.z2 - s.z1 * s.x2))
def rdblX (x z : Fp) : Fp := (x * x - z * z) * (x * x - z * z)
def rdblZ (x z : Fp) : Fp := fv 4 * (x * z) * (x * x + z * z + fv 486662 * (x * z))
def rstepF (u : Fp) (b : Bool) (s : L4) : L4 := if b then ⟨rsumX s, rsumZ u s, rdblX s.x2 s.z2, rdblZ s.x2 s.z2⟩ else ⟨rdblX s.x1 s.z1, rdblZ s.x1 s.z1, rsumX s, rsumZ u s⟩
def refM (l : List Int) (u : Fp) : Nat → L4
  | 0 => ⟨fv 1, 0, u, fv 1⟩
  | m + 1 => rstepF u (kb l (255 - m)) (refM l u m)
def refF (l : List Int) (u : Fp) (k : Nat) : L4 := refM l u (256 - k)
theorem refF_top (l : List Int) (u : Fp) : refF l u 256 = ⟨fv 1, 0, u, fv 1⟩ := rfl
theorem refF_step (l : List Int) (u : Fp) (j : Nat) (h : j < 256) : refF l u j = rstepF u (kb l j) (refF l u (j + 1)) := by
  unfold refF
  rw [show 256 - j = 256 - (j + 1) + 1 by omega]
  show rstepF u (kb l (255 - (256 - (j + 1)))) _ = _
  rw [show 255 - (256 - (j + 1)) = j by omega]
def refV (k : List Int) (u : Fp) : Fp := (refF k u 0).x1 * finv (refF k u 0).z1
theorem n4 : fv 4 = (4 : Fp) := by decide +kernel
theorem n486662 : fv 486662 = (486662 : Fp) := by decide +kernel
theorem ref_inv {a d c s : Fp} (M : Mont a d c s 486662) {u : Fp} {p : Ed a d} (hu : u * (s * (1 - p.y)) = 1 + p.y) (hu0 : u ≠ 0) (hr1 : 1 - p.y ≠ 0) (l : List Int) (hd : Digs 256 l) (ht : expo l < 2 ^ 255) :
    ∀ m, m ≤ 256 → Rep s (refF l u (256 - m)).x1 (refF l u (256 - m)).z1 (p.mul M.good (expo l / 2 ^ (256 - m))) ∧ Rep s (refF l u (256 - m)).x2 (refF l u (256 - m)).z2 (p.mul M.good (expo l / 2 ^ (256 - m) + 1)) := by
  have dbl : ∀ {X Z : Fp} {q : Ed a d}, Rep s X Z q → Rep s (rdblX X Z) (rdblZ X Z) (q.add M.good q) := by
    intro X Z q h
    have h1 := h.double M
    unfold rdblX rdblZ
    rw [n4, n486662]
    exact h1
  have sum : ∀ {t : L4} {q r : Ed a d}, Rep s t.x1 t.z1 q → Rep s t.x2 t.z2 r → r.add M.good q.neg = p → Rep s (rsumX t) (rsumZ u t) (q.add M.good r) := by
    intro t q r h1 h2 h3
    have h := Rep.add (f := 1) M h1 h2 (.inl h3) hu hu0 hr1 one_ne_zero'
    unfold rsumX rsumZ
    rw [show (t.x1 * t.x2 - t.z1 * t.z2) * (t.x1 * t.x2 - t.z1 * t.z2) = 1 * ((t.x1 * t.x2 - t.z1 * t.z2) * (t.x1 * t.x2 - t.z1 * t.z2)) by grobner, show (t.x1 * t.z2 - t.z1 * t.x2) * (t.x1 * t.z2 - t.z1 * t.x2) = 1 * ((t.x1 * t.z2 - t.z1 * t.x2) * (t.x1 * t.z2 - t.z1 * t.x2)) by grobner]
    exact h
  intro m
  induction m with
  | zero =>
    intro _
    have ht' : expo l < 2 ^ 256 := Nat.lt_of_lt_of_le ht (Nat.pow_le_pow_right (by omega) (by omega))
    rw [Nat.sub_zero, refF_top, Nat.div_eq_of_lt ht']
    constructor
    · rw [Ed.mul_zero]
      refine ⟨finv 2, finv_ne two_ne, ?_, ?_⟩
      · show fv 1 = finv 2 * (1 + 1)
        rw [fv_one]
        have h2 := finv_mul two_ne
        grobner
      · show (0 : Fp) = s * (finv 2 * (1 - 1))
        grobner
    · rw [Nat.zero_add, Ed.mul_one]
      have hs := s_ne M.sq
      have hk := fmul_ne hs hr1
      have hi := finv_mul hk
      refine ⟨finv (s * (1 - p.y)), finv_ne hk, ?_, ?_⟩
      · show u = _
        generalize finv (s * (1 - p.y)) = i at *
        generalize s * (1 - p.y) = z at *
        rw [← hu]
        clear dbl sum
        grobner
      · show fv 1 = _
        rw [fv_one]
        generalize finv (s * (1 - p.y)) = i at *
        clear dbl sum
        grobner
  | succ m ih =>
    intro hm
    obtain ⟨i1, i2⟩ := ih (by omega)
    have hj : 256 - m = 256 - (m + 1) + 1 := by omega
    rw [hj] at i1 i2
    have hlt : 256 - (m + 1) < 256 := by omega
    generalize 256 - (m + 1) = j at *
    have hb := expo_bit l hd j
    have hn : expo l / 2 ^ (j + 1) = expo l / 2 ^ j / 2 := by rw [Nat.pow_succ, Nat.div_div_eq_div_mul]
    rw [refF_step l u j hlt]
    generalize refF l u (j + 1) = t at *
    generalize expo l / 2 ^ (j + 1) = n at *
    generalize expo l / 2 ^ j = N at *
    have h := sum i1 i2 (Ed.sub_self' M.good p n)
    cases hkb : kb l j with
    | false =>
      have hN : N = 2 * n := by
        unfold kb at hkb
        have h3 : ¬ bitAt l j = 1 := of_decide_eq_false hkb
        rw [← hb] at h3
        omega
      rw [hN]
      constructor
      · rw [Nat.two_mul, Ed.mul_add]; exact dbl i1
      · rw [show 2 * n + 1 = n + (n + 1) by omega, Ed.mul_add]; exact h
    | true =>
      have hN : N = 2 * n + 1 := by
        unfold kb at hkb
        have h3 : bitAt l j = 1 := of_decide_eq_true hkb
        rw [← hb] at h3
        omega
      rw [hN]
      constructor
      · rw [show 2 * n + 1 = n + (n + 1) by omega, Ed.mul_add]; exact h
      · rw [show 2 * n + 1 + 1 = n + 1 + (n + 1) by omega, Ed.mul_add]; exact dbl i2
/-- At nought. -/
theorem ref_zero (l : List Int) (ht : kb l 254 = true) (h255 : kb l 255 = false) : ∀ m, m < 255 → refF l 0 (254 - m) = ⟨0, 0, 0, 0⟩ := by
  have z0 : rsumX ⟨0, 0, 0, 0⟩ = 0 ∧ rsumZ 0 ⟨0, 0, 0, 0⟩ = 0 ∧ rdblX 0 0 = 0 ∧ rdblZ 0 0 = 0 := by decide +kernel
  intro m
  induction m with
  | zero =>
    intro _
    rw [Nat.sub_zero, refF_step l 0 254 (by omega), refF_step l 0 255 (by omega), refF_top, ht, h255]
    have e1 : (rstepF 0 true (rstepF 0 false ⟨fv 1, 0, 0, fv 1⟩)).x1 = 0 := by decide +kernel
    have e2 : (rstepF 0 true (rstepF 0 false ⟨fv 1, 0, 0, fv 1⟩)).z1 = 0 := by decide +kernel
    have e3 : (rstepF 0 true (rstepF 0 false ⟨fv 1, 0, 0, fv 1⟩)).x2 = 0 := by decide +kernel
    have e4 : (rstepF 0 true (rstepF 0 false ⟨fv 1, 0, 0, fv 1⟩)).z2 = 0 := by decide +kernel
    revert e1 e2 e3 e4
    generalize rstepF 0 true (rstepF 0 false ⟨fv 1, 0, 0, fv 1⟩) = t
    intro e1 e2 e3 e4
    cases t
    subst e1 e2 e3 e4
    rfl
  | succ m ih =>
    intro hm
    have h := ih (by omega)
    have hj : 254 - m = 254 - (m + 1) + 1 := by omega
    rw [hj] at h
    rw [refF_step l 0 (254 - (m + 1)) (by omega), h]
    obtain ⟨h1, h2, h3, h4⟩ := z0
    unfold rstepF
    rw [h1, h2, h3, h4]
    split <;> rfl
theorem refV_mul {a d c s : Fp} (M : Mont a d c s 486662) (p : Ed a d) (l : List Int) (h : Clamped l) (hu0 : uOf s p ≠ 0) : refV l (uOf s p) = uOf s (p.mul M.good (expo l)) := by
  have hs := s_ne M.sq
  have h1 : 1 - p.y ≠ 0 := fun e => hu0 (by
    have hy : p.y = 1 := by grobner
    rw [ed_one M.good p hy, uOf_zero])
  have h2 : 1 + p.y ≠ 0 := fun e => hu0 (by unfold uOf; rw [e]; grobner)
  have hk := fmul_ne hs h1
  have hi := finv_mul hk
  have hu : uOf s p * (s * (1 - p.y)) = 1 + p.y := by
    unfold uOf
    generalize finv (s * (1 - p.y)) = i at *
    generalize s * (1 - p.y) = z at *
    clear hu0 h2
    grobner
  have key := (ref_inv M hu hu0 h1 l h.digs h.lt 256 (by omega)).1
  rw [Nat.sub_self, Nat.pow_zero, Nat.div_one] at key
  exact key.div
theorem kb255 {l : List Int} (h : Clamped l) : kb l 255 = false := by
  have hb := expo_bit l h.digs 255
  have : expo l / 2 ^ 255 = 0 := Nat.div_eq_of_lt h.lt
  unfold kb
  apply decide_eq_false
  rw [← hb, this]
  decide
/-- The reference's ladder is the ladder. -/
theorem refV_eq (l : List Int) (h : Clamped l) (u : Fp) : refV l u = ladV l u := by
  by_cases h0 : u = 0
  · subst h0
    rw [ladV_zero l h]
    unfold refV
    have := ref_zero l h.top (kb255 h) 254 (by omega)
    rw [Nat.sub_self] at this
    rw [this]
    show (0 : Fp) * _ = 0
    grobner
  · have one : ∀ {a d c s : Fp} (M : Mont a d c s 486662) (p : Ed a d), uOf s p = u → refV l u = ladV l u := by
      intro a d c s M p hp
      have hp0 : uOf s p ≠ 0 := fun e => h0 (hp ▸ e)
      rw [← hp, ladV_mul M p l h, refV_mul M p l h hp0]
    by_cases hs : Sq (u * (u * u + 486662 * u + 1))
    · by_cases h1 : u = -1
      · exfalso
        have hn := nonsq_of_pm 486660 (by decide +kernel)
        rw [show fv ((486660 : Nat) : Int) = (486660 : Fp) by decide +kernel] at hn
        rw [h1] at hs
        exact hn (by rw [show (486660 : Fp) = -1 * (-1 * -1 + 486662 * -1 + 1) by decide +kernel]; exact hs)
      · obtain ⟨p, hp⟩ := on_one u h1 hs (quad_ne u)
        exact one mont1 p hp
    · by_cases h1 : u = 1
      · exfalso
        apply hs
        rw [h1]
        exact ⟨48802004052532134862652268456126542835229456083994414501085850622543968879637, by decide +kernel⟩
      · obtain ⟨p, hp⟩ := on_two u h1 (sq_twice _ hs) (quad_ne u)
        exact one mont2 p hp
/-- What the reference clamps. -/
theorem clamp_ref {l : List Int} : (l.set 0 (l.getD 0 0 - l.getD 0 0 % 8)).set 31 ((l.set 0 (l.getD 0 0 - l.getD 0 0 % 8)).getD 31 0 % 64 + 64) = clampL l := by
  unfold clampL
  rw [getD_set_ne _ _ _ _ (by omega)]
end Go.Proofs.YtdpafemcpbhlfaaDoor
