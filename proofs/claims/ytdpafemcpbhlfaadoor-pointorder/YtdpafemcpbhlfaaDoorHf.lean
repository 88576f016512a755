/-
  One byte of a key changed.
-/
/-
  More small laws for walks that are written by program: answers of a struct and a value, tests, lists of points.
-/
/-
  Halving a byte; loads and stores in either order.
-/
import Derived.Test.YtdpafemcpbhlfaaDoorClamp
import Derived.Test.YtdpafemcpbhlfaaDoorWr
namespace Go.Proofs.YtdpafemcpbhlfaaDoor
set_option maxRecDepth 100000
open Go.RowKit

section
variable {P : Program} {ops : Array Oper} {Q : Exit → Act → World → Prop} {o : Oper} {a : Act} {w : World}
theorem run_xor8 {T T' : TypeId} {p q : Operand} {x y : Int} (ho : o.op = .binOp .xor T p q T') (hp : a.eval p = .int .u8 x) (hq : a.eval q = .int .u8 y) (w : World) : (execOp a.eval o).run P w = .ok (.value (.int .u8 (bits .xor .u8 x y))) w := by
  generalize a.eval = ev at *; unfold execOp; simp only [ho]; simp [hp, hq, go_sem]
theorem run_or8 {T T' : TypeId} {p q : Operand} {x y : Int} (ho : o.op = .binOp .or T p q T') (hp : a.eval p = .int .u8 x) (hq : a.eval q = .int .u8 y) (w : World) : (execOp a.eval o).run P w = .ok (.value (.int .u8 (bits .or .u8 x y))) w := by
  generalize a.eval = ev at *; unfold execOp; simp only [ho]; simp [hp, hq, go_sem]
theorem step_storeCell {K : Act → World → Prop} {E : Prop} (hgd : o.guard = none) (ty : TypeId) (x y : Operand) (ho : o.op = .store ty x y) (hs : (P.info? ty).map (·.size) = some 1) (g i : Nat) (hx : a.eval x = .pointer (some ⟨g, i, none⟩)) (kk : IntKind) (v : Int) (hy : a.eval y = .int kk v) (t : TypeId) (cs : Array Value) (hb : Blk w g t cs) (hi : i < cs.size)
    (h : ∀ w', Blk w' g t (cs.setIfInBounds i (.int kk v)) → Upd (· = g) w w' → K (a.put o.dst undef) w') : if Region.wanted o (yielded ops a.tmps) = true then Oper.wp P o a w K Q else E := by
  have hw : Region.wanted o (yielded ops a.tmps) = true := by simp [Region.wanted, hgd]
  rw [if_pos hw]
  have hc : w.cell? ⟨g, i, none⟩ = some cs[i] := by rw [hb.cell]; exact Array.getElem?_eq_getElem hi
  have hf : w.frozen? ⟨g, i, none⟩ = false := hb.frozen i
  have hsz : ∀ w, (sizeOf ty).run P w = .ok 1 w := fun w => by
    cases hq : P.info? ty with
    | none => simp [hq] at hs
    | some i => have : i.size = 1 := by simpa [hq] using hs
                simp [sizeOf, typeInfo, hq, this]
  have hrun : (execOp a.eval o).run P w = .ok .skip (w.setCell ⟨g, i, none⟩ (.int kk v)) := by
    generalize a.eval = ev at *
    unfold execOp
    simp only [ho]
    simp [hx, hy, go_sem, hsz, hc, hf]
  unfold Oper.wp
  rw [hrun]
  exact h _ (hb.set i _) ((Upd.refl _ w).set _ (fun _ => rfl))
theorem wpOps_storeB {l : List Nat} (n : Nat) (ho : ops[n]? = some o) (hgd : o.guard = none) (hd : o.dst = none) (ty : TypeId) (x y : Operand) (hop : o.op = .store ty x y) (hs : (P.info? ty).map (·.size) = some 1) (g i : Nat) (hx : a.eval x = .pointer (some ⟨g, i, none⟩)) (v : Int) (hy : a.eval y = .int .u8 v) (t : TypeId) (L : List Int) (hb : Blk w g t (numsA .u8 L)) (hi : i < L.length)
    (h : ∀ w', Blk w' g t (numsA .u8 (L.set i v)) → Upd (· = g) w w' → wpOps P ops Q l a w') : wpOps P ops Q (n :: l) a w := by
  rw [wpOps_cons]
  refine wpOp_step ho (fun K hK => ?_)
  refine step_storeCell hgd ty x y hop hs g i hx _ _ hy t _ hb (by rw [numsA_size]; exact hi) ?_
  intro w' h1 h2
  rw [hd]
  rw [numsA_set] at h1
  exact hK _ _ (h w' h1 h2)
end
theorem results_tmpQ {P : Program} {fn : Func} {t : Tmp} (h : fn.results = #[.tmp t]) (tmps : Array Value) (w : World) (e : Value) (he : tmps.getD t undef = e) : (results fn tmps).run P w = .ok e w := by rw [results_tmp h, he]
theorem xor8_bnd (x y : Int) (hx : 0 ≤ x ∧ x < 256) (hy : 0 ≤ y ∧ y < 256) : 0 ≤ bits .xor .u8 x y ∧ bits .xor .u8 x y < 256 := by
  obtain ⟨m, rfl⟩ := Int.eq_ofNat_of_zero_le hx.1
  obtain ⟨n, rfl⟩ := Int.eq_ofNat_of_zero_le hy.1
  have h : m ^^^ n < 2 ^ 8 := Nat.xor_lt_two_pow (by omega) (by omega)
  have e : bits .xor .u8 (m : Int) (n : Int) = ((m ^^^ n : Nat) : Int) := u8_xor_nat m n (by omega) (by omega)
  rw [e]
  omega
theorem set_length {l : List Int} (h : l.length = 32) (i : Nat) (v : Int) : (l.set i v).length = 32 := by rw [List.length_set]; exact h
end Go.Proofs.YtdpafemcpbhlfaaDoor
namespace Go.Proofs.YtdpafemcpbhlfaaDoor
set_option maxRecDepth 100000
open Go.RowKit

/-- A struct and one more value. -/
def IsCV {α : Type} (c : Nat) (R : α → Array Value → Prop) (vs : List α) (u : Value) (v : Value) : Prop := ∃ arr, v = .tuple #[.agg arr, u] ∧ Ch c R vs arr
def RetCV {α : Type} (c : Nat) (R : α → Array Value → Prop) (vs : List α) (u : Value) (w : World) (e : Ending) (w' : World) : Prop := ∃ arr, e = .returned (.tuple #[.agg arr, u]) ∧ Ch c R vs arr ∧ Upd (fun _ => False) w w'
theorem RetCV.sq {α : Type} {c : Nat} {R : α → Array Value → Prop} {vs : List α} {u : Value} {w w' : World} {base : Nat} {e : Ending} (h : RetCV c R vs u w e w') : ∃ v, e = .returned v ∧ (SQ.like (IsCV c R vs u)).holds base v w' ∧ Upd (fun _ => False) w w' := by
  obtain ⟨arr, rfl, h1, hu⟩ := h
  exact ⟨_, rfl, ⟨arr, rfl, h1⟩, hu⟩
theorem ret_b {b c : Bool} {w w' : World} {e : Ending} (h : e = .returned (.bool b) ∧ Upd (fun _ => False) w w') (hb : b = c) : e = .returned (.bool c) ∧ Upd (fun _ => False) w w' := by
  subst hb; exact h
theorem bool_two (b : Bool) : b = true ∨ b = false := by cases b <;> simp
theorem ne_of_eqB {x y : Int} {b : Bool} (h : decide (x = y) = b) : decide (x ≠ y) = !b := by
  subst h; by_cases e : x = y <;> simp [e]
section
variable {P : Program} {o : Oper} {a : Act} {p q : Operand} {T T' : TypeId}
theorem run_andNot8 {x y : Int} (ho : o.op = .binOp .andNot T p q T') (hp : a.eval p = .int .u8 x) (hq : a.eval q = .int .u8 y) (w : World) : (execOp a.eval o).run P w = .ok (.value (.int .u8 (bits .andNot .u8 x y))) w := by
  generalize a.eval = ev at *; unfold execOp; simp only [ho]; simp [hp, hq, go_sem]
theorem run_andB8 {x y : Int} (ho : o.op = .binOp .and T p q T') (hp : a.eval p = .int .u8 x) (hq : a.eval q = .int .u8 y) (w : World) : (execOp a.eval o).run P w = .ok (.value (.int .u8 (bits .and .u8 x y))) w := by
  generalize a.eval = ev at *; unfold execOp; simp only [ho]; simp [hp, hq, go_sem]
theorem run_notB {x : Bool} (ho : o.op = .unOp .not T p) (hp : a.eval p = .bool x) (w : World) : (execOp a.eval o).run P w = .ok (.value (.bool (!x))) w := by
  generalize a.eval = ev at *; unfold execOp; simp only [ho]; simp [hp, go_sem]
theorem run_adrS {c : Nat} {E : TypeId} {g i len cap : Nat} (ho : o.op = .indexAddr T p q) (hT : P.underlying T = some (.slice E)) (hs : (P.info? E).map (·.size) = some c) (hp : a.eval p = .slice (some ⟨g, 0, none⟩) len cap) (hq : a.eval q = .int .i64 (i : Int)) (hi : i < len) (w : World) :
    (execOp a.eval o).run P w = .ok (.value (.pointer (some ⟨g, c * i, none⟩))) w := by
  have hsz : ∀ w, (sizeOf E).run P w = .ok c w := fun w => by
    cases hq : P.info? E with
    | none => simp [hq] at hs
    | some i => have : i.size = c := by simpa [hq] using hs
                simp [sizeOf, typeInfo, hq, this]
  have hi' : ((i : Nat) : Int) < (len : Int) := by omega
  generalize a.eval = ev at *; unfold execOp; simp only [ho]; simp [hp, hq, go_sem, hT, hsz, hi', Addr.add, Nat.mul_comm]
  intro h; exact h.symm
end
theorem run_neqB {o : Oper} {a : Act} {p q : Operand} {x y b : Bool} (ho : o.op = .binOp .neq 4 p q 4) (hp : a.eval p = .bool x) (hq : a.eval q = .bool y) (h : (x != y) = b) (w : World) : (execOp a.eval o).run Tryd.prog w = .ok (.value (.bool b)) w := by
  subst h
  generalize a.eval = ev at *; unfold execOp; simp only [ho]
  cases x <;> cases y <;> simp [hp, hq, go_sem]
theorem run_buildK1 {o : Oper} {a : Act} {p : Operand} {x : Int} (ho : o.op = .build 23 #[(0, p)]) (hp : a.eval p = .int .u8 x) (w : World) :
    (execOp a.eval o).run Tryd.prog w = .ok (.value (.agg (numsA .u8 (x :: List.replicate 31 0)))) w := by
  have hb : (Instr.build 23 #[(0, .int .u8 x)]).run Tryd.prog w = .ok (.agg (numsA .u8 (x :: List.replicate 31 0))) w := by kernel_rfl
  have hm : (#[(0, p)] : Array (Nat × Operand)).map (fun (i, x) => (i, a.eval x)) = #[(0, .int .u8 x)] := by simp [hp]
  unfold execOp
  simp only [ho]
  rw [hm, Sem.run_bind, hb]
  rfl
theorem run_buildPt0 {o : Oper} {a : Act} (ho : o.op = .build 41 #[]) (w : World) : (execOp a.eval o).run Tryd.prog w = .ok (.value (.agg zPt)) w := by
  have hb : (Instr.build 41 #[]).run Tryd.prog w = .ok (.agg zPt) w := by kernel_rfl
  have hm : (#[] : Array (Nat × Operand)).map (fun (i, x) => (i, a.eval x)) = #[] := by simp
  unfold execOp
  simp only [ho]
  rw [hm, Sem.run_bind, hb]
  rfl
theorem size20_ex (a : Array Value) (h : a.size = 20) : ∃ x0 x1 x2 x3 x4 x5 x6 x7 x8 x9 y0 y1 y2 y3 y4 y5 y6 y7 y8 y9, a = #[x0, x1, x2, x3, x4, x5, x6, x7, x8, x9, y0, y1, y2, y3, y4, y5, y6, y7, y8, y9] := by
  obtain ⟨l⟩ := a
  match l, h with
  | [x0, x1, x2, x3, x4, x5, x6, x7, x8, x9, y0, y1, y2, y3, y4, y5, y6, y7, y8, y9], _ => exact ⟨x0, x1, x2, x3, x4, x5, x6, x7, x8, x9, y0, y1, y2, y3, y4, y5, y6, y7, y8, y9, rfl⟩
theorem run_pts2 {o : Oper} {a : Act} {p q : Operand} {A B : Array Value} (ho : o.op = .buildSlice 91 2 #[(0, p), (1, q)]) (hp : a.eval p = .agg A) (hq : a.eval q = .agg B) (hA : A.size = 20) (hB : B.size = 20) (w : World) :
    (execOp a.eval o).run Tryd.prog w = .ok (.value (.slice (some ⟨w.heap.size, 0, none⟩) 2 2)) (w.alloc (.cells (A ++ B) 41)) := by
  obtain ⟨x0, x1, x2, x3, x4, x5, x6, x7, x8, x9, y0, y1, y2, y3, y4, y5, y6, y7, y8, y9, rfl⟩ := size20_ex A hA
  obtain ⟨u0, u1, u2, u3, u4, u5, u6, u7, u8, u9, v0, v1, v2, v3, v4, v5, v6, v7, v8, v9, rfl⟩ := size20_ex B hB
  generalize a.eval = ev at hp hq ⊢
  unfold execOp
  simp only [ho]
  simp [hp, hq, go_sem]
theorem run_pts3 {o : Oper} {a : Act} {p q r : Operand} {A B C : Array Value} (ho : o.op = .buildSlice 91 3 #[(0, p), (1, q), (2, r)]) (hp : a.eval p = .agg A) (hq : a.eval q = .agg B) (hr : a.eval r = .agg C) (hA : A.size = 20) (hB : B.size = 20) (hC : C.size = 20) (w : World) :
    (execOp a.eval o).run Tryd.prog w = .ok (.value (.slice (some ⟨w.heap.size, 0, none⟩) 3 3)) (w.alloc (.cells (A ++ B ++ C) 41)) := by
  obtain ⟨x0, x1, x2, x3, x4, x5, x6, x7, x8, x9, y0, y1, y2, y3, y4, y5, y6, y7, y8, y9, rfl⟩ := size20_ex A hA
  obtain ⟨u0, u1, u2, u3, u4, u5, u6, u7, u8, u9, v0, v1, v2, v3, v4, v5, v6, v7, v8, v9, rfl⟩ := size20_ex B hB
  obtain ⟨r0, r1, r2, r3, r4, r5, r6, r7, r8, r9, s0, s1, s2, s3, s4, s5, s6, s7, s8, s9, rfl⟩ := size20_ex C hC
  generalize a.eval = ev at hp hq hr ⊢
  unfold execOp
  simp only [ho]
  simp [hp, hq, hr, go_sem]
/-- How long a slice is. -/
theorem run_lenS {P : Program} {o : Oper} {a : Act} {p : Operand} {ad : Option Addr} {len cap : Nat} {T E : TypeId} (hT : P.underlying T = some (.slice E)) (ho : o.op = .call { callee := .builtin .len, args := #[p], argTypes := #[T] }) (hp : a.eval p = .slice ad len cap) (w : World) :
    (execOp a.eval o).run P w = .ok (.value (.int .i64 (len : Int))) w := by
  generalize a.eval = ev at *; unfold execOp; simp only [ho]; simp [hp, go_sem, Builtin.len_, run_underlying hT, goInt]
theorem andN128 (x : Int) (h : 0 ≤ x ∧ x < 256) : bits .andNot .u8 x 128 = x % 128 := by
  have : ∀ n : Fin 256, bits .andNot .u8 (n.val : Int) 128 = (n.val : Int) % 128 := by decide +kernel
  have h2 := this ⟨x.toNat, by omega⟩
  simp only [Int.toNat_of_nonneg h.1] at h2
  exact h2
theorem andNot8_bnd (x y : Int) (hx : 0 ≤ x ∧ x < 256) (hy : y = 128) : 0 ≤ bits .andNot .u8 x y ∧ bits .andNot .u8 x y < 256 := by
  subst hy
  rw [andN128 x hx]
  omega
theorem and128 (x : Int) (h : 0 ≤ x ∧ x < 256) : bits .and .u8 x 128 = if 128 ≤ x then 128 else 0 := by
  have : ∀ n : Fin 256, bits .and .u8 (n.val : Int) 128 = if 128 ≤ (n.val : Int) then 128 else 0 := by decide +kernel
  have h2 := this ⟨x.toNat, by omega⟩
  simp only [Int.toNat_of_nonneg h.1] at h2
  exact h2
theorem or128 (x : Int) (h : 0 ≤ x ∧ x < 128) : bits .or .u8 x 128 = x + 128 := by
  have : ∀ n : Fin 128, bits .or .u8 (n.val : Int) 128 = (n.val : Int) + 128 := by decide +kernel
  have h2 := this ⟨x.toNat, by omega⟩
  simp only [Int.toNat_of_nonneg h.1] at h2
  exact h2
theorem xor128' (x : Int) (h : 0 ≤ x ∧ x < 256) : bits .xor .u8 x 128 = if 128 ≤ x then x - 128 else x + 128 := by
  have : ∀ n : Fin 256, bits .xor .u8 (n.val : Int) 128 = if 128 ≤ (n.val : Int) then (n.val : Int) - 128 else (n.val : Int) + 128 := by decide +kernel
  have h2 := this ⟨x.toNat, by omega⟩
  simp only [Int.toNat_of_nonneg h.1] at h2
  exact h2
end Go.Proofs.YtdpafemcpbhlfaaDoor
namespace Go.Proofs.YtdpafemcpbhlfaaDoor
set_option maxRecDepth 100000
open Go.RowKit

/-- Halved so many times. -/
def halfI (b : Int) : Nat → Int
  | 0 => b
  | n + 1 => halfI b n / 2
theorem half_quo {x : Int} (h : 0 ≤ x ∧ x < 256) : IntKind.wrap .i64 (Int.tdiv x 2) = x / 2 := by
  rw [Int.tdiv_eq_ediv_of_nonneg h.1]
  exact IntWalk.i64_in _ (by omega)
theorem half_bnd {b : Int} (h : 0 ≤ b ∧ b < 256) : ∀ n, 0 ≤ halfI b n ∧ halfI b n < 256
  | 0 => h
  | n + 1 => by
    have := half_bnd h n
    show 0 ≤ halfI b n / 2 ∧ halfI b n / 2 < 256
    omega
theorem half_pow (b : Int) : ∀ n, halfI b n = b / 2 ^ n
  | 0 => by rw [Int.pow_zero, Int.ediv_one]; rfl
  | n + 1 => by
    show halfI b n / 2 = _
    rw [half_pow b n, Int.pow_succ, Int.ediv_ediv_of_nonneg (Int.pow_nonneg (by decide))]
theorem half_kb (l : List Int) (j : Nat) : decide (halfI (l.getD (j / 8) 0) (j % 8) % 2 = 1) = kb l j := by
  rw [half_pow]
  rfl
theorem rem8_bnd (m : Int) (hm : 0 < m) {x : Int} (h : 0 ≤ x ∧ x < 256) : 0 ≤ x % m ∧ x % m < 256 := by
  have h1 := Int.emod_nonneg x (Int.ne_of_gt hm)
  have h2 := Int.emod_add_mul_ediv x m
  have h3 : 0 ≤ m * (x / m) := Int.mul_nonneg (Int.le_of_lt hm) (Int.ediv_nonneg h.1 (Int.le_of_lt hm))
  omega
theorem i64_of8 {x : Int} (h : 0 ≤ x ∧ x < 256) : -9223372036854775808 ≤ x ∧ x ≤ 9223372036854775807 := by omega
theorem run_loadAll {P : Program} {o : Oper} {a : Act} {T : TypeId} {x : Operand} {g n : Nat} {t : TypeId} {cs : Array Value} {dd : TypeDesc} (ho : o.op = .load T x) (hx : a.eval x = ptrTo g) (w : World) (hg : Blk w g t cs)
    (hu : P.underlying T = some dd) (hd : (match dd with | .struct _ | .array _ _ => true | _ => false) = true) (hi : (P.info? T).map (·.size) = some n) (hn : cs.size = n) :
    (execOp a.eval o).run P w = .ok (.value (.agg cs)) w := by
  have h := run_loadQ ho hx w hg hu hd hi (by omega)
  rw [extract_all _ _ hn] at h
  exact h
/-- Two are ready: a load, and a store elsewhere; in either order. -/
theorem wpAny_bothL {P : Program} {ops : Array Oper} {Q : Exit → Act → World → Prop} {fuel : Nat} {listed : Array Bool} {a : Act} {w : World} (i j : Nat) (hij : i ≠ j) {oi oj : Oper} (hoi : ops[i]? = some oi) (hoj : ops[j]? = some oj) (rs : List Nat) (hr : Region.ready .any ops listed = rs) (hrs : rs = [i, j] ∨ rs = [j, i])
    (hri : Region.ready .any ops (listed.setIfInBounds i true) = [j]) (hrj : Region.ready .any ops (listed.setIfInBounds j true) = [i]) (hgi : oi.guard = none) (hgd : oj.guard = none) (d : Nat) (hdi : oi.dst = some d) (hd : oj.dst = none) (v : Value) (bl : Nat) (tl : TypeId) (cl : Array Value) (hbl : Blk w bl tl cl)
    {g : Nat} (hne : bl ≠ g) (hrun : ∀ W, Blk W bl tl cl → (execOp a.eval oi).run P W = .ok (.value v) W)
    (ty : TypeId) (x y : Operand) (hop : oj.op = .store ty x y) (g' off n : Nat) (hx : a.eval x = .pointer (some ⟨g', off, none⟩)) (hx2 : Act.eval { a with tmps := a.tmps.setIfInBounds d v } x = .pointer (some ⟨g', off, none⟩)) (vs : Array Value) (hy : a.eval y = .agg vs) (hy2 : Act.eval { a with tmps := a.tmps.setIfInBounds d v } y = .agg vs) (t : TypeId) (cs : Array Value) (hg : Blk w g' t cs)
    (hi : (P.info? ty).map (·.size) = some n) (hv : vs.size = n) (hn : off + n ≤ cs.size) (h1 : ∀ v ∈ vs.toList, v.oneCell' = true) (hgg : g' = g := by rfl)
    (h : ∀ w', Blk w' g' t (splice cs off vs.toList) → Upd (· = g') w w' → wpAny P .any ops Q fuel ((listed.setIfInBounds i true).setIfInBounds j true) { a with tmps := a.tmps.setIfInBounds d v } w') : wpAny P .any ops Q (fuel + 1 + 1) listed a w := by
  subst hgg
  have A1 : wpOp P ops Q i (wpAny P .any ops Q (fuel + 1) (listed.setIfInBounds i true)) a w := by
    refine wpOp_step hoi (fun K hK => ?_)
    refine step_pureQ hgi d hdi v (hrun w hbl) (hK _ _ ?_)
    exact wpAny_storeQ j hoj hri hgd hd ty x y hop g' off n hx2 vs hy2 t cs hg hi hv hn h1 h
  have A2 : wpOp P ops Q j (wpAny P .any ops Q (fuel + 1) (listed.setIfInBounds j true)) a w := by
    refine wpOp_step hoj (fun K hK => ?_)
    refine step_storeBlk2 hgd ty x y hop g' off n hx vs hy t cs hg hi hv hn h1 ?_
    intro w' h2 h3 _
    rw [hd]
    refine hK _ _ ?_
    refine wpAny_pureQ i hoi hrj hgi d hdi v (hrun w' (h3.blk hbl hne)) ?_
    rw [Array.setIfInBounds_comm _ _ (Ne.symm hij)]
    exact h w' h2 h3
  rcases hrs with rfl | rfl
  · refine wpAny_ready hr (by simp) (fun k hk => ?_)
    rcases List.mem_cons.1 hk with rfl | hk
    · exact A1
    · obtain rfl := List.mem_singleton.1 hk
      exact A2
  · refine wpAny_ready hr (by simp) (fun k hk => ?_)
    rcases List.mem_cons.1 hk with rfl | hk
    · exact A2
    · obtain rfl := List.mem_singleton.1 hk
      exact A1
end Go.Proofs.YtdpafemcpbhlfaaDoor
