/-
  The reference: less, Order.
-/
import Derived.Test.YtdpafemcpbhlfaaDoorScOps
import Derived.Laws.AppendOwn
namespace Go.Proofs.YtdpafemcpbhlfaaDoor.Sc
set_option maxRecDepth 100000
open Go.RowKit

theorem dig_split (B : Int) (l : List Int) (j : Nat) (hj : j < l.length) : dig B l = dig B (l.take j) + B ^ j * (l.getD j 0 + B * dig B (l.drop (j + 1))) := by
  have h1 : l = l.take j ++ (l.getD j 0 :: l.drop (j + 1)) := by
    have : l.getD j 0 = l[j] := by simp [List.getD_eq_getElem?_getD, hj]
    rw [this, ← List.drop_eq_getElem_cons hj, List.take_append_drop]
  conv => lhs; rw [h1]
  rw [dig_append, List.length_take, Nat.min_eq_left (by omega)]
  rfl
theorem Digs.take {B : Int} {l : List Int} (h : Digs B l) (j : Nat) : Digs B (l.take j) := fun x hx => h x (List.mem_of_mem_take hx)
theorem dig_lt_iff {B : Int} (hB : 0 < B) {l m : List Int} (hl : Digs B l) (hm : Digs B m) (j : Nat) (h1 : j < l.length) (h2 : j < m.length) (hd : l.drop (j + 1) = m.drop (j + 1)) (hne : l.getD j 0 ≠ m.getD j 0) :
    decide (dig B l < dig B m) = decide (l.getD j 0 < m.getD j 0) := by
  rw [decide_eq_decide, dig_split B l j h1, dig_split B m j h2, hd]
  have a0 := dig_nonneg hB (hl.take j)
  have a1 := dig_lt hB (hl.take j)
  have b0 := dig_nonneg hB (hm.take j)
  have b1 := dig_lt hB (hm.take j)
  rw [List.length_take, Nat.min_eq_left (by omega)] at a1 b1
  generalize dig B (l.take j) = p at *
  generalize dig B (m.take j) = q at *
  generalize B * dig B (m.drop (j + 1)) = r at *
  generalize l.getD j 0 = x at *
  generalize m.getD j 0 = y at *
  have hpos : 0 < B ^ j := Int.pow_pos hB
  generalize B ^ j = C at *
  have e1 : C * (x + r) = C * x + C * r := Int.mul_add _ _ _
  have e2 : C * (y + r) = C * y + C * r := Int.mul_add _ _ _
  rw [e1, e2]
  constructor
  · intro h
    apply Decidable.byContradiction
    intro hc
    have : C * (y + 1) ≤ C * x := Int.mul_le_mul_of_nonneg_left (by omega) (by omega)
    rw [Int.mul_add, Int.mul_one] at this
    omega
  · intro h
    have : C * (x + 1) ≤ C * y := Int.mul_le_mul_of_nonneg_left (by omega) (by omega)
    rw [Int.mul_add, Int.mul_one] at this
    omega
theorem drop_step {l m : List Int} {k : Nat} (hl : k < l.length) (hm : k < m.length) (h : l.drop (k + 1) = m.drop (k + 1)) (he : l.getD k 0 = m.getD k 0) : l.drop k = m.drop k := by
  rw [List.drop_eq_getElem_cons hl, List.drop_eq_getElem_cons hm, h]
  have e1 : l.getD k 0 = l[k] := by simp [List.getD_eq_getElem?_getD, hl]
  have e2 : m.getD k 0 = m[k] := by simp [List.getD_eq_getElem?_getD, hm]
  rw [← e1, ← e2, he]
/-- Cells of a block that are numbers. -/
def CellsI (w : World) (g : Nat) (xs : List Int) : Prop := ∀ j, j < xs.length → w.cell? ⟨g, j, none⟩ = some (.int .i64 (xs.getD j 0))
theorem CellsI.upd {w w' : World} {g : Nat} {xs : List Int} {S : Nat → Prop} (h : CellsI w g xs) (hu : Upd S w w') (hs : ¬ S g) : CellsI w' g xs := fun j hj => hu.cell (h j hj) hs
theorem CellsI.drewN {w : World} {g : Nat} {xs : List Int} (h : CellsI w g xs) (n : Nat) : CellsI (w.drewN n) g xs := h
theorem CellsI.of {w : World} {g : Nat} {t : TypeId} {xs : List Int} (h : Blk w g t (numsA .i64 xs)) : CellsI w g xs := fun j hj => by rw [h.cell, numsA_get _ _ _ hj]
/-- The order's bytes. -/
def ordH : List Int := [237, 211, 245, 92, 26, 99, 18, 88, 214, 156, 247, 162, 222, 249, 222, 20]
def ordB : List Int := ordH ++ List.replicate 15 0 ++ [16]
theorem dig_ordB : dig 256 ordB = oo := by decide +kernel
theorem ordB_digs : Digs 256 ordB := by
  have : ∀ x ∈ ordB, decide (0 ≤ x ∧ x < 256) = true := by decide +kernel
  exact fun x hx => of_decide_eq_true (this x hx)
theorem ordB_length : ordB.length = 32 := rfl
/-- A []int of the call's own, which reads as xs. -/
def OwnI (w : World) (base : Nat) (v : Value) (xs : List Int) : Prop := w.ownsRow base 3 1 v xs.length (xs.map (Value.int .i64))
theorem OwnI.upd {w w' : World} {base : Nat} {v : Value} {xs : List Int} {S : Nat → Prop} (h : OwnI w base v xs) (u : Upd S w w') (hs : ∀ k, base ≤ k → ¬ S k) : OwnI w' base v xs := by
  obtain ⟨h1, h2⟩ := h
  refine ⟨h1, ?_⟩
  rcases h2 with h2 | ⟨g, cap, cur, hv, hg, hh, r⟩
  · exact Or.inl h2
  · exact Or.inr ⟨g, cap, cur, hv, hg, u.blk (b := g) (t := 3) hh (hs g hg), r⟩
theorem OwnI.cells {w : World} {base : Nat} {v : Value} {xs : List Int} (h : OwnI w base v xs) (h0 : 0 < xs.length) : ∃ g cap, v = .slice (some ⟨g, 0, none⟩) xs.length cap ∧ base ≤ g ∧ g < w.heap.size ∧ CellsI w g xs := by
  obtain ⟨h1, h2⟩ := h
  rcases h2 with ⟨_, h2⟩ | ⟨g, cap, cur, rfl, hg, hh, hn, hc, hcs, ht⟩
  · omega
  · have hb : Blk w g 3 cur := hh
    refine ⟨g, cap, rfl, hg, hb.lt, fun j hj => ?_⟩
    rw [hb.cell, ← Array.getElem?_toList]
    have e : (cur.toList.take (xs.length * 1))[j]? = (xs.map (Value.int .i64))[j]? := by rw [ht]
    rw [List.getElem?_take_of_lt (by omega)] at e
    rw [e]
    simp [hj]
theorem infoInt : ∃ i, Tryd.prog.info? 3 = some i ∧ i.zero = some (.int .i64 0) ∧ i.size = 1 ∧ i.bytes = 8 := info_parts (P := Tryd.prog) (e := 3) (by kernel_rfl)
/-- append of one number that a literal list of one holds. -/
theorem wpList_append1 {ops : Array Oper} {rest : List Oper} {o : Oper} {a : Act} {w : World} {Q : Exit → Act → World → Prop} (hgd : o.guard = none) (s x : Operand)
    (ho : o.op = .call { callee := .builtin .append, args := #[s, x], argTypes := #[62, 62] }) (base : Nat) (v : Value) (xs : List Int) (hs : a.eval s = v) (hown : OwnI w base v xs) (g c : Nat) (y : Int) (hx : a.eval x = .slice (some ⟨g, 0, none⟩) 1 c) (hc : w.cell? ⟨g, 0, none⟩ = some (.int .i64 y))
    (hb : xs.length ≤ 100000) (hbase : base ≤ w.heap.size)
    (h : ∀ v' w', OwnI w' base v' (xs ++ [y]) → Upd (fun k => base ≤ k) w w' → wpList Tryd.prog ops Q rest (a.put o.dst v') w') : wpList Tryd.prog ops Q (o :: rest) a w := by
  obtain ⟨i, hi, hz, hsz, hby⟩ := infoInt
  refine wpList_append_own (P := Tryd.prog) w hgd s x 62 ho base 3 i (.int .i64 0) 1 8 Tryd.underlying62 hi hz hsz hby rfl (by omega) v xs.length (xs.map (Value.int .i64)) hs hown ⟨g, 0, none⟩ 1 c [.int .i64 y] hx rfl (fun j u hu => ?_) (fun u hu => by simp at hu; subst hu; rfl) (by unfold maxLen; omega) (by omega) hbase (fun v' w' ho hg _ => h v' w' ?_ ⟨hg.os, hg.tape, hg.output, hg.size, fun k hk hs => hg.block k hk (fun e => hs ?_)⟩)
  · have hj : j = 0 := by
      have := (List.getElem?_eq_some_iff.1 hu).1
      simp at this; omega
    subst hj
    simp at hu
    subst hu
    exact hc
  · unfold OwnI
    rw [List.length_append, List.map_append]
    exact ho
  · rcases hown.2 with ⟨rfl, _⟩ | ⟨g, cap, cur, rfl, hg, _⟩
    · cases e
    · simp only [Value.ownBlock, Option.some.injEq] at e; omega
set_option maxRecDepth 100000 in
set_option maxHeartbeats 1000000 in
theorem rOrder_any (w : World) : Calls Tryd.prog 39 #[] w fun e w' => ∃ v, e = .returned v ∧ OwnI w' w.heap.size v ordB ∧ Upd (fun _ => False) w w' := by
  have Hz : Hid (∀ w : World, OwnI (w.alloc (.cells (numsA .i64 ordH) 3)) w.heap.size (.slice (some ⟨w.heap.size, 0, none⟩) 16 16) (ordH ++ List.replicate 0 0)) := fun w => ⟨rfl, Or.inr ⟨w.heap.size, 16, numsA .i64 ordH, rfl, Nat.le_refl _, Blk.at1 w _ _, by decide, by decide, rfl, rfl⟩⟩
  go_enter Tryd.func39, Tryd.ntmps39
  go_wp2
  go_loopw [1] (fun v wr => ∃ k : Nat, k ≤ 15 ∧ OwnI wr w.heap.size v (ordH ++ List.replicate k 0) ∧ Upd (fun _ => False) w wr) (fun v _ => 31 - (match v with | .slice _ n _ => n | _ => 0))
  case atStart => exact ⟨0, by omega, Hz.out w, (Upd.refl _ w).alloc _⟩
  case round =>
    clear Hz
    obtain ⟨k, hk, hown, hu⟩ := hrel
    have hlen : (ordH ++ List.replicate k 0).length = 16 + k := by rw [List.length_append, List.length_replicate]; rfl
    obtain ⟨g, cap, rfl, hg, hgl, hcs⟩ := hown.cells (by omega)
    rw [hlen] at hown ⊢
    have HO := Lib.hid hown
    have HU := Lib.hid hu
    have Hlen := Lib.hid hlen
    clear hown hu hcs hlen
    by_cases hlt : k < 15
    · go_wp2_with (refine wpList_append1 rfl _ _ rfl w.heap.size _ (ordH ++ List.replicate k 0) rfl (HO.out.upd ((Upd.refl (fun _ => False) wr).alloc _) (fun _ _ h => h)) wr.heap.size 1 0 rfl (by rw [(Blk.at1 wr _ _).cell]; rfl) (by rw [Hlen.out]; omega) (by have := HU.out.size; simp; omega) ?_; intro v' w' hO hU; have HO' := Lib.hid hO; have HU' := Lib.hid hU; clear hO hU)
      have e : ordH ++ List.replicate k 0 ++ [0] = ordH ++ List.replicate (k + 1) (0 : Int) := by rw [List.append_assoc, ← List.replicate_succ']
      have hO := HO'.out
      rw [e] at hO
      have hlen' : (ordH ++ List.replicate (k + 1) (0 : Int)).length = 17 + k := by rw [List.length_append, List.length_replicate]; show 16 + (k + 1) = _; omega
      obtain ⟨g', cap', rfl, _⟩ := hO.cells (by omega)
      refine ⟨⟨k + 1, by omega, hO, (HU.out.alloc _).step HU'.out (fun i hi h => by omega)⟩, ?_⟩
      rw [hlen']
      show 31 - (17 + k) < 31 - (16 + k)
      omega
    · obtain rfl : k = 15 := by omega
      have hd8 : decide ((16 : Int) + ((15 : Nat) : Int) < 31) = false := by decide
      go_wp2_with (refine wpList_append1 rfl _ _ rfl w.heap.size _ (ordH ++ List.replicate 15 0) rfl (HO.out.upd ((Upd.refl (fun _ => False) wr).alloc _) (fun _ _ h => h)) wr.heap.size 1 16 rfl (by rw [(Blk.at1 wr _ _).cell]; rfl) (by rw [Hlen.out]; omega) (by have := HU.out.size; simp; omega) ?_; intro v' w' hO hU; have HO' := Lib.hid hO; have HU' := Lib.hid hU; clear hO hU)
      go_ret
      exact ⟨v', rfl, HO'.out, (HU.out.alloc _).step HU'.out (fun i hi h => by omega)⟩
end Go.Proofs.YtdpafemcpbhlfaaDoor.Sc
