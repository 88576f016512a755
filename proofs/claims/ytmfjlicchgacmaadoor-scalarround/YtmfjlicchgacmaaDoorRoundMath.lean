/-
  The order's bytes, one less, small numbers. No walk.
-/
import Derived.Test.YtmfjlicchgacmaaDoorRed
import Derived.Test.YtmfjlicchgacmaaDoorRef4
namespace Go.Proofs.YtmfjlicchgacmaaDoor
open Go.RowKit

/-- One less than the order. -/
def lessL : List Int := ordB.set 0 236
theorem lessL_length : lessL.length = 32 := rfl
theorem lessL_digs : Digs 256 lessL := by
  have : ∀ x ∈ lessL, decide (0 ≤ x ∧ x < 256) = true := by decide +kernel
  exact fun x hx => of_decide_eq_true (this x hx)
theorem dig_lessL : dig 256 lessL = oo - 1 := by decide +kernel
/-- A small number's key, of two bytes. -/
def key2 (x y : Int) : List Int := x :: y :: List.replicate 30 0
theorem key2_length (x y : Int) : (key2 x y).length = 32 := by simp [key2]
theorem key2_digs {x y : Int} (hx : 0 ≤ x ∧ x < 256) (hy : 0 ≤ y ∧ y < 256) : Digs 256 (key2 x y) := by
  intro v hv
  simp only [key2, List.mem_cons, List.mem_replicate] at hv
  rcases hv with rfl | rfl | ⟨_, rfl⟩
  · exact hx
  · exact hy
  · omega
theorem dig_key2 (x y : Int) : dig 256 (key2 x y) = x + 256 * y := by
  unfold key2
  simp only [dig]
  rw [dig_zeros]
  omega
theorem zeroK_set2 (x y : Int) : (zeroK.setIfInBounds 0 (.int .u8 x)).setIfInBounds 1 (.int .u8 y) = numsA .u8 (key2 x y) := by
  show ((List.replicate 32 (Value.int .u8 0)).toArray.setIfInBounds 0 (.int .u8 x)).setIfInBounds 1 (.int .u8 y) = _
  rfl
theorem round_more (k : List Int) {x y : Int} (hx : 0 ≤ x ∧ x < 256) (hy : 0 ≤ y ∧ y < 256) : mulL ordB k (key2 x y) = key2 x y := by
  unfold mulL
  rw [dig_ordB, Int.add_comm, Int.add_mul_emod_self_left, Int.emod_eq_of_lt (by rw [dig_key2]; omega) (by rw [dig_key2]; unfold oo; omega)]
  have := digits_dig (B := 256) (by omega) (key2_digs hx hy)
  rw [key2_length] at this
  exact this
theorem blk_setNew (w : World) (a : Addr) (v : Value) (z : Array Value) (t : TypeId) : Blk ((w.setCell a v).alloc (.cells z t)) w.heap.size t z := by
  have := Blk.at1 (w.setCell a v) z t
  rwa [show (w.setCell a v).heap.size = w.heap.size by simp [World.setCell]] at this
theorem wpList_wanted {P : Program} {ops : Array Oper} {Q : Exit → Act → World → Prop} {a : Act} {w : World} {rest : List Oper} {o : Oper} (hg : Region.wanted o (yielded ops a.tmps) = true)
    (h : ∀ K : Act → World → Prop, (∀ a w, wpList P ops Q rest a w → K a w) → o.wp P a w K Q) : wpList P ops Q (o :: rest) a w :=
  wpList_step fun K hK => by simp only [hg, if_true]; exact h K hK
theorem wpList_loadBlkG {P : Program} {ops : Array Oper} {rest : List Oper} {o : Oper} {a : Act} {w : World} {Q : Exit → Act → World → Prop} (hgd : Region.wanted o (yielded ops a.tmps) = true) (ty : TypeId) (x : Operand) (ho : o.op = .load ty x)
    (g n : Nat) (hx : a.eval x = .pointer (some ⟨g, 0, none⟩)) (t : TypeId) (cs : Array Value) (d : TypeDesc) (hg : Blk w g t cs)
    (hu : P.underlying ty = some d) (hd : (match d with | .struct _ | .array _ _ => true | _ => false) = true) (hi : (P.info? ty).map (·.size) = some n) (hn : cs.size = n)
    (h : wpList P ops Q rest (a.put o.dst (.agg cs)) w) : wpList P ops Q (o :: rest) a w :=
  wpList_wanted hgd fun _ hK => by
    have e := run_loadVar_blk (P := P) w g 0 n t ty cs d hg hu hd hi (by omega)
    rw [extract_all _ _ hn] at e
    unfold Oper.wp execOp
    simp only [ho, hx, Instr.loadAt, Instr.sureAddr, Sem.run_bind, Sem.run_pure, Result.andThen_ok, e]
    exact hK _ _ h
theorem ord_canon : decide (dig 256 ordB < oo) = false := by rw [dig_ordB]; simp
theorem less_canon : decide (dig 256 lessL < oo) = true := by rw [dig_lessL]; exact decide_eq_true (by omega)
theorem round_back (k : List Int) : mulL lessL (redL k) (redL k) = keyL 0 := by
  unfold mulL
  rw [dig_lessL, Int.sub_mul, Int.one_mul, Int.sub_add_cancel, Int.mul_emod_right]
  decide +kernel
theorem round_less : mulL lessL lessL (keyL 0) = keyL 1 := by decide +kernel
end Go.Proofs.YtmfjlicchgacmaaDoor
