/-
  Small operations of FieldExponents: an uint16's low and high byte, a key of two bytes, the call of Power.
-/
import Derived.Test.YtaejngaohkalcaaExpMath
import Derived.Test.YtaejngaohkalcaaRefE
namespace Go.Proofs.Ytaejngaohkalcaa
open Go.RowKit

theorem build3 (x y z : Int) : ((zeroK.setIfInBounds 0 (Value.int IntKind.u8 x)).setIfInBounds 1 (Value.int IntKind.u8 y)).setIfInBounds 2 (Value.int IntKind.u8 z) = numsA .u8 (x :: y :: z :: List.replicate 29 0) := by kernel_rfl
theorem build2 (x y : Int) : (zeroK.setIfInBounds 0 (Value.int IntKind.u8 x)).setIfInBounds 1 (Value.int IntKind.u8 y) = numsA .u8 (x :: y :: List.replicate 30 0) := by kernel_rfl
theorem digs3 {x y z : Int} (hx : 0 ≤ x ∧ x < 256) (hy : 0 ≤ y ∧ y < 256) (hz : 0 ≤ z ∧ z < 256) (k : Nat) : Digs 256 (x :: y :: z :: List.replicate k 0) := by
  intro v hv
  simp only [List.mem_cons, List.mem_replicate] at hv
  rcases hv with rfl | rfl | rfl | ⟨_, rfl⟩
  · exact hx
  · exact hy
  · exact hz
  · omega
theorem digs2 {x y : Int} (hx : 0 ≤ x ∧ x < 256) (hy : 0 ≤ y ∧ y < 256) (k : Nat) : Digs 256 (x :: y :: List.replicate k 0) := by
  intro v hv
  simp only [List.mem_cons, List.mem_replicate] at hv
  rcases hv with rfl | rfl | ⟨_, rfl⟩
  · exact hx
  · exact hy
  · omega
theorem run_conv16 {o : Oper} {a : Act} {p : Operand} {n : Int} (ho : o.op = .convert 48 5 p) (hp : a.eval p = .int .u16 n) (w : World) : (execOp a.eval o).run Try.prog w = .ok (.value (.int .u8 (n % 256))) w := by
  generalize a.eval = ev at hp ⊢
  unfold execOp
  simp only [ho]
  simp [hp, go_sem]
  try rfl
theorem run_build2 {o : Oper} {a : Act} {p q : Operand} {x y : Int} (ho : o.op = .build 23 #[(0, p), (1, q)]) (hp : a.eval p = .int .u8 x) (hq : a.eval q = .int .u8 y) (w : World) : (execOp a.eval o).run Try.prog w = .ok (.value (.agg (numsA .u8 (x :: y :: List.replicate 30 0)))) w := by
  have hz := zeroK_run
  generalize a.eval = ev at hp hq ⊢
  unfold execOp
  simp only [ho]
  rw [← build2]
  have hne : zeroK ≠ #[] := by
    intro h
    have h2 := zeroK_size
    rw [h] at h2
    exact absurd h2 (by decide)
  have hs2 : ¬ zeroK.size < 2 := by rw [zeroK_size]; omega
  simp [hp, hq, go_sem, hz, hne, hs2]
theorem run_shr16 {o : Oper} {a : Act} {p : Operand} {n : Int} (ho : o.op = .binOp .shr 48 p (.const (.int .u64 8)) 49) (hp : a.eval p = .int .u16 n) (hc : a.eval (.const (.int .u64 8)) = .int .u64 8) (w : World) : (execOp a.eval o).run Try.prog w = .ok (.value (.int .u16 (n / 256))) w := by
  generalize a.eval = ev at hp hc ⊢
  unfold execOp
  simp only [ho]
  simp [hp, hc, go_sem]
/-- A key under way beside blocks that stay. -/
structure ExpRel (w wr : World) (b : Nat) (l : List Int) (gs : List (Nat × TypeId × Array Value)) : Prop where
  upd : Upd (fun _ => False) w wr
  out : Blk wr b 23 (numsA .u8 l)
  len : l.length = 32
  ge : w.heap.size ≤ b
  oth : ∀ g ∈ gs, Blk wr g.1 g.2.1 g.2.2 ∧ g.1 ≠ b
theorem ExpRel.set {w wr : World} {b : Nat} {l : List Int} {gs : List (Nat × TypeId × Array Value)} (h : ExpRel w wr b l gs) (j : Nat) (x : Int) : ExpRel w (wr.setCell ⟨b, j, none⟩ (.int .u8 x)) b (l.set j x) gs := by
  refine ⟨h.upd.set _ (fun hb => by have := h.ge; simp at hb; omega), ?_, by simpa using h.len, h.ge, fun g hg => ⟨(h.oth g hg).1.setOther (by simpa using (h.oth g hg).2) _, (h.oth g hg).2⟩⟩
  rw [← numsA_set]
  exact h.out.set j _
theorem ExpRel.cell {w wr : World} {b : Nat} {l : List Int} {gs : List (Nat × TypeId × Array Value)} (h : ExpRel w wr b l gs) (j : Nat) (hj : j < 32) : wr.cell? ⟨b, j, none⟩ = some (.int .u8 (l.getD j 0)) := by
  rw [h.out.cell, numsA_get _ _ _ (by rw [h.len]; exact hj)]
theorem enterPower (vs : Array Value) (w : World) : (callFunc 23 vs).run Try.prog w = .ok (.enter 23 vs) w := run_enter Try.func23 (by kernel_rfl) (by kernel_rfl) vs w
end Go.Proofs.Ytaejngaohkalcaa
