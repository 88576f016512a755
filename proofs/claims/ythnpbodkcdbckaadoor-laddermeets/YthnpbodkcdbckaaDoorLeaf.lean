/-
  Walks of field's leaves.
-/
import Derived.Test.YthnpbodkcdbckaaDoorProg
import Derived.Test.YthnpbodkcdbckaaDoorNum
import Derived.Test.YthnpbodkcdbckaaDoorLaws
import Derived.Handy
import Derived.Lib.Hide
import Derived.Lib.Mul64
namespace Go.Proofs.YthnpbodkcdbckaaDoor
set_option maxRecDepth 100000
open Go.RowKit

theorem size25 : (Tryd.prog.info? 36).map (·.size) = some 1 := by kernel_rfl
theorem idx5 (cs : Array Value) (j : Nat) (v : Value) (w : World) (hj : j < 5) (hv : cs[j]? = some v) : (Instr.index 37 (.agg cs) (.int .i64 j)).run Tryd.prog w = .ok v w :=
  run_index_agg w 37 36 5 cs .i64 j v Tryd.underlying37 size25 (fun d hd => by rw [Tryd.underlying36] at hd; cases hd; rfl) (by rw [Tryd.underlying36]; rfl) hj hv

theorem idx5a (a b c d e : Value) : (∀ w, (Instr.index 37 (.agg #[a, b, c, d, e]) (.int .i64 0)).run Tryd.prog w = .ok a w) ∧ (∀ w, (Instr.index 37 (.agg #[a, b, c, d, e]) (.int .i64 1)).run Tryd.prog w = .ok b w) ∧
    (∀ w, (Instr.index 37 (.agg #[a, b, c, d, e]) (.int .i64 2)).run Tryd.prog w = .ok c w) ∧ (∀ w, (Instr.index 37 (.agg #[a, b, c, d, e]) (.int .i64 3)).run Tryd.prog w = .ok d w) ∧ (∀ w, (Instr.index 37 (.agg #[a, b, c, d, e]) (.int .i64 4)).run Tryd.prog w = .ok e w) :=
  ⟨fun w => idx5 _ 0 _ w (by omega) rfl, fun w => idx5 _ 1 _ w (by omega) rfl, fun w => idx5 _ 2 _ w (by omega) rfl, fun w => idx5 _ 3 _ w (by omega) rfl, fun w => idx5 _ 4 _ w (by omega) rfl⟩

set_option maxHeartbeats 400000 in
theorem carried_any (p0 p1 p2 p3 p4 : Int) (w : World) (h0 : 0 ≤ p0) (k0 : p0 < 18446744073709551616) (h1 : 0 ≤ p1) (k1 : p1 < 18446744073709551616) (h2 : 0 ≤ p2) (k2 : p2 < 18446744073709551616) (h3 : 0 ≤ p3) (k3 : p3 < 18446744073709551616) (h4 : 0 ≤ p4) (k4 : p4 < 18446744073709551616) :
    Calls Tryd.prog 80 #[.agg #[.int .u64 p0, .int .u64 p1, .int .u64 p2, .int .u64 p3, .int .u64 p4]] w (RetE (val5 p0 p1 p2 p3 p4) w) := by
  have hF := Lib.hid (carried_fits p0 p1 p2 p3 p4 h0 k0 h1 k1 h2 k2 h3 k3 h4 k4)
  obtain ⟨i0, i1, i2, i3, i4⟩ := idx5a (.int .u64 p0) (.int .u64 p1) (.int .u64 p2) (.int .u64 p3) (.int .u64 p4)
  have m0 := and_mask p0 h0 k0
  have m1 := and_mask p1 h1 k1
  have m2 := and_mask p2 h2 k2
  have m3 := and_mask p3 h3 k3
  have m4 := and_mask p4 h4 k4
  go_enter Tryd.func80, Tryd.ntmps80
  go_wp2
  go_rounds 6
  refine bodyPost_ret (v := .agg #[.int .u64 (p0 % 2251799813685248 + 19 * (p4 / 2251799813685248)), .int .u64 (p1 % 2251799813685248 + p0 / 2251799813685248), .int .u64 (p2 % 2251799813685248 + p1 / 2251799813685248), .int .u64 (p3 % 2251799813685248 + p2 / 2251799813685248), .int .u64 (p4 % 2251799813685248 + p3 / 2251799813685248)]) (by simp [results, Tryd.results80, go_sem]) rfl ⟨_, _, _, _, _, hF.out, rfl, ((((Upd.refl _ w).alloc _).alloc _).alloc _)⟩

/-- The parts of the least number alike n. -/
def RetL (n : Int) (w : World) (e : Ending) (w' : World) : Prop :=
  ∃ a0 a1 a2 a3 a4 : Int, Exact a0 a1 a2 a3 a4 (n % pp) ∧ e = .returned (.agg #[.int .u64 a0, .int .u64 a1, .int .u64 a2, .int .u64 a3, .int .u64 a4]) ∧ Upd (fun _ => False) w w'

set_option maxHeartbeats 400000 in
theorem least_any (p0 p1 p2 p3 p4 n : Int) (w : World) (hf : Fits p0 p1 p2 p3 p4 n) :
    Calls Tryd.prog 83 #[.agg #[.int .u64 p0, .int .u64 p1, .int .u64 p2, .int .u64 p3, .int .u64 p4]] w (RetL n w) := by
  have HF := Lib.hid hf
  obtain ⟨i0, i1, i2, i3, i4⟩ := idx5a (.int .u64 p0) (.int .u64 p1) (.int .u64 p2) (.int .u64 p3) (.int .u64 p4)
  obtain ⟨h0, k0, h1, k1, h2, k2, h3, k3, h4, k4, hc⟩ := hf
  clear hc
  go_enter Tryd.func83, Tryd.ntmps83
  go_wp2
  go_rounds 6
  generalize ho : (p4 + (p3 + (p2 + (p1 + (p0 + 19) / 2251799813685248) / 2251799813685248) / 2251799813685248) / 2251799813685248) / 2251799813685248 * 19 = o at *
  obtain ⟨o0, o1, hE⟩ := least_exact p0 p1 p2 p3 p4 n o HF.out ho.symm
  have HE := Lib.hid hE
  clear hE ho
  have m0 := and_mask (p0 + o) (by omega) (by omega)
  have m1 := and_mask (p1 + (p0 + o) / 2251799813685248) (by omega) (by omega)
  have m2 := and_mask (p2 + (p1 + (p0 + o) / 2251799813685248) / 2251799813685248) (by omega) (by omega)
  have m3 := and_mask (p3 + (p2 + (p1 + (p0 + o) / 2251799813685248) / 2251799813685248) / 2251799813685248) (by omega) (by omega)
  have m4 := and_mask (p4 + (p3 + (p2 + (p1 + (p0 + o) / 2251799813685248) / 2251799813685248) / 2251799813685248) / 2251799813685248) (by omega) (by omega)
  go_rounds 6
  refine bodyPost_ret (v := .agg #[.int .u64 ((p0 + o) % 2251799813685248), .int .u64 ((p1 + (p0 + o) / 2251799813685248) % 2251799813685248), .int .u64 ((p2 + (p1 + (p0 + o) / 2251799813685248) / 2251799813685248) % 2251799813685248), .int .u64 ((p3 + (p2 + (p1 + (p0 + o) / 2251799813685248) / 2251799813685248) / 2251799813685248) % 2251799813685248), .int .u64 ((p4 + (p3 + (p2 + (p1 + (p0 + o) / 2251799813685248) / 2251799813685248) / 2251799813685248) / 2251799813685248) % 2251799813685248)]) (by simp [results, Tryd.results83, go_sem]) rfl ⟨_, _, _, _, _, HE.out, rfl, ((((Upd.refl _ w).alloc _).alloc _).alloc _)⟩
end Go.Proofs.YthnpbodkcdbckaaDoor
