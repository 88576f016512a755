/-
  The reference's Small; small operations at an act that is not written out.
-/
import Derived.Test.YtpjkmocabnnhaaaDoorRefD
namespace Go.Proofs.YtpjkmocabnnhaaaDoor
open Go.RowKit

def lowL (x y : Int) : List Int := x :: y :: List.replicate 14 0
theorem zeroN_set2 (x y : Int) : (zeroN.setIfInBounds 0 (.int .u64 x)).setIfInBounds 1 (.int .u64 y) = numsA .u64 (lowL x y) := by
  unfold zeroN
  rw [numsA_set, numsA_set]
  rfl
theorem lowL_digits (n : Int) (h0 : 0 ≤ n) (h1 : n < 4294967296) : lowL (n % 65536) (n / 65536 % 65536) = digits 65536 16 n := by
  have e : n / 65536 / 65536 = 0 := by omega
  have e2 : n / 65536 % 65536 = n / 65536 := by omega
  rw [e2]
  simp only [digits, e, e2]
  rfl
set_option maxHeartbeats 1000000 in
theorem rSmall_any (n : Int) (w : World) (h0 : 0 ≤ n) (h1 : n < 4294967296) : Calls Tryd.prog 45 #[.int .u64 n] w fun e w' => e = .returned (.agg (numN n)) ∧ Upd (fun _ => False) w w' := by
  have hz := zeroN_run
  have hzs := zeroN_size
  have hset := zeroN_set2
  have Hn := Lib.hid (lowL_digits n h0 h1)
  have HS : Hid ((numsA .u64 (lowL (n % 65536) (n / 65536 % 65536))).size = 16) := by show _ = _; rw [Hn.out, numsA_size, digits_length]
  go_enter Tryd.func45, Tryd.ntmps45
  go_wp2_with (refine wpList_storeBlk2 rfl 31 _ _ rfl w.heap.size 0 16 rfl (numsA .u64 (lowL (n % 65536) (n / 65536 % 65536))) rfl 31 zeroN (Blk.at1 w _ _) sizeNum HS.out (by rw [zeroN_size]; omega) (numsA_one _ _) ?_; intro wz hbz huz hzz; rw [splice_all _ _ 16 zeroN_size HS.out] at hbz; have Hbz := Lib.hid hbz; have Huz := Lib.hid huz; clear hbz huz hzz)
  exact bodyPost_ret (v := .agg (numsA .u64 (lowL (n % 65536) (n / 65536 % 65536)))) (results_cell_row (fn := Tryd.f45) (p := 2) (ty := 31) rfl _ _ w.heap.size 31 _ (0, 0) _ rfl Hbz.out Tryd.underlying31 rfl (by rw [HS.out]; exact sizeNum)) rfl ⟨by rw [Hn.out]; rfl, ((Upd.refl (fun _ => False) w).alloc _).step Huz.out (fun i hi h => by omega)⟩
theorem run_eqlBool {o : Oper} {a : Act} {p q : Operand} {b : Bool} (ho : o.op = .binOp .eql 4 p q 4) (hp : a.eval p = .bool b) (hq : a.eval q = .bool b) (w : World) : (execOp a.eval o).run Tryd.prog w = .ok (.value (.bool true)) w := by
  generalize a.eval = ev at hp hq ⊢
  unfold execOp
  simp only [ho]
  simp [hp, hq, go_sem]
theorem run_conv32 {o : Oper} {a : Act} {p : Operand} {n : Int} (ho : o.op = .convert 42 25 p) (hp : a.eval p = .int .u32 n) (h0 : 0 ≤ n) (h1 : n < 4294967296) (w : World) : (execOp a.eval o).run Tryd.prog w = .ok (.value (.int .u64 n)) w := by
  generalize a.eval = ev at hp ⊢
  unfold execOp
  simp only [ho]
  simp [hp, go_sem]
  exact IntWalk.u64_in _ (by omega)
theorem enterrBytes (vs : Array Value) (w : World) : (callFunc 12 vs).run Tryd.prog w = .ok (.enter 12 vs) w := run_enter Tryd.func12 (by kernel_rfl) (by kernel_rfl) vs w
theorem enterrSmall (vs : Array Value) (w : World) : (callFunc 45 vs).run Tryd.prog w = .ok (.enter 45 vs) w := run_enter Tryd.func45 (by kernel_rfl) (by kernel_rfl) vs w
theorem enterSmall (vs : Array Value) (w : World) : (callFunc 19 vs).run Tryd.prog w = .ok (.enter 19 vs) w := run_enter Tryd.func19 (by kernel_rfl) (by kernel_rfl) vs w
theorem enterIsZero (vs : Array Value) (w : World) : (callFunc 22 vs).run Tryd.prog w = .ok (.enter 22 vs) w := run_enter Tryd.func22 (by kernel_rfl) (by kernel_rfl) vs w
theorem enterOdd (vs : Array Value) (w : World) : (callFunc 26 vs).run Tryd.prog w = .ok (.enter 26 vs) w := run_enter Tryd.func26 (by kernel_rfl) (by kernel_rfl) vs w
theorem enterCanonical (vs : Array Value) (w : World) : (callFunc 30 vs).run Tryd.prog w = .ok (.enter 30 vs) w := run_enter Tryd.func30 (by kernel_rfl) (by kernel_rfl) vs w
end Go.Proofs.YtpjkmocabnnhaaaDoor
