/-
  Numbers of the reference as operations of a drawn region leave them.
-/
import Derived.Test.YthnpbodkcdbckaaDoorRefH
namespace Go.Proofs.YthnpbodkcdbckaaDoor
set_option maxRecDepth 100000
open Go.RowKit

/-- A number alike n. -/
def LikeN (n : Int) (v : Value) : Prop := ∃ r, v = .agg (numN r) ∧ NumOk r n
theorem RetN.sp {n : Int} {w : World} {base : Nat} {e : Ending} {w' : World} (h : RetN n w e w') : ∃ v, e = .returned v ∧ (SP.like (LikeN n)).holds base v w' ∧ Upd (fun _ => False) w w' := by
  obtain ⟨r, hr, rfl, hu⟩ := h
  exact ⟨_, rfl, ⟨r, rfl, hr⟩, hu⟩
theorem okNum {n : Int} (h0 : 0 ≤ n) (h1 : n < 115792089237316195423570985008687907853269984665640564039457584007913129639936) : NumOk n n := ⟨h0, h1, Cong.refl n⟩
theorem okKey (l : List Int) : NumOk (keyNum l) (keyNum l) := okNum (by unfold keyNum; omega) (by unfold keyNum; omega)
theorem okPrime : NumOk pp pp := okNum (by decide) (by decide)
theorem okMod (n : Int) : NumOk (n % pp) n := by
  have h0 := Int.emod_nonneg n (b := pp) (by decide)
  have h1 := Int.emod_lt_of_pos n pp_pos
  exact ⟨h0, by unfold pp at *; omega, Cong.mod n⟩
theorem NumOk.mod {r n : Int} (h : NumOk r n) : r % pp = n % pp := (cong_iff r n).1 h.2.2
theorem rCanon_ok (r n : Int) (w : World) (h : NumOk r n) : Calls Tryd.prog 88 #[.agg (numN r)] w fun e w' => e = .returned (.agg (numN (n % pp))) ∧ Upd (fun _ => False) w w' := by
  rw [← h.mod]
  exact rCanon_any r w h.1 h.2.1
theorem rBytes_ok (r n : Int) (w : World) (h : NumOk r n) : Calls Tryd.prog 57 #[.agg (numN r)] w fun e w' => e = .returned (.agg (numsA .u8 (digits 256 32 (n % pp)))) ∧ Upd (fun _ => False) w w' := by
  rw [← h.mod]
  exact rBytes_any r w h.1 h.2.1
theorem enterrOf (vs : Array Value) (w : World) : (callFunc 53 vs).run Tryd.prog w = .ok (.enter 53 vs) w := run_enter Tryd.func53 (by kernel_rfl) (by kernel_rfl) vs w
theorem enterrMul (vs : Array Value) (w : World) : (callFunc 58 vs).run Tryd.prog w = .ok (.enter 58 vs) w := run_enter Tryd.func58 (by kernel_rfl) (by kernel_rfl) vs w
theorem enterrCanon (vs : Array Value) (w : World) : (callFunc 88 vs).run Tryd.prog w = .ok (.enter 88 vs) w := run_enter Tryd.func88 (by kernel_rfl) (by kernel_rfl) vs w
/-- Two keys that are the same list. -/
theorem run_sameKey {o : Oper} {a : Act} {p q : Operand} {A B : List Int} (ho : o.op = .binOp .eql 23 p q 23) (hp : a.eval p = .agg (numsA .u8 A)) (hq : a.eval q = .agg (numsA .u8 B)) (hA : A.length = 32) (hB : B.length = 32) (h : A = B) (w : World) :
    (execOp a.eval o).run Tryd.prog w = .ok (.value (.bool true)) w := by
  rw [run_eqlKey ho hp hq hA hB w, decide_eq_true h]
theorem bytes_same {m n : Int} (h : m = n) : digits 256 32 (m % pp) = digits 256 32 (n % pp) := by rw [h]
end Go.Proofs.YthnpbodkcdbckaaDoor
