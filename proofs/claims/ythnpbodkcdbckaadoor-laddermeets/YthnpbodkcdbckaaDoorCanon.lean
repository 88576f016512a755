/-
  The walk of Canonical.
-/
import Derived.Test.YthnpbodkcdbckaaDoorHead
import Derived.Test.YthnpbodkcdbckaaDoorLists
namespace Go.Proofs.YthnpbodkcdbckaaDoor
set_option maxRecDepth 100000
open Go.RowKit

/-- Are bytes those of the least number alike? -/
def canonB (l : List Int) : Bool := decide (digits 256 32 (keyNum l % pp) = l)
theorem keyNum_digits (n : Int) : keyNum (digits 256 32 (n % pp)) = n % pp := by
  have h0 := Int.emod_nonneg n (b := pp) (by decide)
  have h1 := Int.emod_lt_of_pos n pp_pos
  unfold keyNum
  rw [dig_digits (by omega), show (256 : Int) ^ 32 = 115792089237316195423570985008687907853269984665640564039457584007913129639936 by decide]
  unfold pp at *
  omega
theorem canonB_digits (n : Int) : canonB (digits 256 32 (n % pp)) = true := by
  unfold canonB
  rw [keyNum_digits, Int.emod_emod_of_dvd _ (Int.dvd_refl _)]
  simp
theorem RetE.sp {n : Int} {w : World} {base : Nat} {e : Ending} {w' : World} (h : RetE n w e w') : ∃ v, e = .returned v ∧ (SP.elem n).holds base v w' ∧ Upd (fun _ => False) w w' := by
  obtain ⟨a0, a1, a2, a3, a4, hF, rfl, hu⟩ := h
  exact ⟨_, rfl, ⟨a0, a1, a2, a3, a4, rfl, hF⟩, hu⟩
theorem run_enter {P : Program} {f : FuncId} {fn : Func} (hf : P.funcs[f]? = some fn) (hn : (fn.name == "runtime.NumGoroutine") = false) (hb : fn.body.isNone = false) (vs : Array Value) (w : World) : (callFunc f vs).run P w = .ok (.enter f vs) w := by
  have h1 : fn.name ≠ "runtime.NumGoroutine" := by simpa using hn
  have h2 : ¬ fn.body = none := by intro h; rw [h] at hb; cases hb
  simp [callFunc, go_sem, hf, h1, h2]
theorem enterOf (vs : Array Value) (w : World) : (callFunc 42 vs).run Tryd.prog w = .ok (.enter 42 vs) w := run_enter Tryd.func42 (by kernel_rfl) (by kernel_rfl) vs w
theorem enterBytes (vs : Array Value) (w : World) : (callFunc 48 vs).run Tryd.prog w = .ok (.enter 48 vs) w := run_enter Tryd.func48 (by kernel_rfl) (by kernel_rfl) vs w
theorem zeroE_run (w : World) : (zeroValue 39).run Tryd.prog w = .ok (.agg #[.int .u64 0, .int .u64 0, .int .u64 0, .int .u64 0, .int .u64 0]) w := by kernel_rfl
set_option maxRecDepth 100000 in
set_option maxHeartbeats 2000000 in
theorem canonical_any (l : List Int) (w : World) (hl : l.length = 32) (hd : Digs 256 l) :
    Calls Tryd.prog 60 #[.agg (numsA .u8 l)] w fun e w' => e = .returned (.bool (canonB l)) ∧ Upd (fun _ => False) w w' := by
  have hg := guardKey
  have e1 : ∀ w, (Op.equalIn 10000 23 (.agg (numsA .u8 (digits 256 32 (keyNum l % pp)))) (.agg (numsA .u8 l))).run Tryd.prog w = .ok (canonB l) w := fun w => eqKey _ _ (digits_length _ _ _) hl w
  have HA : Hid ((numsA .u8 l).size = 32) := by show _ = _; rw [numsA_size]; exact hl
  have Hk := Lib.hid (Blk.at1 w (numsA .u8 l) 23)
  have Hl := Lib.hid hl
  have Hd := Lib.hid hd
  clear hl hd
  go_enter Tryd.func60, Tryd.ntmps60
  go_wp2
  refine wp_region_slots #[true, true, true, true, true, true] ([.val (.agg (numsA .u8 l)), .elem (keyNum l), .val (.agg (numsA .u8 (digits 256 32 ((keyNum l) % pp)))), .val (.agg (numsA .u8 l)), .val (.bool (canonB l)), .val (.bool (canonB l))] : List SP) (by kernel_rfl) (by kernel_rfl) (by kernel_rfl) ?_ ?_
  · intro i o listed an wn ho hls hst hun hdep hI K' hK'
    have hi : i < 6 := by
      have := idx_lt ho; simp at this; omega
    have hcase : i = 0 ∨ i = 1 ∨ i = 2 ∨ i = 3 ∨ i = 4 ∨ i = 5 := by omega
    rcases hcase with rfl | rfl | rfl | rfl | rfl | rfl
    · obtain rfl := Option.some.inj ho
      exact hI.stepLoad (by kernel_rfl) hls rfl rfl rfl 23 1 rfl (by kernel_rfl) (w.heap.size) 32 rfl 23 (numsA .u8 l) Hk.out _ Tryd.underlying23 rfl sizeKey HA.out rfl rfl hK'
    · obtain rfl := Option.some.inj ho
      obtain ⟨vp, hvp, hsp⟩ := hI.have 0 _ 3 (.val (.agg (numsA .u8 l))) rfl rfl rfl (hdep ⟨0, .data⟩ (by simp) rfl)
      obtain rfl := hsp
      exact hI.stepCall (by kernel_rfl) hls rfl rfl rfl 42 #[.tmp 3] _ rfl #[.agg (numsA .u8 l)] (by simp [eval_of hvp]) enterOf (.elem (keyNum l)) rfl rfl ((of_any l _ (Hl.out) (Hd.out)).mono fun _ _ h => h.sp) hK'
    · obtain rfl := Option.some.inj ho
      obtain ⟨vp, hvp, p0, p1, p2, p3, p4, rfl, hFp⟩ := hI.have 1 _ 4 (.elem (keyNum l)) rfl rfl rfl (hdep ⟨1, .data⟩ (by simp) rfl)
      exact hI.stepCall (by kernel_rfl) hls rfl rfl rfl 48 #[.tmp 4] _ rfl #[.agg #[.int .u64 p0, .int .u64 p1, .int .u64 p2, .int .u64 p3, .int .u64 p4]] (by simp [eval_of hvp]) enterBytes (.val (.agg (numsA .u8 (digits 256 32 ((keyNum l) % pp))))) rfl rfl ((bytes_any p0 p1 p2 p3 p4 (keyNum l) _ hFp).mono fun _ _ h => ⟨_, h.1, rfl, h.2⟩) hK'
    · obtain rfl := Option.some.inj ho
      exact hI.stepLoad (by kernel_rfl) hls rfl rfl rfl 23 1 rfl (by kernel_rfl) (w.heap.size) 32 rfl 23 (numsA .u8 l) Hk.out _ Tryd.underlying23 rfl sizeKey HA.out rfl rfl hK'
    · obtain rfl := Option.some.inj ho
      obtain ⟨vp, hvp, hsp⟩ := hI.have 2 _ 5 (.val (.agg (numsA .u8 (digits 256 32 ((keyNum l) % pp))))) rfl rfl rfl (hdep ⟨2, .data⟩ (by simp) rfl)
      obtain rfl := hsp
      obtain ⟨vq, hvq, hsq⟩ := hI.have 3 _ 6 (.val (.agg (numsA .u8 l))) rfl rfl rfl (hdep ⟨3, .data⟩ (by simp) rfl)
      obtain rfl := hsq
      exact hI.stepPure (by kernel_rfl) hls rfl rfl rfl (.bool (canonB l)) (run_eqlKey rfl (eval_of hvp) (eval_of hvq) (digits_length _ _ _) (Hl.out) wn) rfl rfl hK'
    · obtain rfl := Option.some.inj ho
      obtain ⟨vp, hvp, hsp⟩ := hI.have 4 _ 7 (.val (.bool (canonB l))) rfl rfl rfl (hdep ⟨4, .data⟩ (by simp) rfl)
      obtain rfl := hsp
      exact hI.stepPure (by kernel_rfl) hls rfl rfl rfl (.bool (canonB l)) (by simp [execOp, eval_of hvp]) rfl rfl hK'
  · intro fuel an wn hf hI
    obtain ⟨v0, hv0, hs0⟩ := hI.have 0 _ 3 (.val (.agg (numsA .u8 l))) rfl rfl rfl rfl
    obtain rfl := hs0
    obtain ⟨v1, hv1, e1_0, e1_1, e1_2, e1_3, e1_4, rfl, hF1⟩ := hI.have 1 _ 4 (.elem (keyNum l)) rfl rfl rfl rfl
    obtain ⟨v2, hv2, hs2⟩ := hI.have 2 _ 5 (.val (.agg (numsA .u8 (digits 256 32 ((keyNum l) % pp))))) rfl rfl rfl rfl
    obtain rfl := hs2
    obtain ⟨v3, hv3, hs3⟩ := hI.have 3 _ 6 (.val (.agg (numsA .u8 l))) rfl rfl rfl rfl
    obtain rfl := hs3
    obtain ⟨v4, hv4, hs4⟩ := hI.have 4 _ 7 (.val (.bool (canonB l))) rfl rfl rfl rfl
    obtain rfl := hs4
    obtain ⟨v5, hv5, hs5⟩ := hI.have 5 _ 2 (.val (.bool (canonB l))) rfl rfl rfl rfl
    obtain rfl := hs5
    have hupd := hI.upd
    have ha := hI.act [(3, .agg (numsA .u8 l)), (4, .agg #[.int .u64 e1_0, .int .u64 e1_1, .int .u64 e1_2, .int .u64 e1_3, .int .u64 e1_4]), (5, .agg (numsA .u8 (digits 256 32 ((keyNum l) % pp)))), (6, .agg (numsA .u8 l)), (7, .bool (canonB l)), (2, .bool (canonB l))] (by simp [hv0, hv1, hv2, hv3, hv4, hv5]) (by kernel_rfl)
    clear hI hv0 hv1 hv2 hv3 hv4 hv5
    subst ha
    simp only [List.foldl_cons, List.foldl_nil, List.setIfInBounds_toArray, List.set_cons_zero, List.set_cons_succ]
    refine wpAny_done (by kernel_rfl) ?_ _
    go_wp2
    go_ret
    exact ⟨rfl, (((Upd.refl (fun _ => False) w).alloc _).drew).trans hupd⟩
end Go.Proofs.YthnpbodkcdbckaaDoor
