/-
  The statements' head: counts; Canonical.
-/
import Derived.Test.YtpjkmocabnnhaaaDoorBytes
import Derived.Test.YtpjkmocabnnhaaaDoorProd
namespace Go.Proofs.YtpjkmocabnnhaaaDoor
open Go.RowKit

/-- A small number's key. -/
def keyL (n : Int) : List Int := n :: List.replicate 31 0
theorem keyL_length (n : Int) : (keyL n).length = 32 := by simp [keyL]
theorem zeroK_set (n : Int) : zeroK.setIfInBounds 0 (.int .u8 n) = numsA .u8 (keyL n) := by
  show (List.replicate 32 (Value.int .u8 0)).toArray.setIfInBounds 0 (.int .u8 n) = _
  rfl
theorem Upd.range {T : Nat → Prop} {w w' : World} {b o : Nat} {cs : List Value} (hu : Upd T w w') (hb : ¬ T b) (h : w.rangeAt b o cs) : w'.rangeAt b o cs := fun j v hv => hu.cell (h j v hv) hb
theorem Blk.range {w : World} {b : Nat} {t : TypeId} {arr : Array Value} (h : Blk w b t arr) : w.rangeAt b 0 arr.toList := fun j v hv => by
  rw [h.cell, Nat.zero_add, ← hv, Array.getElem?_toList]
theorem guardKey : Tryd.prog.eqGuardType Tryd.prog.depth 23 = false := by kernel_rfl
theorem cellsOf_length (k : IntKind) (l : List Int) : (cellsOf k l).length = l.length := by simp [cellsOf]
theorem cellsOf_toArray (k : IntKind) (l : List Int) : (cellsOf k l).toArray = numsA k l := rfl
theorem cellsOf_one (k : IntKind) (l : List Int) : ∀ v ∈ cellsOf k l, v.oneCell' = true := by rw [← numsA_toList]; exact numsA_one k l

set_option maxRecDepth 100000 in
set_option maxHeartbeats 400000 in
theorem counts_any (w : World) : Calls Tryd.prog 7 #[] w fun e w' => e = .returned (.bool true) ∧ Upd (fun _ => False) w w' := by
  have hz := zeroK_run
  have hzs := zeroK_size
  have hset := zeroK_set
  have hg := guardKey
  have e1 : ∀ w, (Op.equalIn 10000 23 (.agg (numsA .u8 (digits 256 32 (5 % pp)))) (.agg (numsA .u8 (keyL 5)))).run Tryd.prog w = .ok true w := fun w => by
    rw [eqKey _ _ (digits_length _ _ _) (keyL_length _), show decide (digits 256 32 (5 % pp) = keyL 5) = true by decide +kernel]
  have e2 : ∀ w, (Op.equalIn 10000 23 (.agg (numsA .u8 (digits 256 32 (6 % pp)))) (.agg (numsA .u8 (keyL 6)))).run Tryd.prog w = .ok true w := fun w => by
    rw [eqKey _ _ (digits_length _ _ _) (keyL_length _), show decide (digits 256 32 (6 % pp) = keyL 6) = true by decide +kernel]
  have e3 : decide ((1 : Int) % pp = 2 % pp) = false := by decide +kernel
  have hund := Tryd.underlying23
  have hsz := sizeKey
  have hlen := cellsOf_length .u8 (keyL 5)
  rw [keyL_length] at hlen
  rw [← hlen] at hsz
  have hone := cellsOf_one .u8 (keyL 5)
  have harr := cellsOf_toArray .u8 (keyL 5)
  have HA : Hid ((numsA .u8 (keyL 5)).size = 32) := by show _ = _; rw [numsA_size, keyL_length]
  go_enter Tryd.func7, Tryd.ntmps7
  go_wp2_with (refine wpList_storeBlk2 rfl 23 _ _ rfl w.heap.size 0 32 rfl (numsA .u8 (keyL 5)) rfl 23 zeroK (Blk.at1 w _ _) sizeKey HA.out (by rw [zeroK_size]; omega) (numsA_one _ _) ?_; intro w1 hb1 hu1 hz1; rw [splice_all _ _ 32 zeroK_size HA.out] at hb1; have hr := hb1.range; rw [numsA_toList] at hr; have Hu := Lib.hid (((Upd.refl (fun _ => False) w).alloc _).step hu1 (fun i hi h => by omega)); clear hb1 hu1 hz1)
  go_region_held3 (fun w' => w'.rangeAt w.heap.size 0 (cellsOf .u8 (keyL 5))) (first | with_reducible exact Upd.range hu (fun h => h) ‹_› | with_reducible exact World.rangeAt_alloc ‹_› _ | go_keep_ranges) (first
    | (go_at_call 19; refine (small_any _ _ (by omega) (by omega)).mono ?_; rintro e w2 ⟨s0, s1, s2, s3, s4, hF, rfl, hu⟩)
    | (go_at_call 10; refine (add_any _ _ _ _ (ElsAt.mk2 _ _ _ _ _ _ _ _ _ _ _ 2 3 ?_ ?_)).mono ?_; assumption; assumption; rintro e w3 ⟨t0, t1, t2, t3, t4, hF', rfl, hu⟩; have hF : Fits t0 t1 t2 t3 t4 5 := hF'; clear hF')
    | (go_at_call 28; refine (mul_any _ _ _ _ _ _ _ _ _ _ 2 3 _ ?_ ?_).mono ?_; assumption; assumption; rintro e w3 ⟨t0, t1, t2, t3, t4, hF', rfl, hu⟩; have hF : Fits t0 t1 t2 t3 t4 6 := hF'; clear hF')
    | (go_at_call 11; refine (bytes_any _ _ _ _ _ 5 _ ?_).mono ?_; assumption; rintro e w3 ⟨rfl, hu⟩)
    | (go_at_call 11; refine (bytes_any _ _ _ _ _ 6 _ ?_).mono ?_; assumption; rintro e w3 ⟨rfl, hu⟩)
    | (go_at_call 18; refine (equal_any _ _ _ _ _ _ _ _ _ _ 1 2 _ ?_ ?_).mono ?_; assumption; assumption; rintro e w3 ⟨rfl, hu⟩))
  all_goals
    go_wp2
    go_ret
    refine ⟨rfl, ?_⟩
    have hu0 := Hu.out
    repeat (first | with_reducible assumption | with_reducible exact Upd.refl _ _ | with_reducible apply Upd.drew | with_reducible apply Upd.alloc | with_reducible refine Upd.trans ?_ ‹_›)
end Go.Proofs.YtpjkmocabnnhaaaDoor
