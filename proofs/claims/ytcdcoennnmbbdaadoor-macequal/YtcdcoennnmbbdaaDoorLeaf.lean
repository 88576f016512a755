/-
  Walks of SHA-256's leaves: bits.RotateLeft32, high256, low256, word32.
-/
import Derived.Test.YtcdcoennnmbbdaaDoorProg
import Derived.Test.YtcdcoennnmbbdaaDoorSpec
namespace Go.Proofs.YtcdcoennnmbbdaaDoor
open Go.RowKit

set_option maxHeartbeats 400000 in
theorem rot_any (x k : Int) (n : Nat) (h1 : 1 ≤ n) (h2 : n ≤ 31) (hk : bits .and .u64 (IntKind.u64.wrap k) 31 = (32 - n : Nat)) (w : World) :
    Calls Tryd.prog 44 #[.int .u32 x, .int .i64 k] w fun e w' => e = .returned (.int .u32 (rotr n x)) ∧ w = w' := by
  go_enter Tryd.func44, Tryd.ntmps44
  go_wp2
  go_ret
  have e : 32 - (32 - n) = n := by omega
  exact ⟨ret_int (by unfold rotr; rw [e]), rfl⟩

set_option maxHeartbeats 400000 in
theorem high256_any (x : Int) (w : World) :
    Calls Tryd.prog 34 #[.int .u32 x] w fun e w' => e = .returned (.int .u32 (big256 6 11 25 x)) ∧ w = w' := by
  go_enter Tryd.func34, Tryd.ntmps34
  go_wp2_with fail
  refine (rot_any _ _ 6 (by omega) (by omega) (by decide) _).mono ?_
  rintro e w' ⟨rfl, rfl⟩
  go_wp2_with fail
  refine (rot_any _ _ 11 (by omega) (by omega) (by decide) _).mono ?_
  rintro e w' ⟨rfl, rfl⟩
  go_wp2_with fail
  refine (rot_any _ _ 25 (by omega) (by omega) (by decide) _).mono ?_
  rintro e w' ⟨rfl, rfl⟩
  go_wp2_with fail
  go_ret
  exact ⟨rfl, rfl⟩
set_option maxHeartbeats 400000 in
theorem low256_any (x : Int) (w : World) :
    Calls Tryd.prog 35 #[.int .u32 x] w fun e w' => e = .returned (.int .u32 (big256 2 13 22 x)) ∧ w = w' := by
  go_enter Tryd.func35, Tryd.ntmps35
  go_wp2_with fail
  refine (rot_any _ _ 2 (by omega) (by omega) (by decide) _).mono ?_
  rintro e w' ⟨rfl, rfl⟩
  go_wp2_with fail
  refine (rot_any _ _ 13 (by omega) (by omega) (by decide) _).mono ?_
  rintro e w' ⟨rfl, rfl⟩
  go_wp2_with fail
  refine (rot_any _ _ 22 (by omega) (by omega) (by decide) _).mono ?_
  rintro e w' ⟨rfl, rfl⟩
  go_wp2_with fail
  go_ret
  exact ⟨rfl, rfl⟩

set_option maxHeartbeats 400000 in
theorem word32_any (b off len cap : Nat) (f : Nat → Int) (w : World) (hl : 4 ≤ len)
   (hc : ∀ j, j < 4 → w.cell? ⟨b, off + j, none⟩ = some (.int .u8 (f j))) :
    Calls Tryd.prog 43 #[.slice (some ⟨b, off, none⟩) len cap] w fun e w' => e = .returned (.int .u32 (word32 f)) ∧ ∃ n, w' = w.drewN n := by
  have h0 : w.cell? ⟨b, off, none⟩ = some (.int .u8 (f 0)) := hc 0 (by omega)
  have h1 := hc 1 (by omega)
  have h2 := hc 2 (by omega)
  have h3 := hc 3 (by omega)
  clear hc
  go_enter Tryd.func43, Tryd.ntmps43
  go_wp2
  go_quiet (fail)
  go_wp2
  go_ret
  exact ⟨rfl, _, rfl⟩
end Go.Proofs.YtcdcoennnmbbdaaDoor
