/-
  Two curves are one. No program.
-/
import Derived.Test.YtdpafemcpbhlfaaDoorPtBase
import Derived.Test.YtdpafemcpbhlfaaDoorLad2
namespace Go.Proofs.YtdpafemcpbhlfaaDoor
set_option maxRecDepth 100000
open Go.RowKit

theorem and8_127 (x : Int) (h : 0 ≤ x ∧ x < 256) : bits .and .u8 x 127 = x % 128 := by
  have : ∀ n : Fin 256, bits .and .u8 (n.val : Int) 127 = (n.val : Int) % 128 := by decide +kernel
  have h2 := this ⟨x.toNat, by omega⟩
  simp only [Int.toNat_of_nonneg h.1] at h2
  exact h2
theorem and8_bnd (x y : Int) (hx : 0 ≤ x ∧ x < 256) (hy : y = 127) : 0 ≤ bits .and .u8 x y ∧ bits .and .u8 x y < 256 := by
  subst hy
  rw [and8_127 x hx]
  omega
theorem montP : Mont (-1) dC (-486664) 1 486662 := ⟨goodP, by decide +kernel, by grobner, by grobner, by
  rw [dC_fv]
  decide +kernel⟩
theorem u_base : uOf 1 eB = 9 := by
  show (1 + yB) * finv (1 * (1 - yB)) = 9
  rw [finv_eq (y := 5) (by decide +kernel)]
  decide +kernel
theorem clamp_clamp {l : List Int} (hl : l.length = 32) (hd : Digs 256 l) : clampL (clampL l) = clampL l := by
  have g0 := hd.get (B := 256) (by omega) 0
  have g1 := hd.get (B := 256) (by omega) 31
  have e0 : (clampL l).getD 0 0 = l.getD 0 0 - l.getD 0 0 % 8 := by rw [clampL_get hl hd, if_pos rfl]
  have e31 : (clampL l).getD 31 0 = l.getD 31 0 % 64 + 64 := by rw [clampL_get hl hd, if_neg (by decide), if_pos rfl]
  have hL : (clampL l).length = 32 := (clampL_length l).trans hl
  show ((clampL l).set 0 ((clampL l).getD 0 0 - (clampL l).getD 0 0 % 8)).set 31 ((clampL l).getD 31 0 % 64 + 64) = clampL l
  rw [show (clampL l).getD 0 0 - (clampL l).getD 0 0 % 8 = (clampL l).getD 0 0 by rw [e0]; omega, show (clampL l).getD 31 0 % 64 + 64 = (clampL l).getD 31 0 by rw [e31]; omega, set_getD (by omega), set_getD (by omega)]
theorem curves_eq {k : List Int} (hl : k.length = 32) (hd : Digs 256 k) :
    (fv 1 + ofKey ((encP (eB.times (expo (clampL k)))).set 31 (bits .and .u8 ((encP (eB.times (expo (clampL k)))).getD 31 0) 127))) * finv (fv 1 - ofKey ((encP (eB.times (expo (clampL k)))).set 31 (bits .and .u8 ((encP (eB.times (expo (clampL k)))).getD 31 0) 127))) = ladV (clampL (clampL k)) (ofKey keyG0) := by
  generalize hE : eB.times (expo (clampL k)) = E
  have h1 : (encP E).set 31 (bits .and .u8 ((encP E).getD 31 0) 127) = keyOf E.y := by
    rw [and8_127 _ ((encP_digs E).get (B := 256) (by omega) 31)]
    exact lowK_encL E.x E.y
  have h9 : ofKey keyG0 = 9 := by decide +kernel
  have h2 := ladV_mul montP eB (clampL k) (clamped_of hl hd)
  rw [u_base] at h2
  have h3 : eB.mul montP.good (expo (clampL k)) = E := hE
  rw [h1, ofKey_keyOf, clamp_clamp hl hd, h9, h2, h3, fv_one]
  unfold uOf
  rw [show (1 : Fp) * (1 - E.y) = 1 - E.y by grobner]
end Go.Proofs.YtdpafemcpbhlfaaDoor
