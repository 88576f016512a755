/-
  Bits that don't count: the highest of a number, those that are clamped. No program.
-/
import Derived.Test.YtdpafemcpbhlfaaDoorPv
import Derived.Test.YtdpafemcpbhlfaaDoorLadEval
namespace Go.Proofs.YtdpafemcpbhlfaaDoor
set_option maxRecDepth 100000
open Go.RowKit

theorem xor128 (x : Int) (h : 0 ≤ x ∧ x < 256) : bits .xor .u8 x 128 % 128 = x % 128 := by
  have : ∀ n : Fin 256, bits .xor .u8 (n.val : Int) 128 % 128 = (n.val : Int) % 128 := by decide +kernel
  have h2 := this ⟨x.toNat, by omega⟩
  simp only [Int.toNat_of_nonneg h.1] at h2
  exact h2
theorem xor5 (x : Int) (h : 0 ≤ x ∧ x < 256) : bits .xor .u8 x 5 - bits .xor .u8 x 5 % 8 = x - x % 8 := by
  have : ∀ n : Fin 256, bits .xor .u8 (n.val : Int) 5 - bits .xor .u8 (n.val : Int) 5 % 8 = (n.val : Int) - (n.val : Int) % 8 := by decide +kernel
  have h2 := this ⟨x.toNat, by omega⟩
  simp only [Int.toNat_of_nonneg h.1] at h2
  exact h2
theorem xor192 (x : Int) (h : 0 ≤ x ∧ x < 256) : bits .xor .u8 x 192 % 64 = x % 64 := by
  have : ∀ n : Fin 256, bits .xor .u8 (n.val : Int) 192 % 64 = (n.val : Int) % 64 := by decide +kernel
  have h2 := this ⟨x.toNat, by omega⟩
  simp only [Int.toNat_of_nonneg h.1] at h2
  exact h2
theorem list32 {l : List Int} (h : l.length = 32) : l = l.take 31 ++ [l.getD 31 0] := by
  apply List.ext_getElem?
  intro i
  by_cases hi : i < 31
  · rw [List.getElem?_append_left (by simp; omega), List.getElem?_take_of_lt hi]
  · by_cases e : i = 31
    · subst e
      rw [List.getElem?_append_right (by simp; omega)]
      simp [h, List.getD_eq_getElem?_getD]
    · rw [List.getElem?_eq_none (by omega), List.getElem?_eq_none (by simp; omega)]
/-- The highest bit doesn't count. -/
theorem ofKey_high {u : List Int} (hu : u.length = 32) (du : Digs 256 u) : ofKey (u.set 31 (bits .xor .u8 (u.getD 31 0) 128)) = ofKey u := by
  have hb := du.get (B := 256) (by omega) 31
  have hx := xor128 _ hb
  unfold ofKey
  congr 1
  unfold keyNum
  have e : u.set 31 (bits .xor .u8 (u.getD 31 0) 128) = u.take 31 ++ [bits .xor .u8 (u.getD 31 0) 128] := by
    conv => lhs; rw [list32 hu]
    rw [List.set_append_right _ _ (by simp; omega)]
    simp [hu]
  rw [e]
  conv => rhs; rw [list32 hu]
  rw [dig_append, dig_append, List.length_take, hu, show min 31 32 = 31 from rfl]
  simp only [dig]
  rw [show (256 : Int) ^ 31 = 452312848583266388373324160190187140051835877600158453279131187530910662656 by decide]
  generalize bits .xor .u8 (u.getD 31 0) 128 = y at *
  generalize u.getD 31 0 = x at *
  generalize dig 256 (u.take 31) = r at *
  omega
/-- What is clamped doesn't count. -/
theorem clampL_more {a : List Int} (ha : a.length = 32) (da : Digs 256 a) : clampL ((a.set 0 (bits .xor .u8 (a.getD 0 0) 5)).set 31 (bits .xor .u8 ((a.set 0 (bits .xor .u8 (a.getD 0 0) 5)).getD 31 0) 192)) = clampL a := by
  have h0 := xor5 _ (da.get (B := 256) (by omega) 0)
  have e31 : (a.set 0 (bits .xor .u8 (a.getD 0 0) 5)).getD 31 0 = a.getD 31 0 := getD_set_ne _ _ _ _ (by omega)
  have h31 := xor192 _ (da.get (B := 256) (by omega) 31)
  rw [e31]
  generalize hX : bits .xor .u8 (a.getD 0 0) 5 = X at *
  generalize hY : bits .xor .u8 (a.getD 31 0) 192 = Y at *
  have g0 : ((a.set 0 X).set 31 Y).getD 0 0 = X := by simp [List.getD_eq_getElem?_getD, ha]
  have g31 : ((a.set 0 X).set 31 Y).getD 31 0 = Y := by simp [List.getD_eq_getElem?_getD, ha]
  unfold clampL
  rw [g0, g31, h0, h31]
  apply List.ext_getElem?
  intro i
  simp only [List.getElem?_set, List.length_set]
  by_cases i31 : 31 = i
  · simp [i31]
  · by_cases i0 : 0 = i
    · simp [i31, i0]
    · simp [i31, i0]
end Go.Proofs.YtdpafemcpbhlfaaDoor
