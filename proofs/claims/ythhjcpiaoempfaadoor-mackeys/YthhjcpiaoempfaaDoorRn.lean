/-
  The reference's words, rounds and states are the program's. No program.
-/
import Derived.Test.YthhjcpiaoempfaaDoorRm
namespace Go.Proofs.YthhjcpiaoempfaaDoor
open Go.RowKit

theorem wrapU64_in {x : Int} (h : 0 ≤ x ∧ x < 18446744073709551616) : IntKind.wrap .u64 x = x := by rw [wrapU64]; omega
/-- The reference's mixtures. -/
theorem lowR_eq {x : Int} (hx : W32 x) (i j k : Nat) (hi : 1 ≤ i ∧ i ≤ 31) (hj : 1 ≤ j ∧ j ≤ 31) (hk : k ≤ 32) : mixR (tnR x i) (tnR x j) (IntKind.wrap .u64 (Int.tdiv x (pw k))) = bits .xor .u32 (bits .xor .u32 (rotM x ((32 - i : Nat) : Int)) (rotM x ((32 - j : Nat) : Int))) (sShr .u32 x (k : Int)) ∧ W32 (bits .xor .u32 (bits .xor .u32 (rotM x ((32 - i : Nat) : Int)) (rotM x ((32 - j : Nat) : Int))) (sShr .u32 x (k : Int))) := by
  have a := tnR_eq i hi hx
  have b := tnR_eq j hj hx
  have c := shr_nat k hk hx
  rw [a.1, b.1, c.1]
  exact mixR_eq a.2 b.2 c.2
theorem bigR_eq {x : Int} (hx : W32 x) (i j k : Nat) (hi : 1 ≤ i ∧ i ≤ 31) (hj : 1 ≤ j ∧ j ≤ 31) (hk : 1 ≤ k ∧ k ≤ 31) : mixR (tnR x i) (tnR x j) (tnR x k) = bits .xor .u32 (bits .xor .u32 (rotM x ((32 - i : Nat) : Int)) (rotM x ((32 - j : Nat) : Int))) (rotM x ((32 - k : Nat) : Int)) ∧ W32 (bits .xor .u32 (bits .xor .u32 (rotM x ((32 - i : Nat) : Int)) (rotM x ((32 - j : Nat) : Int))) (rotM x ((32 - k : Nat) : Int))) := by
  have a := tnR_eq i hi hx
  have b := tnR_eq j hj hx
  have c := tnR_eq k hk hx
  rw [a.1, b.1, c.1]
  exact mixR_eq a.2 b.2 c.2
def extR (l : List Int) (i : Nat) : Int := keepR (IntKind.wrap .u64 (IntKind.wrap .u64 (IntKind.wrap .u64 (l.getD (i - 16) 0 + mixR (tnR (l.getD (i - 15) 0) 7) (tnR (l.getD (i - 15) 0) 18) (IntKind.wrap .u64 (Int.tdiv (l.getD (i - 15) 0) (pw 3)))) + l.getD (i - 7) 0) + mixR (tnR (l.getD (i - 2) 0) 17) (tnR (l.getD (i - 2) 0) 19) (IntKind.wrap .u64 (Int.tdiv (l.getD (i - 2) 0) (pw 10)))))
def AllW (l : List Int) : Prop := ∀ j, W32 (l.getD j 0)
theorem AllW.set {l : List Int} (h : AllW l) (i : Nat) {x : Int} (hx : W32 x) : AllW (l.set i x) := by
  intro j
  rw [List.getD_eq_getElem?_getD, List.getElem?_set]
  split
  · split
    · exact hx
    · exact W32.zero
  · rw [← List.getD_eq_getElem?_getD]; exact h j
theorem extR_eq {l : List Int} (h : AllW l) (i : Nat) : l.set i (extR l i) = extL l i ∧ AllW (extL l i) := by
  unfold extL
  have a := lowR_eq (h (i - 15)) 7 18 3 (by omega) (by omega) (by omega)
  have b := lowR_eq (h (i - 2)) 17 19 10 (by omega) (by omega) (by omega)
  have h7 := h (i - 7)
  have h16 := h (i - 16)
  have a2 := a.2
  have b2 := b.2
  refine ⟨?_, h.set i (W32.wrap _)⟩
  congr 1
  unfold extR
  rw [a.1, b.1, keepR_eq (by rw [wrapU64]; exact Int.emod_nonneg _ (by omega))]
  show _ = IntKind.wrap .u32 (IntKind.wrap .u32 (IntKind.wrap .u32 (bits .xor .u32 (bits .xor .u32 (rotM (l.getD (i - 2) 0) ((32 - 17 : Nat) : Int)) (rotM (l.getD (i - 2) 0) ((32 - 19 : Nat) : Int))) (sShr .u32 (l.getD (i - 2) 0) ((10 : Nat) : Int)) + l.getD (i - 7) 0) + bits .xor .u32 (bits .xor .u32 (rotM (l.getD (i - 15) 0) ((32 - 7 : Nat) : Int)) (rotM (l.getD (i - 15) 0) ((32 - 18 : Nat) : Int))) (sShr .u32 (l.getD (i - 15) 0) ((3 : Nat) : Int))) + l.getD (i - 16) 0)
  generalize bits .xor .u32 (bits .xor .u32 (rotM (l.getD (i - 2) 0) ((32 - 17 : Nat) : Int)) (rotM (l.getD (i - 2) 0) ((32 - 19 : Nat) : Int))) (sShr .u32 (l.getD (i - 2) 0) ((10 : Nat) : Int)) = Y at *
  generalize bits .xor .u32 (bits .xor .u32 (rotM (l.getD (i - 15) 0) ((32 - 7 : Nat) : Int)) (rotM (l.getD (i - 15) 0) ((32 - 18 : Nat) : Int))) (sShr .u32 (l.getD (i - 15) 0) ((3 : Nat) : Int)) = X at *
  unfold W32 at *
  simp only [wrapU32, wrapU64]
  omega
def oneR (w s : List Int) (i : Nat) : Int := IntKind.wrap .u64 (IntKind.wrap .u64 (IntKind.wrap .u64 (IntKind.wrap .u64 (s.getD 7 0 + mixR (tnR (s.getD 4 0) 6) (tnR (s.getD 4 0) 11) (tnR (s.getD 4 0) 25)) + bits .or .u64 (bits .and .u64 (s.getD 4 0) (s.getD 5 0)) (bits .and .u64 (keepR (IntKind.wrap .u64 (18446744073709551615 - s.getD 4 0))) (s.getD 6 0))) + IntKind.wrap .u64 (Int.tdiv (tabR.getD i 0) (pw 32))) + w.getD i 0)
def twoR (s : List Int) : Int := IntKind.wrap .u64 (mixR (tnR (s.getD 0 0) 2) (tnR (s.getD 0 0) 13) (tnR (s.getD 0 0) 22) + bits .or .u64 (bits .or .u64 (bits .and .u64 (s.getD 0 0) (s.getD 1 0)) (bits .and .u64 (s.getD 0 0) (s.getD 2 0))) (bits .and .u64 (s.getD 1 0) (s.getD 2 0)))
def rdR (w s : List Int) (i : Nat) : List Int := [keepR (IntKind.wrap .u64 (oneR w s i + twoR s)), s.getD 0 0, s.getD 1 0, s.getD 2 0, keepR (IntKind.wrap .u64 (s.getD 3 0 + oneR w s i)), s.getD 4 0, s.getD 5 0, s.getD 6 0]
theorem tabR_in : ∀ j, 0 ≤ tabR.getD j 0 ∧ tabR.getD j 0 < 18446744073709551616 := by
  intro j
  by_cases h : j < 80
  · have : ∀ j : Fin 80, 0 ≤ tabR.getD j.val 0 ∧ tabR.getD j.val 0 < 18446744073709551616 := by decide +kernel
    exact this ⟨j, h⟩
  · rw [List.getD_eq_getElem?_getD, List.getElem?_eq_none (show tabR.length ≤ j from Nat.le_of_not_lt h)]
    exact ⟨by decide, by decide⟩
theorem all8 {a b c d e f g h : Int} (ha : W32 a) (hb : W32 b) (hc : W32 c) (hd : W32 d) (he : W32 e) (hf : W32 f) (hg : W32 g) (hh : W32 h) : AllW [a, b, c, d, e, f, g, h] := by
  intro j
  match j with
  | 0 => exact ha
  | 1 => exact hb
  | 2 => exact hc
  | 3 => exact hd
  | 4 => exact he
  | 5 => exact hf
  | 6 => exact hg
  | 7 => exact hh
  | _ + 8 => exact W32.zero
theorem rdR_eq {w s : List Int} (hs : AllW s) (i : Nat) : rdR w s i = rdS w s i ∧ AllW (rdS w s i) := by
  have a := bigR_eq (hs 4) 6 11 25 (by omega) (by omega) (by omega)
  have b := bigR_eq (hs 0) 2 13 22 (by omega) (by omega) (by omega)
  have c := choose_eq (hs 4) (hs 5) (hs 6)
  have m := most_eq (hs 0) (hs 1) (hs 2)
  have hk := tabR_in i
  have k1 : IntKind.wrap .u64 (Int.tdiv (tabR.getD i 0) (pw 32)) = tabR.getD i 0 / 4294967296 := by
    rw [Int.tdiv_eq_ediv_of_nonneg hk.1, wrapU64]
    show tabR.getD i 0 / 4294967296 % 18446744073709551616 = _
    omega
  have k2 : IntKind.wrap .u32 (sShr .u64 (tabR.getD i 0) 32) = tabR.getD i 0 / 4294967296 := by
    unfold sShr
    rw [show (2 : Int) ^ min (32 : Int).toNat (IntKind.bits .u64) = 4294967296 by decide, Int.fdiv_eq_ediv_of_nonneg _ (by omega), wrapU32]
    omega
  have h1 : oneR w s i % 4294967296 = rdT w s i := by
    unfold oneR rdT
    rw [k1, k2, a.1, c.1]
    show _ = IntKind.wrap .u32 (IntKind.wrap .u32 (IntKind.wrap .u32 (IntKind.wrap .u32 (s.getD 7 0 + bits .xor .u32 (bits .xor .u32 (rotM (s.getD 4 0) ((32 - 6 : Nat) : Int)) (rotM (s.getD 4 0) ((32 - 11 : Nat) : Int))) (rotM (s.getD 4 0) ((32 - 25 : Nat) : Int))) + bits .xor .u32 (bits .and .u32 (s.getD 4 0) (s.getD 5 0)) (bits .and .u32 (bits .xor .u32 4294967295 (s.getD 4 0)) (s.getD 6 0))) + tabR.getD i 0 / 4294967296) + w.getD i 0)
    generalize bits .xor .u32 (bits .xor .u32 (rotM (s.getD 4 0) ((32 - 6 : Nat) : Int)) (rotM (s.getD 4 0) ((32 - 11 : Nat) : Int))) (rotM (s.getD 4 0) ((32 - 25 : Nat) : Int)) = X at *
    generalize bits .xor .u32 (bits .and .u32 (s.getD 4 0) (s.getD 5 0)) (bits .and .u32 (bits .xor .u32 4294967295 (s.getD 4 0)) (s.getD 6 0)) = Y at *
    generalize tabR.getD i 0 / 4294967296 = Z at *
    simp only [wrapU32, wrapU64]
    omega
  have h2 : twoR s % 4294967296 = rdU s := by
    unfold twoR rdU
    rw [b.1, m.1]
    show _ = IntKind.wrap .u32 (bits .xor .u32 (bits .xor .u32 (rotM (s.getD 0 0) ((32 - 2 : Nat) : Int)) (rotM (s.getD 0 0) ((32 - 13 : Nat) : Int))) (rotM (s.getD 0 0) ((32 - 22 : Nat) : Int)) + bits .xor .u32 (bits .xor .u32 (bits .and .u32 (s.getD 0 0) (s.getD 1 0)) (bits .and .u32 (s.getD 0 0) (s.getD 2 0))) (bits .and .u32 (s.getD 1 0) (s.getD 2 0)))
    generalize bits .xor .u32 (bits .xor .u32 (rotM (s.getD 0 0) ((32 - 2 : Nat) : Int)) (rotM (s.getD 0 0) ((32 - 13 : Nat) : Int))) (rotM (s.getD 0 0) ((32 - 22 : Nat) : Int)) = X at *
    generalize bits .xor .u32 (bits .xor .u32 (bits .and .u32 (s.getD 0 0) (s.getD 1 0)) (bits .and .u32 (s.getD 0 0) (s.getD 2 0))) (bits .and .u32 (s.getD 1 0) (s.getD 2 0)) = Y at *
    simp only [wrapU32, wrapU64]
    omega
  refine ⟨?_, all8 (W32.wrap _) (hs 0) (hs 1) (hs 2) (W32.wrap _) (hs 4) (hs 5) (hs 6)⟩
  unfold rdR rdS
  rw [← h1, ← h2]
  generalize oneR w s i = X
  generalize twoR s = Y
  have e1 : keepR (IntKind.wrap .u64 (X + Y)) = IntKind.wrap .u32 (X % 4294967296 + Y % 4294967296) := by
    rw [keepR_eq (by rw [wrapU64]; exact Int.emod_nonneg _ (by omega)), wrapU64, wrapU32]; omega
  have e2 : keepR (IntKind.wrap .u64 (s.getD 3 0 + X)) = IntKind.wrap .u32 (s.getD 3 0 + X % 4294967296) := by
    rw [keepR_eq (by rw [wrapU64]; exact Int.emod_nonneg _ (by omega)), wrapU64, wrapU32]; omega
  rw [e1, e2]
theorem rdN_all {w s : List Int} (hs : AllW s) : ∀ i, AllW (rdN w s i)
  | 0 => hs
  | i + 1 => (rdR_eq (rdN_all hs i) i).2
theorem addS_all {s r : List Int} (hs : AllW s) : ∀ j, AllW (addS s r j)
  | 0 => hs
  | j + 1 => (addS_all hs j).set j (W32.wrap _)
theorem firL_all {b : List Int} (hb : ∀ j, B8 (b.getD j 0)) : ∀ k, AllW (firL b k)
  | 0 => by
    intro j
    unfold firL
    rw [List.getD_eq_getElem?_getD, List.getElem?_replicate]
    split <;> exact W32.zero
  | k + 1 => (firL_all hb k).set k (wordR_eq _ (fun j => by rw [List.getD_eq_getElem?_getD, List.getElem?_drop, ← List.getD_eq_getElem?_getD]; exact hb _)).2
theorem wrdL_all {b : List Int} (hb : ∀ j, B8 (b.getD j 0)) : ∀ k, AllW (wrdL b k)
  | 0 => firL_all hb 16
  | k + 1 => (extR_eq (wrdL_all hb k) (16 + k)).2
theorem firL_len (b : List Int) : ∀ k, (firL b k).length = 64
  | 0 => by simp [firL]
  | k + 1 => by rw [firL, List.length_set, firL_len b k]
theorem wrdL_len (b : List Int) : ∀ k, (wrdL b k).length = 64
  | 0 => firL_len b 16
  | k + 1 => by rw [wrdL, extL, List.length_set, wrdL_len b k]
theorem rdN_len (w : List Int) {s : List Int} (hs : s.length = 8) : ∀ i, (rdN w s i).length = 8
  | 0 => hs
  | _ + 1 => rfl
theorem addS_len (s r : List Int) : ∀ j, (addS s r j).length = s.length
  | 0 => rfl
  | j + 1 => by rw [addS, List.length_set, addS_len s r j]
theorem blockH_all {s b : List Int} (hs : AllW s) : AllW (blockH s b) := addS_all hs 8
theorem blockH_len (s b : List Int) : (blockH s b).length = s.length := addS_len _ _ 8
end Go.Proofs.YthhjcpiaoempfaaDoor
