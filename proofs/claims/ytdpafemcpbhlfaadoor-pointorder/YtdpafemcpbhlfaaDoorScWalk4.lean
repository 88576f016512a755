/-
  Walks of addTimes, Canonical, Clamp.
-/
import Derived.Test.YtdpafemcpbhlfaaDoorScWalk3
namespace Go.Proofs.YtdpafemcpbhlfaaDoor.Sc
set_option maxRecDepth 100000
open Go.RowKit

/-- Words as they are after k rounds of addTimes, from word i on. -/
structure TimesR (S M T : List Int) (i : Nat) (tm : Int) (k : Nat) (c : Int) : Prop where
  len : M.length = 16
  digs : Digs 4294967296 M
  same : ∀ j, i + k ≤ j → M.getD j 0 = S.getD j 0
  c0 : 0 ≤ c
  c1 : c < 4294967296
  eq : dig 4294967296 M + 4294967296 ^ (i + k) * c = dig 4294967296 S + 4294967296 ^ i * (tm * dig 4294967296 (T.take k))
theorem TimesR.start {S : List Int} (hl : S.length = 16) (hd : Digs 4294967296 S) (T : List Int) (i : Nat) (tm : Int) : TimesR S S T i tm 0 0 := ⟨hl, hd, fun _ _ => rfl, by omega, by omega, by simp [dig]⟩
theorem mul_bd32 {x y : Int} (hx : 0 ≤ x ∧ x < 4294967296) (hy : 0 ≤ y ∧ y < 4294967296) : 0 ≤ x * y ∧ x * y ≤ 18446744065119617025 := by
  refine ⟨Int.mul_nonneg hx.1 hy.1, ?_⟩
  have h1 : x * y ≤ 4294967295 * y := Int.mul_le_mul_of_nonneg_right (by omega) hy.1
  have h2 : 4294967295 * y ≤ 4294967295 * 4294967295 := Int.mul_le_mul_of_nonneg_left (by omega) (by omega)
  omega
theorem TimesR.step {S M T : List Int} {i k : Nat} {tm c : Int} (h : TimesR S M T i tm k c) (hi : i + k < 16) (hk : k < T.length) (hT : Digs 4294967296 T) (ht : 0 ≤ tm ∧ tm < 4294967296) :
    TimesR S (M.set (i + k) ((S.getD (i + k) 0 + T.getD k 0 * tm + c) % 4294967296)) T i tm (k + 1) ((S.getD (i + k) 0 + T.getD k 0 * tm + c) / 4294967296) := by
  have hs := h.same (i + k) (by omega)
  have hb := h.digs.get (B := 4294967296) (by omega) (i + k)
  have hm := mul_bd32 (hT.get (B := 4294967296) (by omega) k) ht
  have h0 := h.c0
  have h1 := h.c1
  have he := h.eq
  rw [hs] at hb
  refine ⟨by rw [List.length_set]; exact h.len, digs_set h.digs _ _ (by omega) (by omega), fun j hj => by rw [getD_set_ne _ _ _ _ (by omega)]; exact h.same j (by omega), by omega, by omega, ?_⟩
  rw [dig_set _ _ _ _ (by rw [h.len]; exact hi), hs, dig_take_succ _ _ _ hk, show i + (k + 1) = i + k + 1 by omega, Int.pow_succ]
  have e2 : (4294967296 : Int) ^ i * (tm * (dig 4294967296 (T.take k) + 4294967296 ^ k * T.getD k 0)) = 4294967296 ^ i * (tm * dig 4294967296 (T.take k)) + 4294967296 ^ (i + k) * (T.getD k 0 * tm) := by
    rw [Int.pow_add]
    generalize (4294967296 : Int) ^ i = a
    generalize (4294967296 : Int) ^ k = b
    generalize T.getD k 0 = y
    generalize dig 4294967296 (T.take k) = v
    grind
  rw [e2, ← Int.add_assoc, ← he]
  generalize S.getD (i + k) 0 = l at *
  generalize T.getD k 0 * tm = q at *
  generalize (4294967296 : Int) ^ (i + k) = z at *
  have e3 : z * ((l + q + c) % 4294967296 - l) + z * 4294967296 * ((l + q + c) / 4294967296) = z * (q + c) := by
    rw [Int.mul_assoc, ← Int.mul_add]
    congr 1
    omega
  have e4 : z * (q + c) = z * q + z * c := Int.mul_add _ _ _
  omega
set_option maxHeartbeats 2000000 in
theorem addTimes_any (b i mb : Nat) (t u : TypeId) (S T : List Int) (tm : Int) (w : World) (hi : i < 8) (hne : b ≠ mb) (hb : Blk w b t (numsA .u32 S)) (hm : Blk w mb u (numsA .u32 T)) (hl : S.length = 16) (hd : Digs 4294967296 S) (hz : S.getD (i + 8) 0 = 0) (hTl : T.length = 8) (hTd : Digs 4294967296 T) (ht : 0 ≤ tm ∧ tm < 4294967296) :
    Calls Tryd.prog 74 #[.slice (some ⟨b, i, none⟩) (16 - i) (16 - i), .slice (some ⟨mb, 0, none⟩) 8 8, .int .u32 tm] w fun e w' => ∃ M : List Int, e = .returned (.tuple #[]) ∧ WRel w w' b t M ∧ M.length = 16 ∧ Digs 4294967296 M ∧ (∀ j, i + 8 < j → M.getD j 0 = S.getD j 0) ∧ dig 4294967296 M = dig 4294967296 S + 4294967296 ^ i * (tm * dig 4294967296 T) := by
  have Hs := Lib.hid (TimesR.start hl hd T i tm)
  have Hb := Lib.hid hb
  have Hm := Lib.hid hm
  have Ht := Lib.hid ht
  have HTl := Lib.hid hTl
  have HTd := Lib.hid hTd
  have Hz := Lib.hid hz
  clear hb hm hl hd hTl hTd hz
  obtain ⟨ht0, ht1⟩ := ht
  go_enter Tryd.func74, Tryd.ntmps74
  go_wp2
  go_loopw [6, 12] (fun c j wr => ∃ (k : Nat) (M : List Int) (cc : Int), k ≤ 8 ∧ j = .int .i64 k ∧ c = .int .u64 cc ∧ TimesR S M T i tm k cc ∧ WRel w wr b t M) (fun _ j _ => 8 - (intOf j).toNat)
  case atStart => exact ⟨0, S, 0, by omega, rfl, rfl, Hs.out, ⟨Upd.refl _ w, Hb.out⟩⟩
  case round =>
    clear Hs Hb
    obtain ⟨k, M, cc, hk, rfl, rfl, htim, hrel⟩ := hrel
    have hfr := hrel.d.frozen
    by_cases hlt : k < 8
    · have c1 := hrel.cell 16 (i + k) htim.len (by omega)
      have c2 : wr.cell? ⟨mb, k, none⟩ = some (.int .u32 (T.getD k 0)) := by rw [(hrel.upd.blk Hm.out (fun h => hne h.symm)).cell, numsA_get _ _ _ (by rw [HTl.out]; exact hlt)]
      rw [htim.same (i + k) (by omega)] at c1
      have hm := mul_bd32 (HTd.out.get (B := 4294967296) (by omega) k) Ht.out
      have hy := HTd.out.get (B := 4294967296) (by omega) k
      have hg := htim.digs.get (B := 4294967296) (by omega) (i + k)
      rw [htim.same (i + k) (by omega)] at hg
      have h0 := htim.c0
      have h1 := htim.c1
      have Hrel := Lib.hid hrel
      have Hnext := Lib.hid (htim.step (by omega) (by rw [HTl.out]; exact hlt) HTd.out Ht.out)
      generalize S.getD (i + k) 0 = x at *
      generalize T.getD k 0 = y at *
      have q1 : IntKind.u64.wrap (y * tm) = y * tm := IntWalk.u64_in _ (by omega)
      have q2 : IntKind.u64.wrap (x + y * tm) = x + y * tm := IntWalk.u64_in _ (by omega)
      have q3 : IntKind.u64.wrap (x + y * tm + cc) = x + y * tm + cc := IntWalk.u64_in _ (by omega)
      clear hrel htim
      go_wp2
      exact ⟨⟨k + 1, _, _, by omega, by go_num, rfl, Hnext.out, Hrel.out.set (i + k) _⟩, by simp [intOf]; omega⟩
    · obtain rfl : k = 8 := by omega
      have hd8 : decide (((8 : Nat) : Int) < 8) = false := by decide
      have c1 := hrel.cell 16 (i + 8) htim.len (by omega)
      have h0 := htim.c0
      have h1 := htim.c1
      have Hrel := Lib.hid hrel
      have Htim := Lib.hid htim
      clear hrel htim
      go_wp2
      refine bodyPost_end (results_none rfl _ _ _) rfl ⟨M.set (i + 8) cc, rfl, Hrel.out.set (i + 8) cc, by rw [List.length_set]; exact Htim.out.len, digs_set Htim.out.digs _ _ h0 h1, fun j hj => by rw [getD_set_ne _ _ _ _ (by omega)]; exact Htim.out.same j (by omega), ?_⟩
      have he := Htim.out.eq
      rw [dig_take_all _ _ _ (by rw [HTl.out]; omega)] at he
      rw [dig_set _ _ _ _ (by rw [Htim.out.len]; omega), Htim.out.same (i + 8) (by omega), Hz.out, Int.sub_zero]
      exact he
end Go.Proofs.YtdpafemcpbhlfaaDoor.Sc
