/-
  The reference's numbers: Less, minus.
-/
import Derived.Test.YthnpbodkcdbckaaDoorRefA
namespace Go.Proofs.YthnpbodkcdbckaaDoor
set_option maxRecDepth 100000
open Go.RowKit

theorem dig_split (B : Int) (l : List Int) (j : Nat) (hj : j < l.length) : dig B l = dig B (l.take j) + B ^ j * (l.getD j 0 + B * dig B (l.drop (j + 1))) := by
  have h1 : l = l.take j ++ (l.getD j 0 :: l.drop (j + 1)) := by
    have : l.getD j 0 = l[j] := by simp [List.getD_eq_getElem?_getD, hj]
    rw [this, ← List.drop_eq_getElem_cons hj, List.take_append_drop]
  conv => lhs; rw [h1]
  rw [dig_append, List.length_take, Nat.min_eq_left (by omega)]
  rfl
theorem Digs.take {B : Int} {l : List Int} (h : Digs B l) (j : Nat) : Digs B (l.take j) := fun x hx => h x (List.mem_of_mem_take hx)
theorem dig_lt_iff {B : Int} (hB : 0 < B) {l m : List Int} (hl : Digs B l) (hm : Digs B m) (j : Nat) (h1 : j < l.length) (h2 : j < m.length) (hd : l.drop (j + 1) = m.drop (j + 1)) (hne : l.getD j 0 ≠ m.getD j 0) :
    decide (dig B l < dig B m) = decide (l.getD j 0 < m.getD j 0) := by
  rw [decide_eq_decide, dig_split B l j h1, dig_split B m j h2, hd]
  have a0 := dig_nonneg hB (hl.take j)
  have a1 := dig_lt hB (hl.take j)
  have b0 := dig_nonneg hB (hm.take j)
  have b1 := dig_lt hB (hm.take j)
  rw [List.length_take, Nat.min_eq_left (by omega)] at a1 b1
  generalize dig B (l.take j) = p at *
  generalize dig B (m.take j) = q at *
  generalize B * dig B (m.drop (j + 1)) = r at *
  generalize l.getD j 0 = x at *
  generalize m.getD j 0 = y at *
  have hpos : 0 < B ^ j := Int.pow_pos hB
  generalize B ^ j = C at *
  have e1 : C * (x + r) = C * x + C * r := Int.mul_add _ _ _
  have e2 : C * (y + r) = C * y + C * r := Int.mul_add _ _ _
  rw [e1, e2]
  constructor
  · intro h
    apply Decidable.byContradiction
    intro hc
    have : C * (y + 1) ≤ C * x := Int.mul_le_mul_of_nonneg_left (by omega) (by omega)
    rw [Int.mul_add, Int.mul_one] at this
    omega
  · intro h
    have : C * (x + 1) ≤ C * y := Int.mul_le_mul_of_nonneg_left (by omega) (by omega)
    rw [Int.mul_add, Int.mul_one] at this
    omega
theorem drop_step {l m : List Int} {k : Nat} (hl : k < l.length) (hm : k < m.length) (h : l.drop (k + 1) = m.drop (k + 1)) (he : l.getD k 0 = m.getD k 0) : l.drop k = m.drop k := by
  rw [List.drop_eq_getElem_cons hl, List.drop_eq_getElem_cons hm, h]
  have e1 : l.getD k 0 = l[k] := by simp [List.getD_eq_getElem?_getD, hl]
  have e2 : m.getD k 0 = m[k] := by simp [List.getD_eq_getElem?_getD, hm]
  rw [← e1, ← e2, he]
set_option maxHeartbeats 1000000 in
theorem rLess_any (l m : List Int) (w : World) (hl : l.length = 16) (hm : m.length = 16) (dl : Digs 65536 l) (dm : Digs 65536 m) :
    Calls Tryd.prog 99 #[.agg (numsA .u64 l), .agg (numsA .u64 m)] w fun e w' => e = .returned (.bool (decide (dig 65536 l < dig 65536 m))) ∧ Upd (fun _ => False) w w' := by
  have Hl := Lib.hid hl
  have Hm := Lib.hid hm
  have HX := Lib.hid (fun (j : Nat) (hj : j < 16) => dig_lt_iff (B := 65536) (by omega) dl dm j (by omega) (by omega))
  have Hgl := Lib.hid (fun j => dl.get (B := 65536) (by omega) j)
  have Hgm := Lib.hid (fun j => dm.get (B := 65536) (by omega) j)
  have hb0 := (Blk.at1 w (numsA .u64 l) 45).alloc (.cells (numsA .u64 m) 45)
  have hb1 := Blk.at2 w (.cells (numsA .u64 l) 45) (numsA .u64 m) 45
  have H0 := Lib.hid hb0
  have H1 := Lib.hid hb1
  clear hb0 hb1 hl hm dl dm
  go_enter Tryd.func99, Tryd.ntmps99
  go_wp2
  go_loopw [5] (fun i wr => ∃ k : Nat, k ≤ 16 ∧ i = .int .i64 ((k : Int) - 1) ∧ l.drop k = m.drop k ∧ ∃ n, wr = ((w.alloc (.cells (numsA .u64 l) 45)).alloc (.cells (numsA .u64 m) 45)).drewN n) (fun i _ => (intOf i + 1).toNat)
  case atStart => exact ⟨16, by omega, rfl, by rw [List.drop_eq_nil_of_le (by rw [Hl.out]; omega), List.drop_eq_nil_of_le (by rw [Hm.out]; omega)], 0, rfl⟩
  case round =>
    obtain ⟨k, hk, rfl, hdrop, n, rfl⟩ := hrel
    have Hdrop := Lib.hid hdrop
    clear hdrop
    by_cases hlt : 0 < k
    · obtain ⟨j, rfl⟩ : ∃ j, k = j + 1 := ⟨k - 1, by omega⟩
      have e1 : ((j + 1 : Nat) : Int) - 1 = (j : Int) := by omega
      rw [e1]
      clear e1 hlt
      have c1 : ∀ q, ((((w.alloc (.cells (numsA .u64 l) 45)).alloc (.cells (numsA .u64 m) 45)).drewN q)).cell? ⟨w.heap.size, j, none⟩ = some (.int .u64 (l.getD j 0)) := fun q => ((H0.out.drewN q).cell j).trans (numsA_get _ _ _ (by rw [Hl.out]; omega))
      have c2 : ∀ q, ((((w.alloc (.cells (numsA .u64 l) 45)).alloc (.cells (numsA .u64 m) 45)).drewN q)).cell? ⟨w.heap.size + 1, j, none⟩ = some (.int .u64 (m.getD j 0)) := fun q => ((H1.out.drewN q).cell j).trans (numsA_get _ _ _ (by rw [Hm.out]; omega))
      have HX' := Lib.hid (HX.out j (by omega) Hdrop.out)
      by_cases hne : l.getD j 0 = m.getD j 0
      · have hd2 := drop_step (by rw [Hl.out]; omega) (by rw [Hm.out]; omega) Hdrop.out hne
        have Hd2 := Lib.hid hd2
        have hbne : (l.getD j 0 != m.getD j 0) = false := bne_eq_false_iff_eq.2 hne
        clear hne hd2
        generalize l.getD j 0 = x at *
        generalize m.getD j 0 = y at *
        go_wp2
        go_quiet (fail)
        go_wp2
        go_roundw
        case rel => exact ⟨j, by omega, by go_num, Hd2.out, _, rfl⟩
        case measure => simp [intOf]
      · have hbne : (l.getD j 0 != m.getD j 0) = true := bne_iff_ne.2 hne
        have HX2 := Lib.hid (HX'.out hne)
        clear hne
        generalize l.getD j 0 = x at *
        generalize m.getD j 0 = y at *
        go_wp2
        go_quiet (fail)
        go_wp2
        go_quiet (fail)
        go_wp2
        go_ret
        exact ⟨by rw [HX2.out]; rfl, (((((Upd.refl (fun _ => False) w).alloc _).alloc _).drewN _).drewN _).drewN _⟩
    · obtain rfl : k = 0 := by omega
      have Hq : Hid (decide (dig 65536 l < dig 65536 m) = false) := by
        show _ = _
        have := Hdrop.out
        rw [List.drop_zero, List.drop_zero] at this
        rw [this]
        simp
      have hz : decide ((0 : Int) ≤ ((0 : Nat) : Int) - 1) = false := by decide
      go_wp2
      go_ret
      exact ⟨by rw [Hq.out]; rfl, (((Upd.refl (fun _ => False) w).alloc _).alloc _).drewN _⟩

/-- What is borrowed behind k digits. -/
def bor (l m : List Int) : Nat → Int
  | 0 => 0
  | k + 1 => 1 - (l.getD k 0 + 65536 - m.getD k 0 - bor l m k) / 65536
def mdig (l m : List Int) (k : Nat) : Int := (l.getD k 0 + 65536 - m.getD k 0 - bor l m k) % 65536
theorem bor_bd {l m : List Int} (dl : Digs 65536 l) (dm : Digs 65536 m) : ∀ k, 0 ≤ bor l m k ∧ bor l m k ≤ 1
  | 0 => by simp [bor]
  | k + 1 => by
    have ih := bor_bd dl dm k
    have h1 := dl.get (by omega) k
    have h2 := dm.get (by omega) k
    simp only [bor]
    omega
theorem take_succ_getD (l : List Int) (k : Nat) (hk : k < l.length) : l.take (k + 1) = l.take k ++ [l.getD k 0] := by
  rw [List.take_succ_eq_append_getElem hk]
  simp [List.getD_eq_getElem?_getD, hk]
theorem minus_inv {l m : List Int} (hl : l.length = 16) (hm : m.length = 16) : ∀ k, k ≤ 16 → dig 65536 ((List.range k).map (mdig l m)) - 65536 ^ k * bor l m k = dig 65536 (l.take k) - dig 65536 (m.take k)
  | 0, _ => by simp [dig, bor]
  | k + 1, hk => by
    have ih := minus_inv hl hm k (by omega)
    rw [List.range_succ, List.map_append, dig_append, take_succ_getD l k (by omega), take_succ_getD m k (by omega), dig_append, dig_append, List.length_map, List.length_range, List.length_take, List.length_take, Nat.min_eq_left (by omega), Nat.min_eq_left (by omega)]
    simp only [List.map_cons, List.map_nil, dig, Int.mul_zero, Int.add_zero, Int.pow_succ, bor]
    have e : mdig l m k = l.getD k 0 + 65536 - m.getD k 0 - bor l m k - 65536 * ((l.getD k 0 + 65536 - m.getD k 0 - bor l m k) / 65536) := by
      unfold mdig; omega
    rw [e]
    generalize (l.getD k 0 + 65536 - m.getD k 0 - bor l m k) / 65536 = q
    generalize l.getD k 0 = x at *
    generalize m.getD k 0 = y at *
    generalize bor l m k = b at *
    generalize (65536 : Int) ^ k = C at *
    have h1 : C * (x + 65536 - y - b - 65536 * q) = C * x + C * 65536 - C * y - C * b - C * (65536 * q) := by rw [Int.mul_sub, Int.mul_sub, Int.mul_sub, Int.mul_add]
    have h2 : C * 65536 * (1 - q) = C * 65536 - C * (65536 * q) := by rw [Int.mul_sub, Int.mul_one, Int.mul_assoc]
    rw [h1, h2]
    omega
theorem minus_math {l m : List Int} (hl : l.length = 16) (hm : m.length = 16) (dl : Digs 65536 l) (dm : Digs 65536 m) (hle : dig 65536 m ≤ dig 65536 l) : fillTo (mdig l m) 16 16 = digits 65536 16 (dig 65536 l - dig 65536 m) := by
  rw [fillTo_all]
  have hinv := minus_inv hl hm 16 (by omega)
  rw [List.take_of_length_le (by omega), List.take_of_length_le (by omega)] at hinv
  have hD : Digs 65536 ((List.range 16).map (mdig l m)) := fun x hx => by
    obtain ⟨j, _, rfl⟩ := List.mem_map.1 hx
    unfold mdig
    omega
  have hlt := dig_lt (B := 65536) (by omega) hD
  have hge := dig_nonneg (B := 65536) (by omega) hD
  have hb := bor_bd dl dm 16
  have hb0 : bor l m 16 = 0 := by
    rcases (show bor l m 16 = 0 ∨ bor l m 16 = 1 by omega) with h | h
    · exact h
    · rw [h, Int.mul_one] at hinv
      rw [List.length_map, List.length_range] at hlt
      omega
  rw [hb0, Int.mul_zero, Int.sub_zero] at hinv
  rw [← hinv]
  have := digits_dig (B := 65536) (by omega) hD
  rw [List.length_map, List.length_range] at this
  exact this.symm
set_option maxHeartbeats 1000000 in
theorem rminus_any (l m : List Int) (w : World) (hl : l.length = 16) (hm : m.length = 16) (dl : Digs 65536 l) (dm : Digs 65536 m) (hle : dig 65536 m ≤ dig 65536 l) :
    Calls Tryd.prog 91 #[.agg (numsA .u64 l), .agg (numsA .u64 m)] w fun e w' => e = .returned (.agg (numsA .u64 (digits 65536 16 (dig 65536 l - dig 65536 m)))) ∧ Upd (fun _ => False) w w' := by
  have hz := zeroN_run
  have Hfin := Lib.hid (minus_math hl hm dl dm hle)
  have Hl := Lib.hid hl
  have Hm := Lib.hid hm
  have Hgl := Lib.hid (fun j => dl.get (B := 65536) (by omega) j)
  have Hgm := Lib.hid (fun j => dm.get (B := 65536) (by omega) j)
  have Hbd := Lib.hid (bor_bd dl dm)
  clear hl hm dl dm hle
  have hb4 := Blk.at4 w (.cells (numsA .u64 l) 45) (.cells (numsA .u64 m) 45) (.cells zeroN 45) zeroN 45
  have Hb4 := Lib.hid hb4
  have Hb0 := Lib.hid ((((Blk.at1 w (numsA .u64 l) 45).alloc (.cells (numsA .u64 m) 45)).alloc (.cells zeroN 45)).alloc (.cells zeroN 45))
  have Hb1 := Lib.hid (((Blk.at2 w (.cells (numsA .u64 l) 45) (numsA .u64 m) 45).alloc (.cells zeroN 45)).alloc (.cells zeroN 45))
  have Hb2 := Lib.hid ((Blk.at3 w (.cells (numsA .u64 l) 45) (.cells (numsA .u64 m) 45) zeroN 45).alloc (.cells zeroN 45))
  have Hb3 := Lib.hid ((((Upd.refl (fun _ => False) w).alloc (.cells (numsA .u64 l) 45)).alloc (.cells (numsA .u64 m) 45)).alloc (.cells zeroN 45) |>.alloc (.cells zeroN 45))
  clear hb4
  go_enter Tryd.func91, Tryd.ntmps91
  go_wp2_with (refine wpList_storeBlk2 rfl 45 _ _ rfl (w.heap.size + 1 + 1 + 1) 0 16 rfl zeroN rfl 45 zeroN Hb4.out sizeNum zeroN_size (by rw [zeroN_size]; omega) (numsA_one _ _) ?_; intro w1 hb1 hu1 hz1; rw [splice_all _ _ 16 zeroN_size zeroN_size] at hb1; have HR1 := Lib.hid hb1; have HR2 := Lib.hid hu1; clear hb1 hu1 hz1)
  have HR : Hid (NumRel w w1 (w.heap.size + 1 + 1) (w.heap.size + 1 + 1 + 1) (fillTo (mdig l m) 16 0)) :=
    ⟨Hb3.out.step HR2.out (fun i hi h => by omega), HR2.out.blk Hb2.out (by simp), HR1.out, fillTo_length _ _ _, by omega, by omega⟩
  have HK := Lib.hid (HR2.out.blk Hb0.out (show ¬ w.heap.size = w.heap.size + 1 + 1 + 1 by omega))
  have HJ := Lib.hid (HR2.out.blk Hb1.out (show ¬ w.heap.size + 1 = w.heap.size + 1 + 1 + 1 by omega))
  clear HR1 HR2 Hb0 Hb1 Hb2 Hb3 Hb4
  go_loopw [6, 7] (fun bo i wr => ∃ k : Nat, k ≤ 16 ∧ i = .int .i64 k ∧ bo = .int .u64 (bor l m k) ∧ NumRel w wr (w.heap.size + 1 + 1) (w.heap.size + 1 + 1 + 1) (fillTo (mdig l m) 16 k) ∧ Blk wr w.heap.size 45 (numsA .u64 l) ∧ Blk wr (w.heap.size + 1) 45 (numsA .u64 m)) (fun _ i _ => 16 - (intOf i).toNat)
  case atStart => exact ⟨0, by omega, rfl, rfl, HR.out, HK.out, HJ.out⟩
  case round =>
    clear HR HK HJ
    obtain ⟨k, hk, rfl, rfl, hrel, hkb, hjb⟩ := hrel
    have hfr := hrel.out.frozen
    by_cases hlt : k < 16
    · have hc := hrel.cell k hlt
      have Hrel := Lib.hid hrel
      have Hkb := Lib.hid hkb
      have Hjb := Lib.hid hjb
      have c1 : wr.cell? ⟨w.heap.size, k, none⟩ = some (.int .u64 (l.getD k 0)) := by rw [hkb.cell, numsA_get _ _ _ (by rw [Hl.out]; omega)]
      have c2 : wr.cell? ⟨w.heap.size + 1, k, none⟩ = some (.int .u64 (m.getD k 0)) := by rw [hjb.cell, numsA_get _ _ _ (by rw [Hm.out]; omega)]
      have g1 := Hgl.out k
      have g2 := Hgm.out k
      have g3 := Hbd.out k
      have Ht : Hid (mdig l m k = (l.getD k 0 + 65536 - m.getD k 0 - bor l m k) % 65536) := rfl
      have Hb : Hid (bor l m (k + 1) = 1 - (l.getD k 0 + 65536 - m.getD k 0 - bor l m k) / 65536) := rfl
      generalize l.getD k 0 = x at *
      generalize m.getD k 0 = y at *
      generalize bor l m k = b at *
      have q1 : IntKind.u64.wrap (x + 65536) = x + 65536 := IntWalk.u64_in _ (by omega)
      have q2 : IntKind.u64.wrap (x + 65536 - y) = x + 65536 - y := IntWalk.u64_in _ (by omega)
      have q3 : IntKind.u64.wrap (x + 65536 - y - b) = x + 65536 - y - b := IntWalk.u64_in _ (by omega)
      clear hrel hkb hjb
      go_wp2
      go_quiet (fail)
      clear q1 q2 q3
      generalize hs : x + 65536 - y - b = s at *
      have hs0 : 0 ≤ s := by omega
      have hs1 : s < 131072 := by omega
      have Hs := Lib.hid hs
      clear hs
      go_wp2
      refine ⟨⟨k + 1, by omega, by go_num, by rw [Hb.out], ?_, (Hkb.out.drewN nq).setOther (show w.heap.size ≠ w.heap.size + 1 + 1 + 1 by omega) _, (Hjb.out.drewN nq).setOther (show w.heap.size + 1 ≠ w.heap.size + 1 + 1 + 1 by omega) _⟩, by simp [intOf]; omega⟩
      have := Hrel.out.set nq k (mdig l m k)
      rw [fillTo_succ (mdig l m) 16 k, Ht.out] at this
      exact this
    · obtain rfl : k = 16 := by omega
      have hr2 := hrel
      rw [Hfin.out] at hr2
      have Hr2 := Lib.hid hr2
      have hd16 : decide (((16 : Nat) : Int) < 16) = false := by decide
      clear hrel hr2 hkb hjb
      generalize hD : dig 65536 l - dig 65536 m = D at *
      have HD := Lib.hid hD
      clear hD
      go_wp2_with (first
        | (refine wpList_loadBlk rfl 45 _ rfl (w.heap.size + 1 + 1 + 1) 0 16 rfl 45 (numsA .u64 (digits 65536 16 D)) _ Hr2.out.out Tryd.underlying45 rfl sizeNum (by rw [numsA_size, digits_length]; omega) ?_; rw [extract_all _ _ (by rw [numsA_size, digits_length])])
        | (refine wpList_storeBlk2 rfl 45 _ _ rfl (w.heap.size + 1 + 1) 0 16 rfl (numsA .u64 (digits 65536 16 D)) rfl 45 _ Hr2.out.res sizeNum (by rw [numsA_size, digits_length]) (by rw [zeroN_size]; omega) (numsA_one _ _) ?_; intro wz hbz huz hzz; rw [splice_all _ _ 16 zeroN_size (by rw [numsA_size, digits_length])] at hbz; have Hbz := Lib.hid hbz; have Huz := Lib.hid huz; clear hbz huz hzz))
      exact bodyPost_ret (v := .agg (numsA .u64 (digits 65536 16 D))) (results_cell_row (fn := Tryd.f91) (p := 4) (ty := 45) rfl _ _ (w.heap.size + 1 + 1) 45 _ (0, 0) _ rfl Hbz.out Tryd.underlying45 rfl (by rw [numsA_size, digits_length]; exact sizeNum)) rfl ⟨by rw [HD.out], Hr2.out.upd.step Huz.out (fun i hi h => by omega)⟩
end Go.Proofs.YthnpbodkcdbckaaDoor
