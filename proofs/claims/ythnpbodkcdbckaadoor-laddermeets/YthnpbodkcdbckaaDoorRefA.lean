/-
  The reference's numbers: Prime, Of.
-/
import Derived.Test.YthnpbodkcdbckaaDoorOf
namespace Go.Proofs.YthnpbodkcdbckaaDoor
set_option maxRecDepth 100000
open Go.RowKit

/-- A number of noughts. -/
def zeroN : Array Value := numsA .u64 (List.replicate 16 0)
theorem zeroN_size : zeroN.size = 16 := by kernel_rfl
theorem zeroN_run (w : World) : (zeroValue 45).run Tryd.prog w = .ok (.agg zeroN) w := by kernel_rfl
theorem sizeNum : (Tryd.prog.info? 45).map (·.size) = some 16 := by kernel_rfl
theorem numsA_set (k : IntKind) (l : List Int) (j : Nat) (x : Int) : (numsA k l).setIfInBounds j (.int k x) = numsA k (l.set j x) := by
  unfold numsA
  rw [List.setIfInBounds_toArray, List.map_set]
/-- The first k of f, noughts behind them, n in all. -/
def fillTo (f : Nat → Int) (n k : Nat) : List Int := (List.range n).map fun j => if j < k then f j else 0
theorem fillTo_length (f : Nat → Int) (n k : Nat) : (fillTo f n k).length = n := by simp [fillTo]
theorem fillTo_zero (f : Nat → Int) (n : Nat) : fillTo f n 0 = List.replicate n 0 := by
  unfold fillTo
  simp [List.map_const']
theorem fillTo_succ (f : Nat → Int) (n k : Nat) : (fillTo f n k).set k (f k) = fillTo f n (k + 1) := by
  apply List.ext_getElem (by simp [fillTo])
  intro j h1 h2
  have hj : j < n := by simpa [fillTo] using h2
  rw [List.getElem_set]
  simp only [fillTo, List.getElem_map, List.getElem_range]
  by_cases e : k = j
  · subst e; rw [if_pos rfl, if_pos (by omega)]
  · rw [if_neg e]
    by_cases c : j < k
    · rw [if_pos c, if_pos (by omega)]
    · rw [if_neg c, if_neg (by omega)]
theorem fillTo_all (f : Nat → Int) (n : Nat) : fillTo f n n = (List.range n).map f := by
  unfold fillTo
  apply List.map_congr_left
  intro j hj
  rw [if_pos (List.mem_range.1 hj)]
theorem fillTo_get (f : Nat → Int) (n k j : Nat) (hj : j < n) : (fillTo f n k).getD j 0 = if j < k then f j else 0 := by
  simp [fillTo, List.getD_eq_getElem?_getD, hj]
/-- A number that the reference makes: its result's block and its own. -/
structure NumRel (w wr : World) (r b : Nat) (l : List Int) : Prop where
  upd : Upd (fun _ => False) w wr
  res : Blk wr r 45 zeroN
  out : Blk wr b 45 (numsA .u64 l)
  len : l.length = 16
  ne : r ≠ b
  ge : w.heap.size ≤ b
theorem NumRel.set {w wr : World} {r b : Nat} {l : List Int} (h : NumRel w wr r b l) (n j : Nat) (x : Int) : NumRel w ((wr.drewN n).setCell ⟨b, j, none⟩ (.int .u64 x)) r b (l.set j x) := by
  refine ⟨(h.upd.drewN n).set _ (fun hb => by have := h.ge; simp at hb; omega), (h.res.drewN n).setOther (by simpa using h.ne) _, ?_, by simpa using h.len, h.ne, h.ge⟩
  rw [← numsA_set]
  exact (h.out.drewN n).set j _
theorem NumRel.cell {w wr : World} {r b : Nat} {l : List Int} (h : NumRel w wr r b l) (j : Nat) (hj : j < 16) : wr.cell? ⟨b, j, none⟩ = some (.int .u64 (l.getD j 0)) := by
  rw [h.out.cell, numsA_get _ _ _ (by rw [h.len]; exact hj)]
set_option maxHeartbeats 1000000 in
theorem rPrime_any (w : World) : Calls Tryd.prog 92 #[] w fun e w' => e = .returned (.agg (numsA .u64 (digits 65536 16 pp))) ∧ Upd (fun _ => False) w w' := by
  have hz := zeroN_run
  have Hfin : Hid (((fillTo (fun _ => 65535) 16 16).set 0 65517).set 15 32767 = digits 65536 16 pp) := by show _ = _; decide +kernel
  go_enter Tryd.func92, Tryd.ntmps92
  go_wp2_with (refine wpList_storeBlk2 rfl 45 _ _ rfl (w.heap.size + 1) 0 16 rfl zeroN rfl 45 zeroN (Blk.at2 w _ _ _) sizeNum zeroN_size (by rw [zeroN_size]; omega) (numsA_one _ _) ?_; intro w1 hb1 hu1 hz1; rw [splice_all _ _ 16 zeroN_size zeroN_size] at hb1; have HR : Hid (NumRel w w1 w.heap.size (w.heap.size + 1) (fillTo (fun _ => 65535) 16 0)) := ⟨(((Upd.refl (fun _ => False) w).alloc _).alloc _).step hu1 (fun i hi h => by omega), hu1.blk ((Blk.at1 w _ _).alloc _) (by simp), hb1, fillTo_length _ _ _, by omega, by omega⟩; clear hb1 hu1 hz1)
  go_loopw [2] (fun i wr => ∃ k : Nat, k ≤ 16 ∧ i = .int .i64 k ∧ NumRel w wr w.heap.size (w.heap.size + 1) (fillTo (fun _ => 65535) 16 k)) (fun i _ => 16 - (intOf i).toNat)
  case atStart => exact ⟨0, by omega, rfl, HR.out⟩
  case round =>
    clear HR
    obtain ⟨k, hk, rfl, hrel⟩ := hrel
    have hfr := hrel.out.frozen
    by_cases hlt : k < 16
    · have hc := hrel.cell k hlt
      have Hrel := Lib.hid hrel
      clear hrel
      go_wp2
      go_roundw
      case rel =>
        have := Hrel.out.set 0 k 65535
        rw [fillTo_succ (fun _ => 65535) 16 k] at this
        exact ⟨k + 1, by omega, by go_num, this⟩
      case measure => simp [intOf]; omega
    · obtain rfl : k = 16 := by omega
      have hc0 := hrel.cell 0 (by omega)
      have hc15 := hrel.cell 15 (by omega)
      have hr2 := (hrel.set 0 0 65517).set 0 15 32767
      rw [Hfin.out] at hr2
      have Hr2 := Lib.hid hr2
      clear hrel hr2
      go_wp2_with (first
        | (refine wpList_loadBlk rfl 45 _ rfl (w.heap.size + 1) 0 16 rfl 45 (numsA .u64 (digits 65536 16 pp)) _ Hr2.out.out Tryd.underlying45 rfl sizeNum (by rw [numsA_size, digits_length]; omega) ?_; rw [extract_all _ _ (by rw [numsA_size, digits_length])])
        | (refine wpList_storeBlk2 rfl 45 _ _ rfl w.heap.size 0 16 rfl (numsA .u64 (digits 65536 16 pp)) rfl 45 _ Hr2.out.res sizeNum (by rw [numsA_size, digits_length]) (by rw [zeroN_size]; omega) (numsA_one _ _) ?_; intro wz hbz huz hzz; rw [splice_all _ _ 16 zeroN_size (by rw [numsA_size, digits_length])] at hbz; have Hbz := Lib.hid hbz; have Huz := Lib.hid huz; clear hbz huz hzz))
      exact bodyPost_ret (v := .agg (numsA .u64 (digits 65536 16 pp))) (results_cell_row (fn := Tryd.f92) (p := 0) (ty := 45) rfl _ _ w.heap.size 45 _ (0, 0) _ rfl Hbz.out Tryd.underlying45 rfl (by rw [numsA_size, digits_length]; exact sizeNum)) rfl ⟨rfl, Hr2.out.upd.step Huz.out (fun i hi h => by omega)⟩
/-- Digits of two bytes each. -/
def two (l : List Int) (j : Nat) : Int := l.getD (2 * j) 0 + 256 * l.getD (2 * j + 1) 0
theorem dig_two : ∀ (n : Nat) (l : List Int), l.length = 2 * n → dig 65536 ((List.range n).map (two l)) = dig 256 l
  | 0, l, h => by
    obtain rfl : l = [] := List.eq_nil_of_length_eq_zero (by omega)
    rfl
  | n + 1, l, h => by
    match l, h with
    | a :: b :: t, h =>
      have ih := dig_two n t (by simp at h; omega)
      rw [List.range_succ_eq_map, List.map_cons, List.map_map]
      have e : (two (a :: b :: t)) ∘ Nat.succ = two t := by
        funext j
        show (a :: b :: t).getD (2 * (j + 1)) 0 + 256 * (a :: b :: t).getD (2 * (j + 1) + 1) 0 = _
        rw [show 2 * (j + 1) = 2 * j + 1 + 1 by omega, show 2 * j + 1 + 1 + 1 = 2 * j + 1 + 1 + 1 from rfl]
        rfl
      rw [e]
      simp only [dig, ih]
      show a + 256 * b + 65536 * dig 256 t = a + 256 * (b + 256 * dig 256 t)
      omega
theorem Digs.get {B : Int} (hB : 0 < B) {l : List Int} (h : Digs B l) (j : Nat) : 0 ≤ l.getD j 0 ∧ l.getD j 0 < B := by
  by_cases hj : j < l.length
  · rw [List.getD_eq_getElem?_getD, List.getElem?_eq_getElem hj]; exact h _ (List.getElem_mem hj)
  · rw [List.getD_eq_getElem?_getD, List.getElem?_eq_none (by omega)]; simpa using hB
theorem two_bd {l : List Int} (h : Digs 256 l) (j : Nat) : 0 ≤ two l j ∧ two l j < 65536 := by
  have h1 := h.get (by omega) (2 * j)
  have h2 := h.get (by omega) (2 * j + 1)
  unfold two
  omega
theorem dig_set_last (l : List Int) (h : l.length = 16) (x : Int) : dig 65536 (l.set 15 x) = dig 65536 l + 65536 ^ 15 * (x - l.getD 15 0) := by
  match l, h with
  | [a0, a1, a2, a3, a4, a5, a6, a7, a8, a9, a10, a11, a12, a13, a14, a15], _ =>
    simp only [List.set_cons_succ, List.set_cons_zero, dig, List.getD_cons_succ, List.getD_cons_zero]
    rw [show (65536 : Int) ^ 15 = 1766847064778384329583297500742918515827483896875618958121606201292619776 by decide]
    omega
theorem rOf_math (l : List Int) (hl : l.length = 32) (hd : Digs 256 l) : ((fillTo (two l) 16 16).set 15 (two l 15 % 32768)) = digits 65536 16 (keyNum l) := by
  have hlen : ((fillTo (two l) 16 16).set 15 (two l 15 % 32768)).length = 16 := by rw [List.length_set, fillTo_length]
  have hD : Digs 65536 ((fillTo (two l) 16 16).set 15 (two l 15 % 32768)) := by
    intro x hx
    rcases List.mem_or_eq_of_mem_set hx with h | h
    · rw [fillTo_all] at h
      obtain ⟨j, _, rfl⟩ := List.mem_map.1 h
      exact two_bd hd j
    · have := two_bd hd 15; omega
  rw [← digits_dig (by omega) hD, hlen, dig_set_last _ (fillTo_length _ _ _), fillTo_all, dig_two 16 l hl]
  congr 1
  have e : ((List.range 16).map (two l)).getD 15 0 = two l 15 := by simp [List.getD_eq_getElem?_getD]
  rw [e]
  unfold keyNum
  have h15 := two_bd hd 15
  have hdig := dig_two 16 l hl
  have hsplit : dig 65536 ((List.range 16).map (two l)) = dig 65536 ((List.range 15).map (two l)) + 65536 ^ 15 * two l 15 := by
    rw [show (List.range 16).map (two l) = (List.range 15).map (two l) ++ [two l 15] from by rw [List.range_succ, List.map_append]; rfl, dig_append]
    simp [dig]
  have hlow : 0 ≤ dig 65536 ((List.range 15).map (two l)) ∧ dig 65536 ((List.range 15).map (two l)) < 65536 ^ 15 := by
    have hD' : Digs 65536 ((List.range 15).map (two l)) := fun x hx => by obtain ⟨j, _, rfl⟩ := List.mem_map.1 hx; exact two_bd hd j
    refine ⟨dig_nonneg (by omega) hD', ?_⟩
    have := dig_lt (B := 65536) (by omega) hD'
    simpa using this
  rw [← hdig, hsplit]
  rw [show (65536 : Int) ^ 15 = 1766847064778384329583297500742918515827483896875618958121606201292619776 by decide] at *
  omega
set_option maxHeartbeats 1000000 in
theorem rOf_any (l : List Int) (w : World) (hl : l.length = 32) (hd : Digs 256 l) : Calls Tryd.prog 53 #[.agg (numsA .u8 l)] w fun e w' => e = .returned (.agg (numsA .u64 (digits 65536 16 (keyNum l)))) ∧ Upd (fun _ => False) w w' := by
  have hz := zeroN_run
  have Hfin := Lib.hid (rOf_math l hl hd)
  have HG := Lib.hid (fun j => hd.get (B := 256) (by omega) j)
  have H15 := Lib.hid (two_bd hd 15)
  have Hl := Lib.hid hl
  clear hl hd
  go_enter Tryd.func53, Tryd.ntmps53
  go_wp2_with (refine wpList_storeBlk2 rfl 45 _ _ rfl (w.heap.size + 1 + 1) 0 16 rfl zeroN rfl 45 zeroN (Blk.at3 w _ _ _ _) sizeNum zeroN_size (by rw [zeroN_size]; omega) (numsA_one _ _) ?_; intro w1 hb1 hu1 hz1; rw [splice_all _ _ 16 zeroN_size zeroN_size] at hb1; have HR : Hid (NumRel w w1 (w.heap.size + 1) (w.heap.size + 1 + 1) (fillTo (two l) 16 0)) := ⟨((((Upd.refl (fun _ => False) w).alloc _).alloc _).alloc _).step hu1 (fun i hi h => by omega), hu1.blk ((Blk.at2 w _ _ _).alloc _) (by simp), hb1, fillTo_length _ _ _, by omega, by omega⟩; have HK := Lib.hid (hu1.blk (((Blk.at1 w (numsA .u8 l) 23).alloc _).alloc _) (show ¬ w.heap.size = w.heap.size + 1 + 1 by omega)); clear hb1 hu1 hz1)
  go_loopw [4] (fun i wr => ∃ k : Nat, k ≤ 16 ∧ i = .int .i64 k ∧ NumRel w wr (w.heap.size + 1) (w.heap.size + 1 + 1) (fillTo (two l) 16 k) ∧ Blk wr w.heap.size 23 (numsA .u8 l)) (fun i _ => 16 - (intOf i).toNat)
  case atStart => exact ⟨0, by omega, rfl, HR.out, HK.out⟩
  case round =>
    clear HR HK
    obtain ⟨k, hk, rfl, hrel, hkb⟩ := hrel
    have hfr := hrel.out.frozen
    by_cases hlt : k < 16
    · have hc := hrel.cell k hlt
      have Hrel := Lib.hid hrel
      have Hkb := Lib.hid hkb
      have c1 : wr.cell? ⟨w.heap.size, 2 * k, none⟩ = some (.int .u8 (l.getD (2 * k) 0)) := by rw [hkb.cell, numsA_get _ _ _ (by rw [Hl.out]; omega)]
      have c2 : wr.cell? ⟨w.heap.size, 2 * k + 1, none⟩ = some (.int .u8 (l.getD (2 * k + 1) 0)) := by rw [hkb.cell, numsA_get _ _ _ (by rw [Hl.out]; omega)]
      have g1 := HG.out (2 * k)
      have g2 := HG.out (2 * k + 1)
      have Ht : Hid (two l k = l.getD (2 * k) 0 + 256 * l.getD (2 * k + 1) 0) := rfl
      generalize l.getD (2 * k) 0 = x at *
      generalize l.getD (2 * k + 1) 0 = y at *
      have q1 : IntKind.i64.wrap (2 * (k : Int)) = 2 * (k : Int) := IntWalk.i64_in _ (by omega)
      have q2 : (2 * (k : Int)).toNat = 2 * k := by omega
      have q3 : (0 : Int) ≤ 2 * (k : Int) := by omega
      have q4 : IntKind.i64.wrap (2 * (k : Int) + 1) = 2 * (k : Int) + 1 := IntWalk.i64_in _ (by omega)
      have q5 : (2 * (k : Int) + 1).toNat = 2 * k + 1 := by omega
      have q6 : (0 : Int) ≤ 2 * (k : Int) + 1 := by omega
      have q7 : IntKind.u64.wrap x = x := IntWalk.u64_in _ (by omega)
      have q8 : IntKind.u64.wrap y = y := IntWalk.u64_in _ (by omega)
      have q9 : IntKind.u64.wrap (256 * y) = 256 * y := IntWalk.u64_in _ (by omega)
      have q10 : IntKind.u64.wrap (x + 256 * y) = x + 256 * y := IntWalk.u64_in _ (by omega)
      clear hrel hkb
      go_wp2
      go_region
      clear q1 q2 q3 q4 q5 q6 q7 q8 q9 q10
      go_wp2
      go_roundw
      case rel =>
        have := Hrel.out.set 1 k (two l k)
        rw [fillTo_succ (two l) 16 k] at this
        rw [Ht.out] at this
        exact ⟨k + 1, by omega, by go_num, this, (Hkb.out.drewN 1).setOther (by simp; omega) _⟩
      case measure => simp [intOf]; omega
    · obtain rfl : k = 16 := by omega
      have hc15 := hrel.cell 15 (by omega)
      have e15 : (fillTo (two l) 16 16).getD 15 0 = two l 15 := by rw [fillTo_get _ _ _ _ (by omega)]; rfl
      rw [e15] at hc15
      have hr2 := hrel.set 0 15 (two l 15 % 32768)
      rw [Hfin.out] at hr2
      have Hr2 := Lib.hid hr2
      have g15 := H15.out
      generalize two l 15 = t at *
      have hd16 : decide (((16 : Nat) : Int) < 16) = false := by decide
      clear hrel hr2 e15 hkb
      go_wp2_with (first
        | (refine wpList_loadBlk rfl 45 _ rfl (w.heap.size + 1 + 1) 0 16 rfl 45 (numsA .u64 (digits 65536 16 (keyNum l))) _ Hr2.out.out Tryd.underlying45 rfl sizeNum (by rw [numsA_size, digits_length]; omega) ?_; rw [extract_all _ _ (by rw [numsA_size, digits_length])])
        | (refine wpList_storeBlk2 rfl 45 _ _ rfl (w.heap.size + 1) 0 16 rfl (numsA .u64 (digits 65536 16 (keyNum l))) rfl 45 _ Hr2.out.res sizeNum (by rw [numsA_size, digits_length]) (by rw [zeroN_size]; omega) (numsA_one _ _) ?_; intro wz hbz huz hzz; rw [splice_all _ _ 16 zeroN_size (by rw [numsA_size, digits_length])] at hbz; have Hbz := Lib.hid hbz; have Huz := Lib.hid huz; clear hbz huz hzz))
      exact bodyPost_ret (v := .agg (numsA .u64 (digits 65536 16 (keyNum l)))) (results_cell_row (fn := Tryd.f53) (p := 2) (ty := 45) rfl _ _ (w.heap.size + 1) 45 _ (0, 0) _ rfl Hbz.out Tryd.underlying45 rfl (by rw [numsA_size, digits_length]; exact sizeNum)) rfl ⟨rfl, Hr2.out.upd.step Huz.out (fun i hi h => by omega)⟩
end Go.Proofs.YthnpbodkcdbckaaDoor
