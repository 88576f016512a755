/-
  The walk of Of.
-/
/-
  The reference's numbers: Prime, Of.
-/
/-
  The reference's numbers: Less, minus.
-/
import Derived.Test.YtdpafemcpbhlfaaDoorMul
namespace Go.Proofs.YtdpafemcpbhlfaaDoor
set_option maxRecDepth 100000
open Go.RowKit

theorem word8_dig (l : List Int) (o : Nat) (h : o + 8 ≤ l.length) : word8 (fun j => l.getD (o + j) 0) = dig 256 ((l.drop o).take 8) := by
  have e : ∀ j, j < 8 → l.getD (o + j) 0 = ((l.drop o).take 8).getD j 0 := fun j hj => by simp [List.getD_eq_getElem?_getD, hj]
  have hl : ((l.drop o).take 8).length = 8 := by simp; omega
  show l.getD (o + 0) 0 + 256 * l.getD (o + 1) 0 + 65536 * l.getD (o + 2) 0 + 16777216 * l.getD (o + 3) 0 + 4294967296 * l.getD (o + 4) 0 + 1099511627776 * l.getD (o + 5) 0 + 281474976710656 * l.getD (o + 6) 0 + 72057594037927936 * l.getD (o + 7) 0 = _
  rw [e 0 (by omega), e 1 (by omega), e 2 (by omega), e 3 (by omega), e 4 (by omega), e 5 (by omega), e 6 (by omega), e 7 (by omega)]
  generalize (l.drop o).take 8 = m at hl
  match m, hl with
  | [a, b, c, d, e, f, g, h], _ =>
    simp only [dig, List.getD_cons_zero, List.getD_cons_succ]
    omega
theorem dig_four (l : List Int) (h : l.length = 32) : dig 256 l = word8 (fun j => l.getD (0 + j) 0) + 18446744073709551616 * word8 (fun j => l.getD (8 + j) 0) + 340282366920938463463374607431768211456 * word8 (fun j => l.getD (16 + j) 0) + 6277101735386680763835789423207666416102355444464034512896 * word8 (fun j => l.getD (24 + j) 0) := by
  rw [word8_dig l 0 (by omega), word8_dig l 8 (by omega), word8_dig l 16 (by omega), word8_dig l 24 (by omega)]
  have e : l = ((l.drop 0).take 8) ++ (((l.drop 8).take 8) ++ (((l.drop 16).take 8) ++ ((l.drop 24).take 8))) := by
    match l, h with
    | [_, _, _, _, _, _, _, _, _, _, _, _, _, _, _, _, _, _, _, _, _, _, _, _, _, _, _, _, _, _, _, _], _ => rfl
  have l0 : ((l.drop 0).take 8).length = 8 := by simp; omega
  have l1 : ((l.drop 8).take 8).length = 8 := by simp; omega
  have l2 : ((l.drop 16).take 8).length = 8 := by simp; omega
  conv => lhs; rw [e]
  rw [dig_append, dig_append, dig_append, l0, l1, l2]
  have p8 : (256 : Int) ^ 8 = 18446744073709551616 := by decide
  rw [p8]
  generalize dig 256 (List.take 8 (List.drop 0 l)) = A
  generalize dig 256 (List.take 8 (List.drop 8 l)) = B
  generalize dig 256 (List.take 8 (List.drop 16 l)) = C
  generalize dig 256 (List.take 8 (List.drop 24 l)) = D
  omega
theorem word8_bd (f : Nat → Int) (h : ∀ j, j < 8 → 0 ≤ f j ∧ f j < 256) : 0 ≤ word8 f ∧ word8 f < 18446744073709551616 := by
  have h0 := h 0 (by omega)
  have h1 := h 1 (by omega)
  have h2 := h 2 (by omega)
  have h3 := h 3 (by omega)
  have h4 := h 4 (by omega)
  have h5 := h 5 (by omega)
  have h6 := h 6 (by omega)
  have h7 := h 7 (by omega)
  unfold word8
  omega
theorem of_math (a b c d : Int) (ha : 0 ≤ a ∧ a < 18446744073709551616) (hb : 0 ≤ b ∧ b < 18446744073709551616) (hc : 0 ≤ c ∧ c < 18446744073709551616) (_ : 0 ≤ d ∧ d < 18446744073709551616) :
    Exact (a % 2251799813685248) ((a / 2251799813685248 + b % 2251799813685248 * 8192) % 2251799813685248) ((b / 274877906944 + c % 274877906944 * 67108864) % 2251799813685248) ((c / 33554432 + d % 33554432 * 549755813888) % 2251799813685248) (d / 4096 % 2251799813685248)
      ((a + 18446744073709551616 * b + 340282366920938463463374607431768211456 * c + 6277101735386680763835789423207666416102355444464034512896 * d) % 57896044618658097711785492504343953926634992332820282019728792003956564819968) := by
  have e1 : (a / 2251799813685248 + b % 2251799813685248 * 8192) % 2251799813685248 = a / 2251799813685248 + 8192 * (b % 274877906944) := by omega
  have e2 : (b / 274877906944 + c % 274877906944 * 67108864) % 2251799813685248 = b / 274877906944 + 67108864 * (c % 33554432) := by omega
  have e3 : (c / 33554432 + d % 33554432 * 549755813888) % 2251799813685248 = c / 33554432 + 549755813888 * (d % 4096) := by omega
  rw [e1, e2, e3]
  refine ⟨by omega, by omega, by omega, by omega, by omega, by omega, by omega, by omega, by omega, by omega, ?_⟩
  clear e1 e2 e3
  have f1 : (a + 18446744073709551616 * b + 340282366920938463463374607431768211456 * c + 6277101735386680763835789423207666416102355444464034512896 * d) % 57896044618658097711785492504343953926634992332820282019728792003956564819968 = a + 18446744073709551616 * b + 340282366920938463463374607431768211456 * c + 6277101735386680763835789423207666416102355444464034512896 * (d % 9223372036854775808) := by omega
  rw [f1]
  clear f1
  unfold val5
  have g1 := Int.mul_ediv_add_emod a 2251799813685248
  have g2 := Int.mul_ediv_add_emod b 274877906944
  have g3 := Int.mul_ediv_add_emod c 33554432
  have g4 : 4096 * (d / 4096 % 2251799813685248) + d % 4096 = d % 9223372036854775808 := by omega
  generalize a / 2251799813685248 = a1 at *
  generalize a % 2251799813685248 = a2 at *
  generalize b / 274877906944 = b1 at *
  generalize b % 274877906944 = b2 at *
  generalize c / 33554432 = c1 at *
  generalize c % 33554432 = c2 at *
  generalize d / 4096 % 2251799813685248 = d1 at *
  generalize d % 4096 = d2 at *
  generalize d % 9223372036854775808 = d3 at *
  omega
theorem Exact.fits {a0 a1 a2 a3 a4 m n : Int} (h : Exact a0 a1 a2 a3 a4 m) (g : Cong m n) : Fits a0 a1 a2 a3 a4 n := by
  obtain ⟨l0, u0, l1, u1, l2, u2, l3, u3, l4, u4, hv⟩ := h
  exact ⟨l0, by omega, l1, by omega, l2, by omega, l3, by omega, l4, by omega, by rw [hv]; exact g⟩
theorem of_raw (a b c d : Int) (ha : 0 ≤ a ∧ a < 18446744073709551616) (hb : 0 ≤ b ∧ b < 18446744073709551616) (hc : 0 ≤ c ∧ c < 18446744073709551616) (hd : 0 ≤ d ∧ d < 18446744073709551616) :
    Exact (bits .and .u64 a 2251799813685247) (bits .and .u64 (bits .or .u64 (a / 2251799813685248) (IntKind.u64.wrap (b * 8192))) 2251799813685247) (bits .and .u64 (bits .or .u64 (b / 274877906944) (IntKind.u64.wrap (c * 67108864))) 2251799813685247) (bits .and .u64 (bits .or .u64 (c / 33554432) (IntKind.u64.wrap (d * 549755813888))) 2251799813685247) (bits .and .u64 (d / 4096) 2251799813685247)
      ((a + 18446744073709551616 * b + 340282366920938463463374607431768211456 * c + 6277101735386680763835789423207666416102355444464034512896 * d) % 57896044618658097711785492504343953926634992332820282019728792003956564819968) := by
  have m0 := and_mask a (by omega) (by omega)
  have r1 : IntKind.u64.wrap (b * 8192) = b % 2251799813685248 * 8192 := by rw [IntKind.wrap_u64]; omega
  have r2 : IntKind.u64.wrap (c * 67108864) = c % 274877906944 * 67108864 := by rw [IntKind.wrap_u64]; omega
  have r3 : IntKind.u64.wrap (d * 549755813888) = d % 33554432 * 549755813888 := by rw [IntKind.wrap_u64]; omega
  have j1 := or_high 13 8192 (a / 2251799813685248) (b % 2251799813685248) (by decide) (by omega) (by omega) (by omega) (by omega) (by omega)
  have j2 := or_high 26 67108864 (b / 274877906944) (c % 274877906944) (by decide) (by omega) (by omega) (by omega) (by omega) (by omega)
  have j3 := or_high 39 549755813888 (c / 33554432) (d % 33554432) (by decide) (by omega) (by omega) (by omega) (by omega) (by omega)
  have m1 := and_mask (a / 2251799813685248 + b % 2251799813685248 * 8192) (by omega) (by omega)
  have m2 := and_mask (b / 274877906944 + c % 274877906944 * 67108864) (by omega) (by omega)
  have m3 := and_mask (c / 33554432 + d % 33554432 * 549755813888) (by omega) (by omega)
  have m4 := and_mask (d / 4096) (by omega) (by omega)
  rw [r1, r2, r3, j1, j2, j3, m0, m1, m2, m3, m4]
  exact of_math a b c d ha hb hc hd
/-- The number of a key, without its highest bit. -/
def keyNum (l : List Int) : Int := dig 256 l % 57896044618658097711785492504343953926634992332820282019728792003956564819968
set_option maxHeartbeats 2000000 in
theorem of_any (l : List Int) (w : World) (hl : l.length = 32) (hd : Digs 256 l) :
    Calls Tryd.prog 42 #[.agg (numsA .u8 l)] w (RetE (keyNum l) w) := by
  have hg : ∀ j, 0 ≤ l.getD j 0 ∧ l.getD j 0 < 256 := fun j => by
    by_cases hj : j < l.length
    · rw [List.getD_eq_getElem?_getD, List.getElem?_eq_getElem hj]; exact hd _ (List.getElem_mem hj)
    · rw [List.getD_eq_getElem?_getD, List.getElem?_eq_none (by omega)]; simp
  have HG := Lib.hid hg
  have ha := word8_bd (fun j => l.getD (0 + j) 0) (fun j _ => hg _)
  have hb := word8_bd (fun j => l.getD (8 + j) 0) (fun j _ => hg _)
  have hc := word8_bd (fun j => l.getD (16 + j) 0) (fun j _ => hg _)
  have hd := word8_bd (fun j => l.getD (24 + j) 0) (fun j _ => hg _)
  have hE := of_raw _ _ _ _ ha hb hc hd
  rw [← dig_four l hl] at hE
  have HE := Lib.hid (hE.fits (Cong.refl (keyNum l)))
  have Hl := Lib.hid hl
  have s0 : ∀ w', (Instr.sliceAt 23 (.pointer (some ⟨w.heap.size, 0, none⟩)) (some (.int .i64 0)) (some (.int .i64 8)) none).run Tryd.prog w' = .ok (.slice (some ⟨w.heap.size, 0, none⟩) 8 32) w' :=
    fun w' => run_sliceArr w' 23 5 32 w.heap.size 0 .i64 .i64 0 8 Tryd.underlying23 size5 (by omega) (by omega) (by omega)
  have s1 : ∀ w', (Instr.sliceAt 23 (.pointer (some ⟨w.heap.size, 0, none⟩)) (some (.int .i64 8)) (some (.int .i64 16)) none).run Tryd.prog w' = .ok (.slice (some ⟨w.heap.size, 8, none⟩) 8 24) w' :=
    fun w' => run_sliceArr w' 23 5 32 w.heap.size 0 .i64 .i64 8 16 Tryd.underlying23 size5 (by omega) (by omega) (by omega)
  have s2 : ∀ w', (Instr.sliceAt 23 (.pointer (some ⟨w.heap.size, 0, none⟩)) (some (.int .i64 16)) (some (.int .i64 24)) none).run Tryd.prog w' = .ok (.slice (some ⟨w.heap.size, 16, none⟩) 8 16) w' :=
    fun w' => run_sliceArr w' 23 5 32 w.heap.size 0 .i64 .i64 16 24 Tryd.underlying23 size5 (by omega) (by omega) (by omega)
  have s3 : ∀ w', (Instr.sliceAt 23 (.pointer (some ⟨w.heap.size, 0, none⟩)) (some (.int .i64 24)) (some (.int .i64 32)) none).run Tryd.prog w' = .ok (.slice (some ⟨w.heap.size, 24, none⟩) 8 8) w' :=
    fun w' => run_sliceArr w' 23 5 32 w.heap.size 0 .i64 .i64 24 32 Tryd.underlying23 size5 (by omega) (by omega) (by omega)
  have hW : ∀ (o cap n : Nat), o + 8 ≤ 32 → Calls Tryd.prog 77 #[.slice (some ⟨w.heap.size, o, none⟩) 8 cap] (((w.alloc (.cells (numsA .u8 l) 23)).alloc (.cells #[.int .u64 0, .int .u64 0, .int .u64 0, .int .u64 0, .int .u64 0] 39)).drewN n) fun e w'' => e = .returned (.int .u64 (word8 (fun j => l.getD (o + j) 0))) ∧ ∃ m, w'' = ((w.alloc (.cells (numsA .u8 l) 23)).alloc (.cells #[.int .u64 0, .int .u64 0, .int .u64 0, .int .u64 0, .int .u64 0] 39)).drewN m := by
    intro o cap n ho
    have hb : Blk (((w.alloc (.cells (numsA .u8 l) 23)).alloc (.cells #[.int .u64 0, .int .u64 0, .int .u64 0, .int .u64 0, .int .u64 0] 39)).drewN n) w.heap.size 23 (numsA .u8 l) := ((Blk.at1 w _ _).alloc _).drewN n
    refine (word_any w.heap.size o cap _ _ (fun j hj => by rw [hb.cell, numsA_get _ _ _ (by omega)]) (fun j _ => hg _)).mono ?_
    rintro e w'' ⟨rfl, rfl⟩
    exact ⟨rfl, _, rfl⟩
  have W0 := Lib.hid (fun n => hW 0 32 n (by omega))
  have W1 := Lib.hid (fun n => hW 8 24 n (by omega))
  have W2 := Lib.hid (fun n => hW 16 16 n (by omega))
  have W3 := Lib.hid (fun n => hW 24 8 n (by omega))
  clear hg hl hE hW HG Hl
  generalize word8 (fun j => l.getD (0 + j) 0) = a at *
  generalize word8 (fun j => l.getD (8 + j) 0) = b at *
  generalize word8 (fun j => l.getD (16 + j) 0) = c at *
  generalize word8 (fun j => l.getD (24 + j) 0) = d at *
  have Hab := Lib.hid (And.intro ha (And.intro hb (And.intro hc hd)))
  clear ha hb hc hd
  go_enter Tryd.func42, Tryd.ntmps42
  go_wp2
  go_quiet ((go_at_call 77; first | with_reducible exact W0.out _ | with_reducible exact W1.out _ | with_reducible exact W2.out _ | with_reducible exact W3.out _))
  clear W0 W1 W2 W3 s0 s1 s2 s3
  have Hb := Lib.hid ((Blk.at2 w (.cells (numsA .u8 l) 23) #[.int .u64 0, .int .u64 0, .int .u64 0, .int .u64 0, .int .u64 0] 39).drewN nq)
  go_wp2_with (refine wpList_storeBlk2 rfl 39 _ _ rfl (w.heap.size + 1) 0 5 rfl _ rfl 39 _ Hb.out info28 rfl (by simp) (one5 _ _ _ _ _) ?_; intro wz hbz huz hzz; rw [splice_all _ _ 5 rfl rfl] at hbz; have Hbz := Lib.hid hbz; have Huz := Lib.hid huz; clear hbz huz hzz)
  exact bodyPost_ret (v := .agg #[.int .u64 (bits .and .u64 a 2251799813685247), .int .u64 (bits .and .u64 (bits .or .u64 (a / 2251799813685248) (IntKind.u64.wrap (b * 8192))) 2251799813685247), .int .u64 (bits .and .u64 (bits .or .u64 (b / 274877906944) (IntKind.u64.wrap (c * 67108864))) 2251799813685247), .int .u64 (bits .and .u64 (bits .or .u64 (c / 33554432) (IntKind.u64.wrap (d * 549755813888))) 2251799813685247), .int .u64 (bits .and .u64 (d / 4096) 2251799813685247)]) (results_cell_row (fn := Tryd.f42) (p := 2) (ty := 39) rfl _ _ (w.heap.size + 1) 39 _ (0, 0) _ rfl Hbz.out Tryd.underlying39 rfl info28) rfl ⟨_, _, _, _, _, HE.out, rfl, ((((Upd.refl _ w).alloc _).alloc _).drewN _).step Huz.out (fun i hi h => by omega)⟩
end Go.Proofs.YtdpafemcpbhlfaaDoor
namespace Go.Proofs.YtdpafemcpbhlfaaDoor
set_option maxRecDepth 100000
open Go.RowKit

/-- A number of noughts. -/
def zeroN : Array Value := numsA .u64 (List.replicate 16 0)
theorem zeroN_size : zeroN.size = 16 := by kernel_rfl
theorem zeroN_run (w : World) : (zeroValue 45).run Tryd.prog w = .ok (.agg zeroN) w := by kernel_rfl
theorem sizeNum : (Tryd.prog.info? 45).map (·.size) = some 16 := by kernel_rfl
theorem numsA_set (k : IntKind) (l : List Int) (j : Nat) (x : Int) : (numsA k l).setIfInBounds j (.int k x) = numsA k (l.set j x) := by
  unfold numsA
  rw [List.setIfInBounds_toArray, List.map_set]
/-- The first k of f, noughts behind them, n in all. -/
def fillTo (f : Nat → Int) (n k : Nat) : List Int := (List.range n).map fun j => if j < k then f j else 0
theorem fillTo_length (f : Nat → Int) (n k : Nat) : (fillTo f n k).length = n := by simp [fillTo]
theorem fillTo_zero (f : Nat → Int) (n : Nat) : fillTo f n 0 = List.replicate n 0 := by
  unfold fillTo
  simp [List.map_const']
theorem fillTo_succ (f : Nat → Int) (n k : Nat) : (fillTo f n k).set k (f k) = fillTo f n (k + 1) := by
  apply List.ext_getElem (by simp [fillTo])
  intro j h1 h2
  have hj : j < n := by simpa [fillTo] using h2
  rw [List.getElem_set]
  simp only [fillTo, List.getElem_map, List.getElem_range]
  by_cases e : k = j
  · subst e; rw [if_pos rfl, if_pos (by omega)]
  · rw [if_neg e]
    by_cases c : j < k
    · rw [if_pos c, if_pos (by omega)]
    · rw [if_neg c, if_neg (by omega)]
theorem fillTo_all (f : Nat → Int) (n : Nat) : fillTo f n n = (List.range n).map f := by
  unfold fillTo
  apply List.map_congr_left
  intro j hj
  rw [if_pos (List.mem_range.1 hj)]
theorem fillTo_get (f : Nat → Int) (n k j : Nat) (hj : j < n) : (fillTo f n k).getD j 0 = if j < k then f j else 0 := by
  simp [fillTo, List.getD_eq_getElem?_getD, hj]
/-- A number that the reference makes: its result's block and its own. -/
structure NumRel (w wr : World) (r b : Nat) (l : List Int) : Prop where
  upd : Upd (fun _ => False) w wr
  res : Blk wr r 45 zeroN
  out : Blk wr b 45 (numsA .u64 l)
  len : l.length = 16
  ne : r ≠ b
  ge : w.heap.size ≤ b
theorem NumRel.set {w wr : World} {r b : Nat} {l : List Int} (h : NumRel w wr r b l) (n j : Nat) (x : Int) : NumRel w ((wr.drewN n).setCell ⟨b, j, none⟩ (.int .u64 x)) r b (l.set j x) := by
  refine ⟨(h.upd.drewN n).set _ (fun hb => by have := h.ge; simp at hb; omega), (h.res.drewN n).setOther (by simpa using h.ne) _, ?_, by simpa using h.len, h.ne, h.ge⟩
  rw [← numsA_set]
  exact (h.out.drewN n).set j _
theorem NumRel.cell {w wr : World} {r b : Nat} {l : List Int} (h : NumRel w wr r b l) (j : Nat) (hj : j < 16) : wr.cell? ⟨b, j, none⟩ = some (.int .u64 (l.getD j 0)) := by
  rw [h.out.cell, numsA_get _ _ _ (by rw [h.len]; exact hj)]
set_option maxHeartbeats 1000000 in
theorem rPrime_any (w : World) : Calls Tryd.prog 92 #[] w fun e w' => e = .returned (.agg (numsA .u64 (digits 65536 16 pp))) ∧ Upd (fun _ => False) w w' := by
  have hz := zeroN_run
  have Hfin : Hid (((fillTo (fun _ => 65535) 16 16).set 0 65517).set 15 32767 = digits 65536 16 pp) := by show _ = _; decide +kernel
  go_enter Tryd.func92, Tryd.ntmps92
  go_wp2_with (refine wpList_storeBlk2 rfl 45 _ _ rfl (w.heap.size + 1) 0 16 rfl zeroN rfl 45 zeroN (Blk.at2 w _ _ _) sizeNum zeroN_size (by rw [zeroN_size]; omega) (numsA_one _ _) ?_; intro w1 hb1 hu1 hz1; rw [splice_all _ _ 16 zeroN_size zeroN_size] at hb1; have HR : Hid (NumRel w w1 w.heap.size (w.heap.size + 1) (fillTo (fun _ => 65535) 16 0)) := ⟨(((Upd.refl (fun _ => False) w).alloc _).alloc _).step hu1 (fun i hi h => by omega), hu1.blk ((Blk.at1 w _ _).alloc _) (by simp), hb1, fillTo_length _ _ _, by omega, by omega⟩; clear hb1 hu1 hz1)
  go_loopw [2] (fun i wr => ∃ k : Nat, k ≤ 16 ∧ i = .int .i64 k ∧ NumRel w wr w.heap.size (w.heap.size + 1) (fillTo (fun _ => 65535) 16 k)) (fun i _ => 16 - (intOf i).toNat)
  case atStart => exact ⟨0, by omega, rfl, HR.out⟩
  case round =>
    clear HR
    obtain ⟨k, hk, rfl, hrel⟩ := hrel
    have hfr := hrel.out.frozen
    by_cases hlt : k < 16
    · have hc := hrel.cell k hlt
      have Hrel := Lib.hid hrel
      clear hrel
      go_wp2
      go_roundw
      case rel =>
        have := Hrel.out.set 0 k 65535
        rw [fillTo_succ (fun _ => 65535) 16 k] at this
        exact ⟨k + 1, by omega, by go_num, this⟩
      case measure => simp [intOf]; omega
    · obtain rfl : k = 16 := by omega
      have hc0 := hrel.cell 0 (by omega)
      have hc15 := hrel.cell 15 (by omega)
      have hr2 := (hrel.set 0 0 65517).set 0 15 32767
      rw [Hfin.out] at hr2
      have Hr2 := Lib.hid hr2
      clear hrel hr2
      go_wp2_with (first
        | (refine wpList_loadBlk rfl 45 _ rfl (w.heap.size + 1) 0 16 rfl 45 (numsA .u64 (digits 65536 16 pp)) _ Hr2.out.out Tryd.underlying45 rfl sizeNum (by rw [numsA_size, digits_length]; omega) ?_; rw [extract_all _ _ (by rw [numsA_size, digits_length])])
        | (refine wpList_storeBlk2 rfl 45 _ _ rfl w.heap.size 0 16 rfl (numsA .u64 (digits 65536 16 pp)) rfl 45 _ Hr2.out.res sizeNum (by rw [numsA_size, digits_length]) (by rw [zeroN_size]; omega) (numsA_one _ _) ?_; intro wz hbz huz hzz; rw [splice_all _ _ 16 zeroN_size (by rw [numsA_size, digits_length])] at hbz; have Hbz := Lib.hid hbz; have Huz := Lib.hid huz; clear hbz huz hzz))
      exact bodyPost_ret (v := .agg (numsA .u64 (digits 65536 16 pp))) (results_cell_row (fn := Tryd.f92) (p := 0) (ty := 45) rfl _ _ w.heap.size 45 _ (0, 0) _ rfl Hbz.out Tryd.underlying45 rfl (by rw [numsA_size, digits_length]; exact sizeNum)) rfl ⟨rfl, Hr2.out.upd.step Huz.out (fun i hi h => by omega)⟩
/-- Digits of two bytes each. -/
def two (l : List Int) (j : Nat) : Int := l.getD (2 * j) 0 + 256 * l.getD (2 * j + 1) 0
theorem dig_two : ∀ (n : Nat) (l : List Int), l.length = 2 * n → dig 65536 ((List.range n).map (two l)) = dig 256 l
  | 0, l, h => by
    obtain rfl : l = [] := List.eq_nil_of_length_eq_zero (by omega)
    rfl
  | n + 1, l, h => by
    match l, h with
    | a :: b :: t, h =>
      have ih := dig_two n t (by simp at h; omega)
      rw [List.range_succ_eq_map, List.map_cons, List.map_map]
      have e : (two (a :: b :: t)) ∘ Nat.succ = two t := by
        funext j
        show (a :: b :: t).getD (2 * (j + 1)) 0 + 256 * (a :: b :: t).getD (2 * (j + 1) + 1) 0 = _
        rw [show 2 * (j + 1) = 2 * j + 1 + 1 by omega, show 2 * j + 1 + 1 + 1 = 2 * j + 1 + 1 + 1 from rfl]
        rfl
      rw [e]
      simp only [dig, ih]
      show a + 256 * b + 65536 * dig 256 t = a + 256 * (b + 256 * dig 256 t)
      omega
theorem Digs.get {B : Int} (hB : 0 < B) {l : List Int} (h : Digs B l) (j : Nat) : 0 ≤ l.getD j 0 ∧ l.getD j 0 < B := by
  by_cases hj : j < l.length
  · rw [List.getD_eq_getElem?_getD, List.getElem?_eq_getElem hj]; exact h _ (List.getElem_mem hj)
  · rw [List.getD_eq_getElem?_getD, List.getElem?_eq_none (by omega)]; simpa using hB
theorem two_bd {l : List Int} (h : Digs 256 l) (j : Nat) : 0 ≤ two l j ∧ two l j < 65536 := by
  have h1 := h.get (by omega) (2 * j)
  have h2 := h.get (by omega) (2 * j + 1)
  unfold two
  omega
theorem dig_set_last (l : List Int) (h : l.length = 16) (x : Int) : dig 65536 (l.set 15 x) = dig 65536 l + 65536 ^ 15 * (x - l.getD 15 0) := by
  match l, h with
  | [a0, a1, a2, a3, a4, a5, a6, a7, a8, a9, a10, a11, a12, a13, a14, a15], _ =>
    simp only [List.set_cons_succ, List.set_cons_zero, dig, List.getD_cons_succ, List.getD_cons_zero]
    rw [show (65536 : Int) ^ 15 = 1766847064778384329583297500742918515827483896875618958121606201292619776 by decide]
    omega
theorem rOf_math (l : List Int) (hl : l.length = 32) (hd : Digs 256 l) : ((fillTo (two l) 16 16).set 15 (two l 15 % 32768)) = digits 65536 16 (keyNum l) := by
  have hlen : ((fillTo (two l) 16 16).set 15 (two l 15 % 32768)).length = 16 := by rw [List.length_set, fillTo_length]
  have hD : Digs 65536 ((fillTo (two l) 16 16).set 15 (two l 15 % 32768)) := by
    intro x hx
    rcases List.mem_or_eq_of_mem_set hx with h | h
    · rw [fillTo_all] at h
      obtain ⟨j, _, rfl⟩ := List.mem_map.1 h
      exact two_bd hd j
    · have := two_bd hd 15; omega
  rw [← digits_dig (by omega) hD, hlen, dig_set_last _ (fillTo_length _ _ _), fillTo_all, dig_two 16 l hl]
  congr 1
  have e : ((List.range 16).map (two l)).getD 15 0 = two l 15 := by simp [List.getD_eq_getElem?_getD]
  rw [e]
  unfold keyNum
  have h15 := two_bd hd 15
  have hdig := dig_two 16 l hl
  have hsplit : dig 65536 ((List.range 16).map (two l)) = dig 65536 ((List.range 15).map (two l)) + 65536 ^ 15 * two l 15 := by
    rw [show (List.range 16).map (two l) = (List.range 15).map (two l) ++ [two l 15] from by rw [List.range_succ, List.map_append]; rfl, dig_append]
    simp [dig]
  have hlow : 0 ≤ dig 65536 ((List.range 15).map (two l)) ∧ dig 65536 ((List.range 15).map (two l)) < 65536 ^ 15 := by
    have hD' : Digs 65536 ((List.range 15).map (two l)) := fun x hx => by obtain ⟨j, _, rfl⟩ := List.mem_map.1 hx; exact two_bd hd j
    refine ⟨dig_nonneg (by omega) hD', ?_⟩
    have := dig_lt (B := 65536) (by omega) hD'
    simpa using this
  rw [← hdig, hsplit]
  rw [show (65536 : Int) ^ 15 = 1766847064778384329583297500742918515827483896875618958121606201292619776 by decide] at *
  omega
set_option maxHeartbeats 1000000 in
theorem rOf_any (l : List Int) (w : World) (hl : l.length = 32) (hd : Digs 256 l) : Calls Tryd.prog 53 #[.agg (numsA .u8 l)] w fun e w' => e = .returned (.agg (numsA .u64 (digits 65536 16 (keyNum l)))) ∧ Upd (fun _ => False) w w' := by
  have hz := zeroN_run
  have Hfin := Lib.hid (rOf_math l hl hd)
  have HG := Lib.hid (fun j => hd.get (B := 256) (by omega) j)
  have H15 := Lib.hid (two_bd hd 15)
  have Hl := Lib.hid hl
  clear hl hd
  go_enter Tryd.func53, Tryd.ntmps53
  go_wp2_with (refine wpList_storeBlk2 rfl 45 _ _ rfl (w.heap.size + 1 + 1) 0 16 rfl zeroN rfl 45 zeroN (Blk.at3 w _ _ _ _) sizeNum zeroN_size (by rw [zeroN_size]; omega) (numsA_one _ _) ?_; intro w1 hb1 hu1 hz1; rw [splice_all _ _ 16 zeroN_size zeroN_size] at hb1; have HR : Hid (NumRel w w1 (w.heap.size + 1) (w.heap.size + 1 + 1) (fillTo (two l) 16 0)) := ⟨((((Upd.refl (fun _ => False) w).alloc _).alloc _).alloc _).step hu1 (fun i hi h => by omega), hu1.blk ((Blk.at2 w _ _ _).alloc _) (by simp), hb1, fillTo_length _ _ _, by omega, by omega⟩; have HK := Lib.hid (hu1.blk (((Blk.at1 w (numsA .u8 l) 23).alloc _).alloc _) (show ¬ w.heap.size = w.heap.size + 1 + 1 by omega)); clear hb1 hu1 hz1)
  go_loopw [4] (fun i wr => ∃ k : Nat, k ≤ 16 ∧ i = .int .i64 k ∧ NumRel w wr (w.heap.size + 1) (w.heap.size + 1 + 1) (fillTo (two l) 16 k) ∧ Blk wr w.heap.size 23 (numsA .u8 l)) (fun i _ => 16 - (intOf i).toNat)
  case atStart => exact ⟨0, by omega, rfl, HR.out, HK.out⟩
  case round =>
    clear HR HK
    obtain ⟨k, hk, rfl, hrel, hkb⟩ := hrel
    have hfr := hrel.out.frozen
    by_cases hlt : k < 16
    · have hc := hrel.cell k hlt
      have Hrel := Lib.hid hrel
      have Hkb := Lib.hid hkb
      have c1 : wr.cell? ⟨w.heap.size, 2 * k, none⟩ = some (.int .u8 (l.getD (2 * k) 0)) := by rw [hkb.cell, numsA_get _ _ _ (by rw [Hl.out]; omega)]
      have c2 : wr.cell? ⟨w.heap.size, 2 * k + 1, none⟩ = some (.int .u8 (l.getD (2 * k + 1) 0)) := by rw [hkb.cell, numsA_get _ _ _ (by rw [Hl.out]; omega)]
      have g1 := HG.out (2 * k)
      have g2 := HG.out (2 * k + 1)
      have Ht : Hid (two l k = l.getD (2 * k) 0 + 256 * l.getD (2 * k + 1) 0) := rfl
      generalize l.getD (2 * k) 0 = x at *
      generalize l.getD (2 * k + 1) 0 = y at *
      have q1 : IntKind.i64.wrap (2 * (k : Int)) = 2 * (k : Int) := IntWalk.i64_in _ (by omega)
      have q2 : (2 * (k : Int)).toNat = 2 * k := by omega
      have q3 : (0 : Int) ≤ 2 * (k : Int) := by omega
      have q4 : IntKind.i64.wrap (2 * (k : Int) + 1) = 2 * (k : Int) + 1 := IntWalk.i64_in _ (by omega)
      have q5 : (2 * (k : Int) + 1).toNat = 2 * k + 1 := by omega
      have q6 : (0 : Int) ≤ 2 * (k : Int) + 1 := by omega
      have q7 : IntKind.u64.wrap x = x := IntWalk.u64_in _ (by omega)
      have q8 : IntKind.u64.wrap y = y := IntWalk.u64_in _ (by omega)
      have q9 : IntKind.u64.wrap (256 * y) = 256 * y := IntWalk.u64_in _ (by omega)
      have q10 : IntKind.u64.wrap (x + 256 * y) = x + 256 * y := IntWalk.u64_in _ (by omega)
      clear hrel hkb
      go_wp2
      go_region
      clear q1 q2 q3 q4 q5 q6 q7 q8 q9 q10
      go_wp2
      go_roundw
      case rel =>
        have := Hrel.out.set 1 k (two l k)
        rw [fillTo_succ (two l) 16 k] at this
        rw [Ht.out] at this
        exact ⟨k + 1, by omega, by go_num, this, (Hkb.out.drewN 1).setOther (by simp; omega) _⟩
      case measure => simp [intOf]; omega
    · obtain rfl : k = 16 := by omega
      have hc15 := hrel.cell 15 (by omega)
      have e15 : (fillTo (two l) 16 16).getD 15 0 = two l 15 := by rw [fillTo_get _ _ _ _ (by omega)]; rfl
      rw [e15] at hc15
      have hr2 := hrel.set 0 15 (two l 15 % 32768)
      rw [Hfin.out] at hr2
      have Hr2 := Lib.hid hr2
      have g15 := H15.out
      generalize two l 15 = t at *
      have hd16 : decide (((16 : Nat) : Int) < 16) = false := by decide
      clear hrel hr2 e15 hkb
      go_wp2_with (first
        | (refine wpList_loadBlk rfl 45 _ rfl (w.heap.size + 1 + 1) 0 16 rfl 45 (numsA .u64 (digits 65536 16 (keyNum l))) _ Hr2.out.out Tryd.underlying45 rfl sizeNum (by rw [numsA_size, digits_length]; omega) ?_; rw [extract_all _ _ (by rw [numsA_size, digits_length])])
        | (refine wpList_storeBlk2 rfl 45 _ _ rfl (w.heap.size + 1) 0 16 rfl (numsA .u64 (digits 65536 16 (keyNum l))) rfl 45 _ Hr2.out.res sizeNum (by rw [numsA_size, digits_length]) (by rw [zeroN_size]; omega) (numsA_one _ _) ?_; intro wz hbz huz hzz; rw [splice_all _ _ 16 zeroN_size (by rw [numsA_size, digits_length])] at hbz; have Hbz := Lib.hid hbz; have Huz := Lib.hid huz; clear hbz huz hzz))
      exact bodyPost_ret (v := .agg (numsA .u64 (digits 65536 16 (keyNum l)))) (results_cell_row (fn := Tryd.f53) (p := 2) (ty := 45) rfl _ _ (w.heap.size + 1) 45 _ (0, 0) _ rfl Hbz.out Tryd.underlying45 rfl (by rw [numsA_size, digits_length]; exact sizeNum)) rfl ⟨rfl, Hr2.out.upd.step Huz.out (fun i hi h => by omega)⟩
end Go.Proofs.YtdpafemcpbhlfaaDoor
namespace Go.Proofs.YtdpafemcpbhlfaaDoor
set_option maxRecDepth 100000
open Go.RowKit

theorem dig_split (B : Int) (l : List Int) (j : Nat) (hj : j < l.length) : dig B l = dig B (l.take j) + B ^ j * (l.getD j 0 + B * dig B (l.drop (j + 1))) := by
  have h1 : l = l.take j ++ (l.getD j 0 :: l.drop (j + 1)) := by
    have : l.getD j 0 = l[j] := by simp [List.getD_eq_getElem?_getD, hj]
    rw [this, ← List.drop_eq_getElem_cons hj, List.take_append_drop]
  conv => lhs; rw [h1]
  rw [dig_append, List.length_take, Nat.min_eq_left (by omega)]
  rfl
theorem Digs.take {B : Int} {l : List Int} (h : Digs B l) (j : Nat) : Digs B (l.take j) := fun x hx => h x (List.mem_of_mem_take hx)
theorem dig_lt_iff {B : Int} (hB : 0 < B) {l m : List Int} (hl : Digs B l) (hm : Digs B m) (j : Nat) (h1 : j < l.length) (h2 : j < m.length) (hd : l.drop (j + 1) = m.drop (j + 1)) (hne : l.getD j 0 ≠ m.getD j 0) :
    decide (dig B l < dig B m) = decide (l.getD j 0 < m.getD j 0) := by
  rw [decide_eq_decide, dig_split B l j h1, dig_split B m j h2, hd]
  have a0 := dig_nonneg hB (hl.take j)
  have a1 := dig_lt hB (hl.take j)
  have b0 := dig_nonneg hB (hm.take j)
  have b1 := dig_lt hB (hm.take j)
  rw [List.length_take, Nat.min_eq_left (by omega)] at a1 b1
  generalize dig B (l.take j) = p at *
  generalize dig B (m.take j) = q at *
  generalize B * dig B (m.drop (j + 1)) = r at *
  generalize l.getD j 0 = x at *
  generalize m.getD j 0 = y at *
  have hpos : 0 < B ^ j := Int.pow_pos hB
  generalize B ^ j = C at *
  have e1 : C * (x + r) = C * x + C * r := Int.mul_add _ _ _
  have e2 : C * (y + r) = C * y + C * r := Int.mul_add _ _ _
  rw [e1, e2]
  constructor
  · intro h
    apply Decidable.byContradiction
    intro hc
    have : C * (y + 1) ≤ C * x := Int.mul_le_mul_of_nonneg_left (by omega) (by omega)
    rw [Int.mul_add, Int.mul_one] at this
    omega
  · intro h
    have : C * (x + 1) ≤ C * y := Int.mul_le_mul_of_nonneg_left (by omega) (by omega)
    rw [Int.mul_add, Int.mul_one] at this
    omega
theorem drop_step {l m : List Int} {k : Nat} (hl : k < l.length) (hm : k < m.length) (h : l.drop (k + 1) = m.drop (k + 1)) (he : l.getD k 0 = m.getD k 0) : l.drop k = m.drop k := by
  rw [List.drop_eq_getElem_cons hl, List.drop_eq_getElem_cons hm, h]
  have e1 : l.getD k 0 = l[k] := by simp [List.getD_eq_getElem?_getD, hl]
  have e2 : m.getD k 0 = m[k] := by simp [List.getD_eq_getElem?_getD, hm]
  rw [← e1, ← e2, he]
set_option maxHeartbeats 1000000 in
theorem rLess_any (l m : List Int) (w : World) (hl : l.length = 16) (hm : m.length = 16) (dl : Digs 65536 l) (dm : Digs 65536 m) :
    Calls Tryd.prog 99 #[.agg (numsA .u64 l), .agg (numsA .u64 m)] w fun e w' => e = .returned (.bool (decide (dig 65536 l < dig 65536 m))) ∧ Upd (fun _ => False) w w' := by
  have Hl := Lib.hid hl
  have Hm := Lib.hid hm
  have HX := Lib.hid (fun (j : Nat) (hj : j < 16) => dig_lt_iff (B := 65536) (by omega) dl dm j (by omega) (by omega))
  have Hgl := Lib.hid (fun j => dl.get (B := 65536) (by omega) j)
  have Hgm := Lib.hid (fun j => dm.get (B := 65536) (by omega) j)
  have hb0 := (Blk.at1 w (numsA .u64 l) 45).alloc (.cells (numsA .u64 m) 45)
  have hb1 := Blk.at2 w (.cells (numsA .u64 l) 45) (numsA .u64 m) 45
  have H0 := Lib.hid hb0
  have H1 := Lib.hid hb1
  clear hb0 hb1 hl hm dl dm
  go_enter Tryd.func99, Tryd.ntmps99
  go_wp2
  go_loopw [5] (fun i wr => ∃ k : Nat, k ≤ 16 ∧ i = .int .i64 ((k : Int) - 1) ∧ l.drop k = m.drop k ∧ ∃ n, wr = ((w.alloc (.cells (numsA .u64 l) 45)).alloc (.cells (numsA .u64 m) 45)).drewN n) (fun i _ => (intOf i + 1).toNat)
  case atStart => exact ⟨16, by omega, rfl, by rw [List.drop_eq_nil_of_le (by rw [Hl.out]; omega), List.drop_eq_nil_of_le (by rw [Hm.out]; omega)], 0, rfl⟩
  case round =>
    obtain ⟨k, hk, rfl, hdrop, n, rfl⟩ := hrel
    have Hdrop := Lib.hid hdrop
    clear hdrop
    by_cases hlt : 0 < k
    · obtain ⟨j, rfl⟩ : ∃ j, k = j + 1 := ⟨k - 1, by omega⟩
      have e1 : ((j + 1 : Nat) : Int) - 1 = (j : Int) := by omega
      rw [e1]
      clear e1 hlt
      have c1 : ∀ q, ((((w.alloc (.cells (numsA .u64 l) 45)).alloc (.cells (numsA .u64 m) 45)).drewN q)).cell? ⟨w.heap.size, j, none⟩ = some (.int .u64 (l.getD j 0)) := fun q => ((H0.out.drewN q).cell j).trans (numsA_get _ _ _ (by rw [Hl.out]; omega))
      have c2 : ∀ q, ((((w.alloc (.cells (numsA .u64 l) 45)).alloc (.cells (numsA .u64 m) 45)).drewN q)).cell? ⟨w.heap.size + 1, j, none⟩ = some (.int .u64 (m.getD j 0)) := fun q => ((H1.out.drewN q).cell j).trans (numsA_get _ _ _ (by rw [Hm.out]; omega))
      have HX' := Lib.hid (HX.out j (by omega) Hdrop.out)
      by_cases hne : l.getD j 0 = m.getD j 0
      · have hd2 := drop_step (by rw [Hl.out]; omega) (by rw [Hm.out]; omega) Hdrop.out hne
        have Hd2 := Lib.hid hd2
        have hbne : (l.getD j 0 != m.getD j 0) = false := bne_eq_false_iff_eq.2 hne
        clear hne hd2
        generalize l.getD j 0 = x at *
        generalize m.getD j 0 = y at *
        go_wp2
        go_quiet (fail)
        go_wp2
        go_roundw
        case rel => exact ⟨j, by omega, by go_num, Hd2.out, _, rfl⟩
        case measure => simp [intOf]
      · have hbne : (l.getD j 0 != m.getD j 0) = true := bne_iff_ne.2 hne
        have HX2 := Lib.hid (HX'.out hne)
        clear hne
        generalize l.getD j 0 = x at *
        generalize m.getD j 0 = y at *
        go_wp2
        go_quiet (fail)
        go_wp2
        go_quiet (fail)
        go_wp2
        go_ret
        exact ⟨by rw [HX2.out]; rfl, (((((Upd.refl (fun _ => False) w).alloc _).alloc _).drewN _).drewN _).drewN _⟩
    · obtain rfl : k = 0 := by omega
      have Hq : Hid (decide (dig 65536 l < dig 65536 m) = false) := by
        show _ = _
        have := Hdrop.out
        rw [List.drop_zero, List.drop_zero] at this
        rw [this]
        simp
      have hz : decide ((0 : Int) ≤ ((0 : Nat) : Int) - 1) = false := by decide
      go_wp2
      go_ret
      exact ⟨by rw [Hq.out]; rfl, (((Upd.refl (fun _ => False) w).alloc _).alloc _).drewN _⟩

/-- What is borrowed behind k digits. -/
def bor (l m : List Int) : Nat → Int
  | 0 => 0
  | k + 1 => 1 - (l.getD k 0 + 65536 - m.getD k 0 - bor l m k) / 65536
def mdig (l m : List Int) (k : Nat) : Int := (l.getD k 0 + 65536 - m.getD k 0 - bor l m k) % 65536
theorem bor_bd {l m : List Int} (dl : Digs 65536 l) (dm : Digs 65536 m) : ∀ k, 0 ≤ bor l m k ∧ bor l m k ≤ 1
  | 0 => by simp [bor]
  | k + 1 => by
    have ih := bor_bd dl dm k
    have h1 := dl.get (by omega) k
    have h2 := dm.get (by omega) k
    simp only [bor]
    omega
theorem take_succ_getD (l : List Int) (k : Nat) (hk : k < l.length) : l.take (k + 1) = l.take k ++ [l.getD k 0] := by
  rw [List.take_succ_eq_append_getElem hk]
  simp [List.getD_eq_getElem?_getD, hk]
theorem minus_inv {l m : List Int} (hl : l.length = 16) (hm : m.length = 16) : ∀ k, k ≤ 16 → dig 65536 ((List.range k).map (mdig l m)) - 65536 ^ k * bor l m k = dig 65536 (l.take k) - dig 65536 (m.take k)
  | 0, _ => by simp [dig, bor]
  | k + 1, hk => by
    have ih := minus_inv hl hm k (by omega)
    rw [List.range_succ, List.map_append, dig_append, take_succ_getD l k (by omega), take_succ_getD m k (by omega), dig_append, dig_append, List.length_map, List.length_range, List.length_take, List.length_take, Nat.min_eq_left (by omega), Nat.min_eq_left (by omega)]
    simp only [List.map_cons, List.map_nil, dig, Int.mul_zero, Int.add_zero, Int.pow_succ, bor]
    have e : mdig l m k = l.getD k 0 + 65536 - m.getD k 0 - bor l m k - 65536 * ((l.getD k 0 + 65536 - m.getD k 0 - bor l m k) / 65536) := by
      unfold mdig; omega
    rw [e]
    generalize (l.getD k 0 + 65536 - m.getD k 0 - bor l m k) / 65536 = q
    generalize l.getD k 0 = x at *
    generalize m.getD k 0 = y at *
    generalize bor l m k = b at *
    generalize (65536 : Int) ^ k = C at *
    have h1 : C * (x + 65536 - y - b - 65536 * q) = C * x + C * 65536 - C * y - C * b - C * (65536 * q) := by rw [Int.mul_sub, Int.mul_sub, Int.mul_sub, Int.mul_add]
    have h2 : C * 65536 * (1 - q) = C * 65536 - C * (65536 * q) := by rw [Int.mul_sub, Int.mul_one, Int.mul_assoc]
    rw [h1, h2]
    omega
theorem minus_math {l m : List Int} (hl : l.length = 16) (hm : m.length = 16) (dl : Digs 65536 l) (dm : Digs 65536 m) (hle : dig 65536 m ≤ dig 65536 l) : fillTo (mdig l m) 16 16 = digits 65536 16 (dig 65536 l - dig 65536 m) := by
  rw [fillTo_all]
  have hinv := minus_inv hl hm 16 (by omega)
  rw [List.take_of_length_le (by omega), List.take_of_length_le (by omega)] at hinv
  have hD : Digs 65536 ((List.range 16).map (mdig l m)) := fun x hx => by
    obtain ⟨j, _, rfl⟩ := List.mem_map.1 hx
    unfold mdig
    omega
  have hlt := dig_lt (B := 65536) (by omega) hD
  have hge := dig_nonneg (B := 65536) (by omega) hD
  have hb := bor_bd dl dm 16
  have hb0 : bor l m 16 = 0 := by
    rcases (show bor l m 16 = 0 ∨ bor l m 16 = 1 by omega) with h | h
    · exact h
    · rw [h, Int.mul_one] at hinv
      rw [List.length_map, List.length_range] at hlt
      omega
  rw [hb0, Int.mul_zero, Int.sub_zero] at hinv
  rw [← hinv]
  have := digits_dig (B := 65536) (by omega) hD
  rw [List.length_map, List.length_range] at this
  exact this.symm
set_option maxHeartbeats 1000000 in
theorem rminus_any (l m : List Int) (w : World) (hl : l.length = 16) (hm : m.length = 16) (dl : Digs 65536 l) (dm : Digs 65536 m) (hle : dig 65536 m ≤ dig 65536 l) :
    Calls Tryd.prog 91 #[.agg (numsA .u64 l), .agg (numsA .u64 m)] w fun e w' => e = .returned (.agg (numsA .u64 (digits 65536 16 (dig 65536 l - dig 65536 m)))) ∧ Upd (fun _ => False) w w' := by
  have hz := zeroN_run
  have Hfin := Lib.hid (minus_math hl hm dl dm hle)
  have Hl := Lib.hid hl
  have Hm := Lib.hid hm
  have Hgl := Lib.hid (fun j => dl.get (B := 65536) (by omega) j)
  have Hgm := Lib.hid (fun j => dm.get (B := 65536) (by omega) j)
  have Hbd := Lib.hid (bor_bd dl dm)
  clear hl hm dl dm hle
  have hb4 := Blk.at4 w (.cells (numsA .u64 l) 45) (.cells (numsA .u64 m) 45) (.cells zeroN 45) zeroN 45
  have Hb4 := Lib.hid hb4
  have Hb0 := Lib.hid ((((Blk.at1 w (numsA .u64 l) 45).alloc (.cells (numsA .u64 m) 45)).alloc (.cells zeroN 45)).alloc (.cells zeroN 45))
  have Hb1 := Lib.hid (((Blk.at2 w (.cells (numsA .u64 l) 45) (numsA .u64 m) 45).alloc (.cells zeroN 45)).alloc (.cells zeroN 45))
  have Hb2 := Lib.hid ((Blk.at3 w (.cells (numsA .u64 l) 45) (.cells (numsA .u64 m) 45) zeroN 45).alloc (.cells zeroN 45))
  have Hb3 := Lib.hid ((((Upd.refl (fun _ => False) w).alloc (.cells (numsA .u64 l) 45)).alloc (.cells (numsA .u64 m) 45)).alloc (.cells zeroN 45) |>.alloc (.cells zeroN 45))
  clear hb4
  go_enter Tryd.func91, Tryd.ntmps91
  go_wp2_with (refine wpList_storeBlk2 rfl 45 _ _ rfl (w.heap.size + 1 + 1 + 1) 0 16 rfl zeroN rfl 45 zeroN Hb4.out sizeNum zeroN_size (by rw [zeroN_size]; omega) (numsA_one _ _) ?_; intro w1 hb1 hu1 hz1; rw [splice_all _ _ 16 zeroN_size zeroN_size] at hb1; have HR1 := Lib.hid hb1; have HR2 := Lib.hid hu1; clear hb1 hu1 hz1)
  have HR : Hid (NumRel w w1 (w.heap.size + 1 + 1) (w.heap.size + 1 + 1 + 1) (fillTo (mdig l m) 16 0)) :=
    ⟨Hb3.out.step HR2.out (fun i hi h => by omega), HR2.out.blk Hb2.out (by simp), HR1.out, fillTo_length _ _ _, by omega, by omega⟩
  have HK := Lib.hid (HR2.out.blk Hb0.out (show ¬ w.heap.size = w.heap.size + 1 + 1 + 1 by omega))
  have HJ := Lib.hid (HR2.out.blk Hb1.out (show ¬ w.heap.size + 1 = w.heap.size + 1 + 1 + 1 by omega))
  clear HR1 HR2 Hb0 Hb1 Hb2 Hb3 Hb4
  go_loopw [6, 7] (fun bo i wr => ∃ k : Nat, k ≤ 16 ∧ i = .int .i64 k ∧ bo = .int .u64 (bor l m k) ∧ NumRel w wr (w.heap.size + 1 + 1) (w.heap.size + 1 + 1 + 1) (fillTo (mdig l m) 16 k) ∧ Blk wr w.heap.size 45 (numsA .u64 l) ∧ Blk wr (w.heap.size + 1) 45 (numsA .u64 m)) (fun _ i _ => 16 - (intOf i).toNat)
  case atStart => exact ⟨0, by omega, rfl, rfl, HR.out, HK.out, HJ.out⟩
  case round =>
    clear HR HK HJ
    obtain ⟨k, hk, rfl, rfl, hrel, hkb, hjb⟩ := hrel
    have hfr := hrel.out.frozen
    by_cases hlt : k < 16
    · have hc := hrel.cell k hlt
      have Hrel := Lib.hid hrel
      have Hkb := Lib.hid hkb
      have Hjb := Lib.hid hjb
      have c1 : wr.cell? ⟨w.heap.size, k, none⟩ = some (.int .u64 (l.getD k 0)) := by rw [hkb.cell, numsA_get _ _ _ (by rw [Hl.out]; omega)]
      have c2 : wr.cell? ⟨w.heap.size + 1, k, none⟩ = some (.int .u64 (m.getD k 0)) := by rw [hjb.cell, numsA_get _ _ _ (by rw [Hm.out]; omega)]
      have g1 := Hgl.out k
      have g2 := Hgm.out k
      have g3 := Hbd.out k
      have Ht : Hid (mdig l m k = (l.getD k 0 + 65536 - m.getD k 0 - bor l m k) % 65536) := rfl
      have Hb : Hid (bor l m (k + 1) = 1 - (l.getD k 0 + 65536 - m.getD k 0 - bor l m k) / 65536) := rfl
      generalize l.getD k 0 = x at *
      generalize m.getD k 0 = y at *
      generalize bor l m k = b at *
      have q1 : IntKind.u64.wrap (x + 65536) = x + 65536 := IntWalk.u64_in _ (by omega)
      have q2 : IntKind.u64.wrap (x + 65536 - y) = x + 65536 - y := IntWalk.u64_in _ (by omega)
      have q3 : IntKind.u64.wrap (x + 65536 - y - b) = x + 65536 - y - b := IntWalk.u64_in _ (by omega)
      clear hrel hkb hjb
      go_wp2
      go_quiet (fail)
      clear q1 q2 q3
      generalize hs : x + 65536 - y - b = s at *
      have hs0 : 0 ≤ s := by omega
      have hs1 : s < 131072 := by omega
      have Hs := Lib.hid hs
      clear hs
      go_wp2
      refine ⟨⟨k + 1, by omega, by go_num, by rw [Hb.out], ?_, (Hkb.out.drewN nq).setOther (show w.heap.size ≠ w.heap.size + 1 + 1 + 1 by omega) _, (Hjb.out.drewN nq).setOther (show w.heap.size + 1 ≠ w.heap.size + 1 + 1 + 1 by omega) _⟩, by simp [intOf]; omega⟩
      have := Hrel.out.set nq k (mdig l m k)
      rw [fillTo_succ (mdig l m) 16 k, Ht.out] at this
      exact this
    · obtain rfl : k = 16 := by omega
      have hr2 := hrel
      rw [Hfin.out] at hr2
      have Hr2 := Lib.hid hr2
      have hd16 : decide (((16 : Nat) : Int) < 16) = false := by decide
      clear hrel hr2 hkb hjb
      generalize hD : dig 65536 l - dig 65536 m = D at *
      have HD := Lib.hid hD
      clear hD
      go_wp2_with (first
        | (refine wpList_loadBlk rfl 45 _ rfl (w.heap.size + 1 + 1 + 1) 0 16 rfl 45 (numsA .u64 (digits 65536 16 D)) _ Hr2.out.out Tryd.underlying45 rfl sizeNum (by rw [numsA_size, digits_length]; omega) ?_; rw [extract_all _ _ (by rw [numsA_size, digits_length])])
        | (refine wpList_storeBlk2 rfl 45 _ _ rfl (w.heap.size + 1 + 1) 0 16 rfl (numsA .u64 (digits 65536 16 D)) rfl 45 _ Hr2.out.res sizeNum (by rw [numsA_size, digits_length]) (by rw [zeroN_size]; omega) (numsA_one _ _) ?_; intro wz hbz huz hzz; rw [splice_all _ _ 16 zeroN_size (by rw [numsA_size, digits_length])] at hbz; have Hbz := Lib.hid hbz; have Huz := Lib.hid huz; clear hbz huz hzz))
      exact bodyPost_ret (v := .agg (numsA .u64 (digits 65536 16 D))) (results_cell_row (fn := Tryd.f91) (p := 4) (ty := 45) rfl _ _ (w.heap.size + 1 + 1) 45 _ (0, 0) _ rfl Hbz.out Tryd.underlying45 rfl (by rw [numsA_size, digits_length]; exact sizeNum)) rfl ⟨by rw [HD.out], Hr2.out.upd.step Huz.out (fun i hi h => by omega)⟩
end Go.Proofs.YtdpafemcpbhlfaaDoor
