/-
  The walk of Of.
-/
import Derived.Test.YthnpbodkcdbckaaDoorAcc
import Derived.Test.YthnpbodkcdbckaaDoorMul
namespace Go.Proofs.YthnpbodkcdbckaaDoor
set_option maxRecDepth 100000
open Go.RowKit

theorem word8_dig (l : List Int) (o : Nat) (h : o + 8 ≤ l.length) : word8 (fun j => l.getD (o + j) 0) = dig 256 ((l.drop o).take 8) := by
  have e : ∀ j, j < 8 → l.getD (o + j) 0 = ((l.drop o).take 8).getD j 0 := fun j hj => by simp [List.getD_eq_getElem?_getD, hj]
  have hl : ((l.drop o).take 8).length = 8 := by simp; omega
  show l.getD (o + 0) 0 + 256 * l.getD (o + 1) 0 + 65536 * l.getD (o + 2) 0 + 16777216 * l.getD (o + 3) 0 + 4294967296 * l.getD (o + 4) 0 + 1099511627776 * l.getD (o + 5) 0 + 281474976710656 * l.getD (o + 6) 0 + 72057594037927936 * l.getD (o + 7) 0 = _
  rw [e 0 (by omega), e 1 (by omega), e 2 (by omega), e 3 (by omega), e 4 (by omega), e 5 (by omega), e 6 (by omega), e 7 (by omega)]
  generalize (l.drop o).take 8 = m at hl
  match m, hl with
  | [a, b, c, d, e, f, g, h], _ =>
    simp only [dig, List.getD_cons_zero, List.getD_cons_succ]
    omega
theorem dig_four (l : List Int) (h : l.length = 32) : dig 256 l = word8 (fun j => l.getD (0 + j) 0) + 18446744073709551616 * word8 (fun j => l.getD (8 + j) 0) + 340282366920938463463374607431768211456 * word8 (fun j => l.getD (16 + j) 0) + 6277101735386680763835789423207666416102355444464034512896 * word8 (fun j => l.getD (24 + j) 0) := by
  rw [word8_dig l 0 (by omega), word8_dig l 8 (by omega), word8_dig l 16 (by omega), word8_dig l 24 (by omega)]
  have e : l = ((l.drop 0).take 8) ++ (((l.drop 8).take 8) ++ (((l.drop 16).take 8) ++ ((l.drop 24).take 8))) := by
    match l, h with
    | [_, _, _, _, _, _, _, _, _, _, _, _, _, _, _, _, _, _, _, _, _, _, _, _, _, _, _, _, _, _, _, _], _ => rfl
  have l0 : ((l.drop 0).take 8).length = 8 := by simp; omega
  have l1 : ((l.drop 8).take 8).length = 8 := by simp; omega
  have l2 : ((l.drop 16).take 8).length = 8 := by simp; omega
  conv => lhs; rw [e]
  rw [dig_append, dig_append, dig_append, l0, l1, l2]
  have p8 : (256 : Int) ^ 8 = 18446744073709551616 := by decide
  rw [p8]
  generalize dig 256 (List.take 8 (List.drop 0 l)) = A
  generalize dig 256 (List.take 8 (List.drop 8 l)) = B
  generalize dig 256 (List.take 8 (List.drop 16 l)) = C
  generalize dig 256 (List.take 8 (List.drop 24 l)) = D
  omega
theorem word8_bd (f : Nat → Int) (h : ∀ j, j < 8 → 0 ≤ f j ∧ f j < 256) : 0 ≤ word8 f ∧ word8 f < 18446744073709551616 := by
  have h0 := h 0 (by omega)
  have h1 := h 1 (by omega)
  have h2 := h 2 (by omega)
  have h3 := h 3 (by omega)
  have h4 := h 4 (by omega)
  have h5 := h 5 (by omega)
  have h6 := h 6 (by omega)
  have h7 := h 7 (by omega)
  unfold word8
  omega
theorem of_math (a b c d : Int) (ha : 0 ≤ a ∧ a < 18446744073709551616) (hb : 0 ≤ b ∧ b < 18446744073709551616) (hc : 0 ≤ c ∧ c < 18446744073709551616) (_ : 0 ≤ d ∧ d < 18446744073709551616) :
    Exact (a % 2251799813685248) ((a / 2251799813685248 + b % 2251799813685248 * 8192) % 2251799813685248) ((b / 274877906944 + c % 274877906944 * 67108864) % 2251799813685248) ((c / 33554432 + d % 33554432 * 549755813888) % 2251799813685248) (d / 4096 % 2251799813685248)
      ((a + 18446744073709551616 * b + 340282366920938463463374607431768211456 * c + 6277101735386680763835789423207666416102355444464034512896 * d) % 57896044618658097711785492504343953926634992332820282019728792003956564819968) := by
  have e1 : (a / 2251799813685248 + b % 2251799813685248 * 8192) % 2251799813685248 = a / 2251799813685248 + 8192 * (b % 274877906944) := by omega
  have e2 : (b / 274877906944 + c % 274877906944 * 67108864) % 2251799813685248 = b / 274877906944 + 67108864 * (c % 33554432) := by omega
  have e3 : (c / 33554432 + d % 33554432 * 549755813888) % 2251799813685248 = c / 33554432 + 549755813888 * (d % 4096) := by omega
  rw [e1, e2, e3]
  refine ⟨by omega, by omega, by omega, by omega, by omega, by omega, by omega, by omega, by omega, by omega, ?_⟩
  clear e1 e2 e3
  have f1 : (a + 18446744073709551616 * b + 340282366920938463463374607431768211456 * c + 6277101735386680763835789423207666416102355444464034512896 * d) % 57896044618658097711785492504343953926634992332820282019728792003956564819968 = a + 18446744073709551616 * b + 340282366920938463463374607431768211456 * c + 6277101735386680763835789423207666416102355444464034512896 * (d % 9223372036854775808) := by omega
  rw [f1]
  clear f1
  unfold val5
  have g1 := Int.mul_ediv_add_emod a 2251799813685248
  have g2 := Int.mul_ediv_add_emod b 274877906944
  have g3 := Int.mul_ediv_add_emod c 33554432
  have g4 : 4096 * (d / 4096 % 2251799813685248) + d % 4096 = d % 9223372036854775808 := by omega
  generalize a / 2251799813685248 = a1 at *
  generalize a % 2251799813685248 = a2 at *
  generalize b / 274877906944 = b1 at *
  generalize b % 274877906944 = b2 at *
  generalize c / 33554432 = c1 at *
  generalize c % 33554432 = c2 at *
  generalize d / 4096 % 2251799813685248 = d1 at *
  generalize d % 4096 = d2 at *
  generalize d % 9223372036854775808 = d3 at *
  omega
theorem Exact.fits {a0 a1 a2 a3 a4 m n : Int} (h : Exact a0 a1 a2 a3 a4 m) (g : Cong m n) : Fits a0 a1 a2 a3 a4 n := by
  obtain ⟨l0, u0, l1, u1, l2, u2, l3, u3, l4, u4, hv⟩ := h
  exact ⟨l0, by omega, l1, by omega, l2, by omega, l3, by omega, l4, by omega, by rw [hv]; exact g⟩
theorem of_raw (a b c d : Int) (ha : 0 ≤ a ∧ a < 18446744073709551616) (hb : 0 ≤ b ∧ b < 18446744073709551616) (hc : 0 ≤ c ∧ c < 18446744073709551616) (hd : 0 ≤ d ∧ d < 18446744073709551616) :
    Exact (bits .and .u64 a 2251799813685247) (bits .and .u64 (bits .or .u64 (a / 2251799813685248) (IntKind.u64.wrap (b * 8192))) 2251799813685247) (bits .and .u64 (bits .or .u64 (b / 274877906944) (IntKind.u64.wrap (c * 67108864))) 2251799813685247) (bits .and .u64 (bits .or .u64 (c / 33554432) (IntKind.u64.wrap (d * 549755813888))) 2251799813685247) (bits .and .u64 (d / 4096) 2251799813685247)
      ((a + 18446744073709551616 * b + 340282366920938463463374607431768211456 * c + 6277101735386680763835789423207666416102355444464034512896 * d) % 57896044618658097711785492504343953926634992332820282019728792003956564819968) := by
  have m0 := and_mask a (by omega) (by omega)
  have r1 : IntKind.u64.wrap (b * 8192) = b % 2251799813685248 * 8192 := by rw [IntKind.wrap_u64]; omega
  have r2 : IntKind.u64.wrap (c * 67108864) = c % 274877906944 * 67108864 := by rw [IntKind.wrap_u64]; omega
  have r3 : IntKind.u64.wrap (d * 549755813888) = d % 33554432 * 549755813888 := by rw [IntKind.wrap_u64]; omega
  have j1 := or_high 13 8192 (a / 2251799813685248) (b % 2251799813685248) (by decide) (by omega) (by omega) (by omega) (by omega) (by omega)
  have j2 := or_high 26 67108864 (b / 274877906944) (c % 274877906944) (by decide) (by omega) (by omega) (by omega) (by omega) (by omega)
  have j3 := or_high 39 549755813888 (c / 33554432) (d % 33554432) (by decide) (by omega) (by omega) (by omega) (by omega) (by omega)
  have m1 := and_mask (a / 2251799813685248 + b % 2251799813685248 * 8192) (by omega) (by omega)
  have m2 := and_mask (b / 274877906944 + c % 274877906944 * 67108864) (by omega) (by omega)
  have m3 := and_mask (c / 33554432 + d % 33554432 * 549755813888) (by omega) (by omega)
  have m4 := and_mask (d / 4096) (by omega) (by omega)
  rw [r1, r2, r3, j1, j2, j3, m0, m1, m2, m3, m4]
  exact of_math a b c d ha hb hc hd
/-- The number of a key, without its highest bit. -/
def keyNum (l : List Int) : Int := dig 256 l % 57896044618658097711785492504343953926634992332820282019728792003956564819968
set_option maxHeartbeats 2000000 in
theorem of_any (l : List Int) (w : World) (hl : l.length = 32) (hd : Digs 256 l) :
    Calls Tryd.prog 42 #[.agg (numsA .u8 l)] w (RetE (keyNum l) w) := by
  have hg : ∀ j, 0 ≤ l.getD j 0 ∧ l.getD j 0 < 256 := fun j => by
    by_cases hj : j < l.length
    · rw [List.getD_eq_getElem?_getD, List.getElem?_eq_getElem hj]; exact hd _ (List.getElem_mem hj)
    · rw [List.getD_eq_getElem?_getD, List.getElem?_eq_none (by omega)]; simp
  have HG := Lib.hid hg
  have ha := word8_bd (fun j => l.getD (0 + j) 0) (fun j _ => hg _)
  have hb := word8_bd (fun j => l.getD (8 + j) 0) (fun j _ => hg _)
  have hc := word8_bd (fun j => l.getD (16 + j) 0) (fun j _ => hg _)
  have hd := word8_bd (fun j => l.getD (24 + j) 0) (fun j _ => hg _)
  have hE := of_raw _ _ _ _ ha hb hc hd
  rw [← dig_four l hl] at hE
  have HE := Lib.hid (hE.fits (Cong.refl (keyNum l)))
  have Hl := Lib.hid hl
  have s0 : ∀ w', (Instr.sliceAt 23 (.pointer (some ⟨w.heap.size, 0, none⟩)) (some (.int .i64 0)) (some (.int .i64 8)) none).run Tryd.prog w' = .ok (.slice (some ⟨w.heap.size, 0, none⟩) 8 32) w' :=
    fun w' => run_sliceArr w' 23 5 32 w.heap.size 0 .i64 .i64 0 8 Tryd.underlying23 size5 (by omega) (by omega) (by omega)
  have s1 : ∀ w', (Instr.sliceAt 23 (.pointer (some ⟨w.heap.size, 0, none⟩)) (some (.int .i64 8)) (some (.int .i64 16)) none).run Tryd.prog w' = .ok (.slice (some ⟨w.heap.size, 8, none⟩) 8 24) w' :=
    fun w' => run_sliceArr w' 23 5 32 w.heap.size 0 .i64 .i64 8 16 Tryd.underlying23 size5 (by omega) (by omega) (by omega)
  have s2 : ∀ w', (Instr.sliceAt 23 (.pointer (some ⟨w.heap.size, 0, none⟩)) (some (.int .i64 16)) (some (.int .i64 24)) none).run Tryd.prog w' = .ok (.slice (some ⟨w.heap.size, 16, none⟩) 8 16) w' :=
    fun w' => run_sliceArr w' 23 5 32 w.heap.size 0 .i64 .i64 16 24 Tryd.underlying23 size5 (by omega) (by omega) (by omega)
  have s3 : ∀ w', (Instr.sliceAt 23 (.pointer (some ⟨w.heap.size, 0, none⟩)) (some (.int .i64 24)) (some (.int .i64 32)) none).run Tryd.prog w' = .ok (.slice (some ⟨w.heap.size, 24, none⟩) 8 8) w' :=
    fun w' => run_sliceArr w' 23 5 32 w.heap.size 0 .i64 .i64 24 32 Tryd.underlying23 size5 (by omega) (by omega) (by omega)
  have hW : ∀ (o cap n : Nat), o + 8 ≤ 32 → Calls Tryd.prog 77 #[.slice (some ⟨w.heap.size, o, none⟩) 8 cap] (((w.alloc (.cells (numsA .u8 l) 23)).alloc (.cells #[.int .u64 0, .int .u64 0, .int .u64 0, .int .u64 0, .int .u64 0] 39)).drewN n) fun e w'' => e = .returned (.int .u64 (word8 (fun j => l.getD (o + j) 0))) ∧ ∃ m, w'' = ((w.alloc (.cells (numsA .u8 l) 23)).alloc (.cells #[.int .u64 0, .int .u64 0, .int .u64 0, .int .u64 0, .int .u64 0] 39)).drewN m := by
    intro o cap n ho
    have hb : Blk (((w.alloc (.cells (numsA .u8 l) 23)).alloc (.cells #[.int .u64 0, .int .u64 0, .int .u64 0, .int .u64 0, .int .u64 0] 39)).drewN n) w.heap.size 23 (numsA .u8 l) := ((Blk.at1 w _ _).alloc _).drewN n
    refine (word_any w.heap.size o cap _ _ (fun j hj => by rw [hb.cell, numsA_get _ _ _ (by omega)]) (fun j _ => hg _)).mono ?_
    rintro e w'' ⟨rfl, rfl⟩
    exact ⟨rfl, _, rfl⟩
  have W0 := Lib.hid (fun n => hW 0 32 n (by omega))
  have W1 := Lib.hid (fun n => hW 8 24 n (by omega))
  have W2 := Lib.hid (fun n => hW 16 16 n (by omega))
  have W3 := Lib.hid (fun n => hW 24 8 n (by omega))
  clear hg hl hE hW HG Hl
  generalize word8 (fun j => l.getD (0 + j) 0) = a at *
  generalize word8 (fun j => l.getD (8 + j) 0) = b at *
  generalize word8 (fun j => l.getD (16 + j) 0) = c at *
  generalize word8 (fun j => l.getD (24 + j) 0) = d at *
  have Hab := Lib.hid (And.intro ha (And.intro hb (And.intro hc hd)))
  clear ha hb hc hd
  go_enter Tryd.func42, Tryd.ntmps42
  go_wp2
  go_quiet ((go_at_call 77; first | with_reducible exact W0.out _ | with_reducible exact W1.out _ | with_reducible exact W2.out _ | with_reducible exact W3.out _))
  clear W0 W1 W2 W3 s0 s1 s2 s3
  have Hb := Lib.hid ((Blk.at2 w (.cells (numsA .u8 l) 23) #[.int .u64 0, .int .u64 0, .int .u64 0, .int .u64 0, .int .u64 0] 39).drewN nq)
  go_wp2_with (refine wpList_storeBlk2 rfl 39 _ _ rfl (w.heap.size + 1) 0 5 rfl _ rfl 39 _ Hb.out info28 rfl (by simp) (one5 _ _ _ _ _) ?_; intro wz hbz huz hzz; rw [splice_all _ _ 5 rfl rfl] at hbz; have Hbz := Lib.hid hbz; have Huz := Lib.hid huz; clear hbz huz hzz)
  exact bodyPost_ret (v := .agg #[.int .u64 (bits .and .u64 a 2251799813685247), .int .u64 (bits .and .u64 (bits .or .u64 (a / 2251799813685248) (IntKind.u64.wrap (b * 8192))) 2251799813685247), .int .u64 (bits .and .u64 (bits .or .u64 (b / 274877906944) (IntKind.u64.wrap (c * 67108864))) 2251799813685247), .int .u64 (bits .and .u64 (bits .or .u64 (c / 33554432) (IntKind.u64.wrap (d * 549755813888))) 2251799813685247), .int .u64 (bits .and .u64 (d / 4096) 2251799813685247)]) (results_cell_row (fn := Tryd.f42) (p := 2) (ty := 39) rfl _ _ (w.heap.size + 1) 39 _ (0, 0) _ rfl Hbz.out Tryd.underlying39 rfl info28) rfl ⟨_, _, _, _, _, HE.out, rfl, ((((Upd.refl _ w).alloc _).alloc _).drewN _).step Huz.out (fun i hi h => by omega)⟩
end Go.Proofs.YthnpbodkcdbckaaDoor
