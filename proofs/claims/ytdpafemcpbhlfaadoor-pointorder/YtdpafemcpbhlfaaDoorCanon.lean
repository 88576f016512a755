/-
  The walk of Bytes.
-/
/-
  The statements' head: counts; Canonical.
-/
/-
  The walk of Canonical.
-/
import Derived.Test.YtdpafemcpbhlfaaDoorRefB
import Derived.Test.YtdpafemcpbhlfaaDoorLists
namespace Go.Proofs.YtdpafemcpbhlfaaDoor
set_option maxRecDepth 100000
open Go.RowKit

/-- A key of noughts. -/
def zeroK : Array Value := numsA .u8 (List.replicate 32 0)
theorem zeroK_size : zeroK.size = 32 := by kernel_rfl
theorem zeroK_run (w : World) : (zeroValue 23).run Tryd.prog w = .ok (.agg zeroK) w := by kernel_rfl
theorem digits_append (B : Int) (hB : 0 < B) : ∀ (m k : Nat) (u v : Int), 0 ≤ u → u < B ^ m → digits B (m + k) (u + B ^ m * v) = digits B m u ++ digits B k v
  | 0, k, u, v, h0, h1 => by
    have : u = 0 := by simp at h1; omega
    subst this
    simp [digits]
  | m + 1, k, u, v, h0, h1 => by
    rw [Int.pow_succ, Int.mul_comm (B ^ m) B] at h1 ⊢
    rw [show m + 1 + k = (m + k) + 1 by omega, digits, digits, Int.mul_assoc, Int.add_mul_emod_self_left, Int.add_mul_ediv_left _ _ (by omega), List.cons_append,
      digits_append B hB m k (u / B) v (Int.ediv_nonneg h0 (by omega)) (Int.ediv_lt_of_lt_mul hB (by rw [Int.mul_comm]; exact h1))]
theorem splice_nums (l m m' k : List Int) (h : m'.length = m.length) : splice (numsA .u8 (l ++ m ++ k)) l.length (cellsOf .u8 m') = numsA .u8 (l ++ m' ++ k) := by
  simp only [splice, numsA, cellsOf, List.length_map, h, List.map_append, List.append_assoc]
  rw [show l.length + m.length = (l.map (Value.int .u8) ++ m.map (Value.int .u8)).length by simp, ← List.append_assoc (l.map _) (m.map _) (k.map _), List.drop_left]
  rw [List.append_assoc, List.take_left' (by simp)]
/-- The four words that Bytes lays down. -/
theorem bytes_words (a0 a1 a2 a3 a4 n : Int) (h : Exact a0 a1 a2 a3 a4 n) :
    (bits .or .u64 a0 (IntKind.u64.wrap (a1 * 2251799813685248)) = a0 + a1 % 8192 * 2251799813685248) ∧ (bits .or .u64 (a1 / 8192) (IntKind.u64.wrap (a2 * 274877906944)) = a1 / 8192 + a2 % 67108864 * 274877906944) ∧ (bits .or .u64 (a2 / 67108864) (IntKind.u64.wrap (a3 * 33554432)) = a2 / 67108864 + a3 % 549755813888 * 33554432) ∧ (bits .or .u64 (a3 / 549755813888) (IntKind.u64.wrap (a4 * 4096)) = a3 / 549755813888 + a4 * 4096) := by
  obtain ⟨l0, u0, l1, u1, l2, u2, l3, u3, l4, u4, hv⟩ := h
  have r1 : IntKind.u64.wrap (a1 * 2251799813685248) = a1 % 8192 * 2251799813685248 := by rw [IntKind.wrap_u64]; omega
  have r2 : IntKind.u64.wrap (a2 * 274877906944) = a2 % 67108864 * 274877906944 := by rw [IntKind.wrap_u64]; omega
  have r3 : IntKind.u64.wrap (a3 * 33554432) = a3 % 549755813888 * 33554432 := by rw [IntKind.wrap_u64]; omega
  have r4 : IntKind.u64.wrap (a4 * 4096) = a4 * 4096 := by rw [IntKind.wrap_u64]; omega
  rw [r1, r2, r3, r4]
  exact ⟨or_high 51 2251799813685248 _ _ (by decide) (by omega) (by omega) (by omega) (by omega) (by omega), or_high 38 274877906944 _ _ (by decide) (by omega) (by omega) (by omega) (by omega) (by omega),
    or_high 25 33554432 _ _ (by decide) (by omega) (by omega) (by omega) (by omega) (by omega), or_high 12 4096 _ _ (by decide) (by omega) (by omega) (by omega) (by omega) (by omega)⟩
theorem bytes_math (a0 a1 a2 a3 a4 n : Int) (h : Exact a0 a1 a2 a3 a4 n) (b0 b1 b2 b3 : Int) (e0 : b0 = a0 + a1 % 8192 * 2251799813685248) (e1 : b1 = a1 / 8192 + a2 % 67108864 * 274877906944) (e2 : b2 = a2 / 67108864 + a3 % 549755813888 * 33554432) (e3 : b3 = a3 / 549755813888 + a4 * 4096) :
    ((0 ≤ b0 ∧ b0 < 18446744073709551616) ∧ (0 ≤ b1 ∧ b1 < 18446744073709551616) ∧ (0 ≤ b2 ∧ b2 < 18446744073709551616) ∧ (0 ≤ b3 ∧ b3 < 18446744073709551616)) ∧ digits 256 32 n = digits 256 8 b0 ++ digits 256 8 b1 ++ digits 256 8 b2 ++ digits 256 8 b3 := by
  obtain ⟨l0, u0, l1, u1, l2, u2, l3, u3, l4, u4, hv⟩ := h
  have hb : (0 ≤ b0 ∧ b0 < 18446744073709551616) ∧ (0 ≤ b1 ∧ b1 < 18446744073709551616) ∧ (0 ≤ b2 ∧ b2 < 18446744073709551616) ∧ (0 ≤ b3 ∧ b3 < 18446744073709551616) := by omega
  refine ⟨hb, ?_⟩
  have hn : n = b0 + 18446744073709551616 * (b1 + 18446744073709551616 * (b2 + 18446744073709551616 * b3)) := by
    rw [← hv]
    have g1 := Int.mul_ediv_add_emod a1 8192
    have g2 := Int.mul_ediv_add_emod a2 67108864
    have g3 := Int.mul_ediv_add_emod a3 549755813888
    unfold val5
    generalize a1 / 8192 = c1 at *
    generalize a1 % 8192 = d1 at *
    generalize a2 / 67108864 = c2 at *
    generalize a2 % 67108864 = d2 at *
    generalize a3 / 549755813888 = c3 at *
    generalize a3 % 549755813888 = d3 at *
    omega
  have p8 : (256 : Int) ^ 8 = 18446744073709551616 := by decide
  rw [hn]
  have k1 := digits_append 256 (by omega) 8 24 b0 (b1 + 18446744073709551616 * (b2 + 18446744073709551616 * b3)) hb.1.1 (by rw [p8]; exact hb.1.2)
  have k2 := digits_append 256 (by omega) 8 16 b1 (b2 + 18446744073709551616 * b3) hb.2.1.1 (by rw [p8]; exact hb.2.1.2)
  have k3 := digits_append 256 (by omega) 8 8 b2 b3 hb.2.2.1.1 (by rw [p8]; exact hb.2.2.1.2)
  rw [p8] at k1 k2 k3
  rw [show (32 : Nat) = 8 + 24 from rfl, k1, show (24 : Nat) = 8 + 16 from rfl, k2, show (16 : Nat) = 8 + 8 from rfl, k3, List.append_assoc, List.append_assoc]
/-- A key behind its four words. -/
theorem four_words (c0 c1 c2 c3 : List Int) (h0 : c0.length = 8) (h1 : c1.length = 8) (h2 : c2.length = 8) (h3 : c3.length = 8) :
    splice (splice (splice (splice zeroK 0 (cellsOf .u8 c0)) 8 (cellsOf .u8 c1)) 16 (cellsOf .u8 c2)) 24 (cellsOf .u8 c3) = numsA .u8 (c0 ++ c1 ++ c2 ++ c3) := by
  have e : zeroK = numsA .u8 (([] : List Int) ++ List.replicate 8 0 ++ List.replicate 24 0) := rfl
  rw [e]
  have q0 := splice_nums [] (List.replicate 8 0) c0 (List.replicate 24 0) (by simp [h0])
  rw [show ([] : List Int).length = 0 from rfl] at q0
  rw [q0]
  have q1 := splice_nums c0 (List.replicate 8 0) c1 (List.replicate 16 0) (by simp [h1])
  rw [h0] at q1
  have f1 : [] ++ c0 ++ List.replicate 24 (0 : Int) = c0 ++ List.replicate 8 0 ++ List.replicate 16 0 := by simp
  rw [f1, q1]
  have q2 := splice_nums (c0 ++ c1) (List.replicate 8 0) c2 (List.replicate 8 0) (by simp [h2])
  rw [show (c0 ++ c1).length = 16 by simp [h0, h1]] at q2
  have f2 : c0 ++ c1 ++ List.replicate 16 (0 : Int) = c0 ++ c1 ++ List.replicate 8 0 ++ List.replicate 8 0 := by simp
  rw [f2, q2]
  have q3 := splice_nums (c0 ++ c1 ++ c2) (List.replicate 8 0) c3 [] (by simp [h3])
  rw [show (c0 ++ c1 ++ c2).length = 24 by simp [h0, h1, h2], List.append_nil, List.append_nil] at q3
  exact q3
theorem Upd.cells5 {T : Nat → Prop} {w w' : World} {a0 a1 a2 a3 a4 : Addr} {v0 v1 v2 v3 v4 : Value} (hu : Upd T w w') (n0 : ¬ T a0.block) (n1 : ¬ T a1.block) (n2 : ¬ T a2.block) (n3 : ¬ T a3.block) (n4 : ¬ T a4.block) (h : w.cell? a0 = some v0 ∧ w.cell? a1 = some v1 ∧ w.cell? a2 = some v2 ∧ w.cell? a3 = some v3 ∧ w.cell? a4 = some v4) :
    w'.cell? a0 = some v0 ∧ w'.cell? a1 = some v1 ∧ w'.cell? a2 = some v2 ∧ w'.cell? a3 = some v3 ∧ w'.cell? a4 = some v4 :=
  ⟨hu.cell h.1 n0, hu.cell h.2.1 n1, hu.cell h.2.2.1 n2, hu.cell h.2.2.2.1 n3, hu.cell h.2.2.2.2 n4⟩
set_option maxHeartbeats 2000000 in
theorem bytes_any (x0 x1 x2 x3 x4 n : Int) (w : World) (hx : Fits x0 x1 x2 x3 x4 n) :
    Calls Tryd.prog 48 #[.agg #[.int .u64 x0, .int .u64 x1, .int .u64 x2, .int .u64 x3, .int .u64 x4]] w fun e w' => e = .returned (.agg (numsA .u8 (digits 256 32 (n % pp)))) ∧ Upd (fun _ => False) w w' := by
  have Hx := Lib.hid hx
  have hz := zeroK_run
  clear hx
  go_enter Tryd.func48, Tryd.ntmps48
  go_wp2_with fail
  refine (least_any x0 x1 x2 x3 x4 n _ Hx.out).mono ?_
  rintro e w1 ⟨a0, a1, a2, a3, a4, hE, rfl, hu⟩
  obtain ⟨g0, g1, g2, g3⟩ := bytes_words a0 a1 a2 a3 a4 _ hE
  obtain ⟨hb, hdig⟩ := bytes_math a0 a1 a2 a3 a4 _ hE _ _ _ _ g0 g1 g2 g3
  have HB := Lib.hid hb
  have HD := Lib.hid hdig
  have Hbr := Lib.hid (hu.blk (Blk.at2 w _ _ _) (fun h => h))
  have Hu := Lib.hid ((((Upd.refl (fun _ => False) w).alloc _).alloc _).trans hu)
  have hz1 : w.heap.size + 1 < w1.heap.size := by have := hu.size; simp at this; omega
  have s0 : ∀ w', (Instr.sliceAt 23 (.pointer (some ⟨w1.heap.size + 1, 0, none⟩)) (some (.int .i64 0)) (some (.int .i64 8)) none).run Tryd.prog w' = .ok (.slice (some ⟨w1.heap.size + 1, 0, none⟩) 8 32) w' :=
    fun w' => run_sliceArr w' 23 5 32 (w1.heap.size + 1) 0 .i64 .i64 0 8 Tryd.underlying23 size5 (by omega) (by omega) (by omega)
  have s1 : ∀ w', (Instr.sliceAt 23 (.pointer (some ⟨w1.heap.size + 1, 0, none⟩)) (some (.int .i64 8)) (some (.int .i64 16)) none).run Tryd.prog w' = .ok (.slice (some ⟨w1.heap.size + 1, 8, none⟩) 8 24) w' :=
    fun w' => run_sliceArr w' 23 5 32 (w1.heap.size + 1) 0 .i64 .i64 8 16 Tryd.underlying23 size5 (by omega) (by omega) (by omega)
  have s2 : ∀ w', (Instr.sliceAt 23 (.pointer (some ⟨w1.heap.size + 1, 0, none⟩)) (some (.int .i64 16)) (some (.int .i64 24)) none).run Tryd.prog w' = .ok (.slice (some ⟨w1.heap.size + 1, 16, none⟩) 8 16) w' :=
    fun w' => run_sliceArr w' 23 5 32 (w1.heap.size + 1) 0 .i64 .i64 16 24 Tryd.underlying23 size5 (by omega) (by omega) (by omega)
  have s3 : ∀ w', (Instr.sliceAt 23 (.pointer (some ⟨w1.heap.size + 1, 0, none⟩)) (some (.int .i64 24)) (some (.int .i64 32)) none).run Tryd.prog w' = .ok (.slice (some ⟨w1.heap.size + 1, 24, none⟩) 8 8) w' :=
    fun w' => run_sliceArr w' 23 5 32 (w1.heap.size + 1) 0 .i64 .i64 24 32 Tryd.underlying23 size5 (by omega) (by omega) (by omega)
  clear hE hu hb hdig g0 g1 g2 g3
  go_wp2
  have Hk0 := Lib.hid (Blk.at2 w1 (.cells #[.int .u64 a0, .int .u64 a1, .int .u64 a2, .int .u64 a3, .int .u64 a4] 37) zeroK 23)
  have hs0 : 0 + 8 ≤ zeroK.size := by rw [zeroK_size]; omega
  have hs1 : 8 + 8 ≤ (splice (zeroK) 0 (cellsOf .u8 (digits 256 8 (bits .or .u64 a0 (IntKind.u64.wrap (a1 * 2251799813685248)))))).size := by
    rw [splice_size _ _ _ (by simpa [cellsOf, digits_length] using hs0)]
    have := hs0
    rw [zeroK_size]; omega
  have hs2 : 16 + 8 ≤ (splice (splice (zeroK) 0 (cellsOf .u8 (digits 256 8 (bits .or .u64 a0 (IntKind.u64.wrap (a1 * 2251799813685248)))))) 8 (cellsOf .u8 (digits 256 8 (bits .or .u64 (a1 / 8192) (IntKind.u64.wrap (a2 * 274877906944)))))).size := by
    rw [splice_size _ _ _ (by simpa [cellsOf, digits_length] using hs1)]
    have := hs1
    rw [splice_size _ _ _ (by simpa [cellsOf, digits_length] using hs0)]
    rw [zeroK_size]; omega
  have hs3 : 24 + 8 ≤ (splice (splice (splice (zeroK) 0 (cellsOf .u8 (digits 256 8 (bits .or .u64 a0 (IntKind.u64.wrap (a1 * 2251799813685248)))))) 8 (cellsOf .u8 (digits 256 8 (bits .or .u64 (a1 / 8192) (IntKind.u64.wrap (a2 * 274877906944)))))) 16 (cellsOf .u8 (digits 256 8 (bits .or .u64 (a2 / 67108864) (IntKind.u64.wrap (a3 * 33554432)))))).size := by
    rw [splice_size _ _ _ (by simpa [cellsOf, digits_length] using hs2)]
    have := hs2
    rw [splice_size _ _ _ (by simpa [cellsOf, digits_length] using hs1)]
    rw [splice_size _ _ _ (by simpa [cellsOf, digits_length] using hs0)]
    rw [zeroK_size]; omega
  have Hs0 := Lib.hid hs0
  have Hs1 := Lib.hid hs1
  have Hs2 := Lib.hid hs2
  have Hs3 := Lib.hid hs3
  clear hs0 hs1 hs2 hs3
  have hb0 := (Blk.at1 w1 #[.int .u64 a0, .int .u64 a1, .int .u64 a2, .int .u64 a3, .int .u64 a4] 37).alloc (.cells zeroK 23)
  have C0 := Lib.hid (And.intro (hb0.cell 0) (And.intro (hb0.cell 1) (And.intro (hb0.cell 2) (And.intro (hb0.cell 3) (hb0.cell 4)))))
  clear hb0
  go_region_held3 (fun w' => w'.cell? ⟨w1.heap.size, 0, none⟩ = some (.int .u64 a0) ∧ w'.cell? ⟨w1.heap.size, 1, none⟩ = some (.int .u64 a1) ∧ w'.cell? ⟨w1.heap.size, 2, none⟩ = some (.int .u64 a2) ∧ w'.cell? ⟨w1.heap.size, 3, none⟩ = some (.int .u64 a3) ∧ w'.cell? ⟨w1.heap.size, 4, none⟩ = some (.int .u64 a4)) (first | go_keep | exact Upd.cells5 Hu2.out (by simp) (by simp) (by simp) (by simp) (by simp) C0.out) (first
    | (go_at_call 84; refine (put_any (w1.heap.size + 1) 0 32 (bits .or .u64 a0 (IntKind.u64.wrap (a1 * 2251799813685248))) 23 (zeroK) _ HB.out.1.1 HB.out.1.2 (by exact Hk0.out) (by exact Hs0.out)).mono ?_; rintro e w2 ⟨rfl, hb, hu, hz⟩; have Hk1 := Lib.hid hb; have Hu2 := Lib.hid hu; have Hz2 := Lib.hid hz; clear hb hu hz))
  have c1 := (Upd.cells5 Hu2.out (by simp) (by simp) (by simp) (by simp) (by simp) C0.out)
  have C1 := Lib.hid c1
  obtain ⟨k0, k1, k2, k3, k4⟩ := c1
  go_wp2
  go_region_held3 (fun w' => w'.cell? ⟨w1.heap.size, 0, none⟩ = some (.int .u64 a0) ∧ w'.cell? ⟨w1.heap.size, 1, none⟩ = some (.int .u64 a1) ∧ w'.cell? ⟨w1.heap.size, 2, none⟩ = some (.int .u64 a2) ∧ w'.cell? ⟨w1.heap.size, 3, none⟩ = some (.int .u64 a3) ∧ w'.cell? ⟨w1.heap.size, 4, none⟩ = some (.int .u64 a4)) (first | go_keep | exact Upd.cells5 Hu3.out (by simp) (by simp) (by simp) (by simp) (by simp) C1.out) (first
    | (go_at_call 84; refine (put_any (w1.heap.size + 1) 8 24 (bits .or .u64 (a1 / 8192) (IntKind.u64.wrap (a2 * 274877906944))) 23 (splice (zeroK) 0 (cellsOf .u8 (digits 256 8 (bits .or .u64 a0 (IntKind.u64.wrap (a1 * 2251799813685248)))))) _ HB.out.2.1.1 HB.out.2.1.2 (by exact Hk1.out) (by exact Hs1.out)).mono ?_; rintro e w3 ⟨rfl, hb, hu, hz⟩; have Hk2 := Lib.hid hb; have Hu3 := Lib.hid hu; have Hz3 := Lib.hid hz; clear hb hu hz))
  clear k0 k1 k2 k3 k4
  have c2 := (Upd.cells5 Hu3.out (by simp) (by simp) (by simp) (by simp) (by simp) C1.out)
  have C2 := Lib.hid c2
  obtain ⟨k0, k1, k2, k3, k4⟩ := c2
  go_wp2
  go_region_held3 (fun w' => w'.cell? ⟨w1.heap.size, 0, none⟩ = some (.int .u64 a0) ∧ w'.cell? ⟨w1.heap.size, 1, none⟩ = some (.int .u64 a1) ∧ w'.cell? ⟨w1.heap.size, 2, none⟩ = some (.int .u64 a2) ∧ w'.cell? ⟨w1.heap.size, 3, none⟩ = some (.int .u64 a3) ∧ w'.cell? ⟨w1.heap.size, 4, none⟩ = some (.int .u64 a4)) (first | go_keep | exact Upd.cells5 Hu4.out (by simp) (by simp) (by simp) (by simp) (by simp) C2.out) (first
    | (go_at_call 84; refine (put_any (w1.heap.size + 1) 16 16 (bits .or .u64 (a2 / 67108864) (IntKind.u64.wrap (a3 * 33554432))) 23 (splice (splice (zeroK) 0 (cellsOf .u8 (digits 256 8 (bits .or .u64 a0 (IntKind.u64.wrap (a1 * 2251799813685248)))))) 8 (cellsOf .u8 (digits 256 8 (bits .or .u64 (a1 / 8192) (IntKind.u64.wrap (a2 * 274877906944)))))) _ HB.out.2.2.1.1 HB.out.2.2.1.2 (by exact Hk2.out) (by exact Hs2.out)).mono ?_; rintro e w4 ⟨rfl, hb, hu, hz⟩; have Hk3 := Lib.hid hb; have Hu4 := Lib.hid hu; have Hz4 := Lib.hid hz; clear hb hu hz))
  clear k0 k1 k2 k3 k4
  have c3 := (Upd.cells5 Hu4.out (by simp) (by simp) (by simp) (by simp) (by simp) C2.out)
  have C3 := Lib.hid c3
  obtain ⟨k0, k1, k2, k3, k4⟩ := c3
  go_wp2
  go_region_held3 (fun w' => w'.cell? ⟨w1.heap.size, 0, none⟩ = some (.int .u64 a0) ∧ w'.cell? ⟨w1.heap.size, 1, none⟩ = some (.int .u64 a1) ∧ w'.cell? ⟨w1.heap.size, 2, none⟩ = some (.int .u64 a2) ∧ w'.cell? ⟨w1.heap.size, 3, none⟩ = some (.int .u64 a3) ∧ w'.cell? ⟨w1.heap.size, 4, none⟩ = some (.int .u64 a4)) (first | go_keep | exact Upd.cells5 Hu5.out (by simp) (by simp) (by simp) (by simp) (by simp) C3.out) (first
    | (go_at_call 84; refine (put_any (w1.heap.size + 1) 24 8 (bits .or .u64 (a3 / 549755813888) (IntKind.u64.wrap (a4 * 4096))) 23 (splice (splice (splice (zeroK) 0 (cellsOf .u8 (digits 256 8 (bits .or .u64 a0 (IntKind.u64.wrap (a1 * 2251799813685248)))))) 8 (cellsOf .u8 (digits 256 8 (bits .or .u64 (a1 / 8192) (IntKind.u64.wrap (a2 * 274877906944)))))) 16 (cellsOf .u8 (digits 256 8 (bits .or .u64 (a2 / 67108864) (IntKind.u64.wrap (a3 * 33554432)))))) _ HB.out.2.2.2.1 HB.out.2.2.2.2 (by exact Hk3.out) (by exact Hs3.out)).mono ?_; rintro e w5 ⟨rfl, hb, hu, hz⟩; have Hk4 := Lib.hid hb; have Hu5 := Lib.hid hu; have Hz5 := Lib.hid hz; clear hb hu hz))
  clear k0 k1 k2 k3 k4
  have hk := Hk4.out
  rw [four_words _ _ _ _ (digits_length _ _ _) (digits_length _ _ _) (digits_length _ _ _) (digits_length _ _ _), ← HD.out] at hk
  have hA : (numsA .u8 (digits 256 32 (n % pp))).size = 32 := by rw [numsA_size, digits_length]
  have hone := numsA_one .u8 (digits 256 32 (n % pp))
  have hbr := Hu5.out.blk (Hu4.out.blk (Hu3.out.blk (Hu2.out.blk ((Hbr.out.alloc _).alloc _) (by simp; omega)) (by simp; omega)) (by simp; omega)) (by simp; omega)
  have huz : Upd (fun _ => False) w w5 := ((((((Hu.out.alloc _).alloc _).drew.step Hu2.out (fun i hi h => by omega)).drew.step Hu3.out (fun i hi h => by omega)).drew.step Hu4.out (fun i hi h => by omega)).drew.step Hu5.out (fun i hi h => by omega))
  generalize hq : numsA .u8 (digits 256 32 (n % pp)) = A at *
  have Hq := Lib.hid hq
  have HA := Lib.hid hA
  have Hk := Lib.hid hk
  have Hone := Lib.hid hone
  have Hbr' := Lib.hid hbr
  have Huz := Lib.hid huz
  clear hq hk hA hone hbr huz Hk0 Hk1 Hk2 Hk3 Hk4 Hu2 Hu3 Hu4 Hu5 C0 C1 C2 C3 HB HD Hs0 Hs1 Hs2 Hs3 s0 s1 s2 s3 Hz2 Hz3 Hz4 Hz5 Hbr Hu
  go_wp2_with (first
    | (refine wpList_loadBlk rfl 23 _ rfl (w1.heap.size + 1) 0 32 rfl 23 A _ Hk.out Tryd.underlying23 rfl sizeKey (by rw [HA.out]; omega) ?_; rw [extract_all _ _ HA.out])
    | (refine wpList_storeBlk2 rfl 23 _ _ rfl (w.heap.size + 1) 0 32 rfl A rfl 23 _ Hbr'.out sizeKey HA.out (by rw [zeroK_size]; omega) Hone.out ?_; intro wz hbz huz hzz; rw [splice_all _ _ 32 zeroK_size HA.out] at hbz; have Hbz := Lib.hid hbz; have Huz2 := Lib.hid huz; clear hbz huz hzz))
  exact bodyPost_ret (v := .agg A) (results_cell_row (fn := Tryd.f48) (p := 2) (ty := 23) rfl _ _ (w.heap.size + 1) 23 _ (0, 0) _ rfl Hbz.out Tryd.underlying23 rfl (by rw [HA.out]; exact sizeKey)) rfl ⟨by rw [Hq.out], Huz.out.step Huz2.out (fun i hi h => by omega)⟩
end Go.Proofs.YtdpafemcpbhlfaaDoor
namespace Go.Proofs.YtdpafemcpbhlfaaDoor
set_option maxRecDepth 100000
open Go.RowKit

/-- A small number's key. -/
def keyL (n : Int) : List Int := n :: List.replicate 31 0
theorem keyL_length (n : Int) : (keyL n).length = 32 := by simp [keyL]
theorem zeroK_set (n : Int) : zeroK.setIfInBounds 0 (.int .u8 n) = numsA .u8 (keyL n) := by
  show (List.replicate 32 (Value.int .u8 0)).toArray.setIfInBounds 0 (.int .u8 n) = _
  rfl
theorem Upd.range {T : Nat → Prop} {w w' : World} {b o : Nat} {cs : List Value} (hu : Upd T w w') (hb : ¬ T b) (h : w.rangeAt b o cs) : w'.rangeAt b o cs := fun j v hv => hu.cell (h j v hv) hb
theorem Blk.range {w : World} {b : Nat} {t : TypeId} {arr : Array Value} (h : Blk w b t arr) : w.rangeAt b 0 arr.toList := fun j v hv => by
  rw [h.cell, Nat.zero_add, ← hv, Array.getElem?_toList]
theorem guardKey : Tryd.prog.eqGuardType Tryd.prog.depth 23 = false := by kernel_rfl
theorem cellsOf_length (k : IntKind) (l : List Int) : (cellsOf k l).length = l.length := by simp [cellsOf]
theorem cellsOf_toArray (k : IntKind) (l : List Int) : (cellsOf k l).toArray = numsA k l := rfl
theorem cellsOf_one (k : IntKind) (l : List Int) : ∀ v ∈ cellsOf k l, v.oneCell' = true := by rw [← numsA_toList]; exact numsA_one k l

end Go.Proofs.YtdpafemcpbhlfaaDoor
namespace Go.Proofs.YtdpafemcpbhlfaaDoor
set_option maxRecDepth 100000
open Go.RowKit

/-- Are bytes those of the least number alike? -/
def canonB (l : List Int) : Bool := decide (digits 256 32 (keyNum l % pp) = l)
theorem keyNum_digits (n : Int) : keyNum (digits 256 32 (n % pp)) = n % pp := by
  have h0 := Int.emod_nonneg n (b := pp) (by decide)
  have h1 := Int.emod_lt_of_pos n pp_pos
  unfold keyNum
  rw [dig_digits (by omega), show (256 : Int) ^ 32 = 115792089237316195423570985008687907853269984665640564039457584007913129639936 by decide]
  unfold pp at *
  omega
theorem canonB_digits (n : Int) : canonB (digits 256 32 (n % pp)) = true := by
  unfold canonB
  rw [keyNum_digits, Int.emod_emod_of_dvd _ (Int.dvd_refl _)]
  simp
theorem RetE.sp {n : Int} {w : World} {base : Nat} {e : Ending} {w' : World} (h : RetE n w e w') : ∃ v, e = .returned v ∧ (SP.elem n).holds base v w' ∧ Upd (fun _ => False) w w' := by
  obtain ⟨a0, a1, a2, a3, a4, hF, rfl, hu⟩ := h
  exact ⟨_, rfl, ⟨a0, a1, a2, a3, a4, rfl, hF⟩, hu⟩
theorem run_enter {P : Program} {f : FuncId} {fn : Func} (hf : P.funcs[f]? = some fn) (hn : (fn.name == "runtime.NumGoroutine") = false) (hb : fn.body.isNone = false) (vs : Array Value) (w : World) : (callFunc f vs).run P w = .ok (.enter f vs) w := by
  have h1 : fn.name ≠ "runtime.NumGoroutine" := by simpa using hn
  have h2 : ¬ fn.body = none := by intro h; rw [h] at hb; cases hb
  simp [callFunc, go_sem, hf, h1, h2]
theorem enterOf (vs : Array Value) (w : World) : (callFunc 42 vs).run Tryd.prog w = .ok (.enter 42 vs) w := run_enter Tryd.func42 (by kernel_rfl) (by kernel_rfl) vs w
theorem enterBytes (vs : Array Value) (w : World) : (callFunc 48 vs).run Tryd.prog w = .ok (.enter 48 vs) w := run_enter Tryd.func48 (by kernel_rfl) (by kernel_rfl) vs w
theorem zeroE_run (w : World) : (zeroValue 39).run Tryd.prog w = .ok (.agg #[.int .u64 0, .int .u64 0, .int .u64 0, .int .u64 0, .int .u64 0]) w := by kernel_rfl
set_option maxRecDepth 100000 in
set_option maxHeartbeats 2000000 in
theorem canonical_any (l : List Int) (w : World) (hl : l.length = 32) (hd : Digs 256 l) :
    Calls Tryd.prog 60 #[.agg (numsA .u8 l)] w fun e w' => e = .returned (.bool (canonB l)) ∧ Upd (fun _ => False) w w' := by
  have hg := guardKey
  have e1 : ∀ w, (Op.equalIn 10000 23 (.agg (numsA .u8 (digits 256 32 (keyNum l % pp)))) (.agg (numsA .u8 l))).run Tryd.prog w = .ok (canonB l) w := fun w => eqKey _ _ (digits_length _ _ _) hl w
  have HA : Hid ((numsA .u8 l).size = 32) := by show _ = _; rw [numsA_size]; exact hl
  have Hk := Lib.hid (Blk.at1 w (numsA .u8 l) 23)
  have Hl := Lib.hid hl
  have Hd := Lib.hid hd
  clear hl hd
  go_enter Tryd.func60, Tryd.ntmps60
  go_wp2
  refine wp_region_slots #[true, true, true, true, true, true] ([.val (.agg (numsA .u8 l)), .elem (keyNum l), .val (.agg (numsA .u8 (digits 256 32 ((keyNum l) % pp)))), .val (.agg (numsA .u8 l)), .val (.bool (canonB l)), .val (.bool (canonB l))] : List SP) (by kernel_rfl) (by kernel_rfl) (by kernel_rfl) ?_ ?_
  · intro i o listed an wn ho hls hst hun hdep hI K' hK'
    have hi : i < 6 := by
      have := idx_lt ho; simp at this; omega
    have hcase : i = 0 ∨ i = 1 ∨ i = 2 ∨ i = 3 ∨ i = 4 ∨ i = 5 := by omega
    rcases hcase with rfl | rfl | rfl | rfl | rfl | rfl
    · obtain rfl := Option.some.inj ho
      exact hI.stepLoad (by kernel_rfl) hls rfl rfl rfl 23 1 rfl (by kernel_rfl) (w.heap.size) 32 rfl 23 (numsA .u8 l) Hk.out _ Tryd.underlying23 rfl sizeKey HA.out rfl rfl hK'
    · obtain rfl := Option.some.inj ho
      obtain ⟨vp, hvp, hsp⟩ := hI.have 0 _ 3 (.val (.agg (numsA .u8 l))) rfl rfl rfl (hdep ⟨0, .data⟩ (by simp) rfl)
      obtain rfl := hsp
      exact hI.stepCall (by kernel_rfl) hls rfl rfl rfl 42 #[.tmp 3] _ rfl #[.agg (numsA .u8 l)] (by simp [eval_of hvp]) enterOf (.elem (keyNum l)) rfl rfl ((of_any l _ (Hl.out) (Hd.out)).mono fun _ _ h => h.sp) hK'
    · obtain rfl := Option.some.inj ho
      obtain ⟨vp, hvp, p0, p1, p2, p3, p4, rfl, hFp⟩ := hI.have 1 _ 4 (.elem (keyNum l)) rfl rfl rfl (hdep ⟨1, .data⟩ (by simp) rfl)
      exact hI.stepCall (by kernel_rfl) hls rfl rfl rfl 48 #[.tmp 4] _ rfl #[.agg #[.int .u64 p0, .int .u64 p1, .int .u64 p2, .int .u64 p3, .int .u64 p4]] (by simp [eval_of hvp]) enterBytes (.val (.agg (numsA .u8 (digits 256 32 ((keyNum l) % pp))))) rfl rfl ((bytes_any p0 p1 p2 p3 p4 (keyNum l) _ hFp).mono fun _ _ h => ⟨_, h.1, rfl, h.2⟩) hK'
    · obtain rfl := Option.some.inj ho
      exact hI.stepLoad (by kernel_rfl) hls rfl rfl rfl 23 1 rfl (by kernel_rfl) (w.heap.size) 32 rfl 23 (numsA .u8 l) Hk.out _ Tryd.underlying23 rfl sizeKey HA.out rfl rfl hK'
    · obtain rfl := Option.some.inj ho
      obtain ⟨vp, hvp, hsp⟩ := hI.have 2 _ 5 (.val (.agg (numsA .u8 (digits 256 32 ((keyNum l) % pp))))) rfl rfl rfl (hdep ⟨2, .data⟩ (by simp) rfl)
      obtain rfl := hsp
      obtain ⟨vq, hvq, hsq⟩ := hI.have 3 _ 6 (.val (.agg (numsA .u8 l))) rfl rfl rfl (hdep ⟨3, .data⟩ (by simp) rfl)
      obtain rfl := hsq
      exact hI.stepPure (by kernel_rfl) hls rfl rfl rfl (.bool (canonB l)) (run_eqlKey rfl (eval_of hvp) (eval_of hvq) (digits_length _ _ _) (Hl.out) wn) rfl rfl hK'
    · obtain rfl := Option.some.inj ho
      obtain ⟨vp, hvp, hsp⟩ := hI.have 4 _ 7 (.val (.bool (canonB l))) rfl rfl rfl (hdep ⟨4, .data⟩ (by simp) rfl)
      obtain rfl := hsp
      exact hI.stepPure (by kernel_rfl) hls rfl rfl rfl (.bool (canonB l)) (by simp [execOp, eval_of hvp]) rfl rfl hK'
  · intro fuel an wn hf hI
    obtain ⟨v0, hv0, hs0⟩ := hI.have 0 _ 3 (.val (.agg (numsA .u8 l))) rfl rfl rfl rfl
    obtain rfl := hs0
    obtain ⟨v1, hv1, e1_0, e1_1, e1_2, e1_3, e1_4, rfl, hF1⟩ := hI.have 1 _ 4 (.elem (keyNum l)) rfl rfl rfl rfl
    obtain ⟨v2, hv2, hs2⟩ := hI.have 2 _ 5 (.val (.agg (numsA .u8 (digits 256 32 ((keyNum l) % pp))))) rfl rfl rfl rfl
    obtain rfl := hs2
    obtain ⟨v3, hv3, hs3⟩ := hI.have 3 _ 6 (.val (.agg (numsA .u8 l))) rfl rfl rfl rfl
    obtain rfl := hs3
    obtain ⟨v4, hv4, hs4⟩ := hI.have 4 _ 7 (.val (.bool (canonB l))) rfl rfl rfl rfl
    obtain rfl := hs4
    obtain ⟨v5, hv5, hs5⟩ := hI.have 5 _ 2 (.val (.bool (canonB l))) rfl rfl rfl rfl
    obtain rfl := hs5
    have hupd := hI.upd
    have ha := hI.act [(3, .agg (numsA .u8 l)), (4, .agg #[.int .u64 e1_0, .int .u64 e1_1, .int .u64 e1_2, .int .u64 e1_3, .int .u64 e1_4]), (5, .agg (numsA .u8 (digits 256 32 ((keyNum l) % pp)))), (6, .agg (numsA .u8 l)), (7, .bool (canonB l)), (2, .bool (canonB l))] (by simp [hv0, hv1, hv2, hv3, hv4, hv5]) (by kernel_rfl)
    clear hI hv0 hv1 hv2 hv3 hv4 hv5
    subst ha
    simp only [List.foldl_cons, List.foldl_nil, List.setIfInBounds_toArray, List.set_cons_zero, List.set_cons_succ]
    refine wpAny_done (by kernel_rfl) ?_ _
    go_wp2
    go_ret
    exact ⟨rfl, (((Upd.refl (fun _ => False) w).alloc _).drew).trans hupd⟩
end Go.Proofs.YtdpafemcpbhlfaaDoor
