/-
  The walk of FieldOdd.
-/
import Derived.Test.YtaejngaohkalcaaDoorHead
import Derived.Test.YtaejngaohkalcaaDoorSub
namespace Go.Proofs.YtaejngaohkalcaaDoor
open Go.RowKit

theorem Blk.cells5 {w : World} {b : Nat} {t : TypeId} {v0 v1 v2 v3 v4 : Value} (h : Blk w b t #[v0, v1, v2, v3, v4]) :
    w.cell? ⟨b, 0, none⟩ = some v0 ∧ w.cell? ⟨b, 1, none⟩ = some v1 ∧ w.cell? ⟨b, 2, none⟩ = some v2 ∧ w.cell? ⟨b, 3, none⟩ = some v3 ∧ w.cell? ⟨b, 4, none⟩ = some v4 :=
  ⟨h.cell 0, h.cell 1, h.cell 2, h.cell 3, h.cell 4⟩
theorem neg_zero_iff (m : Int) : decide ((-m) % pp = 0) = decide (m % pp = 0) := by
  rw [decide_eq_decide]
  have h1 := Int.emod_nonneg m (b := pp) (by decide)
  have h2 := Int.emod_lt_of_pos m pp_pos
  have h3 := Int.emod_nonneg (-m) (b := pp) (by decide)
  have h4 := Int.emod_lt_of_pos (-m) pp_pos
  have h5 := Int.mul_ediv_add_emod m pp
  have h6 := Int.mul_ediv_add_emod (-m) pp
  have e : pp * (m / pp) + m % pp + (pp * (-m / pp) + -m % pp) = 0 := by omega
  constructor
  · intro h
    rw [h] at e
    have : m % pp = pp * (-(m / pp) - (-m / pp)) := by rw [Int.mul_sub, Int.mul_neg]; omega
    rw [← Int.emod_emod_of_dvd m (Int.dvd_refl pp), this, Int.mul_emod_right]
  · intro h
    rw [h] at e
    have : -m % pp = pp * (-(m / pp) - (-m / pp)) := by rw [Int.mul_sub, Int.mul_neg]; omega
    rw [← Int.emod_emod_of_dvd (-m) (Int.dvd_refl pp), this, Int.mul_emod_right]
theorem neg_mod (m : Int) (h : m % pp ≠ 0) : (-m) % pp = pp - m % pp := by
  have h1 := Int.emod_nonneg m (b := pp) (by decide)
  have h2 := Int.emod_lt_of_pos m pp_pos
  symm
  refine mod_unique ⟨m / pp + 1, ?_⟩ (by omega) (by omega)
  have h5 := Int.mul_ediv_add_emod m pp
  rw [Int.mul_add]
  omega
theorem neg_odd (m : Int) (h : m % pp ≠ 0) : decide ((-m) % pp % 2 = 1) = !decide (m % pp % 2 = 1) := by
  rw [neg_mod m h]
  have : pp % 2 = 1 := by decide +kernel
  by_cases c : m % pp % 2 = 1
  · simp only [c, decide_true, Bool.not_true, decide_eq_false_iff_not]
    omega
  · simp only [c, decide_false, Bool.not_false, decide_eq_true_eq]
    omega

theorem cells10_mk {w : World} {b c : Nat} {t u : TypeId} {v0 v1 v2 v3 v4 u0 u1 u2 u3 u4 : Value} (h : Blk w b t #[v0, v1, v2, v3, v4]) (g : Blk w c u #[u0, u1, u2, u3, u4]) :
    w.cell? ⟨b, 0, none⟩ = some v0 ∧ w.cell? ⟨b, 1, none⟩ = some v1 ∧ w.cell? ⟨b, 2, none⟩ = some v2 ∧ w.cell? ⟨b, 3, none⟩ = some v3 ∧ w.cell? ⟨b, 4, none⟩ = some v4 ∧
    w.cell? ⟨c, 0, none⟩ = some u0 ∧ w.cell? ⟨c, 1, none⟩ = some u1 ∧ w.cell? ⟨c, 2, none⟩ = some u2 ∧ w.cell? ⟨c, 3, none⟩ = some u3 ∧ w.cell? ⟨c, 4, none⟩ = some u4 :=
  ⟨h.cell 0, h.cell 1, h.cell 2, h.cell 3, h.cell 4, g.cell 0, g.cell 1, g.cell 2, g.cell 3, g.cell 4⟩
set_option maxRecDepth 100000 in
set_option maxHeartbeats 2000000 in
theorem fieldOdd_any (l : List Int) (a b : Int) (w : World) (hT : Tw w) (hl : l.length = 32) (hd : Digs 256 l) (ha : 0 ≤ a ∧ a < 65536) (hb : 0 ≤ b ∧ b < 65536) :
    Calls Tryd.prog 6 #[.agg (numsA .u8 l), .int .u16 a, .int .u16 b] w fun e w' => e = .returned (.bool true) ∧ Upd (fun _ => False) w w' := by
  have HT := Lib.hid hT
  have Hl := Lib.hid hl
  have Hd := Lib.hid hd
  obtain ⟨ha0, ha1⟩ := ha
  obtain ⟨hb0, hb1⟩ := hb
  clear hT hl hd
  have e1 : decide ((0 + a + b) % pp = (a + b) % pp) = true := by rw [Int.zero_add]; simp
  have e3 : decide ((a + b - b) % pp = a % pp) = true := by rw [Int.add_sub_cancel]; simp
  have E1 := Lib.hid e1
  have E3 := Lib.hid e3
  have hab := mul_bd ha0 ha1 hb0 hb1 (C := 4294967296) (by decide)
  obtain ⟨hab0, hab1⟩ := hab
  have hwr : IntKind.u32.wrap (a * b) = a * b := by rw [IntKind.wrap_u32]; exact Int.emod_eq_of_lt hab0 hab1
  have hwa : IntKind.u32.wrap a = a := by rw [IntKind.wrap_u32]; omega
  have hwb : IntKind.u32.wrap b = b := by rw [IntKind.wrap_u32]; omega
  have hwr2 : IntKind.u32.wrap (a + b) = a + b := by rw [IntKind.wrap_u32]; omega
  clear e1 e3
  go_enter Tryd.func6, Tryd.ntmps6
  go_wp2_with fail
  refine (counts_any _).mono ?_
  rintro e w1 ⟨rfl, hu⟩
  have Hk := Lib.hid (hu.blk (Blk.at1 w (numsA .u8 l) 23) (fun h => h))
  have Hu1 := Lib.hid (((Upd.refl (fun _ => False) w).alloc _).trans hu)
  have HA : Hid ((numsA .u8 l).size = 32) := by show _ = _; rw [numsA_size]; exact Hl.out
  clear hu
  go_wp2_with (refine wpList_loadBlk rfl 23 _ rfl w.heap.size 0 32 rfl 23 (numsA .u8 l) _ Hk.out Tryd.underlying23 rfl sizeKey (by rw [HA.out]; omega) ?_; rw [extract_all _ _ HA.out])
  refine (of_any l _ Hl.out Hd.out).mono ?_
  rintro e w2 ⟨x0, x1, x2, x3, x4, hFx, rfl, hu⟩
  have Hu2 := Lib.hid (Hu1.out.trans hu)
  have HFx := Lib.hid hFx
  generalize keyNum l = m at *
  clear hu hFx Hk Hu1 HA
  go_wp2_with fail
  refine (neg_any x0 x1 x2 x3 x4 m _ (HT.out.upd (Hu2.out.alloc _)) HFx.out).mono ?_
  rintro e w3 ⟨n0, n1, n2, n3, n4, hFn, rfl, hu⟩
  have Hbx := Lib.hid (hu.blk (Blk.at1 w2 _ _) (fun h => h))
  have Hu3 := Lib.hid ((Hu2.out.alloc _).trans hu)
  have HFn := Lib.hid hFn
  have hz3 : w2.heap.size < w3.heap.size := by have := hu.size; simp at this; omega
  clear hu hFn
  obtain ⟨c0, c1, c2, c3, c4⟩ := Hbx.out.cells5
  go_wp2_with fail
  refine (isZero_any x0 x1 x2 x3 x4 m _ HFx.out).mono ?_
  rintro e w4 ⟨rfl, hu⟩
  have Hbx4 := Lib.hid (hu.blk (Hbx.out.alloc _) (fun h => h))
  have Hbn4 := Lib.hid (hu.blk (Blk.at1 w3 _ _) (fun h => h))
  have Hu4 := Lib.hid ((Hu3.out.alloc _).trans hu)
  have hz4 : w3.heap.size < w4.heap.size := by have := hu.size; simp at this; omega
  clear hu Hbx c0 c1 c2 c3 c4
  have HR : Hid (∀ (wr : World), Upd (fun _ => False) w wr → ∃ (s : World), s = wr) := fun wr _ => ⟨wr, rfl⟩
  clear HR
  by_cases hm : m % pp = 0
  · have hdm : decide (m % pp = 0) = true := by simp [hm]
    have hdn : decide (-m % pp = 0) = true := by rw [neg_zero_iff]; exact hdm
    have hm' : -m % pp = 0 := by simpa using hdn
    have ho : decide (m % pp % 2 = 1) = false := by rw [hm]; rfl
    have hon : decide (-m % pp % 2 = 1) = false := by rw [hm']; rfl
    have Ho := Lib.hid ho
    have Hon := Lib.hid hon
    have Hdn := Lib.hid hdn
    rw [hdm]
    clear hdm hdn hm hm' ho hon
    obtain ⟨c0, c1, c2, c3, c4⟩ := Hbx4.out.cells5
    go_wp2_with fail
    refine (odd_any x0 x1 x2 x3 x4 m _ HFx.out).mono ?_
    rintro e w5 ⟨rfl, hu⟩
    rw [Ho.out]
    have Hbn5 := Lib.hid (hu.blk Hbn4.out (fun h => h))
    have Hu5 := Lib.hid (Hu4.out.trans hu)
    clear hu Hbn4 Hu4 c0 c1 c2 c3 c4
    obtain ⟨c0, c1, c2, c3, c4⟩ := Hbn5.out.cells5
    go_wp2_with fail
    refine (odd_any n0 n1 n2 n3 n4 (-m) _ HFn.out).mono ?_
    rintro e w6 ⟨rfl, hu⟩
    rw [Hon.out]
    have Hbn6 := Lib.hid (hu.blk Hbn5.out (fun h => h))
    have Hu6 := Lib.hid (Hu5.out.trans hu)
    clear hu Hbn5 Hu5 c0 c1 c2 c3 c4
    obtain ⟨c0, c1, c2, c3, c4⟩ := Hbn6.out.cells5
    go_wp2_with fail
    refine (isZero_any n0 n1 n2 n3 n4 (-m) _ HFn.out).mono ?_
    rintro e w7 ⟨rfl, hu⟩
    rw [Hdn.out]
    have Hu7 := Lib.hid (Hu6.out.trans hu)
    clear hu Hu6 c0 c1 c2 c3 c4
    go_wp2_with fail
    refine (small_any a _ ha0 (by omega)).mono ?_
    rintro e v1 ⟨s0, s1, s2, s3, s4, hFs, rfl, hu⟩
    have Hv1 := Lib.hid (Hu7.out.trans hu)
    clear hu Hu7
    go_wp2_with fail
    refine (small_any b _ hb0 (by omega)).mono ?_
    rintro e v2 ⟨t0, t1, t2, t3, t4, hFt, rfl, hu⟩
    have Hv2 := Lib.hid (Hv1.out.trans hu)
    clear hu Hv1
    go_wp2
    have hS := cells10_mk ((Blk.at1 v2 #[.int .u64 s0, .int .u64 s1, .int .u64 s2, .int .u64 s3, .int .u64 s4] 28).alloc (.cells #[.int .u64 t0, .int .u64 t1, .int .u64 t2, .int .u64 t3, .int .u64 t4] 28)) (Blk.at2 v2 (.cells #[.int .u64 s0, .int .u64 s1, .int .u64 s2, .int .u64 s3, .int .u64 s4] 28) #[.int .u64 t0, .int .u64 t1, .int .u64 t2, .int .u64 t3, .int .u64 t4] 28)
    go_region_held3 (fun w' => w'.cell? ⟨v2.heap.size, 0, none⟩ = some (.int .u64 s0) ∧ w'.cell? ⟨v2.heap.size, 1, none⟩ = some (.int .u64 s1) ∧ w'.cell? ⟨v2.heap.size, 2, none⟩ = some (.int .u64 s2) ∧ w'.cell? ⟨v2.heap.size, 3, none⟩ = some (.int .u64 s3) ∧ w'.cell? ⟨v2.heap.size, 4, none⟩ = some (.int .u64 s4) ∧ w'.cell? ⟨v2.heap.size + 1, 0, none⟩ = some (.int .u64 t0) ∧ w'.cell? ⟨v2.heap.size + 1, 1, none⟩ = some (.int .u64 t1) ∧ w'.cell? ⟨v2.heap.size + 1, 2, none⟩ = some (.int .u64 t2) ∧ w'.cell? ⟨v2.heap.size + 1, 3, none⟩ = some (.int .u64 t3) ∧ w'.cell? ⟨v2.heap.size + 1, 4, none⟩ = some (.int .u64 t4)) (first | with_reducible exact Upd.cells10 hu ‹_› | with_reducible exact Upd.cells10 ((Upd.refl (fun _ => False) _).alloc _) ‹_› | with_reducible exact Upd.cells10 (Upd.refl (fun _ => False) _).drew hS | go_keep) (first
      | (go_at_call 19; refine (small_any _ _ (by omega) (by omega)).mono ?_; rintro e w8 ⟨z0, z1, z2, z3, z4, hF, rfl, hu⟩)
      | (go_at_call 10; refine (add_any _ _ _ _ (ElsAt.of2 ?_ hFs hFt)).mono ?_; (first | with_reducible exact (Blk.at3 _ _ _ _ _).drew | with_reducible exact Blk.at3 _ _ _ _ _); rintro e w8 ⟨z0, z1, z2, z3, z4, hF', rfl, hu⟩; have hF : Fits z0 z1 z2 z3 z4 (0 + a + b) := hF'; clear hF')
      | (go_at_call 28; refine (mul_any s0 s1 s2 s3 s4 t0 t1 t2 t3 t4 a b _ hFs hFt).mono ?_; rintro e w8 ⟨z0, z1, z2, z3, z4, hF, rfl, hu⟩)
      | (go_at_call 14; refine (sub_any _ _ _ _ _ _ _ _ _ _ (a + b) b _ ?_ ?_ ?_).mono ?_; (focus (refine HT.out.upd ?_; have hu0 := Hv2.out; repeat (first | with_reducible assumption | with_reducible exact Upd.refl _ _ | with_reducible apply Upd.drew | with_reducible apply Upd.alloc | with_reducible refine Upd.trans ?_ ‹_›))); (with_reducible assumption); (with_reducible assumption); rintro e w8 ⟨z0, z1, z2, z3, z4, hF, rfl, hu⟩)
      | (go_at_call 18; refine (equal_any _ _ _ _ _ _ _ _ _ _ (0 + a + b) (a + b) _ ?_ ?_).mono ?_; (with_reducible assumption); (with_reducible assumption); rintro e w8 ⟨rfl, hu⟩; rw [E1.out])
      | (go_at_call 18; refine (equal_any _ _ _ _ _ _ _ _ _ _ (a * b) (a * b) _ ?_ ?_).mono ?_; (with_reducible assumption); (with_reducible assumption); rintro e w8 ⟨rfl, hu⟩)
      | (go_at_call 18; refine (equal_any _ _ _ _ _ _ _ _ _ _ (a + b - b) a _ ?_ ?_).mono ?_; (with_reducible assumption); (with_reducible assumption); rintro e w8 ⟨rfl, hu⟩; rw [E3.out]))
    all_goals
      go_wp2
      go_ret
      refine ⟨rfl, ?_⟩
      have hu0 := Hv2.out
      repeat (first | with_reducible assumption | with_reducible exact Upd.refl _ _ | with_reducible apply Upd.drew | with_reducible apply Upd.alloc | with_reducible refine Upd.trans ?_ ‹_›)
  · have hdm : decide (m % pp = 0) = false := by simp [hm]
    have hon := neg_odd m hm
    rw [hdm]
    have hS1 := cells10_mk Hbx4.out Hbn4.out
    obtain ⟨bo, hbo⟩ : ∃ bo : Bool, bo = decide (m % pp % 2 = 1) := ⟨_, rfl⟩
    rw [← hbo] at hon
    have Hon := Lib.hid hon
    have Hbo := Lib.hid hbo
    have hbe : (bo == !bo) = false := by cases bo <;> rfl
    clear hbo hdm hon hm
    go_wp2
    go_region_held3 (fun w' => w'.cell? ⟨w2.heap.size, 0, none⟩ = some (.int .u64 x0) ∧ w'.cell? ⟨w2.heap.size, 1, none⟩ = some (.int .u64 x1) ∧ w'.cell? ⟨w2.heap.size, 2, none⟩ = some (.int .u64 x2) ∧ w'.cell? ⟨w2.heap.size, 3, none⟩ = some (.int .u64 x3) ∧ w'.cell? ⟨w2.heap.size, 4, none⟩ = some (.int .u64 x4) ∧ w'.cell? ⟨w3.heap.size, 0, none⟩ = some (.int .u64 n0) ∧ w'.cell? ⟨w3.heap.size, 1, none⟩ = some (.int .u64 n1) ∧ w'.cell? ⟨w3.heap.size, 2, none⟩ = some (.int .u64 n2) ∧ w'.cell? ⟨w3.heap.size, 3, none⟩ = some (.int .u64 n3) ∧ w'.cell? ⟨w3.heap.size, 4, none⟩ = some (.int .u64 n4)) (first | with_reducible exact Upd.cells10 hu ‹_› | with_reducible exact Upd.cells10 (Upd.refl (fun _ => False) _).drew hS1 | go_keep) (first
      | (go_at_call_of 26 x0; refine (odd_any x0 x1 x2 x3 x4 m _ HFx.out).mono ?_; rintro e w5 ⟨rfl, hu⟩; rw [← Hbo.out])
      | (go_at_call_of 26 n0; refine (odd_any n0 n1 n2 n3 n4 (-m) _ HFn.out).mono ?_; rintro e w6 ⟨rfl, hu⟩; rw [Hon.out]))
    have Hu6 : Hid (Upd (fun _ => False) w w6) := by
      have hu0 := Hu4.out
      show Upd _ _ _
      repeat (first | with_reducible assumption | with_reducible exact Upd.refl _ _ | with_reducible apply Upd.drew | with_reducible apply Upd.alloc | with_reducible refine Upd.trans ?_ ‹_›)
    go_wp2_with fail
    refine (small_any a _ ha0 (by omega)).mono ?_
    rintro e v1 ⟨s0, s1, s2, s3, s4, hFs, rfl, hu⟩
    have Hv1 := Lib.hid (Hu6.out.trans hu)
    clear hu Hu6
    go_wp2_with fail
    refine (small_any b _ hb0 (by omega)).mono ?_
    rintro e v2 ⟨t0, t1, t2, t3, t4, hFt, rfl, hu⟩
    have Hv2 := Lib.hid (Hv1.out.trans hu)
    clear hu Hv1
    go_wp2
    have hS := cells10_mk ((Blk.at1 v2 #[.int .u64 s0, .int .u64 s1, .int .u64 s2, .int .u64 s3, .int .u64 s4] 28).alloc (.cells #[.int .u64 t0, .int .u64 t1, .int .u64 t2, .int .u64 t3, .int .u64 t4] 28)) (Blk.at2 v2 (.cells #[.int .u64 s0, .int .u64 s1, .int .u64 s2, .int .u64 s3, .int .u64 s4] 28) #[.int .u64 t0, .int .u64 t1, .int .u64 t2, .int .u64 t3, .int .u64 t4] 28)
    go_region_held3 (fun w' => w'.cell? ⟨v2.heap.size, 0, none⟩ = some (.int .u64 s0) ∧ w'.cell? ⟨v2.heap.size, 1, none⟩ = some (.int .u64 s1) ∧ w'.cell? ⟨v2.heap.size, 2, none⟩ = some (.int .u64 s2) ∧ w'.cell? ⟨v2.heap.size, 3, none⟩ = some (.int .u64 s3) ∧ w'.cell? ⟨v2.heap.size, 4, none⟩ = some (.int .u64 s4) ∧ w'.cell? ⟨v2.heap.size + 1, 0, none⟩ = some (.int .u64 t0) ∧ w'.cell? ⟨v2.heap.size + 1, 1, none⟩ = some (.int .u64 t1) ∧ w'.cell? ⟨v2.heap.size + 1, 2, none⟩ = some (.int .u64 t2) ∧ w'.cell? ⟨v2.heap.size + 1, 3, none⟩ = some (.int .u64 t3) ∧ w'.cell? ⟨v2.heap.size + 1, 4, none⟩ = some (.int .u64 t4)) (first | with_reducible exact Upd.cells10 hu ‹_› | with_reducible exact Upd.cells10 ((Upd.refl (fun _ => False) _).alloc _) ‹_› | with_reducible exact Upd.cells10 (Upd.refl (fun _ => False) _).drew hS | go_keep) (first
      | (go_at_call 19; refine (small_any _ _ (by omega) (by omega)).mono ?_; rintro e w8 ⟨z0, z1, z2, z3, z4, hF, rfl, hu⟩)
      | (go_at_call 10; refine (add_any _ _ _ _ (ElsAt.of2 ?_ hFs hFt)).mono ?_; (first | with_reducible exact (Blk.at3 _ _ _ _ _).drew | with_reducible exact Blk.at3 _ _ _ _ _); rintro e w8 ⟨z0, z1, z2, z3, z4, hF', rfl, hu⟩; have hF : Fits z0 z1 z2 z3 z4 (0 + a + b) := hF'; clear hF')
      | (go_at_call 28; refine (mul_any s0 s1 s2 s3 s4 t0 t1 t2 t3 t4 a b _ hFs hFt).mono ?_; rintro e w8 ⟨z0, z1, z2, z3, z4, hF, rfl, hu⟩)
      | (go_at_call 14; refine (sub_any _ _ _ _ _ _ _ _ _ _ (a + b) b _ ?_ ?_ ?_).mono ?_; (focus (refine HT.out.upd ?_; have hu0 := Hv2.out; repeat (first | with_reducible assumption | with_reducible exact Upd.refl _ _ | with_reducible apply Upd.drew | with_reducible apply Upd.alloc | with_reducible refine Upd.trans ?_ ‹_›))); (with_reducible assumption); (with_reducible assumption); rintro e w8 ⟨z0, z1, z2, z3, z4, hF, rfl, hu⟩)
      | (go_at_call 18; refine (equal_any _ _ _ _ _ _ _ _ _ _ (0 + a + b) (a + b) _ ?_ ?_).mono ?_; (with_reducible assumption); (with_reducible assumption); rintro e w8 ⟨rfl, hu⟩; rw [E1.out])
      | (go_at_call 18; refine (equal_any _ _ _ _ _ _ _ _ _ _ (a * b) (a * b) _ ?_ ?_).mono ?_; (with_reducible assumption); (with_reducible assumption); rintro e w8 ⟨rfl, hu⟩)
      | (go_at_call 18; refine (equal_any _ _ _ _ _ _ _ _ _ _ (a + b - b) a _ ?_ ?_).mono ?_; (with_reducible assumption); (with_reducible assumption); rintro e w8 ⟨rfl, hu⟩; rw [E3.out]))
    all_goals
      go_wp2
      go_ret
      refine ⟨rfl, ?_⟩
      have hu0 := Hv2.out
      repeat (first | with_reducible assumption | with_reducible exact Upd.refl _ _ | with_reducible apply Upd.drew | with_reducible apply Upd.alloc | with_reducible refine Upd.trans ?_ ‹_›)
end Go.Proofs.YtaejngaohkalcaaDoor
