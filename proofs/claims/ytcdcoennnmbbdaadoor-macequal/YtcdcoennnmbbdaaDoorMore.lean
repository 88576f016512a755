/-
  The walk of MacMore.
-/
import Derived.Test.YtcdcoennnmbbdaaDoorExpand
import Derived.Laws.BytesArg
namespace Go.Proofs.YtcdcoennnmbbdaaDoor
open Go.RowKit

theorem Sl.string {w : World} {S : Nat → Prop} {v : Value} {p : List Int} (h : Sl w S v p) : (convert 22 9 v).run Tryd.prog w = .ok (.string (strOfNums p)) w := by
  obtain ⟨sp, cap, rfl, h1, h2, h3⟩ := h
  by_cases h0 : 0 < p.length
  · obtain ⟨pb, po, rfl, _, hc⟩ := h3 h0
    exact run_convert_bytes_arg w 22 5 Tryd.underlying22 Tryd.underlying5 pb po p.length cap p rfl hc 9 Tryd.underlying9
  · obtain rfl : p = [] := List.eq_nil_of_length_eq_zero (by omega)
    rw [List.length_nil, run_convert_bytes_string w 22 9 5 _ 0 cap Tryd.underlying22 Tryd.underlying5 Tryd.underlying9]
    cases sp <;> simp [Conv.bytesToString, loadCells]
    all_goals rfl
theorem expand_one (key b : List Int) (vb : Value) (n : Int) (w0 : World) (hk : key.length = 32) (hl : -9223372036854775808 ≤ n ∧ n ≤ 9223372036854775807) (hT : Tabs w0) (hw : 2 ≤ w0.heap.size) (hb : Sl w0 (fun k => w0.heap.size ≤ k) vb b) (X : World) (g : Nat) (u : Upd (fun _ => False) w0 X)
    (hc : X.cell? ⟨g, 0, none⟩ = some vb) : Calls Tryd.prog 17 #[.agg (bytesA key), .int .i64 n, .slice (some ⟨g, 0, none⟩) 1 1] X fun e w' => Upd (fun _ => False) X w' ∧ ∃ v er, e = .returned (.tuple #[v, .int .i64 er]) ∧
      (((n < 0 ∨ 8160 < n) ∧ er = 1 ∧ v = .slice none 0 0) ∨ ((0 ≤ n ∧ n ≤ 8160) ∧ er = 0 ∧ Sl w' (fun _ => False) v ((okmAll key b).take n.toNat))) := by
  have hg : g < X.heap.size := block_lt_of_cell hc
  have hz := u.size
  have hbl := hb.len
  have := expand_any key [b] (.slice (some ⟨g, 0, none⟩) 1 1) n X hk hl (hT.upd u (fun h => h) (fun h => h)) (by omega) (SlS.one hc ((hb.upd u (fun k h => h.elim)).mono (fun k _ h => by omega)) (by omega)) (by rw [List.flatten_cons, List.flatten_nil, List.append_nil]; omega)
  rw [List.flatten_cons, List.flatten_nil, List.append_nil] at this
  exact this

set_option maxHeartbeats 4000000 in
theorem macMore_any (key b : List Int) (vb : Value) (n0 n1 : Int) (w : World) (hk : key.length = 32) (hl0 : -9223372036854775808 ≤ n0 ∧ n0 ≤ 9223372036854775807) (hl1 : -9223372036854775808 ≤ n1 ∧ n1 ≤ 9223372036854775807) (hT : Tabs w) (hw : 2 ≤ w.heap.size) (hb : Sl w (fun k => w.heap.size ≤ k) vb b) :
    Calls Tryd.prog 6 #[.agg (bytesA key), .agg #[.int .i64 n0, .int .i64 n1], vb] w fun e w' => e = .returned (.bool true) ∧ Upd (fun _ => False) w w' := by
  have HT := Lib.hid hT
  have Hb := Lib.hid hb
  have Hk := Lib.hid hk
  have HKA : Hid ((bytesA key).size = 32) := by show _ = _; rw [bytesA_size, hk]
  obtain ⟨bsp, bcap, rfl, _, _, _⟩ := hb
  obtain ⟨bl, hbl⟩ : ∃ bl, bl = b.length := ⟨_, rfl⟩
  rw [← hbl] at Hb ⊢
  clear hT hbl hk
  go_enter Tryd.func6, Tryd.ntmps6
  go_wp2_with fail
  have hua : Upd (fun _ => False) w ((w.alloc (.cells (bytesA key) 25)).alloc (.cells #[.int .i64 n0, .int .i64 n1] 48)) := ((Upd.refl _ w).alloc _).alloc _
  refine (known_any _ (HT.out.upd hua (fun h => h) (fun h => h)) (by have := hua.size; omega)).mono ?_
  rintro e w1 ⟨rfl, hu1⟩
  have hkb : Blk w1 w.heap.size 25 (bytesA key) := hu1.blk ((Blk.new w _ 25).alloc _) (fun h => h)
  have hsb : Blk w1 (w.heap.size + 1) 48 #[.int .i64 n0, .int .i64 n1] := by
    have := hu1.blk (Blk.new (w.alloc (.cells (bytesA key) 25)) #[.int .i64 n0, .int .i64 n1] 48) (fun h => h)
    rwa [World.size_alloc] at this
  have hc0 : w1.cell? ⟨w.heap.size + 1, 0, none⟩ = some (.int .i64 n0) := by rw [hsb.cell]; rfl
  have hc1 : w1.cell? ⟨w.heap.size + 1, 1, none⟩ = some (.int .i64 n1) := by rw [hsb.cell]; rfl
  have Hkb := Lib.hid hkb
  have Hsb := Lib.hid hsb
  have Hu1 : Hid (Upd (fun _ => False) w w1) := hua.trans hu1
  have hz1 := Hu1.out.size
  have HT1 : Hid (Tabs w1) := HT.out.upd Hu1.out (fun h => h) (fun h => h)
  have Hb1 : Hid (Sl w1 (fun k => w1.heap.size ≤ k) (.slice bsp bl bcap) b) := (Hb.out.upd Hu1.out (fun k h => h.elim)).mono (fun k _ h => by omega)
  clear hua hu1 hkb hsb HT Hb
  go_wp2_with (refine wpList_loadBlk rfl 25 _ rfl w.heap.size 0 32 rfl 25 (bytesA key) _ Hkb.out Tryd.underlying25 rfl info25 (by have := HKA.out; omega) ?_; rw [extract_all _ _ HKA.out])
  refine (expand_one key b (.slice bsp bl bcap) n0 w1 Hk.out hl0 HT1.out (by omega) Hb1.out _ w1.heap.size ((Upd.refl _ w1).alloc _) (by simp)).mono ?_
  rintro e w2 ⟨hu2, v0, e0, rfl, D0⟩
  have Hu2 : Hid (Upd (fun _ => False) w1 w2) := ((Upd.refl _ w1).alloc _).trans hu2
  have hz2 := Hu2.out.size
  have hd0 := Hu2.out.cell hc0 (fun h => h)
  have hd1 := Hu2.out.cell hc1 (fun h => h)
  have Hkb2 : Hid (Blk w2 w.heap.size 25 (bytesA key)) := Hu2.out.blk Hkb.out (fun h => h)
  have HT2 : Hid (Tabs w2) := HT1.out.upd Hu2.out (fun h => h) (fun h => h)
  have Hb2 : Hid (Sl w2 (fun k => w2.heap.size ≤ k) (.slice bsp bl bcap) b) := (Hb1.out.upd Hu2.out (fun k h => h.elim)).mono (fun k _ h => by omega)
  have HD0 := Lib.hid D0
  clear hc0 hc1 hu2 D0 Hkb HT1 Hb1
  go_wp2_with (refine wpList_loadBlk rfl 25 _ rfl w.heap.size 0 32 rfl 25 (bytesA key) _ Hkb2.out Tryd.underlying25 rfl info25 (by have := HKA.out; omega) ?_; rw [extract_all _ _ HKA.out])
  refine (expand_one key b (.slice bsp bl bcap) n1 w2 Hk.out hl1 HT2.out (by omega) Hb2.out _ w2.heap.size ((Upd.refl _ w2).alloc _) (by simp)).mono ?_
  rintro e w3 ⟨hu3, v1, e1, rfl, D1⟩
  have Hu23 : Hid (Upd (fun _ => False) w2 w3) := ((Upd.refl _ w2).alloc _).trans hu3
  have Hu3 : Hid (Upd (fun _ => False) w w3) := (Hu1.out.trans Hu2.out).trans Hu23.out
  have hc0 := Hu23.out.cell hd0 (fun h => h)
  have hc1 := Hu23.out.cell hd1 (fun h => h)
  have D0 := HD0.out
  clear hd0 hd1 hu3 HD0 Hkb2 HT2 Hb2
  rcases D0 with ⟨h0, rfl, rfl⟩ | ⟨h0, rfl, s0⟩
  · rcases D1 with ⟨h1, rfl, rfl⟩ | ⟨h1, rfl, s1⟩
    · rcases h0 with h0 | h0 <;> rcases h1 with h1 | h1
      all_goals
        go_wp2_with fail
        go_ret
        exact ⟨rfl, Hu3.out⟩
    · obtain ⟨sp1, cap1, rfl, _⟩ := s1
      rcases h0 with h0 | h0
      all_goals
        go_wp2_with fail
        go_ret
        have q1 : decide (n1 < 0) = false := by simp; omega
        have q2 : decide (8160 < n1) = false := by simp; omega
        refine ⟨?_, Hu3.out⟩
        show Ending.returned (Value.bool (!decide (n1 < 0) && !decide (8160 < n1))) = _
        rw [q1, q2]
        rfl
  · have S0 : Hid (Sl w3 (fun _ => False) v0 ((okmAll key b).take n0.toNat)) := s0.upd Hu23.out (fun k h => h)
    clear s0
    rcases D1 with ⟨h1, rfl, rfl⟩ | ⟨h1, rfl, s1⟩
    · obtain ⟨sp0, cap0, rfl, _⟩ := S0.out
      rcases h1 with h1 | h1
      all_goals
        go_wp2_with fail
        go_ret
        have q1 : decide (n0 < 0) = false := by simp; omega
        have q2 : decide (8160 < n0) = false := by simp; omega
        refine ⟨?_, Hu3.out⟩
        show Ending.returned (Value.bool (!decide (n0 < 0) && !decide (8160 < n0))) = _
        rw [q1, q2]
        rfl
    · have S1 := Lib.hid s1
      clear s1
      obtain ⟨m0, rfl⟩ := Int.eq_ofNat_of_zero_le h0.1
      obtain ⟨m1, rfl⟩ := Int.eq_ofNat_of_zero_le h1.1
      rw [Int.toNat_natCast] at S0 S1
      have hL := okmAll_length key b
      have l0 : ((okmAll key b).take m0).length = m0 := by rw [List.length_take, hL]; omega
      have l1 : ((okmAll key b).take m1).length = m1 := by rw [List.length_take, hL]; omega
      obtain ⟨sp0, cap0, hv0, hq0, _⟩ := S0.out
      obtain ⟨sp1, cap1, hv1, hq1, _⟩ := S1.out
      rw [l0] at hv0 hq0
      rw [l1] at hv1 hq1
      rw [hv0] at S0 ⊢
      rw [hv1] at S1 ⊢
      clear hv0 hv1 v0 v1 l0 l1 hL
      by_cases hm : m0 ≤ m1
      · have hx : ∀ n, (convert 22 9 (.slice sp0 m0 cap0)).run Tryd.prog (w3.drewN n) = .ok (.string (strOfNums ((okmAll key b).take m0))) (w3.drewN n) := fun n => (S0.out.upd ((Upd.refl (fun _ => False) w3).drewN n) (fun k h => h)).string
        have hy : ∀ n, (convert 22 9 (.slice sp1 m0 cap1)).run Tryd.prog (w3.drewN n) = .ok (.string (strOfNums ((okmAll key b).take m0))) (w3.drewN n) := fun n => by
          have := ((Sl.take (k := m0) S1.out hm).upd ((Upd.refl (fun _ => False) w3).drewN n) (fun k h => h)).string
          rwa [List.take_take, Nat.min_eq_left hm] at this
        generalize strOfNums ((okmAll key b).take m0) = Z at *
        have hmin : (m0 : Int) ≤ m1 := by omega
        clear S0 S1
        go_wp2_with fail
        go_quiet (fail)
        go_wp2
        go_ret
        refine ⟨?_, Hu3.out.drewN _⟩
        simp
      · have hx : ∀ n, (convert 22 9 (.slice sp0 m1 cap0)).run Tryd.prog (w3.drewN n) = .ok (.string (strOfNums ((okmAll key b).take m1))) (w3.drewN n) := fun n => by
          have := ((Sl.take (k := m1) S0.out (by omega)).upd ((Upd.refl (fun _ => False) w3).drewN n) (fun k h => h)).string
          rwa [List.take_take, Nat.min_eq_left (by omega)] at this
        have hy : ∀ n, (convert 22 9 (.slice sp1 m1 cap1)).run Tryd.prog (w3.drewN n) = .ok (.string (strOfNums ((okmAll key b).take m1))) (w3.drewN n) := fun n => (S1.out.upd ((Upd.refl (fun _ => False) w3).drewN n) (fun k h => h)).string
        generalize strOfNums ((okmAll key b).take m1) = Z at *
        have hmin : ¬ (m0 : Int) ≤ m1 := by omega
        clear S0 S1
        go_wp2_with fail
        go_quiet (fail)
        go_wp2
        go_ret
        refine ⟨?_, Hu3.out.drewN _⟩
        simp
end Go.Proofs.YtcdcoennnmbbdaaDoor
