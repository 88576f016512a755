/-
  Hash256.Write, Count.
-/
import Derived.Test.YtcdcoennnmbbdaaDoorFeed
namespace Go.Proofs.YtcdcoennnmbbdaaDoor
open Go.RowKit

/-- The value v is a []byte that reads as p; none of its bytes lies in a block of S. -/
def Sl (w : World) (S : Nat → Prop) (v : Value) (p : List Int) : Prop :=
  ∃ sp cap, v = .slice sp p.length cap ∧ p.length ≤ cap ∧ (cap ≤ 9223372036854775807 ∧ p.length ≤ 140737488355328) ∧
    (0 < p.length → ∃ pb po, sp = some ⟨pb, po, none⟩ ∧ ¬ S pb ∧ ∀ j, j < p.length → w.cell? ⟨pb, po + j, none⟩ = some (.int .u8 (p.getD j 0)))
theorem Sl.upd {S T : Nat → Prop} {w w' : World} {v : Value} {p : List Int} (h : Sl w S v p) (u : Upd T w w') (hT : ∀ k, T k → S k) : Sl w' S v p := by
  obtain ⟨sp, cap, h1, h2, h3, h4⟩ := h
  refine ⟨sp, cap, h1, h2, h3, fun h0 => ?_⟩
  obtain ⟨pb, po, e, hs, hc⟩ := h4 h0
  exact ⟨pb, po, e, hs, fun j hj => u.cell (hc j hj) (fun t => hs (hT _ t))⟩
theorem Sl.mono {S T : Nat → Prop} {w : World} {v : Value} {p : List Int} (h : Sl w S v p) (hT : ∀ k, k < w.heap.size → T k → S k) : Sl w T v p := by
  obtain ⟨sp, cap, h1, h2, h3, h4⟩ := h
  refine ⟨sp, cap, h1, h2, h3, fun h0 => ?_⟩
  obtain ⟨pb, po, e, hs, hc⟩ := h4 h0
  exact ⟨pb, po, e, fun t => hs (hT _ (block_lt_of_cell (hc 0 h0)) t), hc⟩
theorem Sl.len {S : Nat → Prop} {w : World} {v : Value} {p : List Int} (h : Sl w S v p) : p.length ≤ 140737488355328 := by
  obtain ⟨sp, cap, h1, h2, h3, h4⟩ := h; omega
/-- The value v is a [][]byte whose parts read as ps. -/
def SlS (w : World) (S : Nat → Prop) (v : Value) (ps : List (List Int)) : Prop :=
  ∃ sp cap, v = .slice sp ps.length cap ∧ ps.length ≤ cap ∧ (cap ≤ 9223372036854775807 ∧ ps.length ≤ 140737488355328) ∧
    (0 < ps.length → ∃ pb po, sp = some ⟨pb, po, none⟩ ∧ ¬ S pb ∧ ∀ j, j < ps.length → ∃ u, w.cell? ⟨pb, po + j, none⟩ = some u ∧ Sl w S u (ps.getD j []))
theorem SlS.upd {S T : Nat → Prop} {w w' : World} {v : Value} {ps : List (List Int)} (h : SlS w S v ps) (u : Upd T w w') (hT : ∀ k, T k → S k) : SlS w' S v ps := by
  obtain ⟨sp, cap, h1, h2, h3, h4⟩ := h
  refine ⟨sp, cap, h1, h2, h3, fun h0 => ?_⟩
  obtain ⟨pb, po, e, hs, hc⟩ := h4 h0
  refine ⟨pb, po, e, hs, fun j hj => ?_⟩
  obtain ⟨x, hx, hsl⟩ := hc j hj
  exact ⟨x, u.cell hx (fun t => hs (hT _ t)), hsl.upd u hT⟩

theorem SlS.mono' {S T : Nat → Prop} {w : World} {v : Value} {ps : List (List Int)} (h : SlS w S v ps) (hT : ∀ k, T k → S k) : SlS w T v ps := by
  obtain ⟨sp, cap, h1, h2, h3, h4⟩ := h
  refine ⟨sp, cap, h1, h2, h3, fun h0 => ?_⟩
  obtain ⟨pb, po, e, hs, hc⟩ := h4 h0
  refine ⟨pb, po, e, fun t => hs (hT _ t), fun j hj => ?_⟩
  obtain ⟨x, hx, hsl⟩ := hc j hj
  exact ⟨x, hx, hsl.mono (fun k _ t => hT k t)⟩
theorem feed_any (hb : Nat) (m p : List Int) (v : Value) (w : World) (hm : m.length ≤ 4611686018427387904) (hv : Sl w (fun k => k = hb) v p) (hT : Tabs w) (hh : 2 ≤ hb) (hH : HashAt w hb m) :
    Calls Tryd.prog 29 #[.pointer (some ⟨hb, 0, none⟩), v, .int .i64 64, .func (.func 30) #[.pointer (some ⟨hb, 0, none⟩)] #[]] w
      fun e w' => e = .returned (.tuple #[]) ∧ Upd (fun k => k = hb) w w' ∧ HashAt w' hb (m ++ p) := by
  obtain ⟨sp, cap, rfl, h2, h3, h4⟩ := hv
  by_cases h0 : 0 < p.length
  · obtain ⟨pb, po, rfl, hs, hc⟩ := h4 h0
    exact feed_some hb pb po cap _ _ _ m p w rfl rfl rfl h0 hs hm h2 h3.1 h3.2 hc hT hh hH
  · obtain rfl : p = [] := List.eq_nil_of_length_eq_zero (by omega)
    rw [List.append_nil]
    exact feed_zero hb cap _ _ sp m w rfl rfl hm hH

theorem take_flatten (ps : List (List Int)) (k : Nat) (hk : k < ps.length) : (ps.take (k + 1)).flatten = (ps.take k).flatten ++ ps.getD k [] := by
  rw [List.take_succ_eq_append_getElem hk, List.flatten_append]
  simp [List.getD_eq_getElem?_getD, hk, -List.take_append_getElem]
theorem flatten_take_le (ps : List (List Int)) (k : Nat) : (ps.take k).flatten.length ≤ ps.flatten.length := by
  conv => rhs; rw [← List.take_append_drop k ps, List.flatten_append, List.length_append]
  omega

set_option maxHeartbeats 1000000 in
theorem write256_any (hb : Nat) (m : List Int) (ps : List (List Int)) (v : Value) (w : World) (hm : m.length + ps.flatten.length ≤ 4611686018427387904) (hv : SlS w (fun k => k = hb) v ps) (hT : Tabs w) (hh : 2 ≤ hb) (hH : HashAt w hb m) :
    Calls Tryd.prog 13 #[.pointer (some ⟨hb, 0, none⟩), v] w
      fun e w' => e = .returned (.tuple #[]) ∧ Upd (fun k => k = hb) w w' ∧ HashAt w' hb (m ++ ps.flatten) := by
  have Hv := Lib.hid hv
  obtain ⟨sp, cap, rfl, h2, h3, h4⟩ := hv
  obtain ⟨n, hn⟩ : ∃ n, n = ps.length := ⟨_, rfl⟩
  rw [← hn] at h2 ⊢
  have Hn := Lib.hid hn
  have H4 := Lib.hid h4
  clear hn h4
  go_enter Tryd.func13, Tryd.ntmps13
  go_wp2
  go_loopw [8] (fun i wr => ∃ k : Nat, k ≤ n ∧ i = .int .i64 k ∧ Upd (fun k => k = hb) w wr ∧ HashAt wr hb (m ++ (ps.take k).flatten)) (fun i _ => n - (intOf i).toNat)
  case atStart => exact ⟨0, by omega, rfl, Upd.refl _ _, by simpa using hH⟩
  case round =>
    obtain ⟨k, hk, rfl, hu, hHk⟩ := hrel
    by_cases hlt : k < n
    · obtain ⟨pb, po, rfl, hs, hc⟩ := H4.out (by rw [← Hn.out]; omega)
      obtain ⟨u, hcu, hsl⟩ := hc k (by rw [← Hn.out]; exact hlt)
      have hcell : wr.cell? ⟨pb, po + k, none⟩ = some u := hu.cell hcu hs
      have Hu := Lib.hid hu
      have Hsl : Hid (Sl wr (fun k => k = hb) u (ps.getD k [])) := hsl.upd hu (fun _ h => h)
      have HT : Hid (Tabs wr) := hT.upd hu (by omega) (by omega)
      have HHk := Lib.hid hHk
      have hle : (m ++ (ps.take k).flatten).length ≤ 4611686018427387904 := by
        rw [List.length_append]; have := flatten_take_le ps k; omega
      have Hle := Lib.hid hle
      clear hu hHk hc hcu hsl hle hm
      go_wp2_with fail
      refine (feed_any hb _ _ _ _ Hle.out Hsl.out HT.out hh HHk.out).mono ?_
      rintro e w2 ⟨rfl, hu2, hH2⟩
      have Hu2 := Lib.hid hu2
      have HH2 := Lib.hid hH2
      clear hu2 hH2 hcell
      go_wp2
      go_roundw
      case rel =>
        refine ⟨k + 1, by omega, by go_num, Hu.out.trans Hu2.out, ?_⟩
        rw [take_flatten ps k (by rw [← Hn.out]; exact hlt), ← List.append_assoc]
        exact HH2.out
      case measure => simp [intOf]; omega
    · go_wp2
      go_end0
      refine ⟨rfl, hu, ?_⟩
      rw [List.take_of_length_le (by rw [← Hn.out]; omega)] at hHk
      exact hHk
theorem count256_any (hb : Nat) (m : List Int) (w : World) (hH : HashAt w hb m) :
    Calls Tryd.prog 23 #[.pointer (some ⟨hb, 0, none⟩)] w fun e w' => e = .returned (.int .i64 m.length) ∧ w = w' := by
  obtain ⟨arr, r, hblk, hsz, hr, hrm, hcnt, hst⟩ := hH.ex
  have hcell : w.cell? ⟨hb, 128, none⟩ = some (.int .i64 m.length) := by rw [hblk.cell, hcnt]
  clear hrm hcnt hst hr hsz hH
  go_enter Tryd.func23, Tryd.ntmps23
  go_wp2
  go_ret
  exact ⟨rfl, rfl⟩
end Go.Proofs.YtcdcoennnmbbdaaDoor
