/-
  The walk of tail.feed, as Hash256.Write calls it.
-/
import Derived.Test.YtcdcoennnmbbdaaDoorBlock
import Derived.Deep.DeepCutAuto
namespace Go.Proofs.YtcdcoennnmbbdaaDoor
open Go.RowKit

/-- The tables lie where the program has them. -/
structure Tabs (w : World) : Prop where
  H : ∀ j, j < 8 → w.cell? ⟨0, j, none⟩ = some (.int .u64 (tabH.getD j 0))
  K : ∀ j, j < 80 → w.cell? ⟨1, j, none⟩ = some (.int .u64 (KK j))
theorem Tabs.upd {S : Nat → Prop} {w w' : World} (h : Tabs w) (u : Upd S w w') (h0 : ¬ S 0) (h1 : ¬ S 1) : Tabs w' :=
  ⟨fun j hj => u.cell (h.H j hj) h0, fun j hj => u.cell (h.K j hj) h1⟩

/-- The hash in block hb has taken the bytes m in. -/
structure HashAt (w : World) (hb : Nat) (m : List Int) : Prop where
  ex : ∃ arr r, Blk w hb 67 arr ∧ arr.size = 137 ∧ Nums arr .u8 0 128 r ∧ (∀ j, j < m.length % 64 → r j = m.getD (64 * (m.length / 64) + j) 0) ∧
    arr[128]? = some (.int .i64 m.length) ∧ Nums arr .u32 129 8 (stAt m (m.length / 64))

def sliceLen : Value → Nat | .slice _ n _ => n | _ => 0
/-- On the way: the first q bytes of p have gone into blocks. -/
structure FeedR (m p : List Int) (hb pb po : Nat) (w wr : World) (v : Value) (q : Nat) : Prop where
  hq : q ≤ p.length
  h64 : (m.length + q) % 64 = 0
  hv : ∃ a c, v = .slice (some a) (p.length - q) c ∧ p.length - q ≤ c ∧ c ≤ 9223372036854775807 ∧ (q < p.length → a = ⟨pb, po + q, none⟩)
  upd : Upd (fun k => k = hb) w wr
  blk : ∃ arr r, Blk wr hb 67 arr ∧ arr.size = 137 ∧ Nums arr .u8 0 128 r ∧ arr[128]? = some (.int .i64 (m.length + p.length : Nat)) ∧ Nums arr .u32 129 8 (stAt (m ++ p) ((m.length + q) / 64))

theorem info5 : (Tryd.prog.info? 5).map (·.size) = some 1 := by kernel_rfl

/-- The hash behind all blocks, when what is left is copied to the rest. -/
theorem hash_rest {w : World} {hb q : Nat} {m p : List Int} {arr : Array Value} {r : Nat → Int} (hb0 : Blk w hb 67 (splice arr 0 ((p.drop q).map (Value.int .u8)))) (hsz : arr.size = 137) (hr : Nums arr .u8 0 128 r)
    (hq : q ≤ p.length) (h64 : (m.length + q) % 64 = 0) (hcnt : arr[128]? = some (.int .i64 (m.length + p.length : Nat))) (hst : Nums arr .u32 129 8 (stAt (m ++ p) ((m.length + q) / 64)))
    (hl : p.length - q < 64) : HashAt w hb (m ++ p) := by
  have hdl : (p.drop q).length = p.length - q := by simp
  have hdiv : (m ++ p).length / 64 = (m.length + q) / 64 := by rw [List.length_append]; omega
  have hmod : (m ++ p).length % 64 = p.length - q := by rw [List.length_append]; omega
  refine ⟨_, _, hb0, by rw [splice_size _ _ _ (by simp only [List.length_map, hdl]; omega)]; exact hsz, hr.splice _ _ (by omega) (by omega), ?_, ?_, ?_⟩
  · intro j hj
    rw [hmod] at hj
    rw [hdiv, if_pos (by omega)]
    simp only [List.getD_eq_getElem?_getD]
    rw [List.getElem?_append_right (by omega), List.getElem?_drop]
    congr 2
    omega
  · rw [splice_get _ _ _ (by simp only [List.length_map, hdl]; omega), if_neg (by simp only [List.length_map, hdl]; omega), hcnt, List.length_append]
  · rw [hdiv]
    exact hst.spliceOut _ _ (by simp only [List.length_map, hdl]; omega) (Or.inl (by simp only [List.length_map, hdl]; omega))
theorem rest_full {m p : List Int} {arr : Array Value} {r : Nat → Int} (hsz : arr.size = 137) (hr : Nums arr .u8 0 128 r)
    (hrm : ∀ j, j < m.length % 64 → r j = m.getD (64 * (m.length / 64) + j) 0) (hl : 64 ≤ m.length % 64 + p.length) :
    Nums (splice arr (m.length % 64) ((p.take (64 - m.length % 64)).map (Value.int .u8))) .u8 0 64 (fun j => (m ++ p).getD (64 * (m.length / 64) + j) 0) := by
  have ht : (p.take (64 - m.length % 64)).length = 64 - m.length % 64 := by simp; omega
  have h := hr.splice (m.length % 64) (p.take (64 - m.length % 64)) (by omega) (by omega)
  intro j hj
  rw [h j (by omega)]
  congr 2
  rw [ht]
  simp only [List.getD_eq_getElem?_getD]
  by_cases c : m.length % 64 ≤ j
  · rw [if_pos ⟨c, by omega⟩, List.getElem?_append_right (by omega), List.getElem?_take_of_lt (by omega), show 64 * (m.length / 64) + j - m.length = j - m.length % 64 by omega]
  · rw [if_neg (by omega), List.getElem?_append_left (by omega), hrm j (by omega), List.getD_eq_getElem?_getD]
/-- The hash behind a part that makes no block full. -/
theorem hash_short {w : World} {hb : Nat} {m p : List Int} {arr : Array Value} {r : Nat → Int} (hb0 : Blk w hb 67 (splice arr (m.length % 64) (p.map (Value.int .u8)))) (hsz : arr.size = 137) (hr : Nums arr .u8 0 128 r)
    (hrm : ∀ j, j < m.length % 64 → r j = m.getD (64 * (m.length / 64) + j) 0) (hcnt : arr[128]? = some (.int .i64 (m.length + p.length : Nat))) (hst : Nums arr .u32 129 8 (stAt m (m.length / 64)))
    (hl : m.length % 64 + p.length < 64) : HashAt w hb (m ++ p) := by
  have hdiv : (m ++ p).length / 64 = m.length / 64 := by rw [List.length_append]; omega
  have hmod : (m ++ p).length % 64 = m.length % 64 + p.length := by rw [List.length_append]; omega
  refine ⟨_, _, hb0, by rw [splice_size _ _ _ (by simp; omega)]; exact hsz, hr.splice _ p (by omega) (by omega), ?_, ?_, ?_⟩
  · intro j hj
    rw [hmod] at hj
    rw [hdiv]
    simp only [List.getD_eq_getElem?_getD]
    by_cases c : m.length % 64 ≤ j
    · rw [if_pos ⟨c, hj⟩, List.getElem?_append_right (by omega), show 64 * (m.length / 64) + j - m.length = j - m.length % 64 by omega]
    · rw [if_neg (by omega), List.getElem?_append_left (by omega), hrm j (by omega), List.getD_eq_getElem?_getD]
  · rw [splice_get _ _ _ (by simp; omega), if_neg (by simp; omega), hcnt, List.length_append]
  · rw [hdiv, stAt_append _ _ _ (by omega)]
    exact hst.spliceOut _ _ (by simp; omega) (Or.inl (by simp; omega))

set_option maxHeartbeats 1000000 in
theorem feed_some (hb pb po cap ml lp hd : Nat) (m p : List Int) (w : World) (hml : m.length = ml) (hlp : p.length = lp) (hhd : ml % 64 = hd) (hp : 0 < lp) (hne : pb ≠ hb) (hm : ml ≤ 4611686018427387904)
    (hcap : lp ≤ cap) (hcm : cap ≤ 9223372036854775807) (hlb : lp ≤ 140737488355328) (hc : ∀ j, j < lp → w.cell? ⟨pb, po + j, none⟩ = some (.int .u8 (p.getD j 0)))
    (hT : Tabs w) (hh : 2 ≤ hb) (hH : HashAt w hb m) :
    Calls Tryd.prog 29 #[.pointer (some ⟨hb, 0, none⟩), .slice (some ⟨pb, po, none⟩) lp cap, .int .i64 64, .func (.func 30) #[.pointer (some ⟨hb, 0, none⟩)] #[]] w
      fun e w' => e = .returned (.tuple #[]) ∧ Upd (fun k => k = hb) w w' ∧ HashAt w' hb (m ++ p) := by
  obtain ⟨arr, r, hblk, hsz, hr, hrm, hcnt, hst⟩ := hH.ex
  have hcell : w.cell? ⟨hb, 128, none⟩ = some (.int .i64 ml) := by rw [hblk.cell, hcnt, hml]
  have hfr : w.frozen? ⟨hb, 128, none⟩ = false := hblk.frozen _
  have hrem : (ml : Int) % 64 = (hd : Int) := by omega
  have hd64 : hd < 64 := by omega
  have Hml := Lib.hid hml
  have Hlp := Lib.hid hlp
  have Hhd := Lib.hid hhd
  have Hc := Lib.hid hc
  have Hblk := Lib.hid hblk
  have Hsz := Lib.hid hsz
  have Hcnt := Lib.hid hcnt
  clear hml hlp hhd hc hblk hsz hcnt hH
  go_enter Tryd.func29, Tryd.ntmps29
  go_upto_if 26 with (fail)
  rw [hrem]
  clear hrem
  obtain ⟨w0, hw0⟩ : ∃ w0, w0 = w.setCell ⟨hb, 128, none⟩ (.int .i64 (↑ml + ↑lp)) := ⟨_, rfl⟩
  rw [← hw0]
  have hu0 : Upd (fun k => k = hb) w w0 := by rw [hw0]; exact (Upd.refl _ w).set _ (fun _ => rfl)
  have hb0 : Blk w0 hb 67 (arr.setIfInBounds 128 (.int .i64 (↑ml + ↑lp))) := by rw [hw0]; exact Hblk.out.set _ _
  clear hw0 hcell hfr
  generalize harr : arr.setIfInBounds 128 (.int .i64 ((ml : Int) + (lp : Int))) = arr0 at *
  have hsz0 : arr0.size = 137 := by rw [← harr]; simpa using Hsz.out
  have hr0 : Nums arr0 .u8 0 128 r := by rw [← harr]; exact hr.setOut _ _ (by omega)
  have hst0 : Nums arr0 .u32 129 8 (stAt m (m.length / 64)) := by rw [← harr]; exact hst.setOut _ _ (by omega)
  have hcnt0 : arr0[128]? = some (.int .i64 (ml + lp : Nat)) := by rw [← harr, Array.getElem?_setIfInBounds_self_of_lt (by rw [Hsz.out]; omega)]; rfl
  clear harr hr hst Hcnt Hsz Hblk
  have Hu0 := Lib.hid hu0
  have Hsz0 := Lib.hid hsz0
  have Hcnt0 := Lib.hid hcnt0
  clear hu0 hsz0 hcnt0
  have hsl : ∀ w', (Instr.sliceAt 61 (.pointer (some ⟨hb, 0, none⟩)) (some (.int .i64 hd)) (some (.int .i64 64)) none).run Tryd.prog w' = .ok (.slice (some ⟨hb, hd, none⟩) (64 - hd) (128 - hd)) w' := fun w' => by
    have := run_sliceArr (P := Tryd.prog) w' 61 5 128 hb 0 .i64 .i64 hd 64 Tryd.underlying61 info5 (by omega) (by omega) (by omega)
    rw [Nat.zero_add] at this
    exact this
  go_cut [1] (fun v wr => ∃ q, FeedR m p hb pb po w wr v q)
  case first =>
    by_cases h0 : 0 < hd
    · have hhdd : decide (0 < hd) = true := by simpa using h0
      by_cases hless : hd + lp < 64
      · have hdl : decide ((hd : Int) + (lp : Int) < 64) = true := by simp; omega
        go_wp2_with (refine wpList_copyBlk rfl (.tmp 32) (.tmp 33) 22 22 rfl 5 Tryd.underlying22 info5 hb hd (64 - hd) (128 - hd) (some ⟨pb, po, none⟩) lp cap rfl rfl 67 arr0 hb0 lp (p.map (Value.int .u8)) (by simpa using Hlp.out) (by simp only [Nat.min_def]; split <;> omega) (fun _ => ⟨_, rfl, src_cells (fun j hj => Hu0.out.cell (Hc.out j (by rw [← Hlp.out]; exact hj)) hne)⟩) (by rw [Hsz0.out]; omega) (one_map .u8 p) ?_; intro w2 hb2 hu2 hz2)
        refine bodyPost_ret (results_none rfl _ _ _) rfl ⟨rfl, Hu0.out.trans hu2, hash_short (r := r) (arr := arr0) ?_ Hsz0.out hr0 hrm ?_ hst0 ?_⟩
        · rw [Hml.out, Hhd.out]; exact hb2
        · rw [Hcnt0.out, Hml.out, Hlp.out]
        · rw [Hml.out, Hlp.out, Hhd.out]; exact hless
      · have hdl : decide ((hd : Int) + ((64 - hd : Nat) : Int) < 64) = false := by simp; omega
        go_wp2_with (refine wpList_copyBlk rfl (.tmp 32) (.tmp 33) 22 22 rfl 5 Tryd.underlying22 info5 hb hd (64 - hd) (128 - hd) (some ⟨pb, po, none⟩) lp cap rfl rfl 67 arr0 hb0 (64 - hd) ((p.take (64 - hd)).map (Value.int .u8)) (by simp [Hlp.out]; omega) (by simp only [Nat.min_def]; split <;> omega) (fun _ => ⟨_, rfl, src_cells (fun j hj => by
          have hjl : j < 64 - hd ∧ j < lp := by simp [Hlp.out] at hj; omega
          rw [List.getD_eq_getElem?_getD, List.getElem?_take_of_lt hjl.1, ← List.getD_eq_getElem?_getD]
          exact Hu0.out.cell (Hc.out j hjl.2) hne)⟩) (by rw [Hsz0.out]; omega) (one_map .u8 _) ?_; intro w2 hb2 hu2 hz2)
        have hfull : Nums (splice arr0 hd ((p.take (64 - hd)).map (Value.int .u8))) .u8 0 64 (fun j => (m ++ p).getD (64 * (ml / 64) + j) 0) := by
          have := rest_full (m := m) (p := p) Hsz0.out hr0 hrm (by rw [Hml.out, Hlp.out, Hhd.out]; omega)
          rw [Hml.out, Hhd.out] at this
          exact this
        have htl : (p.take (64 - hd)).length = 64 - hd := by simp [Hlp.out]; omega
        have hu02 := Hu0.out.trans hu2
        refine (block256_any hb hb 0 64 128 (fun j => (m ++ p).getD (64 * (ml / 64) + j) 0) (stAt m (m.length / 64)) KK w2 (by omega) (by omega) (by omega) _ hb2 (by rw [splice_size _ _ _ (by simp only [List.length_map, htl, Hsz0.out]; omega)]; exact Hsz0.out) (hst0.spliceOut _ _ (by simp only [List.length_map, htl, Hsz0.out]; omega) (Or.inl (by simp only [List.length_map, htl]; omega))) (fun j hj => hu02.cell (hT.K j hj) (by simp; omega)) (fun j hj => by rw [hb2.cell]; exact hfull j hj)).mono ?_
        rintro e w3 ⟨rfl, hu3, arr3, hb3, hsz3, hold3, hst3⟩
        have Hu3 := Lib.hid hu3
        have Hb3 := Lib.hid hb3
        have Hsz3 := Lib.hid hsz3
        have Hold3 := Lib.hid hold3
        have Hst3 := Lib.hid hst3
        have Hu02 := Lib.hid hu02
        clear hu3 hb3 hsz3 hold3 hst3 hu02 hu2 hb2 hz2
        have HR : ∀ a c, lp - (64 - hd) ≤ c → c ≤ 9223372036854775807 → (64 - hd < lp → a = ⟨pb, po + (64 - hd), none⟩) → FeedR m p hb pb po w w3 (.slice (some a) (lp - (64 - hd)) c) (64 - hd) := by
          intro a c h1 h2 h3
          refine ⟨by rw [Hlp.out]; omega, by have := Hml.out; have := Hhd.out; omega, ⟨a, c, by rw [Hlp.out], by rw [Hlp.out]; exact h1, h2, by rw [Hlp.out]; exact h3⟩, Hu02.out.trans Hu3.out, arr3, (fun j => if hd ≤ j ∧ j < hd + (p.take (64 - hd)).length then (p.take (64 - hd)).getD (j - hd) 0 else r j), Hb3.out, Hsz3.out, ?_, ?_, ?_⟩
          · intro j hj
            rw [Hold3.out _ (by omega)]
            exact hr0.splice hd (p.take (64 - hd)) (by rw [htl]; omega) (by rw [Hsz0.out]; omega) j hj
          · rw [Hold3.out _ (by omega), splice_get _ _ _ (by simp only [List.length_map, htl, Hsz0.out]; omega), if_neg (by simp only [List.length_map, htl]; omega), Hcnt0.out, Hml.out, Hlp.out]
          · have e1 : (m.length + (64 - hd)) / 64 = ml / 64 + 1 := by have := Hml.out; have := Hhd.out; omega
            have e2 : stAt m (m.length / 64) = stAt (m ++ p) (ml / 64) := by rw [stAt_append _ _ _ (by have := Hml.out; omega), Hml.out]
            rw [e1, stAt, ← e2]
            exact Hst3.out
        have HR := Lib.hid HR
        clear hfull htl
        go_wp2
        · go_meet
          exact ⟨_, HR.out _ _ (by omega) (by omega) (by omega)⟩
        · go_meet
          exact ⟨_, HR.out _ _ (by omega) (by omega) (fun _ => rfl)⟩
    · have hhdd : decide (0 < hd) = false := by simpa using h0
      have hz : hd = 0 := by omega
      go_wp2
      go_meet
      refine ⟨0, by omega, by have := Hml.out; have := Hhd.out; omega, ⟨_, cap, by rw [Hlp.out]; rfl, by rw [Hlp.out]; omega, hcm, fun _ => rfl⟩, Hu0.out, arr0, r, hb0, Hsz0.out, hr0, by rw [Hcnt0.out, Hml.out, Hlp.out], ?_⟩
      rw [Nat.add_zero, stAt_append _ _ _ (by omega)]
      exact hst0
  case rest =>
    obtain ⟨q0, hR0⟩ := hcut
    clear hsl hb0 hr0 hst0 hrm Hu0 Hsz0 Hcnt0
    go_wp2_with fail
    go_loopw [1] (fun v wr => ∃ q, FeedR m p hb pb po w wr v q) (fun v _ => sliceLen v)
    case atStart => exact ⟨q0, hR0⟩
    case round =>
      clear hR0
      obtain ⟨q, hR⟩ := hrel
      obtain ⟨ha, c, rfl, hlc, hcb, hadr⟩ := hR.hv
      obtain ⟨arr, r, hblk, hsz, hr, hcnt, hst⟩ := hR.blk
      obtain ⟨rl, hrl⟩ : ∃ rl, rl = p.length - q := ⟨_, rfl⟩
      rw [← hrl] at hlc ⊢
      have hq := hR.hq
      have hu := hR.upd
      have h64 := hR.h64
      by_cases hlt : 64 ≤ rl
      · obtain rfl := hadr (by omega)
        have hne64 : ¬ c < 64 := by omega
        have hcs : ∀ j, j < 64 → wr.cell? ⟨pb, po + q + j, none⟩ = some (.int .u8 ((fun j => (m ++ p).getD (64 * ((m.length + q) / 64) + j) 0) j)) := by
          intro j hj
          have e : (m ++ p).getD (64 * ((m.length + q) / 64) + j) 0 = p.getD (q + j) 0 := by
            simp only [List.getD_eq_getElem?_getD]
            rw [List.getElem?_append_right (by omega)]
            congr 2
            omega
          simp only [e]
          have := Hc.out (q + j) (by have := Hlp.out; omega)
          rw [show po + q + j = po + (q + j) by omega]
          exact hu.cell this hne
        have HB := block256_any hb pb (po + q) 64 c (fun j => (m ++ p).getD (64 * ((m.length + q) / 64) + j) 0) (stAt (m ++ p) ((m.length + q) / 64)) KK wr (by omega) (by omega) (by omega) arr hblk hsz hst (fun j hj => hu.cell (hT.K j hj) (by simp; omega)) hcs
        have HB := Lib.hid HB
        have Hrl := Lib.hid hrl
        have Hr := Lib.hid hr
        have Hcnt := Lib.hid hcnt
        have Hu := Lib.hid hu
        have H64 := Lib.hid h64
        clear hcs hrl hr hcnt hu h64 hblk hsz hst hR hadr
        go_wp2_with fail
        refine HB.out.mono ?_
        rintro e w3 ⟨rfl, hu3, arr3, hb3, hsz3, hold3, hst3⟩
        have HR : ∀ a c, rl - 64 ≤ c → c ≤ 9223372036854775807 → (64 < rl → a = ⟨pb, po + q + 64, none⟩) → FeedR m p hb pb po w w3 (.slice (some a) (rl - 64) c) (q + 64) := by
          intro a c h1 h2 h3
          have h4 := H64.out
          have h5 := Hrl.out
          refine ⟨by omega, by omega, ⟨a, c, by rw [h5]; congr 1, by omega, h2, fun h => by rw [h3 (by omega)]; congr 1⟩, Hu.out.trans hu3, arr3, r, hb3, hsz3, ?_, ?_, ?_⟩
          · intro j hj
            rw [hold3 _ (by omega)]
            exact Hr.out j hj
          · rw [hold3 _ (by omega)]; exact Hcnt.out
          · rw [show (m.length + (q + 64)) / 64 = (m.length + q) / 64 + 1 by omega, stAt]
            exact hst3
        have HR := Lib.hid HR
        clear hu3 hb3 hsz3 hold3 hst3
        go_wp2
        go_roundw
        case rel =>
          by_cases hc64 : c = 64
          · rw [if_pos hc64]
            exact ⟨_, HR.out _ _ (by omega) (by omega) (by omega)⟩
          · rw [if_neg hc64]
            exact ⟨_, HR.out _ _ (by omega) (by omega) (fun _ => rfl)⟩
        case measure => simp [sliceLen]; omega
      · have hsrc : 0 < rl → ∃ ad, some ha = some ad ∧ ∀ j v, ((p.drop q).map (Value.int .u8))[j]? = some v → wr.cell? (ad.add j) = some v := by
          intro h0
          obtain rfl := hadr (by omega)
          refine ⟨_, rfl, src_cells (fun j hj => ?_)⟩
          rw [List.length_drop] at hj
          have := Hc.out (q + j) (by have := Hlp.out; omega)
          rw [show po + q + j = po + (q + j) by omega, show (p.drop q).getD j 0 = p.getD (q + j) 0 by simp [List.getD_eq_getElem?_getD, List.getElem?_drop]]
          exact hu.cell this hne
        have Hsrc := Lib.hid hsrc
        have Hrl := Lib.hid hrl
        have Hsz := Lib.hid hsz
        have Hcnt := Lib.hid hcnt
        have Hr := Lib.hid hr
        have Hst := Lib.hid hst
        have H64 := Lib.hid h64
        have Hu := Lib.hid hu
        clear hsrc hrl hsz hcnt hr hst h64 hadr hR hu
        go_wp2_with (refine wpList_copyBlk rfl (.tmp 65) (.tmp 66) 22 22 rfl 5 Tryd.underlying22 info5 hb 0 128 128 (some ha) rl c rfl rfl 67 arr hblk rl ((p.drop q).map (Value.int .u8)) (by simp [Hrl.out]) (by simp only [Nat.min_def]; split <;> omega) Hsrc.out (by rw [Hsz.out]; omega) (one_map .u8 _) ?_; intro w2 hb2 hu2 hz2)
        go_end0
        exact ⟨rfl, Hu.out.trans hu2, hash_rest hb2 Hsz.out Hr.out hq H64.out Hcnt.out Hst.out (by have := Hrl.out; omega)⟩

set_option maxHeartbeats 1000000 in
theorem feed_zero (hb cap ml hd : Nat) (sp : Option Addr) (m : List Int) (w : World) (hml : m.length = ml) (hhd : ml % 64 = hd) (hm : ml ≤ 4611686018427387904) (hH : HashAt w hb m) :
    Calls Tryd.prog 29 #[.pointer (some ⟨hb, 0, none⟩), .slice sp 0 cap, .int .i64 64, .func (.func 30) #[.pointer (some ⟨hb, 0, none⟩)] #[]] w
      fun e w' => e = .returned (.tuple #[]) ∧ Upd (fun k => k = hb) w w' ∧ HashAt w' hb m := by
  obtain ⟨arr, r, hblk, hsz, hr, hrm, hcnt, hst⟩ := hH.ex
  have hcell : w.cell? ⟨hb, 128, none⟩ = some (.int .i64 ml) := by rw [hblk.cell, hcnt, hml]
  have hfr : w.frozen? ⟨hb, 128, none⟩ = false := hblk.frozen _
  have hrem : (ml : Int) % 64 = (hd : Int) := by omega
  have hd64 : hd < 64 := by omega
  have hset : arr.setIfInBounds 128 (.int .i64 ml) = arr := by
    apply Array.ext_getElem?
    intro j
    rw [Array.getElem?_setIfInBounds]
    by_cases e : 128 = j
    · subst e; rw [if_pos rfl, if_pos (by omega), hcnt, hml]
    · rw [if_neg e]
  have hw1 : Upd (fun k => k = hb) w (w.setCell ⟨hb, 128, none⟩ (.int .i64 ml)) ∧ Blk (w.setCell ⟨hb, 128, none⟩ (.int .i64 ml)) hb 67 arr := by
    refine ⟨(Upd.refl _ w).set _ (fun _ => rfl), ?_⟩
    have := hblk.set 128 (.int .i64 ml)
    rw [hset] at this
    exact this
  have hend : ∀ w', Upd (fun k => k = hb) w w' → Blk w' hb 67 arr → Upd (fun k => k = hb) w w' ∧ HashAt w' hb m := fun w' u b => ⟨u, arr, r, b, hsz, hr, hrm, hcnt, hst⟩
  have hsl : ∀ w', (Instr.sliceAt 61 (.pointer (some ⟨hb, 0, none⟩)) (some (.int .i64 hd)) (some (.int .i64 64)) none).run Tryd.prog w' = .ok (.slice (some ⟨hb, hd, none⟩) (64 - hd) (128 - hd)) w' := fun w' => by
    have := run_sliceArr (P := Tryd.prog) w' 61 5 128 hb 0 .i64 .i64 hd 64 Tryd.underlying61 info5 (by omega) (by omega) (by omega)
    rw [Nat.zero_add] at this
    exact this
  have Hend := Lib.hid hend
  have Hw1 := Lib.hid hw1
  have Hsz := Lib.hid hsz
  clear hml hhd hblk hcnt hset hw1 hend hr hrm hst hsz hH
  go_enter Tryd.func29, Tryd.ntmps29
  go_upto_if 26 with (fail)
  rw [hrem]
  clear hrem
  obtain ⟨w0, hw0⟩ : ∃ w0, w0 = w.setCell ⟨hb, 128, none⟩ (.int .i64 ml) := ⟨_, rfl⟩
  rw [← hw0]
  have hb0 : Blk w0 hb 67 arr := by rw [hw0]; exact Hw1.out.2
  have Hu0 : Hid (Upd (fun k => k = hb) w w0) := by rw [hw0]; exact Hw1.out.1
  clear hw0 hcell hfr Hw1
  by_cases h0 : 0 < hd
  · have hhdd : decide (0 < hd) = true := by simpa using h0
    go_wp2_with (refine wpList_copyBlk rfl (.tmp 32) (.tmp 33) 22 22 rfl 5 Tryd.underlying22 info5 hb hd (64 - hd) (128 - hd) sp 0 cap rfl rfl 67 arr hb0 0 [] rfl (by simp) (fun h => absurd h (by omega)) (by rw [Hsz.out]; omega) (by simp) ?_; intro w2 hb2 hu2 hz2)
    refine bodyPost_ret (results_none rfl _ _ _) rfl ⟨rfl, Hend.out _ (Hu0.out.trans hu2) ?_⟩
    simpa [splice] using hb2
  · have hhdd : decide (0 < hd) = false := by simpa using h0
    go_wp2
    refine wp_loop_rounds 1 ?_
    rw [rounds_succ]
    go_wp2_with (refine wpList_copyBlk rfl (.tmp 65) (.tmp 66) 22 22 rfl 5 Tryd.underlying22 info5 hb 0 128 128 sp 0 cap rfl rfl 67 arr hb0 0 [] rfl (by simp) (fun h => absurd h (by omega)) (by rw [Hsz.out]; omega) (by simp) ?_; intro w2 hb2 hu2 hz2)
    go_end0
    refine ⟨rfl, Hend.out _ (Hu0.out.trans hu2) ?_⟩
    simpa [splice] using hb2
end Go.Proofs.YtcdcoennnmbbdaaDoor
