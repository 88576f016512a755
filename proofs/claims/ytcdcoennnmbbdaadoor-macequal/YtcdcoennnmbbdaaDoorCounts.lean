/-
  The walk of MacCounts.
-/
import Derived.Test.YtcdcoennnmbbdaaDoorKnown
import Derived.Test.YtcdcoennnmbbdaaDoorApp
namespace Go.Proofs.YtcdcoennnmbbdaaDoor
open Go.RowKit

theorem guard25 : Tryd.prog.eqGuardType Tryd.prog.depth 25 = false := by kernel_rfl
/-- A slice's head. -/
theorem Sl.take {w : World} {S : Nat → Prop} {sp : Option Addr} {n cap k : Nat} {p : List Int} (h : Sl w S (.slice sp n cap) p) (hk : k ≤ n) : Sl w S (.slice sp k cap) (p.take k) := by
  obtain ⟨sp', cap', h1, h2, h3, h4⟩ := h
  simp only [Value.slice.injEq] at h1
  obtain ⟨rfl, rfl, rfl⟩ := h1
  have hl : (p.take k).length = k := by simp; omega
  refine ⟨sp, cap, by rw [hl], by omega, by omega, fun h0 => ?_⟩
  obtain ⟨pb, po, e, hs, hc⟩ := h4 (by omega)
  refine ⟨pb, po, e, hs, fun j hj => ?_⟩
  rw [hc j (by omega), List.getD_eq_getElem?_getD, List.getD_eq_getElem?_getD, List.getElem?_take_of_lt (by omega)]
/-- What came in behind k parts. -/
def cutAll (ps : List (List Int)) (k : Nat) : List Int := ((ps.take k).map (List.take 200)).flatten
theorem cutAll_succ (ps : List (List Int)) (k : Nat) (hk : k < ps.length) : cutAll ps (k + 1) = cutAll ps k ++ (ps.getD k []).take 200 := by
  unfold cutAll
  rw [List.take_succ_eq_append_getElem hk, List.map_append, List.flatten_append]
  simp [List.getD_eq_getElem?_getD, hk]
theorem cutAll_length (ps : List (List Int)) (k : Nat) : (cutAll ps k).length ≤ 200 * k := by
  by_cases hk : k ≤ ps.length
  · induction k with
    | zero => simp [cutAll]
    | succ k ih =>
      rw [cutAll_succ ps k (by omega), List.length_append, List.length_take]
      have := ih (by omega)
      omega
  · have e : cutAll ps k = cutAll ps ps.length := by unfold cutAll; rw [List.take_of_length_le (by omega), List.take_of_length_le (by omega)]
    have h : ∀ k, k ≤ ps.length → (cutAll ps k).length ≤ 200 * k := by
      intro k
      induction k with
      | zero => intro _; simp [cutAll]
      | succ k ih =>
        intro hk
        rw [cutAll_succ ps k (by omega), List.length_append, List.length_take]
        have := ih (by omega)
        omega
    rw [e]
    have := h ps.length (Nat.le_refl _)
    omega

theorem MacAt.cell0 {w : World} {mb hb : Nat} {ok m : List Int} (h : MacAt w mb hb ok m) : w.cell? ⟨mb, 0, none⟩ = some (.pointer (some ⟨hb, 0, none⟩)) := by
  obtain ⟨marr, h1, h2, h3, h4⟩ := h.blk
  rw [h1.cell, h3]
theorem MacAt.lt {w : World} {mb hb : Nat} {ok m : List Int} (h : MacAt w mb hb ok m) : mb < w.heap.size ∧ hb < w.heap.size := by
  obtain ⟨marr, h1, _⟩ := h.blk
  exact ⟨h1.lt, h.hash.lt⟩

set_option maxHeartbeats 2000000 in
theorem counts_any (key : List Int) (ps : List (List Int)) (v vp : Value) (w : World) (hT : Tabs w) (hw : 2 ≤ w.heap.size) (hv : Sl w (fun k => w.heap.size ≤ k) v key) (hp : SlS w (fun k => w.heap.size ≤ k) vp ps) :
    Calls Tryd.prog 9 #[v, vp] w fun e w' => e = .returned (.bool true) ∧ Upd (fun _ => False) w w' := by
  have HT := Lib.hid hT
  have Hv := Lib.hid hv
  have Hp := Lib.hid hp
  obtain ⟨sp, cap, rfl, hpl, hpc, hpx⟩ := hp
  obtain ⟨n, hn⟩ : ∃ n, n = ps.length := ⟨_, rfl⟩
  rw [← hn] at hpl hpc hpx ⊢
  have Hn := Lib.hid hn
  have Hpx := Lib.hid hpx
  have Hgd := Lib.hid guard25
  clear hT hv hn hpx
  go_enter Tryd.func9, Tryd.ntmps9
  go_wp2_with fail
  refine (known_any w HT.out hw).mono ?_
  rintro e w1 ⟨rfl, hu1⟩
  have Hu1 := Lib.hid hu1
  clear hu1
  have hdten : decide ((10 : Int) < (n : Int)) = decide (10 < n) := by rw [decide_eq_decide]; omega
  by_cases hten : 10 < n
  · go_wp2_with fail
    go_ret
    exact ⟨rfl, Hu1.out⟩
  · go_wp2_with fail
    refine (mnew_any key v w1 (HT.out.upd Hu1.out (fun h => h) (fun h => h)) (by have := Hu1.out.size; omega) ((Hv.out.upd Hu1.out (fun k h => h.elim)).mono (fun k _ h => by have := Hu1.out.size; omega))).mono ?_
    rintro e w2 ⟨mb, hb, rfl, hmb, hhb, hu2, hM2⟩
    have hu02 := Hu1.out.trans hu2
    have hz1 := Hu1.out.size
    have hc0 : w2.cell? ⟨mb, 0, none⟩ = some (.pointer (some ⟨hb, 0, none⟩)) := by
      obtain ⟨marr, h1, h2, h3, h4⟩ := hM2.blk
      rw [h1.cell, h3]
    have HM2 := Lib.hid hM2
    have Hu02 := Lib.hid hu02
    clear hu2 hM2 hu02 Hu1
    go_wp2_with fail
    refine (count256_any hb _ w2 HM2.out.hash).mono ?_
    rintro e w' ⟨rfl, rfl⟩
    rw [maskK_length, fillK_length]
    go_wp2_with fail
    have hlt2 := HM2.out.lt
    have hz2 := Hu02.out.size
    go_loopw [28, 6] (fun i all wr => ∃ k : Nat, k ≤ n ∧ i = .int .i64 k ∧ Upd (fun _ => False) w wr ∧ w2.heap.size ≤ wr.heap.size ∧ MacAt wr mb hb (maskK 92 (fillK key)) (maskK 54 (fillK key) ++ cutAll ps k) ∧ Own wr w2.heap.size all (cutAll ps k)) (fun i _ _ => n - (intOf i).toNat)
    case atStart => exact ⟨0, by omega, rfl, Hu02.out, Nat.le_refl _, by simpa [cutAll] using HM2.out, by simpa [cutAll] using Own.nil _ _⟩
    case round =>
      obtain ⟨k, hk, rfl, hu, hzr, hM, hO⟩ := hrel
      have hcl := cutAll_length ps k
      by_cases hlt : k < n
      · obtain ⟨pb, po, rfl, hpS, hpc⟩ := Hpx.out (by omega)
        obtain ⟨u, hcu, hsl⟩ := hpc k hlt
        have hcell : wr.cell? ⟨pb, po + k, none⟩ = some u := hu.cell hcu (fun h => h)
        have hslr : Sl wr (fun k => w.heap.size ≤ k) u (ps.getD k []) := hsl.upd hu (fun k h => h.elim)
        have hsucc := cutAll_succ ps k (by rw [← Hn.out]; exact hlt)
        have hsc := cutAll_length ps (k + 1)
        rw [hsucc] at hsc
        have hm0 := hM.cell0
        generalize ps.getD k [] = p at *
        generalize cutAll ps k = L at *
        obtain ⟨usp, ucap, rfl, hul, hucb, hux⟩ := hslr
        obtain ⟨ul, hul'⟩ : ∃ ul, ul = p.length := ⟨_, rfl⟩
        rw [← hul'] at hul hucb hux hcell
        have HM := Lib.hid hM
        have HO := Lib.hid hO
        have Hu := Lib.hid hu
        have Hux := Lib.hid hux
        have Hul := Lib.hid hul'
        have Hsucc := Lib.hid hsucc
        clear hM hO hu hux hul' hsucc hpc hcu hsl
        by_cases hle : 200 < ul
        · have hmin : ((200 : Nat) : Int) = 200 := rfl
          have hX : Sl wr (fun k => w.heap.size ≤ k) (.slice usp 200 ucap) (p.take 200) := Sl.take (n := ul) ⟨usp, ucap, by rw [← Hul.out], by rw [← Hul.out]; exact hul, by rw [← Hul.out]; exact hucb, by rw [← Hul.out]; exact Hux.out⟩ (by omega)
          have hXl : (p.take 200).length = 200 := by rw [List.length_take, ← Hul.out]; omega
          generalize p.take 200 = X at *
          have HX := Lib.hid hX
          have HXl := Lib.hid hXl
          clear hX hXl hmin
          go_wp2_with fail
          have hps : SlS (wr.alloc (.cells #[.slice usp 200 ucap] 22)) (fun k => k = hb) (.slice (some ⟨wr.heap.size, 0, none⟩) 1 1) [X] := SlS.fresh1 22 (HX.out.mono (fun k _ h => by omega)) (by omega)
          have hua : Upd (fun _ => False) wr (wr.alloc (.cells #[.slice usp 200 ucap] 22)) := (Upd.refl _ wr).alloc _
          have hTa := HT.out.upd (Hu.out.trans hua) (fun h => h) (fun h => h)
          have HW := write256_any hb _ [X] _ _ (by rw [List.flatten_cons, List.flatten_nil, List.append_nil, HXl.out, List.length_append, maskK_length, fillK_length]; omega) hps hTa (by omega) (HM.out.hash.upd hua (fun h => h))
          refine HW.mono ?_
          rintro e w3 ⟨rfl, hu3, hH3⟩
          rw [List.flatten_cons, List.flatten_nil, List.append_nil, List.append_assoc] at hH3
          have hu03 : Upd (fun _ => False) w w3 := (Hu.out.trans hua).step hu3 (fun i hi h => by omega)
          have hz3 : wr.heap.size < w3.heap.size := by have := hu3.size; rw [World.size_alloc] at this; omega
          have hM3 : MacAt w3 mb hb (maskK 92 (fillK key)) (maskK 54 (fillK key) ++ (L ++ X)) := by
            obtain ⟨marr, h1, h2⟩ := HM.out.blk
            exact ⟨⟨marr, hu3.blk (hua.blk h1 (fun h => h)) HM.out.ne, h2⟩, hH3, HM.out.ne⟩
          have hO3 : Own w3 w2.heap.size u6 L := (HO.out.upd hua (fun _ _ h => h)).upd hu3 (fun k hk h => by omega)
          have hX3 : Sl w3 (fun k => w.heap.size ≤ k) (.slice usp 200 ucap) X := (HX.out.upd hua (fun k h => h.elim)).upd hu3 (fun k h => by omega)
          have HM3 := Lib.hid hM3
          have HO3 := Lib.hid hO3
          have HX3 := Lib.hid hX3
          have Hu03 := Lib.hid hu03
          clear hps hua hTa HW hu3 hH3 hu03 hM3 hO3 hX3 hcell hm0 HM HO Hu HX
          go_wp2_with (refine wpList_appendSl rfl (.tmp 44) (.tmp 45) rfl w2.heap.size u6 L rfl HO3.out (.slice usp 200 ucap) rfl X HX3.out (by rw [HXl.out]; omega) (by omega) ?_; intro v4 w4 hO4 hu4; have hu04 : Upd (fun _ => False) w w4 := Hu03.out.step hu4 (fun i hi h => by omega); have hM4 := HM3.out.upd hu4 (by omega) (by omega); have hm4 := hM4.cell0; have HO4 := Lib.hid hO4; have HM4 := Lib.hid hM4; have Hu04 := Lib.hid hu04; have hz4 := hu4.size; have hTl : (L ++ X).length = L.length + X.length := List.length_append; rw [HXl.out] at hTl; have HTl := Lib.hid hTl; clear hTl; generalize hTT : L ++ X = T at *; have HTT := Lib.hid hTT; clear hTT; obtain ⟨sp4, cap4, hv4⟩ := hO4.len; rw [hv4] at HO4 ⊢; rw [hv4] at hO4; clear hv4 v4 hO4 hM4 hu04 hu4)
          have hTb : T.length ≤ 2200 := by have := HTl.out; omega
          clear HTl
          refine (count256_any hb _ w4 HM4.out.hash).mono ?_
          rintro e w' ⟨rfl, rfl⟩
          have hcnt : (maskK 54 (fillK key) ++ T).length = 64 + T.length := by rw [List.length_append, maskK_length, fillK_length]
          rw [hcnt]
          clear hcnt
          generalize htl : T.length = tl at *
          have Htl := Lib.hid htl
          clear htl
          have hneq : ((64 + (tl : Int)) != 64 + (tl : Int)) = false := by simp
          go_wp2_with fail
          refine (msum_any mb hb _ _ w4 (by rw [List.length_append, maskK_length, fillK_length]; have := Htl.out; omega) (by rw [maskK_length, fillK_length]) (HT.out.upd Hu04.out (fun h => h) (fun h => h)) (by have := Hu04.out.size; omega) HM4.out).mono ?_
          rintro e w5 ⟨rfl, hu5⟩
          have e1 : sha (maskK 92 (fillK key) ++ sha (maskK 54 (fillK key) ++ T)) = hmac key T := rfl
          rw [e1]
          have hps : SlS (w5.alloc (.cells #[.slice sp4 tl cap4] 22)) (fun k => (w5.alloc (.cells #[.slice sp4 tl cap4] 22)).heap.size ≤ k) (.slice (some ⟨w5.heap.size, 0, none⟩) 1 1) [T] := by
            refine SlS.fresh1 22 ?_ (by simp)
            have h1 : Own w5 w2.heap.size (.slice sp4 tl cap4) T := HO4.out.upd hu5 (fun _ _ h => h)
            exact h1.sl (fun k _ hk h => by rw [World.size_alloc] at h; omega) (by have := Htl.out; omega)
          have hu05 : Upd (fun _ => False) w (w5.alloc (.cells #[.slice sp4 tl cap4] 22)) := (Hu04.out.trans hu5).alloc _
          have HC := macsum_any key [T] v _ _ (by rw [List.flatten_cons, List.flatten_nil, List.append_nil]; have := Htl.out; omega) (HT.out.upd hu05 (fun h => h) (fun h => h)) (by have := hu05.size; omega) ((Hv.out.upd hu05 (fun k h => h.elim)).mono (fun k _ h => by have := hu05.size; omega)) hps
          rw [List.flatten_cons, List.flatten_nil, List.append_nil] at HC
          have HC := Lib.hid HC
          have Hu05 := Lib.hid hu05
          have Hu5 := Lib.hid hu5
          have heq := fun w => run_eql_self w (hmac key T) (hmac_length _ _)
          have hne2 := fun w => run_neq_self w (hmac key T) (hmac_length _ _)
          have heq2 := fun w => run_equalIn_self w 9998 25 32 (hmac key T) Tryd.underlying25 (hmac_length _ _)
          have hgd := Hgd.out
          clear e1 hps hu05 hu5
          go_wp2_with fail
          refine HC.out.mono ?_
          rintro e w6 ⟨rfl, hu6⟩
          have Hu06 : Hid (Upd (fun _ => False) w w6) := Hu05.out.trans hu6
          have Hu46 : Hid (Upd (fun _ => False) w4 w6) := (Hu5.out.alloc _).trans hu6
          clear hu6 HC Hu05 Hu5
          go_wp2
          go_roundw
          case rel =>
            refine ⟨k + 1, by omega, by go_num, Hu06.out, by have := Hu46.out.size; omega, ?_, ?_⟩
            · rw [Hsucc.out]; exact HM4.out.upd Hu46.out (fun h => h) (fun h => h)
            · rw [Hsucc.out]; exact HO4.out.upd Hu46.out (fun _ _ h => h)
          case measure => simp [intOf]; omega
        · have hp200 : p.take 200 = p := List.take_of_length_le (by rw [← Hul.out]; omega)
          have hX : Sl wr (fun k => w.heap.size ≤ k) (.slice usp ul ucap) (p.take 200) := by rw [hp200]; exact ⟨usp, ucap, by rw [← Hul.out], by rw [← Hul.out]; exact hul, by rw [← Hul.out]; exact hucb, by rw [← Hul.out]; exact Hux.out⟩
          have hXl : (p.take 200).length = ul := by rw [List.length_take, ← Hul.out]; omega
          generalize p.take 200 = X at *
          have HX := Lib.hid hX
          have HXl := Lib.hid hXl
          clear hX hXl hp200
          go_wp2_with fail
          have hps : SlS (wr.alloc (.cells #[.slice usp ul ucap] 22)) (fun k => k = hb) (.slice (some ⟨wr.heap.size, 0, none⟩) 1 1) [X] := SlS.fresh1 22 (HX.out.mono (fun k _ h => by omega)) (by omega)
          have hua : Upd (fun _ => False) wr (wr.alloc (.cells #[.slice usp ul ucap] 22)) := (Upd.refl _ wr).alloc _
          have hTa := HT.out.upd (Hu.out.trans hua) (fun h => h) (fun h => h)
          have HW := write256_any hb _ [X] _ _ (by rw [List.flatten_cons, List.flatten_nil, List.append_nil, HXl.out, List.length_append, maskK_length, fillK_length]; omega) hps hTa (by omega) (HM.out.hash.upd hua (fun h => h))
          refine HW.mono ?_
          rintro e w3 ⟨rfl, hu3, hH3⟩
          rw [List.flatten_cons, List.flatten_nil, List.append_nil, List.append_assoc] at hH3
          have hu03 : Upd (fun _ => False) w w3 := (Hu.out.trans hua).step hu3 (fun i hi h => by omega)
          have hz3 : wr.heap.size < w3.heap.size := by have := hu3.size; rw [World.size_alloc] at this; omega
          have hM3 : MacAt w3 mb hb (maskK 92 (fillK key)) (maskK 54 (fillK key) ++ (L ++ X)) := by
            obtain ⟨marr, h1, h2⟩ := HM.out.blk
            exact ⟨⟨marr, hu3.blk (hua.blk h1 (fun h => h)) HM.out.ne, h2⟩, hH3, HM.out.ne⟩
          have hO3 : Own w3 w2.heap.size u6 L := (HO.out.upd hua (fun _ _ h => h)).upd hu3 (fun k hk h => by omega)
          have hX3 : Sl w3 (fun k => w.heap.size ≤ k) (.slice usp ul ucap) X := (HX.out.upd hua (fun k h => h.elim)).upd hu3 (fun k h => by omega)
          have HM3 := Lib.hid hM3
          have HO3 := Lib.hid hO3
          have HX3 := Lib.hid hX3
          have Hu03 := Lib.hid hu03
          clear hps hua hTa HW hu3 hH3 hu03 hM3 hO3 hX3 hcell hm0 HM HO Hu HX
          go_wp2_with (refine wpList_appendSl rfl (.tmp 44) (.tmp 45) rfl w2.heap.size u6 L rfl HO3.out (.slice usp ul ucap) rfl X HX3.out (by rw [HXl.out]; omega) (by omega) ?_; intro v4 w4 hO4 hu4; have hu04 : Upd (fun _ => False) w w4 := Hu03.out.step hu4 (fun i hi h => by omega); have hM4 := HM3.out.upd hu4 (by omega) (by omega); have hm4 := hM4.cell0; have HO4 := Lib.hid hO4; have HM4 := Lib.hid hM4; have Hu04 := Lib.hid hu04; have hz4 := hu4.size; have hTl : (L ++ X).length = L.length + X.length := List.length_append; rw [HXl.out] at hTl; have HTl := Lib.hid hTl; clear hTl; generalize hTT : L ++ X = T at *; have HTT := Lib.hid hTT; clear hTT; obtain ⟨sp4, cap4, hv4⟩ := hO4.len; rw [hv4] at HO4 ⊢; rw [hv4] at hO4; clear hv4 v4 hO4 hM4 hu04 hu4)
          have hTb : T.length ≤ 2200 := by have := HTl.out; omega
          clear HTl
          refine (count256_any hb _ w4 HM4.out.hash).mono ?_
          rintro e w' ⟨rfl, rfl⟩
          have hcnt : (maskK 54 (fillK key) ++ T).length = 64 + T.length := by rw [List.length_append, maskK_length, fillK_length]
          rw [hcnt]
          clear hcnt
          generalize htl : T.length = tl at *
          have Htl := Lib.hid htl
          clear htl
          have hneq : ((64 + (tl : Int)) != 64 + (tl : Int)) = false := by simp
          go_wp2_with fail
          refine (msum_any mb hb _ _ w4 (by rw [List.length_append, maskK_length, fillK_length]; have := Htl.out; omega) (by rw [maskK_length, fillK_length]) (HT.out.upd Hu04.out (fun h => h) (fun h => h)) (by have := Hu04.out.size; omega) HM4.out).mono ?_
          rintro e w5 ⟨rfl, hu5⟩
          have e1 : sha (maskK 92 (fillK key) ++ sha (maskK 54 (fillK key) ++ T)) = hmac key T := rfl
          rw [e1]
          have hps : SlS (w5.alloc (.cells #[.slice sp4 tl cap4] 22)) (fun k => (w5.alloc (.cells #[.slice sp4 tl cap4] 22)).heap.size ≤ k) (.slice (some ⟨w5.heap.size, 0, none⟩) 1 1) [T] := by
            refine SlS.fresh1 22 ?_ (by simp)
            have h1 : Own w5 w2.heap.size (.slice sp4 tl cap4) T := HO4.out.upd hu5 (fun _ _ h => h)
            exact h1.sl (fun k _ hk h => by rw [World.size_alloc] at h; omega) (by have := Htl.out; omega)
          have hu05 : Upd (fun _ => False) w (w5.alloc (.cells #[.slice sp4 tl cap4] 22)) := (Hu04.out.trans hu5).alloc _
          have HC := macsum_any key [T] v _ _ (by rw [List.flatten_cons, List.flatten_nil, List.append_nil]; have := Htl.out; omega) (HT.out.upd hu05 (fun h => h) (fun h => h)) (by have := hu05.size; omega) ((Hv.out.upd hu05 (fun k h => h.elim)).mono (fun k _ h => by have := hu05.size; omega)) hps
          rw [List.flatten_cons, List.flatten_nil, List.append_nil] at HC
          have HC := Lib.hid HC
          have Hu05 := Lib.hid hu05
          have Hu5 := Lib.hid hu5
          have heq := fun w => run_eql_self w (hmac key T) (hmac_length _ _)
          have hne2 := fun w => run_neq_self w (hmac key T) (hmac_length _ _)
          have heq2 := fun w => run_equalIn_self w 9998 25 32 (hmac key T) Tryd.underlying25 (hmac_length _ _)
          have hgd := Hgd.out
          clear e1 hps hu05 hu5
          go_wp2_with fail
          refine HC.out.mono ?_
          rintro e w6 ⟨rfl, hu6⟩
          have Hu06 : Hid (Upd (fun _ => False) w w6) := Hu05.out.trans hu6
          have Hu46 : Hid (Upd (fun _ => False) w4 w6) := (Hu5.out.alloc _).trans hu6
          clear hu6 HC Hu05 Hu5
          go_wp2
          go_roundw
          case rel =>
            refine ⟨k + 1, by omega, by go_num, Hu06.out, by have := Hu46.out.size; omega, ?_, ?_⟩
            · rw [Hsucc.out]; exact HM4.out.upd Hu46.out (fun h => h) (fun h => h)
            · rw [Hsucc.out]; exact HO4.out.upd Hu46.out (fun _ _ h => h)
          case measure => simp [intOf]; omega
      · have hkn : k = n := by omega
        generalize cutAll ps k = T at *
        obtain ⟨sp4, cap4, hv4⟩ := hO.len
        obtain ⟨tl, htl⟩ : ∃ tl, tl = T.length := ⟨_, rfl⟩
        rw [hv4] at hO ⊢
        rw [← htl] at hO hcl ⊢
        have HM := Lib.hid hM
        have HO := Lib.hid hO
        have Hu := Lib.hid hu
        have Htl := Lib.hid htl
        clear hM hO hu hkn htl
        go_wp2_with fail
        refine (msum_any mb hb _ _ wr (by rw [List.length_append, maskK_length, fillK_length]; have := Htl.out; omega) (by rw [maskK_length, fillK_length]) (HT.out.upd Hu.out (fun h => h) (fun h => h)) (by have := Hu.out.size; omega) HM.out).mono ?_
        rintro e w5 ⟨rfl, hu5⟩
        have e1 : sha (maskK 92 (fillK key) ++ sha (maskK 54 (fillK key) ++ T)) = hmac key T := rfl
        rw [e1]
        have hps : SlS (w5.alloc (.cells #[.slice sp4 tl cap4] 22)) (fun k => (w5.alloc (.cells #[.slice sp4 tl cap4] 22)).heap.size ≤ k) (.slice (some ⟨w5.heap.size, 0, none⟩) 1 1) [T] := by
          refine SlS.fresh1 22 ?_ (by simp)
          have h1 : Own w5 w2.heap.size (.slice sp4 tl cap4) T := HO.out.upd hu5 (fun _ _ h => h)
          exact h1.sl (fun k _ hk h => by rw [World.size_alloc] at h; omega) (by have := Htl.out; omega)
        have hu05 : Upd (fun _ => False) w (w5.alloc (.cells #[.slice sp4 tl cap4] 22)) := (Hu.out.trans hu5).alloc _
        have HC := macsum_any key [T] v _ _ (by rw [List.flatten_cons, List.flatten_nil, List.append_nil]; have := Htl.out; omega) (HT.out.upd hu05 (fun h => h) (fun h => h)) (by have := hu05.size; omega) ((Hv.out.upd hu05 (fun k h => h.elim)).mono (fun k _ h => by have := hu05.size; omega)) hps
        rw [List.flatten_cons, List.flatten_nil, List.append_nil] at HC
        have HC := Lib.hid HC
        have Hu05 := Lib.hid hu05
        have Hu5 := Lib.hid hu5
        have heq := fun w => run_eql_self w (hmac key T) (hmac_length _ _)
        have hne2 := fun w => run_neq_self w (hmac key T) (hmac_length _ _)
        have heq2 := fun w => run_equalIn_self w 9998 25 32 (hmac key T) Tryd.underlying25 (hmac_length _ _)
        have hgd := Hgd.out
        clear e1 hps hu05 hu5
        go_wp2_with fail
        refine HC.out.mono ?_
        rintro e w6 ⟨rfl, hu6⟩
        have Hu06 : Hid (Upd (fun _ => False) w w6) := Hu05.out.trans hu6
        have Hu46 : Hid (Upd (fun _ => False) wr w6) := (Hu5.out.alloc _).trans hu6
        clear hu6 HC Hu05 Hu5
        go_wp2
        go_ret
        exact ⟨rfl, Hu06.out⟩
end Go.Proofs.YtcdcoennnmbbdaaDoor
