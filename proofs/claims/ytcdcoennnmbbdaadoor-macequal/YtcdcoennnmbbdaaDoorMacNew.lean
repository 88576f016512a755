/-
  mac.New.
-/
import Derived.Test.YtcdcoennnmbbdaaDoorMac
namespace Go.Proofs.YtcdcoennnmbbdaaDoor
open Go.RowKit

/-- The sum with a key in block mb: its hash in block hb has taken m in; its outer key is ok. -/
structure MacAt (w : World) (mb hb : Nat) (ok m : List Int) : Prop where
  blk : ∃ arr, Blk w mb 33 arr ∧ arr.size = 65 ∧ arr[0]? = some (.pointer (some ⟨hb, 0, none⟩)) ∧ ∀ j, j < 64 → arr[1 + j]? = some (.int .u8 (ok.getD j 0))
  hash : HashAt w hb m
  ne : mb ≠ hb
theorem MacAt.upd {S : Nat → Prop} {w w' : World} {mb hb : Nat} {ok m : List Int} (h : MacAt w mb hb ok m) (u : Upd S w w') (h1 : ¬ S mb) (h2 : ¬ S hb) : MacAt w' mb hb ok m := by
  obtain ⟨arr, hb, hr⟩ := h.blk
  exact ⟨⟨arr, u.blk hb h1, hr⟩, h.hash.upd u h2, h.ne⟩

theorem HashAt.lt {w : World} {hb : Nat} {m : List Int} (h : HashAt w hb m) : hb < w.heap.size := by
  obtain ⟨arr, r, h1, _⟩ := h.ex
  exact h1.lt
theorem zero33 : (Tryd.prog.info? 33).bind (·.zero) = some (.agg (#[.pointer none] ++ Array.replicate 64 (Value.int .u8 0))) := by kernel_rfl
theorem places33 : (match Tryd.prog.underlying 33 with | some (.struct fields) => fields.toList.mapM (fun f => (Tryd.prog.info? f.type).map fun i => (f.offset, i.size)) | _ => none) = some [(0, 1), (1, 64)] := by kernel_rfl
set_option maxRecDepth 100000 in
theorem built33 (p : Value) (C : Array Value) (hp : p.cells = #[p]) (hC : C.size = 64) : Tryd.prog.built 33 [(0, p), (1, .agg C)] = some (#[p] ++ C) := by
  have hz := zero33
  have hpl := places33
  unfold Program.built
  cases hi : Tryd.prog.info? 33 with
  | none => rw [hi] at hz; cases hz
  | some it =>
    rw [hi] at hz
    simp only [Option.bind_some] at hz
    rw [Tryd.underlying33] at hpl ⊢
    simp only at hpl ⊢
    rw [hz, hpl]
    show Instr.fill _ (#[Value.pointer none] ++ Array.replicate 64 (Value.int .u8 0)) _ = _
    have hZ : (#[Value.pointer none] ++ Array.replicate 64 (Value.int .u8 0)).size = 65 := by simp
    generalize (#[Value.pointer none] ++ Array.replicate 64 (Value.int .u8 0)) = Z at *
    have h1 : 0 + p.cells.toList.length ≤ Z.size := by rw [hp]; simp; omega
    rw [fill_agg _ _ 0 0 1 p _ rfl (by rw [hp]; rfl) (by omega), fill_agg _ _ 1 1 64 (.agg C) _ rfl hC (by rw [splice_size _ _ _ h1]; omega), Instr.fill]
    congr 1
    apply Array.ext_getElem?
    intro j
    show (splice (splice Z 0 p.cells.toList) 1 C.toList)[j]? = _
    rw [splice_get _ _ _ (by rw [splice_size _ _ _ h1]; simp; omega), splice_get _ _ _ h1]
    simp only [Array.length_toList, hC, Array.getElem?_toList, hp]
    by_cases c1 : 1 ≤ j ∧ j < 1 + 64
    · rw [if_pos c1, Array.getElem?_append_right (by simp; omega)]; simp
    · rw [if_neg c1]
      by_cases c0 : j = 0
      · subst c0; rw [if_pos (by simp), Array.getElem?_append_left (by simp)]; rfl
      · rw [if_neg (by simp; omega), Array.getElem?_eq_none (by omega), Array.getElem?_eq_none (by simp; omega)]

set_option maxHeartbeats 1000000 in
theorem mnew_any (key : List Int) (v : Value) (w : World) (hT : Tabs w) (hw : 2 ≤ w.heap.size) (hv : Sl w (fun k => w.heap.size ≤ k) v key) :
    Calls Tryd.prog 12 #[v] w fun e w' => ∃ mb hb, e = .returned (.pointer (some ⟨mb, 0, none⟩)) ∧ w.heap.size ≤ mb ∧ w.heap.size ≤ hb ∧ Upd (fun _ => False) w w' ∧ MacAt w' mb hb (maskK 92 (fillK key)) (maskK 54 (fillK key)) := by
  have HT := Lib.hid hT
  have Hv := Lib.hid hv
  clear hT hv
  go_enter Tryd.func12, Tryd.ntmps12
  go_wp2_with fail
  refine (fill_any key v w HT.out Hv.out).mono ?_
  rintro e w1 ⟨rfl, hu1⟩
  have hFl := fillK_length key
  generalize hF : fillK key = F at *
  have HF := Lib.hid hF
  clear hF
  have HFl := Lib.hid hFl
  have hFA : (bytesA F).size = 64 := by rw [bytesA_size, hFl]
  have hFone := bytesA_one F
  have HFA := Lib.hid hFA
  have HFone := Lib.hid hFone
  have Hu1 := Lib.hid hu1
  clear hFl hFA hFone hu1
  go_wp2_with (first | (refine wpList_storeBlk2 rfl 31 _ _ rfl w1.heap.size 0 64 rfl (bytesA F) rfl 31 _ (Blk.new w1 _ 31) info31 HFA.out (by simp) HFone.out ?_; intro w2 hb2 hu2 hz2; rw [splice_all _ _ 64 rfl HFA.out] at hb2) | (refine wpList_loadBlk rfl 31 _ rfl w1.heap.size 0 64 rfl 31 (bytesA F) _ hb2 Tryd.underlying31 rfl info31 (by have := HFA.out; omega) ?_; rw [extract_all _ _ HFA.out]))
  refine (masked_any F 54 w2 HFl.out).mono ?_
  rintro e w3 ⟨rfl, hu3⟩
  have hu01 := Hu1.out
  have hu03 : Upd (fun _ => False) w w3 := (((Hu1.out.alloc _).step hu2 (fun i hi h => by have := hu01.size; omega))).trans hu3
  have hfb3 := hu3.blk hb2 (fun h => h)
  have hz3 := hu3.size
  rw [hz2, World.size_alloc] at hz3
  have hI : (maskK 54 F).length = 64 := by rw [maskK_length, HFl.out]
  have hIA : (bytesA (maskK 54 F)).size = 64 := by rw [bytesA_size, hI]
  have hIone := bytesA_one (maskK 54 F)
  have hIget := bytesA_get (maskK 54 F)
  generalize hII : maskK 54 F = I at *
  have HII := Lib.hid hII
  clear hII
  have Hu03 := Lib.hid hu03
  have Hfb3 := Lib.hid hfb3
  have HI := Lib.hid hI
  have HIA := Lib.hid hIA
  have HIone := Lib.hid hIone
  have HIget := Lib.hid hIget
  clear hu01 hu03 hu3 hu2 hb2 hz2 hfb3 hI hIA hIone hIget
  go_wp2_with (first | (refine wpList_storeBlk2 rfl 31 _ _ rfl w3.heap.size 0 64 rfl (bytesA I) rfl 31 _ (Blk.new w3 _ 31) info31 HIA.out (by simp) HIone.out ?_; intro w4 hb4 hu4 hz4; rw [splice_all _ _ 64 rfl HIA.out] at hb4))
  dsimp only [Act.put]
  have hu04 : Upd (fun _ => False) w w4 := (Hu03.out.alloc _).step hu4 (fun i hi h => by have := Hu03.out.size; omega)
  have hfb4 : Blk w4 w1.heap.size 31 (bytesA F) := hu4.blk (Hfb3.out.alloc _) (by omega)
  have hsz4 : w4.heap.size = w3.heap.size + 1 := by rw [hz4, World.size_alloc]
  have Hsz4 := Lib.hid hsz4
  have Hu04 := Lib.hid hu04
  have Hfb4 := Lib.hid hfb4
  have Hb4 := Lib.hid hb4
  clear hu04 hfb4 hb4 hu4 hz4 Hfb3 hsz4
  go_cut [5] (fun v' wr => ∃ mb hb, v' = .pointer (some ⟨mb, 0, none⟩) ∧ w3.heap.size < mb ∧ w3.heap.size < hb ∧ Upd (fun _ => False) w wr ∧ Blk wr w3.heap.size 31 (bytesA I) ∧ MacAt wr mb hb (maskK 92 F) [])
  case first =>
    refine wp_region_any (by kernel_rfl) ?_
    change wpAny _ _ _ _ _ _ _ (World.drew _)
    refine wpAny_ready (rs := [0, 1]) (by kernel_rfl) (by simp) ?_
    refine AllReady.cons rfl (fun K hK => ?_) (AllReady.cons rfl (fun K hK => ?_) AllReady.nil)
    · go_simp
      refine (new256_any w4.drew (HT.out.upd Hu04.out.drew (fun h => h) (fun h => h))).mono ?_
      rintro e w5 ⟨rfl, hu5, hH5⟩
      refine hK _ _ ?_
      clear hK K
      refine wpAny_ready (rs := [1]) (by kernel_rfl) (by simp) ?_
      refine AllReady.cons rfl (fun K hK => ?_) AllReady.nil
      refine step_loadBlk rfl 31 _ rfl w1.heap.size 0 64 rfl 31 (bytesA F) _ (hu5.blk (show Blk w4.drew _ _ _ from Hfb4.out) (fun h => h)) Tryd.underlying31 rfl info31 (by have := HFA.out; omega) ?_
      rw [extract_all _ _ HFA.out]
      refine hK _ _ ?_
      clear hK K
      refine wpAny_ready (rs := [2]) (by kernel_rfl) (by simp) ?_
      refine AllReady.cons rfl (fun K hK => ?_) AllReady.nil
      go_simp
      refine (masked_any F 92 w5 HFl.out).mono ?_
      rintro e w6 ⟨rfl, hu6⟩
      refine hK _ _ ?_
      clear hK K
      refine wpAny_ready (rs := [3]) (by kernel_rfl) (by simp) ?_
      refine AllReady.cons rfl (fun K hK => ?_) AllReady.nil
      refine step_build rfl 33 _ rfl _ [(0, .pointer (some ⟨w4.drew.heap.size, 0, none⟩)), (1, .agg (bytesA (maskK 92 F)))] rfl (built33 (.pointer (some ⟨w4.drew.heap.size, 0, none⟩)) (bytesA (maskK 92 F)) rfl (by rw [bytesA_size, maskK_length, HFl.out])) ?_
      refine hK _ _ ?_
      clear hK K
      refine wpAny_ready (rs := [4]) (by kernel_rfl) (by simp) ?_
      refine AllReady.cons rfl (fun K hK => ?_) AllReady.nil
      go_simp
      refine hK _ _ ?_
      clear hK K
      refine wpAny_ready (rs := [5]) (by kernel_rfl) (by simp) ?_
      refine AllReady.cons rfl (fun K hK => ?_) AllReady.nil
      go_simp
      refine hK _ _ ?_
      clear hK K
      refine wpAny_done (by kernel_rfl) ?_ _
      go_wp2
      go_meet
      have e4 : w4.drew.heap.size = w3.heap.size + 1 := Hsz4.out
      have e5 := hu5.size
      have e6 := hu6.size
      refine ⟨w6.heap.size, w4.drew.heap.size, rfl, by omega, by omega, (((Hu04.out.drew).trans hu5).trans hu6).alloc _, ((hu6.blk (hu5.blk (show Blk w4.drew _ _ _ from Hb4.out) (fun h => h)) (fun h => h))).alloc _, ⟨_, Blk.new w6 _ 33, by simp [bytesA_size, maskK_length, HFl.out], by rw [Array.getElem?_append_left (by simp)]; rfl, fun j hj => ?_⟩, (hH5.upd hu6 (fun h => h)).upd ((Upd.refl (fun _ => False) w6).alloc _) (fun h => h), ?_⟩
      · rw [Array.getElem?_append_right (by simp)]
        simp only [List.size_toArray, List.length_cons, List.length_nil, Nat.zero_add, Nat.add_sub_cancel_left]
        exact bytesA_get _ _ (by rw [maskK_length, HFl.out]; exact hj)
      · have := hH5.lt
        omega
    · refine step_loadBlk rfl 31 _ rfl w1.heap.size 0 64 rfl 31 (bytesA F) _ (show Blk w4.drew _ _ _ from Hfb4.out) Tryd.underlying31 rfl info31 (by have := HFA.out; omega) ?_
      rw [extract_all _ _ HFA.out]
      refine hK _ _ ?_
      clear hK K
      refine wpAny_ready (rs := [0]) (by kernel_rfl) (by simp) ?_
      refine AllReady.cons rfl (fun K hK => ?_) AllReady.nil
      go_simp
      refine (new256_any w4.drew (HT.out.upd Hu04.out.drew (fun h => h) (fun h => h))).mono ?_
      rintro e w5 ⟨rfl, hu5, hH5⟩
      refine hK _ _ ?_
      clear hK K
      refine wpAny_ready (rs := [2]) (by kernel_rfl) (by simp) ?_
      refine AllReady.cons rfl (fun K hK => ?_) AllReady.nil
      go_simp
      refine (masked_any F 92 w5 HFl.out).mono ?_
      rintro e w6 ⟨rfl, hu6⟩
      refine hK _ _ ?_
      clear hK K
      refine wpAny_ready (rs := [3]) (by kernel_rfl) (by simp) ?_
      refine AllReady.cons rfl (fun K hK => ?_) AllReady.nil
      refine step_build rfl 33 _ rfl _ [(0, .pointer (some ⟨w4.drew.heap.size, 0, none⟩)), (1, .agg (bytesA (maskK 92 F)))] rfl (built33 (.pointer (some ⟨w4.drew.heap.size, 0, none⟩)) (bytesA (maskK 92 F)) rfl (by rw [bytesA_size, maskK_length, HFl.out])) ?_
      refine hK _ _ ?_
      clear hK K
      refine wpAny_ready (rs := [4]) (by kernel_rfl) (by simp) ?_
      refine AllReady.cons rfl (fun K hK => ?_) AllReady.nil
      go_simp
      refine hK _ _ ?_
      clear hK K
      refine wpAny_ready (rs := [5]) (by kernel_rfl) (by simp) ?_
      refine AllReady.cons rfl (fun K hK => ?_) AllReady.nil
      go_simp
      refine hK _ _ ?_
      clear hK K
      refine wpAny_done (by kernel_rfl) ?_ _
      go_wp2
      go_meet
      have e4 : w4.drew.heap.size = w3.heap.size + 1 := Hsz4.out
      have e5 := hu5.size
      have e6 := hu6.size
      refine ⟨w6.heap.size, w4.drew.heap.size, rfl, by omega, by omega, (((Hu04.out.drew).trans hu5).trans hu6).alloc _, ((hu6.blk (hu5.blk (show Blk w4.drew _ _ _ from Hb4.out) (fun h => h)) (fun h => h))).alloc _, ⟨_, Blk.new w6 _ 33, by simp [bytesA_size, maskK_length, HFl.out], by rw [Array.getElem?_append_left (by simp)]; rfl, fun j hj => ?_⟩, (hH5.upd hu6 (fun h => h)).upd ((Upd.refl (fun _ => False) w6).alloc _) (fun h => h), ?_⟩
      · rw [Array.getElem?_append_right (by simp)]
        simp only [List.size_toArray, List.length_cons, List.length_nil, Nat.zero_add, Nat.add_sub_cancel_left]
        exact bytesA_get _ _ (by rw [maskK_length, HFl.out]; exact hj)
      · have := hH5.lt
        omega
  case rest =>
    obtain ⟨mb, hb, rfl, hmb, hhb, hu5, hib, hM⟩ := hcut
    obtain ⟨marr, hmb5, hms, hm0, hmo⟩ := hM.blk
    have hc0 : wc.cell? ⟨mb, 0, none⟩ = some (.pointer (some ⟨hb, 0, none⟩)) := by rw [hmb5.cell, hm0]
    have hmlt := hmb5.lt
    have hhlt := hM.hash.lt
    have h3lt := hib.lt
    have hsw := Hu03.out.size
    have hps : SlS (wc.alloc (.cells #[.slice (some ⟨w3.heap.size, 0, none⟩) 64 64] 22)).drew (fun k => k = hb) (.slice (some ⟨wc.heap.size, 0, none⟩) 1 1) [I] := by
      have h1 : Sl wc (fun k => k = hb) (.slice (some ⟨w3.heap.size, 0, none⟩) 64 64) I := by
        have := Sl.ofBlk (S := fun k => k = hb) (cap := 64) hib HIget.out (by omega) (Nat.le_of_eq HI.out) (by omega)
        rwa [HI.out] at this
      exact (SlS.fresh1 22 h1 (by omega)).upd ((Upd.refl (fun _ => False) _).drew) (fun k h => h.elim)
    have hup : Upd (fun _ => False) wc (wc.alloc (.cells #[.slice (some ⟨w3.heap.size, 0, none⟩) 64 64] 22)).drew := ((Upd.refl (fun _ => False) wc).alloc _).drew
    have HW := Lib.hid (write256_any hb [] [I] _ (wc.alloc (.cells #[.slice (some ⟨w3.heap.size, 0, none⟩) 64 64] 22)).drew (by rw [List.flatten_cons, List.flatten_nil, List.append_nil, HI.out, List.length_nil]; omega) hps (HT.out.upd (hu5.trans hup) (fun h => h) (fun h => h)) (by omega) (hM.hash.upd hup (fun h => h)))
    have Hup := Lib.hid hup
    have Hu5 := Lib.hid hu5
    have HM := Lib.hid hM
    clear hps hup hu5 hM hmb5 hms hm0 hmo hib
    go_wp2_with fail
    go_region_with ((go_at_call 13; refine HW.out.mono ?_; rintro e w8 ⟨rfl, hu8, hH8⟩))
    all_goals
      rw [List.flatten_cons, List.flatten_nil, List.append_nil, List.nil_append] at hH8
      have Hu8 := Lib.hid hu8
      have HH8 := Lib.hid hH8
      clear hu8 hH8 HW hc0
      go_wp2
      go_ret
      refine ⟨mb, hb, rfl, by omega, by omega, (Hu5.out.trans Hup.out).step Hu8.out (fun i hi h => by omega), ?_⟩
      rw [HF.out, HII.out]
      obtain ⟨marr, h1, h2⟩ := HM.out.blk
      have hne := HM.out.ne
      exact ⟨⟨marr, Hu8.out.blk (Hup.out.blk h1 (fun h => h)) hne, h2⟩, HH8.out, hne⟩
end Go.Proofs.YtcdcoennnmbbdaaDoor
