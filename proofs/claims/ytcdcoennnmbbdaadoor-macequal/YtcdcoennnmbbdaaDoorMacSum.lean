/-
  Mac.Sum, mac.Sum, mac.Extract.
-/
import Derived.Test.YtcdcoennnmbbdaaDoorMacNew
namespace Go.Proofs.YtcdcoennnmbbdaaDoor
open Go.RowKit

/-- The sum with a key, as the program makes it. -/
def hmac (key m : List Int) : List Int := sha (maskK 92 (fillK key) ++ sha (maskK 54 (fillK key) ++ m))
theorem hmac_length (key m : List Int) : (hmac key m).length = 32 := sha_length _

/-- A store of an array into a block, as a run's equation. -/
theorem run_storeCells_blk {P : Program} {w : World} {g : Nat} {t : TypeId} {cs : Array Value} (hg : Blk w g t cs) (vs : Array Value) (hn : vs.size = cs.size) (h1 : ∀ v ∈ vs.toList, v.oneCell' = true) :
    (storeCells ⟨g, 0, none⟩ vs.toList).run P w = .ok () (w.setRow g vs) := by
  have := run_storeCells_at P g 0 t vs.toList 0 cs w hg (by simp; omega) h1
  rw [this]
  have e := splice_all cs vs vs.size hn.symm rfl
  unfold splice at e
  simp only [Nat.zero_add] at e ⊢
  rw [e]

set_option maxHeartbeats 1000000 in
theorem msum_any (mb hb : Nat) (ok m : List Int) (w : World) (hm : m.length ≤ 1152921504606846976) (hok : ok.length = 64) (hT : Tabs w) (hw : 2 ≤ w.heap.size) (hM : MacAt w mb hb ok m) :
    Calls Tryd.prog 15 #[.pointer (some ⟨mb, 0, none⟩)] w fun e w' => e = .returned (.agg (bytesA (sha (ok ++ sha m)))) ∧ Upd (fun _ => False) w w' := by
  obtain ⟨marr, hmb, hms, hm0, hmo⟩ := hM.blk
  have hc0 : w.cell? ⟨mb, 0, none⟩ = some (.pointer (some ⟨hb, 0, none⟩)) := by rw [hmb.cell, hm0]
  have hmlt := hmb.lt
  have HT := Lib.hid hT
  have HH := Lib.hid hM.hash
  have Hmb := Lib.hid hmb
  have Hmo := Lib.hid hmo
  have Hok := Lib.hid hok
  clear hT hM hmb hms hm0 hmo hok
  go_enter Tryd.func15, Tryd.ntmps15
  go_wp2_with fail
  refine (hsum256_any hb m _ hm (HT.out.upd ((Upd.refl (fun _ => False) w).alloc _) (fun h => h) (fun h => h)) (by simp; omega) (HH.out.upd ((Upd.refl (fun _ => False) w).alloc _) (fun h => h))).mono ?_
  rintro e w2 ⟨rfl, hu2⟩
  have hu02 := ((Upd.refl (fun _ => False) w).alloc _).trans hu2
  have hres := hu2.blk (Blk.new w _ 25) (fun h => h)
  have hz2 := hu2.size
  rw [World.size_alloc] at hz2
  have hSl := sha_length m
  have hSA : (bytesA (sha m)).size = 32 := by rw [bytesA_size, hSl]
  have hSone := bytesA_one (sha m)
  have hSget := bytesA_get (sha m)
  generalize hS : sha m = S at *
  have HS := Lib.hid hS
  have HSl := Lib.hid hSl
  have HSA := Lib.hid hSA
  have HSone := Lib.hid hSone
  have HSget := Lib.hid hSget
  have Hu02 := Lib.hid hu02
  have Hres := Lib.hid hres
  clear hS hSl hSA hSone hSget hu02 hres hu2
  go_wp2_with (refine wpList_storeBlk2 rfl 25 _ _ rfl w2.heap.size 0 32 rfl (bytesA S) rfl 25 _ (Blk.new w2 _ 25) info25 HSA.out (by simp) HSone.out ?_; intro w3 hb3 hu3 hz3; rw [splice_all _ _ 32 rfl HSA.out] at hb3)
  dsimp only [Act.put]
  have hu03 : Upd (fun _ => False) w w3 := (Hu02.out.alloc _).step hu3 (fun i hi h => by omega)
  have hres3 := hu3.blk (Hres.out.alloc _) (by omega)
  rw [World.size_alloc] at hz3
  have hmb3 := hu03.blk Hmb.out (fun h => h)
  have hup : Upd (fun _ => False) w3 (w3.alloc (.cells #[.slice (some ⟨mb, 1, none⟩) 64 64, .slice (some ⟨w2.heap.size, 0, none⟩) 32 32] 22)).drew := ((Upd.refl (fun _ => False) w3).alloc _).drew
  have hps : SlS (w3.alloc (.cells #[.slice (some ⟨mb, 1, none⟩) 64 64, .slice (some ⟨w2.heap.size, 0, none⟩) 32 32] 22)).drew (fun k => (w3.alloc (.cells #[.slice (some ⟨mb, 1, none⟩) 64 64, .slice (some ⟨w2.heap.size, 0, none⟩) 32 32] 22)).drew.heap.size ≤ k) (.slice (some ⟨w3.heap.size, 0, none⟩) 2 2) [ok, S] := by
    have hb3lt := hb3.lt
    have h1 : Sl w3 (fun k => (w3.alloc (.cells #[.slice (some ⟨mb, 1, none⟩) 64 64, .slice (some ⟨w2.heap.size, 0, none⟩) 32 32] 22)).drew.heap.size ≤ k) (.slice (some ⟨mb, 1, none⟩) 64 64) ok :=
      ⟨_, 64, by rw [Hok.out], Nat.le_of_eq Hok.out, by rw [Hok.out]; omega, fun _ => ⟨mb, 1, rfl, by show ¬ (w3.alloc _).heap.size ≤ mb; rw [World.size_alloc]; have := hu03.size; omega, fun j hj => by rw [hmb3.cell]; exact Hmo.out j (by rw [← Hok.out]; exact hj)⟩⟩
    have h2 : Sl w3 (fun k => (w3.alloc (.cells #[.slice (some ⟨mb, 1, none⟩) 64 64, .slice (some ⟨w2.heap.size, 0, none⟩) 32 32] 22)).drew.heap.size ≤ k) (.slice (some ⟨w2.heap.size, 0, none⟩) 32 32) S := by
      have := Sl.ofBlk (S := fun k => (w3.alloc (.cells #[.slice (some ⟨mb, 1, none⟩) 64 64, .slice (some ⟨w2.heap.size, 0, none⟩) 32 32] 22)).drew.heap.size ≤ k) (cap := 32) hb3 HSget.out (by show ¬ (w3.alloc _).heap.size ≤ _; rw [World.size_alloc]; omega) (Nat.le_of_eq HSl.out) (by omega)
      rwa [HSl.out] at this
    exact (SlS.fresh2 22 h1 h2 (by show ¬ (w3.alloc _).heap.size ≤ _; rw [World.size_alloc]; omega)).upd ((Upd.refl (fun _ => False) _).drew) (fun k h => h.elim)
  have HC := Lib.hid (sum256_any [ok, S] _ _ (by simp only [List.flatten_cons, List.flatten_nil, List.append_nil, List.length_append, Hok.out, HSl.out]; omega) (HT.out.upd (hu03.trans hup) (fun h => h) (fun h => h)) (by show 2 ≤ (w3.alloc _).heap.size; rw [World.size_alloc]; omega) hps)
  have hF : [ok, S].flatten = ok ++ S := by simp
  rw [hF] at HC
  have HA : Hid ((bytesA (sha (ok ++ S))).size = 32) := by show _ = _; rw [bytesA_size, sha_length]
  have HAone := Lib.hid (bytesA_one (sha (ok ++ S)))
  generalize hAe : bytesA (sha (ok ++ S)) = A at *
  have HAe := Lib.hid hAe
  have hAs := HA.out
  have Hst : Hid (∀ w8, Upd (fun _ => False) w3 w8 → (storeCells ⟨w.heap.size, 0, none⟩ A.toList).run Tryd.prog w8 = .ok () (w8.setRow w.heap.size A)) := fun w8 u => run_storeCells_blk (u.blk hres3 (fun h => h)) A HA.out HAone.out
  have Hrow : Hid (∀ w8, Upd (fun _ => False) w3 w8 → Blk (w8.setRow w.heap.size A) w.heap.size 25 A) := fun w8 u => (u.blk hres3 (fun h => h)).row A
  have Hu03 := Lib.hid hu03
  have Hup := Lib.hid hup
  have Hz3 := Lib.hid hz3
  clear hz3 hAe hF hps hup hu03 hmb3 hb3 hu3 hres3 hc0
  go_region_with ((go_at_call 22; refine HC.out.mono ?_; rintro e w8 ⟨rfl, hu8⟩; have hst := Hst.out w8 (Hup.out.trans hu8)))
  have Hu8 := Lib.hid hu8
  clear hu8 hst HC hAs
  go_wp2
  exact ret_blk rfl rfl rfl (Hrow.out _ (Hup.out.trans Hu8.out)) HA.out ⟨by rw [HS.out, HAe.out], ((Hu03.out.trans Hup.out).trans Hu8.out).row _ (by omega)⟩

set_option maxHeartbeats 1000000 in
theorem macsum_any (key : List Int) (ps : List (List Int)) (v vp : Value) (w : World) (hm : ps.flatten.length ≤ 1152921504606846000) (hT : Tabs w) (hw : 2 ≤ w.heap.size) (hv : Sl w (fun k => w.heap.size ≤ k) v key) (hp : SlS w (fun k => w.heap.size ≤ k) vp ps) :
    Calls Tryd.prog 14 #[v, vp] w fun e w' => e = .returned (.agg (bytesA (hmac key ps.flatten))) ∧ Upd (fun _ => False) w w' := by
  have HT := Lib.hid hT
  have Hv := Lib.hid hv
  have Hp := Lib.hid hp
  clear hT hv hp
  go_enter Tryd.func14, Tryd.ntmps14
  go_wp2_with fail
  refine (mnew_any key v _ (HT.out.upd ((Upd.refl (fun _ => False) w).alloc _) (fun h => h) (fun h => h)) (by simp; omega) ((Hv.out.upd ((Upd.refl (fun _ => False) w).alloc _) (fun k h => h.elim)).mono (fun k _ h => by rw [World.size_alloc] at h; omega))).mono ?_
  rintro e w2 ⟨mb, hb, rfl, hmb, hhb, hu2, hM2⟩
  rw [World.size_alloc] at hmb hhb
  have hu02 := ((Upd.refl (fun _ => False) w).alloc _).trans hu2
  have hres := hu2.blk (Blk.new w _ 25) (fun h => h)
  have hc0 : w2.cell? ⟨mb, 0, none⟩ = some (.pointer (some ⟨hb, 0, none⟩)) := by
    obtain ⟨marr, h1, h2, h3, h4⟩ := hM2.blk
    rw [h1.cell, h3]
  have HM2 := Lib.hid hM2
  have Hu02 := Lib.hid hu02
  have Hres := Lib.hid hres
  clear hu2 hM2 hu02 hres
  go_wp2_with fail
  refine (write256_any hb _ ps vp w2 (by rw [maskK_length, fillK_length]; omega) ((Hp.out.upd Hu02.out (fun k h => h.elim)).mono' (fun k h => by omega)) (HT.out.upd Hu02.out (fun h => h) (fun h => h)) (by omega) HM2.out.hash).mono ?_
  rintro e w3 ⟨rfl, hu3, hH3⟩
  have hu03 : Upd (fun _ => False) w w3 := Hu02.out.step hu3 (fun i hi h => by omega)
  have hres3 := hu3.blk Hres.out (by omega)
  have hM3 : MacAt w3 mb hb (maskK 92 (fillK key)) (maskK 54 (fillK key) ++ ps.flatten) := by
    obtain ⟨marr, h1, h2⟩ := HM2.out.blk
    exact ⟨⟨marr, hu3.blk h1 HM2.out.ne, h2⟩, hH3, HM2.out.ne⟩
  have HM3 := Lib.hid hM3
  have Hu03 := Lib.hid hu03
  have Hres3 := Lib.hid hres3
  clear hu3 hH3 hu03 hres3 hM3 hc0 Hres HM2
  go_wp2_with fail
  refine (msum_any mb hb _ _ w3 (by rw [List.length_append, maskK_length, fillK_length]; omega) (by rw [maskK_length, fillK_length]) (HT.out.upd Hu03.out (fun h => h) (fun h => h)) (by have := Hu03.out.size; omega) HM3.out).mono ?_
  rintro e w4 ⟨rfl, hu4⟩
  have hu04 := Hu03.out.trans hu4
  have hres4 := hu4.blk Hres3.out (fun h => h)
  have HA : Hid ((bytesA (hmac key ps.flatten)).size = 32) := by show _ = _; rw [bytesA_size, hmac_length]
  have HAone := Lib.hid (bytesA_one (hmac key ps.flatten))
  have e1 : sha (maskK 92 (fillK key) ++ sha (maskK 54 (fillK key) ++ ps.flatten)) = hmac key ps.flatten := rfl
  rw [e1]
  generalize hA : bytesA (hmac key ps.flatten) = A at *
  have HAe := Lib.hid hA
  have Hu04 := Lib.hid hu04
  clear hA hu4 hu04 Hres3 HM3 e1
  go_wp2_with (refine wpList_storeBlk2 rfl 25 _ _ rfl w.heap.size 0 32 rfl A rfl 25 _ hres4 info25 HA.out (by simp) HAone.out ?_; intro w7 hb7 hu7 hz7; rw [splice_all _ _ 32 rfl HA.out] at hb7)
  exact ret_blk rfl rfl rfl hb7 HA.out ⟨by rw [HAe.out], Hu04.out.step hu7 (fun i hi h => by omega)⟩

set_option maxHeartbeats 1000000 in
theorem extract_any (key : List Int) (ps : List (List Int)) (v vp : Value) (w : World) (hm : ps.flatten.length ≤ 1152921504606846000) (hT : Tabs w) (hw : 2 ≤ w.heap.size) (hv : Sl w (fun k => w.heap.size ≤ k) v key) (hp : SlS w (fun k => w.heap.size ≤ k) vp ps) :
    Calls Tryd.prog 16 #[v, vp] w fun e w' => e = .returned (.agg (bytesA (hmac key ps.flatten))) ∧ Upd (fun _ => False) w w' := by
  have HT := Lib.hid hT
  have Hv := Lib.hid hv
  have Hp := Lib.hid hp
  clear hT hv hp
  go_enter Tryd.func16, Tryd.ntmps16
  go_wp2_with fail
  refine (macsum_any key ps v vp _ hm (HT.out.upd ((Upd.refl (fun _ => False) w).alloc _) (fun h => h) (fun h => h)) (by simp; omega) ((Hv.out.upd ((Upd.refl (fun _ => False) w).alloc _) (fun k h => h.elim)).mono (fun k _ h => by rw [World.size_alloc] at h; omega)) ((Hp.out.upd ((Upd.refl (fun _ => False) w).alloc _) (fun k h => h.elim)).mono' (fun k h => by rw [World.size_alloc] at h; omega))).mono ?_
  rintro e w4 ⟨rfl, hu4⟩
  have hu04 := ((Upd.refl (fun _ => False) w).alloc _).trans hu4
  have hres4 := hu4.blk (Blk.new w _ 25) (fun h => h)
  have HA : Hid ((bytesA (hmac key ps.flatten)).size = 32) := by show _ = _; rw [bytesA_size, hmac_length]
  have HAone := Lib.hid (bytesA_one (hmac key ps.flatten))
  generalize hA : bytesA (hmac key ps.flatten) = A at *
  have HAe := Lib.hid hA
  have Hu04 := Lib.hid hu04
  clear hA hu4 hu04
  go_wp2_with (refine wpList_storeBlk2 rfl 25 _ _ rfl w.heap.size 0 32 rfl A rfl 25 _ hres4 info25 HA.out (by simp) HAone.out ?_; intro w7 hb7 hu7 hz7; rw [splice_all _ _ 32 rfl HA.out] at hb7)
  exact ret_blk rfl rfl rfl hb7 HA.out ⟨by rw [HAe.out], Hu04.out.step hu7 (fun i hi h => by omega)⟩
end Go.Proofs.YtcdcoennnmbbdaaDoor
