/-
  The walk of MulAdd.
-/
import Derived.Test.YtdpafemcpbhlfaaDoorScWalk4
namespace Go.Proofs.YtdpafemcpbhlfaaDoor.Sc
set_option maxRecDepth 100000
open Go.RowKit

theorem size32 : (Tryd.prog.info? 67).map (·.size) = some 1 := by kernel_rfl
theorem key_bd {l : List Int} (hl : l.length = 32) (hd : Digs 256 l) : 0 ≤ dig 256 l ∧ dig 256 l < 115792089237316195423570985008687907853269984665640564039457584007913129639936 := by
  have h1 := dig_lt (B := 256) (by omega) hd
  rw [hl, show (256 : Int) ^ 32 = 115792089237316195423570985008687907853269984665640564039457584007913129639936 by decide] at h1
  exact ⟨dig_nonneg (by omega) hd, h1⟩
theorem dig8k {v : Int} (h : 0 ≤ v ∧ v < 115792089237316195423570985008687907853269984665640564039457584007913129639936) : dig 4294967296 (digits 4294967296 8 v) = v := by
  rw [dig_digits (by omega), bw8]
  omega
/-- MulAdd's sum, i of the words in. -/
structure MulO (C A T S : List Int) (i : Nat) : Prop where
  len : S.length = 16
  digs : Digs 4294967296 S
  high : ∀ j, i + 8 ≤ j → S.getD j 0 = 0
  eq : dig 4294967296 S = dig 4294967296 C + dig 4294967296 (A.take i) * dig 4294967296 T
theorem MulO.start {C : List Int} (hC : C.length = 8) (hd : Digs 4294967296 C) (A T : List Int) : MulO C A T (C ++ List.replicate 8 0) 0 := by
  refine ⟨by simp [hC], fun x hx => ?_, fun j hj => ?_, ?_⟩
  · rcases List.mem_append.1 hx with h | h
    · exact hd x h
    · rw [List.mem_replicate] at h; omega
  · rw [List.getD_eq_getElem?_getD, List.getElem?_append_right (by omega), List.getElem?_replicate]
    split <;> rfl
  · rw [dig_append, show dig 4294967296 (List.replicate 8 0) = 0 by decide, List.take_zero]
    simp [dig]
theorem MulO.step {C A T S M : List Int} {i : Nat} (h : MulO C A T S i) (hi : i < A.length) (hMl : M.length = 16) (hMd : Digs 4294967296 M) (hs : ∀ j, i + 8 < j → M.getD j 0 = S.getD j 0) (he : dig 4294967296 M = dig 4294967296 S + 4294967296 ^ i * (A.getD i 0 * dig 4294967296 T)) : MulO C A T M (i + 1) := by
  refine ⟨hMl, hMd, fun j hj => by rw [hs j (by omega)]; exact h.high j (by omega), ?_⟩
  rw [he, h.eq, dig_take_succ _ _ _ hi, Int.add_mul, Int.mul_assoc]
  omega
theorem cellsOf_length (k : IntKind) (l : List Int) : (cellsOf k l).length = l.length := by simp [cellsOf]
theorem splice_front (C : List Int) (hC : C.length = 8) : splice (numsA .u32 (List.replicate 16 0)) 0 (cellsOf .u32 C) = numsA .u32 (C ++ List.replicate 8 0) := by
  unfold splice numsA cellsOf
  rw [List.take_zero, List.nil_append]
  congr 1
  rw [List.map_append]
  congr 1
  rw [List.length_map, hC, List.map_replicate, List.map_replicate]
  rfl
/-- MulAdd's blocks. -/
structure MRel (w wr : World) (s g2 g3 : Nat) (S T A : List Int) : Prop where
  upd : Upd (fun _ => False) w wr
  res : Blk wr (w.heap.size + 1 + 1 + 1) 23 zeroK
  s : Blk wr s 67 (numsA .u32 S)
  f : Blk wr g2 67 (numsA .u32 T)
  a : Blk wr g3 67 (numsA .u32 A)
set_option maxRecDepth 10000 in
set_option maxHeartbeats 2000000 in
theorem mulAdd_any (la lb lc : List Int) (w : World) (hT : Tab w) (hla : la.length = 32) (hda : Digs 256 la) (hlb : lb.length = 32) (hdb : Digs 256 lb) (hlc : lc.length = 32) (hdc : Digs 256 lc) :
    Calls Tryd.prog 40 #[.agg (numsA .u8 la), .agg (numsA .u8 lb), .agg (numsA .u8 lc)] w fun e w' => e = .returned (.agg (numsA .u8 (digits 256 32 ((dig 256 la * dig 256 lb + dig 256 lc) % oo)))) ∧ Upd (fun _ => False) w w' := by
  have hz := zeroK_run
  have HT := Lib.hid hT
  have Hla := Lib.hid hla
  have Hda := Lib.hid hda
  have Hlb := Lib.hid hlb
  have Hdb := Lib.hid hdb
  have Hlc := Lib.hid hlc
  have Hdc := Lib.hid hdc
  have HA : Hid ((numsA .u8 la).size = 32) := by show _ = _; rw [numsA_size]; exact hla
  have HB : Hid ((numsA .u8 lb).size = 32) := by show _ = _; rw [numsA_size]; exact hlb
  have HC : Hid ((numsA .u8 lc).size = 32) := by show _ = _; rw [numsA_size]; exact hlc
  have HVa := Lib.hid (dig8k (key_bd hla hda))
  have HVb := Lib.hid (dig8k (key_bd hlb hdb))
  have HVc := Lib.hid (dig8k (key_bd hlc hdc))
  clear hT hla hda hlb hdb hlc hdc
  have Hb0 := Lib.hid ((((Blk.at1 w (numsA .u8 la) 23).alloc (.cells (numsA .u8 lb) 23)).alloc (.cells (numsA .u8 lc) 23)).alloc (.cells zeroK 23))
  have Hb1 := Lib.hid (((Blk.at2 w (.cells (numsA .u8 la) 23) (numsA .u8 lb) 23).alloc (.cells (numsA .u8 lc) 23)).alloc (.cells zeroK 23))
  have Hb2 := Lib.hid ((Blk.at3 w (.cells (numsA .u8 la) 23) (.cells (numsA .u8 lb) 23) (numsA .u8 lc) 23).alloc (.cells zeroK 23))
  have Hb3 := Lib.hid (Blk.at4 w (.cells (numsA .u8 la) 23) (.cells (numsA .u8 lb) 23) (.cells (numsA .u8 lc) 23) zeroK 23)
  go_enter Tryd.func40, Tryd.ntmps40
  go_wp2_with (first
    | (refine wpList_makeBlk rfl _ _ 95 rfl 67 (.int .u32 0) 4 Tryd.underlying95 info32z rfl _ _ _ _ 16 rfl rfl (by omega) (by omega) (by omega) (by omega) ?_; intro w1 hb1 hu1 hz1; have Hs1 := Lib.hid hb1; have Hu1 := Lib.hid hu1; have Hc1 := Lib.hid (hu1.blk Hb2.out (fun h => h)); clear hb1 hu1 hz1)
    | (refine wpList_loadBlk rfl 23 _ rfl (w.heap.size + 1 + 1) 0 32 rfl 23 (numsA .u8 lc) _ Hc1.out Tryd.underlying23 rfl sizeKey (by rw [HC.out]; omega) ?_; rw [extract_all _ _ HC.out]))
  have Hs1' : Hid (Blk w1 (w.heap.size + 1 + 1 + 1 + 1) 67 (numsA .u32 (List.replicate 16 0))) := by show Blk _ _ _ _; rw [numsA_replicate]; have := Hs1.out; simpa using this
  refine (numberOf_any lc _ Hlc.out Hdc.out).mono ?_
  rintro e w2 ⟨g1, rfl, hg1, hB1, hu⟩
  have Hg1 := Lib.hid hB1
  have Hs2 := Lib.hid (hu.blk Hs1'.out (fun h => h))
  have hlt1 := Hs1'.out.lt
  have hne1 : ¬ g1 = w.heap.size + 1 + 1 + 1 + 1 := by omega
  have Hu2 := Lib.hid ((((((Upd.refl (fun _ => False) w).alloc _).alloc _).alloc _).alloc _).trans Hu1.out |>.trans hu)
  have Ha2 := Lib.hid (hu.blk (Hu1.out.blk Hb0.out (fun h => h)) (fun h => h))
  have Hb2' := Lib.hid (hu.blk (Hu1.out.blk Hb1.out (fun h => h)) (fun h => h))
  have Hr2 := Lib.hid (hu.blk (Hu1.out.blk Hb3.out (fun h => h)) (fun h => h))
  clear hu hB1 Hs1 Hs1' Hu1 Hc1 Hb0 Hb1 Hb2 Hb3 hg1
  generalize hvc : dig 256 lc = vc at *
  have Hvc := Lib.hid hvc
  clear hvc
  have Hcp : Hid (∀ j v, (cellsOf .u32 (digits 4294967296 8 vc))[j]? = some v → w2.cell? ((⟨g1, 0, none⟩ : Addr).add j) = some v) := by
    intro j v hv
    have e : ((⟨g1, 0, none⟩ : Addr).add j) = ⟨g1, j, none⟩ := by
      simp [Addr.add]
      intro h
      exact h.symm
    rw [e, Hg1.out.cell, ← hv]
    simp [numsA, cellsOf]
  have Hcl : Hid ((cellsOf .u32 (digits 4294967296 8 vc)).length = 8) := by show _ = _; rw [cellsOf_length, digits_length]
  have Hc1 : Hid (∀ v ∈ cellsOf .u32 (digits 4294967296 8 vc), v.oneCell' = true) := by show ∀ v ∈ _, _; rw [← numsA_toList]; exact numsA_one _ _
  have Hfit : Hid (0 + 8 ≤ (numsA .u32 (List.replicate 16 0)).size) := by show _ ≤ _; rw [numsA_size]; simp
  go_wp2_with (first
    | (refine wpList_copyBlk rfl _ _ _ _ rfl 67 Tryd.underlying95 size32 (w.heap.size + 1 + 1 + 1 + 1) 0 16 16 (some ⟨g1, 0, none⟩) 8 8 rfl rfl 67 _ Hs2.out 8 (cellsOf .u32 (digits 4294967296 8 vc)) Hcl.out (by decide) (fun _ => ⟨_, rfl, Hcp.out⟩) Hfit.out Hc1.out ?_; intro w3 hb3 hu3 hz3; rw [splice_front _ (digits_length _ _ _)] at hb3; have Hs3' := Lib.hid hb3; have Hu3' := Lib.hid (Hu2.out.step hu3 (fun i hi h => by omega)); have Ha3 := Lib.hid (hu3.blk Ha2.out (show ¬ w.heap.size = w.heap.size + 1 + 1 + 1 + 1 by omega)); have Hb3' := Lib.hid (hu3.blk Hb2'.out (show ¬ w.heap.size + 1 = w.heap.size + 1 + 1 + 1 + 1 by omega)); have Hr3 := Lib.hid (hu3.blk Hr2.out (show ¬ w.heap.size + 1 + 1 + 1 = w.heap.size + 1 + 1 + 1 + 1 by omega)); clear hb3 hu3 hz3)
    | (refine wpList_loadBlk rfl 23 _ rfl (w.heap.size + 1) 0 32 rfl 23 (numsA .u8 lb) _ Hb3'.out Tryd.underlying23 rfl sizeKey (by rw [HB.out]; omega) ?_; rw [extract_all _ _ HB.out]))
  clear Hcp Hcl Hc1 Hfit Hu2 Ha2 Hb2' Hr2 Hs2 Hg1
  refine (numberOf_any lb _ Hlb.out Hdb.out).mono ?_
  rintro e w4 ⟨g2, rfl, hg2, hB2, hu⟩
  have Hf4 := Lib.hid hB2
  have hlt3 := Hs3'.out.lt
  have hne2 : ¬ g2 = w.heap.size + 1 + 1 + 1 + 1 := by omega
  have Hs4 := Lib.hid (hu.blk Hs3'.out (fun h => h))
  have Ha4 := Lib.hid (hu.blk Ha3.out (fun h => h))
  have Hr4 := Lib.hid (hu.blk Hr3.out (fun h => h))
  have Hu4 := Lib.hid (Hu3'.out.trans hu)
  clear hu hB2 Hs3' Hu3' Ha3 Hb3' Hr3 hg2
  generalize hvb : dig 256 lb = vb at *
  have Hvb := Lib.hid hvb
  clear hvb
  go_wp2_with (refine wpList_loadBlk rfl 23 _ rfl w.heap.size 0 32 rfl 23 (numsA .u8 la) _ Ha4.out Tryd.underlying23 rfl sizeKey (by rw [HA.out]; omega) ?_; rw [extract_all _ _ HA.out])
  refine (numberOf_any la _ Hla.out Hda.out).mono ?_
  rintro e w5 ⟨g3, rfl, hg3, hB3, hu⟩
  have hlt4 := Hs4.out.lt
  have hltf := Hf4.out.lt
  have hne3 : ¬ g3 = w.heap.size + 1 + 1 + 1 + 1 := by omega
  have HR : Hid (MRel w w5 (w.heap.size + 1 + 1 + 1 + 1) g2 g3 (digits 4294967296 8 vc ++ List.replicate 8 0) (digits 4294967296 8 vb) (digits 4294967296 8 (dig 256 la))) :=
    ⟨Hu4.out.trans hu, hu.blk Hr4.out (fun h => h), hu.blk Hs4.out (fun h => h), hu.blk Hf4.out (fun h => h), hB3⟩
  clear hu hB3 Hs4 Hf4 Ha4 Hr4 Hu4 hg3 hlt4 hlt3 hlt1 hltf
  generalize hva : dig 256 la = va at *
  have Hva := Lib.hid hva
  clear hva
  have HM0 := Lib.hid (MulO.start (digits_length 4294967296 8 vc) (digits_digs (by omega) _ _) (digits 4294967296 8 va) (digits 4294967296 8 vb))
  go_wp2
  generalize hsb : w.heap.size + 1 + 1 + 1 + 1 = sb at *
  go_loopw [21] (fun i wr => ∃ (k : Nat) (S : List Int), k ≤ 8 ∧ i = .int .i64 k ∧ MulO (digits 4294967296 8 vc) (digits 4294967296 8 va) (digits 4294967296 8 vb) S k ∧ MRel w wr sb g2 g3 S (digits 4294967296 8 vb) (digits 4294967296 8 va)) (fun i _ => 8 - (intOf i).toNat)
  case atStart => exact ⟨0, _, by omega, rfl, HM0.out, HR.out⟩
  case round =>
    clear HR HM0
    obtain ⟨k, S, hk, rfl, hmul, hrel⟩ := hrel
    by_cases hlt : k < 8
    · have c1 : wr.cell? ⟨g3, k, none⟩ = some (.int .u32 ((digits 4294967296 8 va).getD k 0)) := by rw [hrel.a.cell, numsA_get _ _ _ (by rw [digits_length]; exact hlt)]
      have hx := (digits_digs (B := 4294967296) (by omega) 8 va).get (by omega) k
      have Hrel := Lib.hid hrel
      have Hmul := Lib.hid hmul
      clear hrel hmul
      have Hx : Hid (∀ y, y = (digits 4294967296 8 va).getD k 0 → y = (digits 4294967296 8 va).getD k 0) := fun y h => h
      generalize hxe : (digits 4294967296 8 va).getD k 0 = x at *
      have Hxe := Lib.hid hxe
      clear hxe
      go_wp2_with fail
      refine (addTimes_any sb k g2 67 67 S (digits 4294967296 8 vb) x _ hlt (by omega) Hrel.out.s Hrel.out.f Hmul.out.len Hmul.out.digs (Hmul.out.high (k + 8) (by omega)) (digits_length _ _ _) (digits_digs (by omega) _ _) hx).mono ?_
      rintro e w6 ⟨M, rfl, hM, hMl, hMd, hMs, hMe⟩
      rw [← Hxe.out] at hMe
      have Hnext := Lib.hid (Hmul.out.step (by rw [digits_length]; exact hlt) hMl hMd hMs hMe)
      have HRn : Hid (MRel w w6 sb g2 g3 M (digits 4294967296 8 vb) (digits 4294967296 8 va)) := ⟨Hrel.out.upd.step hM.upd (fun i hi h => by omega), hM.upd.blk Hrel.out.res (show ¬ w.heap.size + 1 + 1 + 1 = sb by omega), hM.d, hM.upd.blk Hrel.out.f hne2, hM.upd.blk Hrel.out.a hne3⟩
      clear hM hMl hMd hMs hMe
      go_wp2
      exact ⟨⟨k + 1, M, by omega, by go_num, Hnext.out, HRn.out⟩, by simp [intOf]; omega⟩
    · obtain rfl : k = 8 := by omega
      have hd8 : decide (((8 : Nat) : Int) < 8) = false := by decide
      have Hrel := Lib.hid hrel
      have Hmul := Lib.hid hmul
      clear hrel hmul
      go_wp2_with fail
      refine (bytes_any sb 16 16 67 S _ Hrel.out.s Hmul.out.len Hmul.out.digs (by omega)).mono ?_
      rintro e w6 ⟨t', rfl, hB, hu⟩
      have HBy := Lib.hid hB
      have Hres := Lib.hid (hu.blk Hrel.out.res (fun h => h))
      have Hu6 := Lib.hid (Hrel.out.upd.trans hu)
      clear hB hu
      go_wp2_with fail
      have hlen64 : (digits 256 (4 * 16) (dig 4294967296 S)).length = 64 := digits_length _ _ _
      have Hp : Hid (PartOk (w6.alloc (.cells #[.slice (some ⟨wr.heap.size, 0, none⟩) 64 64] 99)) ⟨some ⟨wr.heap.size, 0, none⟩, wr.heap.size, 0, 64, digits 256 (4 * 16) (dig 4294967296 S)⟩) := by
        refine ⟨fun _ => rfl, fun j hj => ?_, digits_digs (by omega) _ _, by rw [hlen64]; omega⟩
        rw [hlen64] at hj
        rw [Nat.zero_add, (HBy.out.alloc _).cell, numsA_get _ _ _ (by rw [hlen64]; exact hj)]
      have Hval : Hid (dig 256 (allOf [⟨some ⟨wr.heap.size, 0, none⟩, wr.heap.size, 0, 64, digits 256 (4 * 16) (dig 4294967296 S)⟩]) = va * vb + vc) := by
        show dig 256 (digits 256 (4 * 16) (dig 4294967296 S) ++ []) = _
        have he := Hmul.out.eq
        rw [dig_take_all _ _ _ (by rw [digits_length]; omega), HVa.out, HVb.out, HVc.out] at he
        rw [List.append_nil, dig_digits (by omega), he, Int.add_comm vc]
        have h1 := (dig_lt (B := 4294967296) (by omega) Hmul.out.digs)
        have h0 := (dig_nonneg (B := 4294967296) (by omega) Hmul.out.digs)
        rw [Hmul.out.len, he, Int.add_comm vc] at h1
        rw [he, Int.add_comm vc] at h0
        refine Int.emod_eq_of_lt h0 ?_
        rw [show (256 : Int) ^ (4 * 16) = 4294967296 ^ 16 by decide]
        exact h1
      refine (reduce_any [⟨some ⟨wr.heap.size, 0, none⟩, wr.heap.size, 0, 64, digits 256 (4 * 16) (dig 4294967296 S)⟩] w6.heap.size 0 1 _ (HT.out.upd (Hu6.out.alloc _) (fun h => h)) (by simp) (fun i h => ?_)).mono ?_
      · have hi0 : i = 0 := by simp at h; omega
        subst hi0
        refine ⟨?_, Hp.out⟩
        rw [(Blk.at1 w6 _ _).cell]
        show some _ = some (Part.val _)
        unfold Part.val
        simp only [List.getElem_cons_zero, hlen64]
        rfl
      · rintro e w7 ⟨rfl, hu⟩
        rw [Hval.out]
        have Hres7 := Lib.hid (hu.blk (Hres.out.alloc _) (fun h => h))
        have Hu7 := Lib.hid ((Hu6.out.alloc _).trans hu)
        have HS : Hid ((numsA .u8 (digits 256 32 ((va * vb + vc) % oo))).size = 32) := by show _ = _; rw [numsA_size, digits_length]
        clear hu
        generalize hrv : (va * vb + vc) % oo = rv at *
        have Hrv := Lib.hid hrv
        clear hrv
        go_wp2_with (refine wpList_storeBlk2 rfl 23 _ _ rfl (w.heap.size + 1 + 1 + 1) 0 32 rfl (numsA .u8 (digits 256 32 rv)) rfl 23 _ Hres7.out sizeKey HS.out (by rw [zeroK_size]; omega) (numsA_one _ _) ?_; intro wz hbz huz hzz; rw [splice_all _ _ 32 zeroK_size HS.out] at hbz; have Hbz := Lib.hid hbz; have Huz := Lib.hid huz; clear hbz huz hzz)
        exact bodyPost_ret (v := .agg (numsA .u8 (digits 256 32 rv))) (results_cell_row (fn := Tryd.f40) (p := 6) (ty := 23) rfl _ _ (w.heap.size + 1 + 1 + 1) 23 _ (0, 0) _ rfl Hbz.out Tryd.underlying23 rfl (by rw [HS.out]; exact sizeKey)) rfl ⟨by rw [← Hrv.out, Hva.out, Hvb.out, Hvc.out], Hu7.out.step Huz.out (fun i hi h => by omega)⟩
end Go.Proofs.YtdpafemcpbhlfaaDoor.Sc
