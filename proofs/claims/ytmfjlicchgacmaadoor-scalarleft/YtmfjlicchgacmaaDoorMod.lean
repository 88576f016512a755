/-
  The walk of the reference's Mod.
-/
import Derived.Test.YtmfjlicchgacmaaDoorModMath
namespace Go.Proofs.YtmfjlicchgacmaaDoor
open Go.RowKit

theorem infoIz : (Tryd.prog.info? 3).map (fun i => (i.zero, i.size, i.bytes)) = some (some (.int .i64 0), 1, 8) := by kernel_rfl
theorem zeroK_one : ∀ v ∈ zeroK.toList, v.oneCell' = true := numsA_one .u8 (keyL 0)
theorem dig_drop (D : List Int) (k : Nat) (hk : k < D.length) : dig 256 (D.drop k) = D.getD k 0 + 256 * dig 256 (D.drop (k + 1)) := by
  rw [List.drop_eq_getElem_cons hk]
  simp [dig, List.getD_eq_getElem?_getD, hk]
theorem mod_step (a d : Int) : (256 * (a % oo) + d) % oo = (d + 256 * a) % oo := by
  rw [Int.add_emod, Int.mul_emod, Int.emod_emod_of_dvd _ (Int.dvd_refl _), ← Int.mul_emod, ← Int.add_emod, Int.add_comm]
set_option maxRecDepth 100000 in
set_option maxHeartbeats 4000000 in
theorem rMod_any (gd cap n : Nat) (D : List Int) (w : World) (hl : D.length = n) (hn : n ≤ 1000) (hc : CellsI w gd D) (hd : Digs 256 D) :
    Calls Tryd.prog 19 #[.slice (some ⟨gd, 0, none⟩) n cap] w fun e w' => e = .returned (.agg (numsA .u8 (digits 256 32 (dig 256 D % oo)))) ∧ Upd (fun _ => False) w w' := by
  have hz := zeroK_run
  have Hl := Lib.hid hl
  have HD := Lib.hid hd
  have HC := Lib.hid hc
  clear hl hc hd
  have Hb0 := Lib.hid (Blk.at1 w zeroK 25)
  go_enter Tryd.func19, Tryd.ntmps19
  go_wp2_with (refine wpList_makeBlk rfl _ _ 34 rfl 3 (.int .i64 0) 8 Tryd.underlying34 infoIz rfl _ _ _ _ 33 rfl rfl (by omega) (by omega) (by omega) (by omega) ?_; intro w1 hb1 hu1 hz1; have Hb1 := Lib.hid hb1; have Hu1 := Lib.hid hu1; have Hk1 := Lib.hid (hu1.blk Hb0.out (fun h => h)); clear hb1 hu1 hz1)
  refine (rOrder_any w1).mono ?_
  rintro e w2 ⟨vo, rfl, hO, hu⟩
  have HO := Lib.hid hO
  have Hu2 := Lib.hid hu
  clear hO hu
  go_wp2_with (refine wpList_append1 rfl _ _ rfl w1.heap.size _ ordB rfl (HO.out.upd ((Upd.refl (fun _ => False) w2).alloc _) (fun _ _ h => h)) w2.heap.size 1 0 rfl (by rw [(Blk.at1 w2 _ _).cell]; rfl) (by rw [ordB_length]; omega) (by have := Hu2.out.size; simp; omega) ?_; intro v' w3 hO hU; have HO' := Lib.hid hO; have HU' := Lib.hid hU; clear hO hU)
  obtain ⟨gl, cl, hv', hgl, hgl2, hcl⟩ := HO'.out.cells (by decide)
  have hv2 : v' = .slice (some ⟨gl, 0, none⟩) 33 cl := hv'
  clear hv'
  subst hv2
  have hs1 : w.heap.size + 1 < w1.heap.size := by have := Hb1.out.lt; simpa using this
  have hu3 : Upd (fun _ => False) w w3 := (((((Upd.refl (fun _ => False) w).alloc _).trans Hu1.out).trans Hu2.out).alloc _).step HU'.out (fun i hi h => by omega)
  have HR : Hid (MdRel w w3 (w.heap.size + 1) gl (digits 256 33 0)) := by
    refine ⟨hu3, ?_, hcl, ?_⟩
    · rw [show digits 256 33 0 = List.replicate 33 0 by decide, numsA_replicate]
      refine HU'.out.blk ((Hu2.out.blk (show Blk w1 (w.heap.size + 1) _ _ by have := Hb1.out; simpa using this) (fun h => h)).alloc _) (by show ¬ w1.heap.size ≤ w.heap.size + 1; omega)
    · exact HU'.out.blk ((Hu2.out.blk Hk1.out (fun h => h)).alloc _) (by show ¬ w1.heap.size ≤ w.heap.size; omega)
  have hne : gl ≠ w.heap.size + 1 := by omega
  have hgr : w.heap.size < w.heap.size + 1 := by omega
  have Hgr : Hid ((w.alloc (.cells zeroK 25)).heap.size = w.heap.size + 1) := by show _ = _; simp
  clear HO HO' HU' Hu1 Hu2 Hk1 Hb1 Hb0 hu3 hcl hs1 hgl hgl2
  have hsz : (w.alloc (.cells zeroK 25)).heap.size = w.heap.size + 1 := by simp
  go_wp2
  generalize hgr0 : w.heap.size + 1 = gr at *
  have Hgr0 := Lib.hid hgr0
  clear hgr0 hsz Hgr
  go_loopw [5] (fun i wr => ∃ k : Nat, k ≤ n ∧ i = .int .i64 ((k : Int) - 1) ∧ MdRel w wr gr gl (digits 256 33 (dig 256 (D.drop k) % oo))) (fun i _ => (intOf i + 1).toNat)
  case atStart => exact ⟨n, by omega, rfl, by rw [List.drop_eq_nil_of_le (by rw [Hl.out]; omega)]; exact HR.out⟩
  case round =>
    clear HR
    obtain ⟨k, hk, rfl, hrel⟩ := hrel
    by_cases hlt : 0 < k
    · obtain ⟨j, rfl⟩ : ∃ j, k = j + 1 := ⟨k - 1, by omega⟩
      have e1 : ((j + 1 : Nat) : Int) - 1 = (j : Int) := by omega
      rw [e1]
      clear e1 hlt
      have hdj := HD.out.get (B := 256) (by omega) j
      have Hdj := Lib.hid hdj
      obtain ⟨hR0, hR1⟩ := mod_bd (dig 256 (D.drop (j + 1)))
      have Hstep : Hid ((256 * (dig 256 (D.drop (j + 1)) % oo) + D.getD j 0) % oo = dig 256 (D.drop j) % oo) := by
        show _ = _
        rw [mod_step, ← dig_drop D j (by rw [Hl.out]; omega)]
      have HRel := Lib.hid hrel
      clear hrel
      generalize dig 256 (D.drop (j + 1)) % oo = R at *
      have HR0 := Lib.hid hR0
      have HR1 := Lib.hid hR1
      clear hR0 hR1
      have HS0 : Hid (MdRel w wr gr gl (shl (digits 256 33 R) 32)) := by show MdRel _ _ _ _ _; rw [shl_start (digits_length _ _ _)]; exact HRel.out
      go_wp2
      go_loopw [6] (fun i wr => ∃ k : Nat, k ≤ 32 ∧ i = .int .i64 k ∧ MdRel w wr gr gl (shl (digits 256 33 R) k)) (fun i _ => (intOf i).toNat)
      case atStart => exact ⟨32, by omega, rfl, HS0.out⟩
      case round =>
        clear HS0 HRel
        obtain ⟨k, hk2, rfl, hrel⟩ := hrel
        by_cases hlt : 0 < k
        · obtain ⟨i, rfl⟩ : ∃ i, k = i + 1 := ⟨k - 1, by omega⟩
          have c1 := hrel.cell i (by rw [shl_length]; omega)
          rw [shl_get _ _ _ (by omega), if_pos (by omega)] at c1
          have c2 := hrel.cell (i + 1) (by rw [shl_length]; omega)
          have hfr := hrel.r.frozen
          have hn1 := hrel.set hgr hne (i + 1) ((digits 256 33 R).getD i 0)
          rw [shl_step] at hn1
          have Hn := Lib.hid hn1
          generalize (digits 256 33 R).getD i 0 = x at *
          generalize (shl (digits 256 33 R) (i + 1)).getD (i + 1) 0 = y at *
          clear hrel hn1
          go_wp2
          exact ⟨⟨i, by omega, rfl, Hn.out⟩, by simp [intOf]⟩
        · obtain rfl : k = 0 := by omega
          have hd0 : decide ((0 : Int) < ((0 : Nat) : Int)) = false := by decide
          have c1 := hrel.cell 0 (by rw [shl_length]; omega)
          have c2 := HC.out.upd hrel.upd (fun h => h) j (by rw [Hl.out]; omega)
          have hfr := hrel.r.frozen
          have hn1 := hrel.set hgr hne 0 (D.getD j 0)
          rw [shl_done R _ Hdj.out] at hn1
          have Hn := Lib.hid hn1
          have HN : Hid (0 ≤ 256 * R + D.getD j 0 ∧ 256 * R + D.getD j 0 < 256 * oo) := ⟨by have := HR0.out; have := Hdj.out; omega, by have := HR1.out; have := Hdj.out; omega⟩
          generalize D.getD j 0 = d at *
          generalize (shl (digits 256 33 R) 0).getD 0 0 = y at *
          clear hrel hn1
          go_wp2
          generalize 256 * R + d = N at *
          go_loopw [] (fun wr => ∃ N' : Int, 0 ≤ N' ∧ N' < 256 * oo ∧ N' % oo = N % oo ∧ MdRel w wr gr gl (digits 256 33 N')) (fun wr => numAt gr wr)
          case atStart => exact ⟨N, HN.out.1, HN.out.2, rfl, Hn.out⟩
          case round =>
            clear HN Hn c1 c2 hfr
            obtain ⟨N', h0, h1, hmod, hrel⟩ := hrel
            have Hm := Lib.hid (numAt_of hrel.r)
            have HdN := Lib.hid (dig33 h0 h1)
            have Hmod := Lib.hid hmod
            have HRel := Lib.hid hrel
            have H01 := Lib.hid (And.intro h0 h1)
            clear h0 h1 hmod hrel
            go_wp2_with fail
            refine (rless_any 33 gr gl 33 cl (digits 256 33 N') OL _ (digits_length _ _ _) OL_length (by omega) (CellsI.of HRel.out.r) HRel.out.l (digits_digs (by omega) _ _) OL_digs).mono ?_
            rintro e w4 ⟨rfl, hu⟩
            have HR4 := Lib.hid (HRel.out.of hu)
            clear hu
            rw [HdN.out, dig_OL]
            by_cases hlt : N' < oo
            · have hdec : decide (N' < oo) = true := by simp [hlt]
              have Hfin : Hid (N' = dig 256 (D.drop j) % oo) := by
                show _ = _
                rw [← Hstep.out, ← Hmod.out, Int.emod_eq_of_lt H01.out.1 hlt]
              have hR5 := HR4.out
              rw [Hfin.out] at hR5
              have HR5 := Lib.hid hR5
              clear hR5 hlt
              go_wp2
              exact ⟨⟨j, by omega, by go_num, HR5.out⟩, by simp [intOf]⟩
            · have hdec : decide (N' < oo) = false := by simp [hlt]
              have Hq := Lib.hid (qOf_bd (by omega) H01.out.2)
              have Htop := Lib.hid (top_two H01.out.1 H01.out.2)
              have c32 := HR4.out.cell 32 (by rw [digits_length]; omega)
              have c31 := HR4.out.cell 31 (by rw [digits_length]; omega)
              have g32 := (digits_digs (B := 256) (by omega) 33 N').get (B := 256) (by omega) 32
              have g31 := (digits_digs (B := 256) (by omega) 33 N').get (B := 256) (by omega) 31
              generalize (digits 256 33 N').getD 32 0 = y32 at *
              generalize (digits 256 33 N').getD 31 0 = y31 at *
              clear hlt
              have hdiv : Int.tdiv (y32 * 256 + y31) 17 = (y32 * 256 + y31) / 17 := Int.tdiv_eq_ediv_of_nonneg (by omega)
              by_cases hq1 : (y32 * 256 + y31) / 17 < 1
              · have Hqq : Hid (qOf N' = 1) := by show _ = _; unfold qOf; rw [← Htop.out, if_pos hq1]
                go_wp2
                go_quiet (fail)
                go_wp2
                clear hdiv hq1 Htop
                have HQ : Hid (1 ≤ (1 : Int) ∧ (1 : Int) ≤ 256 ∧ 0 ≤ N' - 1 * oo ∧ N' - 1 * oo < N' ∧ (N' - 1 * oo) % oo = N' % oo) := by
                  have h1 := Hq.out
                  have h2 := qOf_mod N'
                  rw [Hqq.out] at h1 h2
                  exact ⟨h1.1, h1.2.1, h1.2.2.1, h1.2.2.2, h2⟩
                clear Hq Hqq
                have HR5 := Lib.hid (HR4.out.drewN nq)
                generalize w4.drewN nq = w5 at *
                clear HR4 c32 c31
                go_loopw [8, 9] (fun b i wr => ∃ (k : Nat) (M : List Int) (bb : Int), k ≤ 33 ∧ i = .int .i64 k ∧ b = .int .i64 bb ∧ SubO (digits 256 33 N') M 1 k bb ∧ MdRel w wr gr gl M) (fun _ i _ => 33 - (intOf i).toNat)
                case atStart => exact ⟨0, _, 0, by omega, rfl, rfl, SubO.start (digits_length _ _ _) (digits_digs (by omega) _ _) _, HR5.out⟩
                case round =>
                  clear HR5
                  obtain ⟨k, M, bb, hk3, rfl, rfl, hsub, hrel⟩ := hrel
                  by_cases hlt : k < 33
                  · have c1 := hrel.cell k (by rw [hsub.len]; exact hlt)
                    have c2 := hrel.l k (by rw [OL_length]; exact hlt)
                    have hfr := hrel.r.frozen
                    rw [hsub.same k (by omega)] at c1
                    have hg := hsub.digs.get (B := 256) (by omega) k
                    rw [hsub.same k (by omega)] at hg
                    have ho := OL_digs.get (B := 256) (by omega) k
                    have hb0 := hsub.b0
                    have hb1 := hsub.b1
                    have hm := mul_bdq (And.intro HQ.out.1 HQ.out.2.1) ho
                    have hnext := hsub.step hlt (And.intro HQ.out.1 HQ.out.2.1)
                    rw [Int.one_mul] at hm hnext
                    have Hnext := Lib.hid hnext
                    clear hnext
                    have HRm := Lib.hid hrel
                    generalize (digits 256 33 N').getD k 0 = l at *
                    generalize hoo : OL.getD k 0 = o at *
                    clear hrel hsub hoo
                    have q1 : IntKind.i64.wrap (o) = o := IntWalk.i64_in _ (by omega)
                    have q2 : IntKind.i64.wrap (l - o) = l - o := IntWalk.i64_in _ (by omega)
                    have q3 : IntKind.i64.wrap (l - o - bb) = l - o - bb := IntWalk.i64_in _ (by omega)
                    have hx0 : -66000 ≤ l - o - bb ∧ l - o - bb < 256 := by omega
                    go_wp2
                    go_quiet (fail)
                    go_wp2
                    have HRx := Lib.hid (HRm.out.drewN nq)
                    have c1' : (wr.drewN nq).cell? ⟨gr, k, none⟩ = some (.int .i64 l) := c1
                    have hfr' : ∀ j, (wr.drewN nq).frozen? ⟨gr, j, none⟩ = false := hfr
                    generalize wr.drewN nq = w6 at *
                    generalize l - o - bb = x0 at *
                    clear q1 q2 q3 hm hg c1 c2 hfr HRm
                    go_loopw [8, 10] (fun b x wr => ∃ cc : Int, 0 ≤ cc ∧ cc ≤ 300 ∧ b = .int .i64 cc ∧ x = .int .i64 (x0 + 256 * cc) ∧ x0 + 256 * cc < 256 ∧ wr = w6) (fun _ x _ => (-(intOf x)).toNat)
                    case atStart => exact ⟨0, by omega, by omega, rfl, by rw [Int.mul_zero, Int.add_zero], by omega, rfl⟩
                    case round =>
                      obtain ⟨cc, hc0, hc1, rfl, rfl, hxl, rfl⟩ := hrel
                      by_cases hneg : x0 + 256 * cc < 0
                      · go_wp2
                        exact ⟨⟨cc + 1, by omega, by omega, by go_num, by go_num, by omega, by trivial⟩, by simp only [intOf]; omega⟩
                      · have hdn : decide (x0 + 256 * cc < 0) = false := by simp [hneg]
                        have ex : x0 + 256 * cc = x0 % 256 := by omega
                        have ec : cc = -(x0 / 256) := by omega
                        have Hn := Lib.hid (HRx.out.set hgr hne k (x0 + 256 * cc))
                        have HN2 := Hnext.out
                        rw [← ex, ← ec] at HN2
                        have HN3 := Lib.hid HN2
                        clear ex ec HN2 Hnext HRx hneg
                        go_wp2
                        exact ⟨⟨k + 1, _, cc, by omega, by go_num, rfl, HN3.out, Hn.out⟩, by simp [intOf]; omega⟩
                  · obtain rfl : k = 33 := by omega
                    have hd8 : decide (((33 : Nat) : Int) < 33) = false := by decide
                    have hM := hsub.done HdN.out HQ.out.2.2.1 (by have := HQ.out.2.2.2.1; have := H01.out.2; omega)
                    subst hM
                    have Hm2 := Lib.hid (numAt_of hrel.r)
                    have HRm := Lib.hid hrel
                    clear hrel hsub
                    go_wp2
                    go_roundw
                    case rel => (repeat apply Exists.intro); exact ⟨⟨N' - 1 * oo, HQ.out.2.2.1, by have := HQ.out.2.2.2.1; have := H01.out.2; omega, by rw [HQ.out.2.2.2.2]; exact Hmod.out, HRm.out⟩, rfl⟩
                    case measure =>
                      rw [Hm.out, Hm2.out, HdN.out, dig33 HQ.out.2.2.1 (by have := HQ.out.2.2.2.1; have := H01.out.2; omega)]
                      have := HQ.out
                      omega
              · have Hqq : Hid (qOf N' = (y32 * 256 + y31) / 17) := by show _ = _; unfold qOf; rw [← Htop.out, if_neg hq1]
                have hqn : decide ((y32 * 256 + y31) / 17 < 1) = false := by simp [hq1]
                go_wp2
                go_quiet (fail)
                go_wp2
                clear hdiv hq1 Htop hqn
                generalize (y32 * 256 + y31) / 17 = q at *
                have HQ : Hid (1 ≤ (q : Int) ∧ (q : Int) ≤ 256 ∧ 0 ≤ N' - q * oo ∧ N' - q * oo < N' ∧ (N' - q * oo) % oo = N' % oo) := by
                  have h1 := Hq.out
                  have h2 := qOf_mod N'
                  rw [Hqq.out] at h1 h2
                  exact ⟨h1.1, h1.2.1, h1.2.2.1, h1.2.2.2, h2⟩
                clear Hq Hqq
                have HR5 := Lib.hid (HR4.out.drewN nq)
                generalize w4.drewN nq = w5 at *
                clear HR4 c32 c31
                go_loopw [8, 9] (fun b i wr => ∃ (k : Nat) (M : List Int) (bb : Int), k ≤ 33 ∧ i = .int .i64 k ∧ b = .int .i64 bb ∧ SubO (digits 256 33 N') M q k bb ∧ MdRel w wr gr gl M) (fun _ i _ => 33 - (intOf i).toNat)
                case atStart => exact ⟨0, _, 0, by omega, rfl, rfl, SubO.start (digits_length _ _ _) (digits_digs (by omega) _ _) _, HR5.out⟩
                case round =>
                  clear HR5
                  obtain ⟨k, M, bb, hk3, rfl, rfl, hsub, hrel⟩ := hrel
                  by_cases hlt : k < 33
                  · have c1 := hrel.cell k (by rw [hsub.len]; exact hlt)
                    have c2 := hrel.l k (by rw [OL_length]; exact hlt)
                    have hfr := hrel.r.frozen
                    rw [hsub.same k (by omega)] at c1
                    have hg := hsub.digs.get (B := 256) (by omega) k
                    rw [hsub.same k (by omega)] at hg
                    have ho := OL_digs.get (B := 256) (by omega) k
                    have hb0 := hsub.b0
                    have hb1 := hsub.b1
                    have hm := mul_bdq (And.intro HQ.out.1 HQ.out.2.1) ho
                    have hnext := hsub.step hlt (And.intro HQ.out.1 HQ.out.2.1)
                    skip
                    have Hnext := Lib.hid hnext
                    clear hnext
                    have HRm := Lib.hid hrel
                    generalize (digits 256 33 N').getD k 0 = l at *
                    generalize hoo : OL.getD k 0 = o at *
                    clear hrel hsub hoo
                    have q1 : IntKind.i64.wrap (q * o) = q * o := IntWalk.i64_in _ (by omega)
                    have q2 : IntKind.i64.wrap (l - q * o) = l - q * o := IntWalk.i64_in _ (by omega)
                    have q3 : IntKind.i64.wrap (l - q * o - bb) = l - q * o - bb := IntWalk.i64_in _ (by omega)
                    have hx0 : -66000 ≤ l - q * o - bb ∧ l - q * o - bb < 256 := by omega
                    go_wp2
                    go_quiet (fail)
                    go_wp2
                    have HRx := Lib.hid (HRm.out.drewN nq)
                    have c1' : (wr.drewN nq).cell? ⟨gr, k, none⟩ = some (.int .i64 l) := c1
                    have hfr' : ∀ j, (wr.drewN nq).frozen? ⟨gr, j, none⟩ = false := hfr
                    generalize wr.drewN nq = w6 at *
                    generalize l - q * o - bb = x0 at *
                    clear q1 q2 q3 hm hg c1 c2 hfr HRm
                    go_loopw [8, 10] (fun b x wr => ∃ cc : Int, 0 ≤ cc ∧ cc ≤ 300 ∧ b = .int .i64 cc ∧ x = .int .i64 (x0 + 256 * cc) ∧ x0 + 256 * cc < 256 ∧ wr = w6) (fun _ x _ => (-(intOf x)).toNat)
                    case atStart => exact ⟨0, by omega, by omega, rfl, by rw [Int.mul_zero, Int.add_zero], by omega, rfl⟩
                    case round =>
                      obtain ⟨cc, hc0, hc1, rfl, rfl, hxl, rfl⟩ := hrel
                      by_cases hneg : x0 + 256 * cc < 0
                      · go_wp2
                        exact ⟨⟨cc + 1, by omega, by omega, by go_num, by go_num, by omega, by trivial⟩, by simp only [intOf]; omega⟩
                      · have hdn : decide (x0 + 256 * cc < 0) = false := by simp [hneg]
                        have ex : x0 + 256 * cc = x0 % 256 := by omega
                        have ec : cc = -(x0 / 256) := by omega
                        have Hn := Lib.hid (HRx.out.set hgr hne k (x0 + 256 * cc))
                        have HN2 := Hnext.out
                        rw [← ex, ← ec] at HN2
                        have HN3 := Lib.hid HN2
                        clear ex ec HN2 Hnext HRx hneg
                        go_wp2
                        exact ⟨⟨k + 1, _, cc, by omega, by go_num, rfl, HN3.out, Hn.out⟩, by simp [intOf]; omega⟩
                  · obtain rfl : k = 33 := by omega
                    have hd8 : decide (((33 : Nat) : Int) < 33) = false := by decide
                    have hM := hsub.done HdN.out HQ.out.2.2.1 (by have := HQ.out.2.2.2.1; have := H01.out.2; omega)
                    subst hM
                    have Hm2 := Lib.hid (numAt_of hrel.r)
                    have HRm := Lib.hid hrel
                    clear hrel hsub
                    go_wp2
                    go_roundw
                    case rel => (repeat apply Exists.intro); exact ⟨⟨N' - q * oo, HQ.out.2.2.1, by have := HQ.out.2.2.2.1; have := H01.out.2; omega, by rw [HQ.out.2.2.2.2]; exact Hmod.out, HRm.out⟩, rfl⟩
                    case measure =>
                      rw [Hm.out, Hm2.out, HdN.out, dig33 HQ.out.2.2.1 (by have := HQ.out.2.2.2.1; have := H01.out.2; omega)]
                      have := HQ.out
                      omega
    · obtain rfl : k = 0 := by omega
      have hz0 : decide ((0 : Int) ≤ ((0 : Nat) : Int) - 1) = false := by decide
      rw [List.drop_zero] at hrel
      obtain ⟨hR0, hR1⟩ := mod_bd (dig 256 D)
      generalize hRe : dig 256 D % oo = R at *
      have HRe := Lib.hid hRe
      clear hRe
      have HRel := Lib.hid hrel
      have hlt0 := hrel.r.lt
      clear hrel
      go_wp2_with (refine wpList_storeBlk2 rfl 25 _ _ rfl wr.heap.size 0 32 rfl zeroK rfl 25 _ (Blk.at1 wr zeroK 25) sizeKey zeroK_size (by rw [zeroK_size]; omega) zeroK_one ?_; intro w5 hb5 hu5 hz5; rw [splice_all _ _ 32 zeroK_size zeroK_size] at hb5; have Ho5 := Lib.hid hb5; have HR5 : Hid (MdRel w w5 gr gl (digits 256 33 R)) := ⟨(HRel.out.upd.alloc _).step hu5 (fun i hi h => by have := HRel.out.upd.size; omega), hu5.blk (HRel.out.r.alloc _) (show ¬ gr = wr.heap.size by omega), (HRel.out.l.upd ((Upd.refl (fun _ => False) wr).alloc _) (fun h => h)).upd hu5 (show ¬ gl = wr.heap.size by have := block_lt_of_cell (HRel.out.l 0 (by decide)); simp at this; omega), hu5.blk (HRel.out.res.alloc _) (show ¬ w.heap.size = wr.heap.size by omega)⟩; clear hb5 hu5 hz5)
      have Hgl : Hid (¬ gl = wr.heap.size) := by show ¬ _; have := block_lt_of_cell (HRel.out.l 0 (by decide)); simp at this; omega
      have hgo : wr.heap.size ≠ gr := by omega
      have hgo2 : w.heap.size < wr.heap.size := by omega
      have Hhl := Lib.hid (digits_length 256 33 R)
      clear HRel
      generalize wr.heap.size = go at *
      go_loopw [12] (fun i wr => ∃ k : Nat, k ≤ 32 ∧ i = .int .i64 k ∧ MdRel w wr gr gl (digits 256 33 R) ∧ Blk wr go 25 (numsA .u8 (fillTo (fun j => R / 256 ^ j % 256) 32 k))) (fun i _ => 32 - (intOf i).toNat)
      case atStart => exact ⟨0, by omega, rfl, HR5.out, by rw [fillTo_zero]; exact Ho5.out⟩
      case round =>
        clear HR5 Ho5
        obtain ⟨k, hk, rfl, hrel, hout⟩ := hrel
        by_cases hlt : k < 32
        · have c1 := hrel.cell k (by rw [digits_length]; omega)
          rw [digits_getD (by omega) 33 R k (by omega)] at c1
          have c2 : wr.cell? ⟨go, k, none⟩ = some (.int .u8 ((fillTo (fun j => R / 256 ^ j % 256) 32 k).getD k 0)) := by rw [hout.cell, numsA_get _ _ _ (by rw [fillTo_length]; omega)]
          have hfr := hout.frozen
          have hg : 0 ≤ R / 256 ^ k % 256 ∧ R / 256 ^ k % 256 < 256 := ⟨Int.emod_nonneg _ (by omega), Int.emod_lt_of_pos _ (by omega)⟩
          have hn1 := hout.set k (.int .u8 (R / 256 ^ k % 256))
          rw [numsA_set, fillTo_succ (fun j => R / 256 ^ j % 256) 32 k] at hn1
          have Hn1 := Lib.hid hn1
          have HRm := Lib.hid hrel
          clear hrel hout hn1
          generalize R / 256 ^ k % 256 = x at *
          generalize (fillTo (fun j => R / 256 ^ j % 256) 32 k).getD k 0 = y at *
          go_wp2
          exact ⟨⟨k + 1, by omega, by go_num, ⟨HRm.out.upd.set _ (fun h => absurd h (by simp; omega)), HRm.out.r.setOther (fun h => hgo h.symm) _, HRm.out.l.upd ((Upd.refl (· = go) wr).set _ (fun _ => rfl)) (show ¬ gl = go from Hgl.out), HRm.out.res.setOther (show w.heap.size ≠ go by omega) _⟩, Hn1.out⟩, by simp [intOf]; omega⟩
        · obtain rfl : k = 32 := by omega
          have hd8 : decide (((32 : Nat) : Int) < 32) = false := by decide
          have e : (fillTo (fun j => R / 256 ^ j % 256) 32 32) = digits 256 32 R := by
            refine list_ext_getD (by rw [fillTo_length, digits_length]) (fun j hj => ?_)
            rw [fillTo_length] at hj
            rw [fillTo_get _ _ _ _ hj, if_pos hj, digits_getD (by omega) 32 R j hj]
          rw [e] at hout
          have Hout := Lib.hid hout
          have HRm := Lib.hid hrel
          have HS : Hid ((numsA .u8 (digits 256 32 R)).size = 32) := by show _ = _; rw [numsA_size, digits_length]
          clear hrel hout e
          go_wp2_with (first
            | (refine wpList_loadBlk rfl 25 _ rfl go 0 32 rfl 25 (numsA .u8 (digits 256 32 R)) _ Hout.out Tryd.underlying25 rfl sizeKey (by rw [HS.out]; omega) ?_; rw [extract_all _ _ HS.out])
            | (refine wpList_storeBlk2 rfl 25 _ _ rfl w.heap.size 0 32 rfl (numsA .u8 (digits 256 32 R)) rfl 25 _ HRm.out.res sizeKey HS.out (by rw [zeroK_size]; omega) (numsA_one _ _) ?_; intro wz hbz huz hzz; rw [splice_all _ _ 32 zeroK_size HS.out] at hbz; have Hbz := Lib.hid hbz; have Huz := Lib.hid huz; clear hbz huz hzz))
          exact bodyPost_ret (v := .agg (numsA .u8 (digits 256 32 R))) (results_cell_row (fn := Tryd.f19) (p := 2) (ty := 25) rfl _ _ w.heap.size 25 _ (0, 0) _ rfl Hbz.out Tryd.underlying25 rfl (by rw [HS.out]; exact sizeKey)) rfl ⟨by rw [HRe.out], HRm.out.upd.step Huz.out (fun i hi h => by omega)⟩
end Go.Proofs.YtmfjlicchgacmaaDoor
