/-
  The reference's numbers: Canon.
-/
import Derived.Test.YthnpbodkcdbckaaDoorRefB
import Derived.Test.YthnpbodkcdbckaaDoorLists
import Derived.Test.YthnpbodkcdbckaaDoorCanon
namespace Go.Proofs.YthnpbodkcdbckaaDoor
set_option maxRecDepth 100000
open Go.RowKit

theorem enterrPrime (vs : Array Value) (w : World) : (callFunc 92 vs).run Tryd.prog w = .ok (.enter 92 vs) w := run_enter Tryd.func92 (by kernel_rfl) (by kernel_rfl) vs w
theorem enterrLess (vs : Array Value) (w : World) : (callFunc 99 vs).run Tryd.prog w = .ok (.enter 99 vs) w := run_enter Tryd.func99 (by kernel_rfl) (by kernel_rfl) vs w
theorem enterrminus (vs : Array Value) (w : World) : (callFunc 91 vs).run Tryd.prog w = .ok (.enter 91 vs) w := run_enter Tryd.func91 (by kernel_rfl) (by kernel_rfl) vs w
theorem run_not {o : Oper} {a : Act} {p : Operand} {b : Bool} (ho : o.op = .unOp .not 4 p) (hp : a.eval p = .bool b) (w : World) : (execOp a.eval o).run Tryd.prog w = .ok (.value (.bool (!b))) w := by
  generalize a.eval = ev at hp ⊢
  unfold execOp
  simp only [ho]
  simp [hp, go_sem, Op.unary]
/-- A number's digits as cells. -/
def numN (u : Int) : Array Value := numsA .u64 (digits 65536 16 u)
theorem numN_size (u : Int) : (numN u).size = 16 := by unfold numN; rw [numsA_size, digits_length]
theorem dig16 (u : Int) (h0 : 0 ≤ u) (h1 : u < 115792089237316195423570985008687907853269984665640564039457584007913129639936) : dig 65536 (digits 65536 16 u) = u := by
  rw [dig_digits (by omega), show (65536 : Int) ^ 16 = 115792089237316195423570985008687907853269984665640564039457584007913129639936 by decide]
  omega
theorem digs16 (u : Int) : Digs 65536 (digits 65536 16 u) := digits_digs (by omega) 16 u
/-- The number that a block holds. -/
def numAt (b : Nat) (w : World) : Nat := match w.heap[b]? with
  | some (.cells arr _ _) => (dig 65536 (arr.toList.map intOf)).toNat
  | _ => 0
theorem numAt_of {b : Nat} {w : World} {t : TypeId} {u : Int} (h : Blk w b t (numN u)) (h0 : 0 ≤ u) (h1 : u < 115792089237316195423570985008687907853269984665640564039457584007913129639936) : numAt b w = u.toNat := by
  have h' : w.heap[b]? = some (.cells (numN u) t (0, 0)) := h
  unfold numAt
  rw [h']
  show (dig 65536 ((numN u).toList.map intOf)).toNat = _
  have e : (numN u).toList.map intOf = digits 65536 16 u := by
    unfold numN numsA
    rw [List.map_map]
    conv => rhs; rw [← List.map_id (digits 65536 16 u)]
    apply List.map_congr_left
    intro x _
    rfl
  rw [e, dig16 u h0 h1]

set_option maxRecDepth 100000 in
set_option maxHeartbeats 2000000 in
theorem rCanon_any (v : Int) (w : World) (h0 : 0 ≤ v) (h1 : v < 115792089237316195423570985008687907853269984665640564039457584007913129639936) :
    Calls Tryd.prog 88 #[.agg (numN v)] w fun e w' => e = .returned (.agg (numN (v % pp))) ∧ Upd (fun _ => False) w w' := by
  have hz := zeroN_run
  have Hv := Lib.hid (And.intro h0 h1)
  have HP := Lib.hid pp_pos
  clear h0 h1
  go_enter Tryd.func88, Tryd.ntmps88
  go_wp2
  go_loopw [] (fun wr => ∃ u : Int, 0 ≤ u ∧ u < 115792089237316195423570985008687907853269984665640564039457584007913129639936 ∧ Cong u v ∧ Upd (fun _ => False) w wr ∧ Blk wr w.heap.size 45 (numN u) ∧ Blk wr (w.heap.size + 1) 45 zeroN) (fun wr => numAt w.heap.size wr)
  case atStart => exact ⟨v, Hv.out.1, Hv.out.2, Cong.refl v, ((Upd.refl (fun _ => False) w).alloc _).alloc _, (Blk.at1 w _ _).alloc _, Blk.at2 w _ _ _⟩
  case round =>
    obtain ⟨u, hu0, hu1, hcong, hupd0, hb, hb1⟩ := hrel
    have HB := Lib.hid hb
    have HB1 := Lib.hid hb1
    have HU := Lib.hid hupd0
    have HC := Lib.hid hcong
    have Hm := Lib.hid (numAt_of hb hu0 hu1)
    have HD := Lib.hid (dig16 u hu0 hu1)
    have Hub := Lib.hid (And.intro hu0 hu1)
    clear hb hb1 hupd0 hcong hu0 hu1
    go_wp2
    by_cases hlt : u < pp
    · have Hcmp : Hid (decide (dig 65536 (digits 65536 16 u) < dig 65536 (digits 65536 16 pp)) = true) := by
        show _ = _
        rw [HD.out, dig16 pp (by decide) (by decide)]
        simp [hlt]
      have Hfin : Hid (numN u = numN (v % pp)) := by
        show _ = _
        rw [mod_unique HC.out Hub.out.1 hlt]
      clear hlt
      refine wp_region_slots #[true, true, true, true] ([.val (.agg (numN u)), .val (.agg (numN pp)), .val (.bool true), .val (.bool false)] : List SP) (by kernel_rfl) (by kernel_rfl) (by kernel_rfl) ?_ ?_
      · intro i o listed an wn ho hls hst hun hdep hI K' hK'
        have hi : i < 4 := by
          have := idx_lt ho; simp at this; omega
        have hcase : i = 0 ∨ i = 1 ∨ i = 2 ∨ i = 3 := by omega
        rcases hcase with rfl | rfl | rfl | rfl
        · obtain rfl := Option.some.inj ho
          exact hI.stepLoad (by kernel_rfl) hls rfl rfl rfl 45 1 rfl (by kernel_rfl) w.heap.size 16 rfl 45 (numN u) HB.out _ Tryd.underlying45 rfl sizeNum (numN_size u) rfl rfl hK'
        · obtain rfl := Option.some.inj ho
          exact hI.stepCall (by kernel_rfl) hls rfl rfl rfl 92 #[] _ rfl #[] (by simp) enterrPrime (.val (.agg (numN pp))) rfl rfl ((rPrime_any _).mono fun _ _ h => ⟨_, h.1, rfl, h.2⟩) hK'
        · obtain rfl := Option.some.inj ho
          obtain ⟨vp, hvp, hsp⟩ := hI.have 0 _ 3 (.val (.agg (numN u))) rfl rfl rfl (hdep ⟨0, .data⟩ (by simp) rfl)
          obtain rfl := hsp
          obtain ⟨vq, hvq, hsq⟩ := hI.have 1 _ 4 (.val (.agg (numN pp))) rfl rfl rfl (hdep ⟨1, .data⟩ (by simp) rfl)
          obtain rfl := hsq
          exact hI.stepCall (by kernel_rfl) hls rfl rfl rfl 99 #[.tmp 3, .tmp 4] _ rfl #[.agg (numN u), .agg (numN pp)] (by simp [eval_of hvp, eval_of hvq]) enterrLess (.val (.bool true)) rfl rfl ((rLess_any _ _ _ (digits_length _ _ _) (digits_length _ _ _) (digs16 u) (digs16 pp)).mono fun _ _ h => ⟨_, h.1.trans (congrArg (fun b => Ending.returned (.bool b)) Hcmp.out), rfl, h.2⟩) hK'
        · obtain rfl := Option.some.inj ho
          obtain ⟨vp, hvp, hsp⟩ := hI.have 2 _ 5 (.val (.bool true)) rfl rfl rfl (hdep ⟨2, .data⟩ (by simp) rfl)
          obtain rfl := hsp
          exact hI.stepPure (by kernel_rfl) hls rfl rfl rfl (.bool false) (run_not rfl (eval_of hvp) wn) rfl rfl hK'
      · intro fuel an wn hf hI
        obtain ⟨v0, hv0, hs0⟩ := hI.have 0 _ 3 (.val (.agg (numN u))) rfl rfl rfl rfl
        obtain rfl := hs0
        obtain ⟨v1, hv1, hs1⟩ := hI.have 1 _ 4 (.val (.agg (numN pp))) rfl rfl rfl rfl
        obtain rfl := hs1
        obtain ⟨v2, hv2, hs2⟩ := hI.have 2 _ 5 (.val (.bool true)) rfl rfl rfl rfl
        obtain rfl := hs2
        obtain ⟨v3, hv3, hs3⟩ := hI.have 3 _ 6 (.val (.bool false)) rfl rfl rfl rfl
        obtain rfl := hs3
        have hupd := hI.upd
        have ha := hI.act [(3, .agg (numN u)), (4, .agg (numN pp)), (5, .bool true), (6, .bool false)] (by simp [hv0, hv1, hv2, hv3]) (by kernel_rfl)
        clear hI hv0 hv1 hv2 hv3
        subst ha
        simp only [List.foldl_cons, List.foldl_nil, List.setIfInBounds_toArray, List.set_cons_zero, List.set_cons_succ]
        refine wpAny_done (by kernel_rfl) ?_ _
        have HBn := Lib.hid (hupd.blk (show Blk wr.drew _ _ _ from HB.out) (fun h => h))
        have HB1n := Lib.hid (hupd.blk (show Blk wr.drew _ _ _ from HB1.out) (fun h => h))
        have HUn := Lib.hid (HU.out.drew.trans hupd)
        clear hupd
        go_wp2_with (first
          | (refine wpList_loadBlk rfl 45 _ rfl w.heap.size 0 16 rfl 45 (numN u) _ HBn.out Tryd.underlying45 rfl sizeNum (by rw [numN_size]; omega) ?_; rw [extract_all _ _ (numN_size u)])
          | (refine wpList_storeBlk2 rfl 45 _ _ rfl (w.heap.size + 1) 0 16 rfl (numN u) rfl 45 _ HB1n.out sizeNum (numN_size u) (by rw [zeroN_size]; omega) (numsA_one _ _) ?_; intro wz hbz huz hzz; rw [splice_all _ _ 16 zeroN_size (numN_size u)] at hbz; have Hbz := Lib.hid hbz; have Huz := Lib.hid huz; clear hbz huz hzz))
        exact bodyPost_ret (v := .agg (numN u)) (results_cell_row (fn := Tryd.f88) (p := 2) (ty := 45) rfl _ _ (w.heap.size + 1) 45 _ (0, 0) _ rfl Hbz.out Tryd.underlying45 rfl (by rw [numN_size]; exact sizeNum)) rfl ⟨by rw [Hfin.out], HUn.out.step Huz.out (fun i hi h => by omega)⟩
    · have Hcmp : Hid (decide (dig 65536 (digits 65536 16 u) < dig 65536 (digits 65536 16 pp)) = false) := by
        show _ = _
        rw [HD.out, dig16 pp (by decide) (by decide)]
        simpa using hlt
      have Hle : Hid (dig 65536 (digits 65536 16 pp) ≤ dig 65536 (digits 65536 16 u)) := by
        show _ ≤ _
        rw [HD.out, dig16 pp (by decide) (by decide)]
        omega
      have Hsub : Hid (numsA .u64 (digits 65536 16 (dig 65536 (digits 65536 16 u) - dig 65536 (digits 65536 16 pp))) = numN (u - pp)) := by
        show _ = _
        rw [HD.out, dig16 pp (by decide) (by decide)]
        rfl
      have Hge := Lib.hid hlt
      clear hlt
      refine wp_region_slots #[true, true, true, true] ([.val (.agg (numN u)), .val (.agg (numN pp)), .val (.bool false), .val (.bool true)] : List SP) (by kernel_rfl) (by kernel_rfl) (by kernel_rfl) ?_ ?_
      · intro i o listed an wn ho hls hst hun hdep hI K' hK'
        have hi : i < 4 := by
          have := idx_lt ho; simp at this; omega
        have hcase : i = 0 ∨ i = 1 ∨ i = 2 ∨ i = 3 := by omega
        rcases hcase with rfl | rfl | rfl | rfl
        · obtain rfl := Option.some.inj ho
          exact hI.stepLoad (by kernel_rfl) hls rfl rfl rfl 45 1 rfl (by kernel_rfl) w.heap.size 16 rfl 45 (numN u) HB.out _ Tryd.underlying45 rfl sizeNum (numN_size u) rfl rfl hK'
        · obtain rfl := Option.some.inj ho
          exact hI.stepCall (by kernel_rfl) hls rfl rfl rfl 92 #[] _ rfl #[] (by simp) enterrPrime (.val (.agg (numN pp))) rfl rfl ((rPrime_any _).mono fun _ _ h => ⟨_, h.1, rfl, h.2⟩) hK'
        · obtain rfl := Option.some.inj ho
          obtain ⟨vp, hvp, hsp⟩ := hI.have 0 _ 3 (.val (.agg (numN u))) rfl rfl rfl (hdep ⟨0, .data⟩ (by simp) rfl)
          obtain rfl := hsp
          obtain ⟨vq, hvq, hsq⟩ := hI.have 1 _ 4 (.val (.agg (numN pp))) rfl rfl rfl (hdep ⟨1, .data⟩ (by simp) rfl)
          obtain rfl := hsq
          exact hI.stepCall (by kernel_rfl) hls rfl rfl rfl 99 #[.tmp 3, .tmp 4] _ rfl #[.agg (numN u), .agg (numN pp)] (by simp [eval_of hvp, eval_of hvq]) enterrLess (.val (.bool false)) rfl rfl ((rLess_any _ _ _ (digits_length _ _ _) (digits_length _ _ _) (digs16 u) (digs16 pp)).mono fun _ _ h => ⟨_, h.1.trans (congrArg (fun b => Ending.returned (.bool b)) Hcmp.out), rfl, h.2⟩) hK'
        · obtain rfl := Option.some.inj ho
          obtain ⟨vp, hvp, hsp⟩ := hI.have 2 _ 5 (.val (.bool false)) rfl rfl rfl (hdep ⟨2, .data⟩ (by simp) rfl)
          obtain rfl := hsp
          exact hI.stepPure (by kernel_rfl) hls rfl rfl rfl (.bool true) (run_not rfl (eval_of hvp) wn) rfl rfl hK'
      · intro fuel an wn hf hI
        obtain ⟨v0, hv0, hs0⟩ := hI.have 0 _ 3 (.val (.agg (numN u))) rfl rfl rfl rfl
        obtain rfl := hs0
        obtain ⟨v1, hv1, hs1⟩ := hI.have 1 _ 4 (.val (.agg (numN pp))) rfl rfl rfl rfl
        obtain rfl := hs1
        obtain ⟨v2, hv2, hs2⟩ := hI.have 2 _ 5 (.val (.bool false)) rfl rfl rfl rfl
        obtain rfl := hs2
        obtain ⟨v3, hv3, hs3⟩ := hI.have 3 _ 6 (.val (.bool true)) rfl rfl rfl rfl
        obtain rfl := hs3
        have hupd := hI.upd
        have ha := hI.act [(3, .agg (numN u)), (4, .agg (numN pp)), (5, .bool false), (6, .bool true)] (by simp [hv0, hv1, hv2, hv3]) (by kernel_rfl)
        clear hI hv0 hv1 hv2 hv3
        subst ha
        simp only [List.foldl_cons, List.foldl_nil, List.setIfInBounds_toArray, List.set_cons_zero, List.set_cons_succ]
        refine wpAny_done (by kernel_rfl) ?_ _
        have HBn := Lib.hid (hupd.blk (show Blk wr.drew _ _ _ from HB.out) (fun h => h))
        have HB1n := Lib.hid (hupd.blk (show Blk wr.drew _ _ _ from HB1.out) (fun h => h))
        have HUn := Lib.hid (HU.out.drew.trans hupd)
        clear hupd
        go_wp2
        refine wp_region_slots #[true, true, true, false] ([.val (.agg (numN u)), .val (.agg (numN pp)), .val (.agg (numN (u - pp)))] : List SP) (by kernel_rfl) (by kernel_rfl) (by kernel_rfl) ?_ ?_
        · intro i o listed an wm ho hls hst hun hdep hI K' hK'
          have hi : i < 3 := by
            rcases Nat.lt_or_ge i 3 with h | h
            · exact h
            · exfalso
              have hq : i = 3 ∨ 4 ≤ i := by omega
              rcases hq with rfl | h2
              · cases hst
              · have := idx_lt ho; simp at this; omega
          have hcase : i = 0 ∨ i = 1 ∨ i = 2 := by omega
          rcases hcase with rfl | rfl | rfl
          · obtain rfl := Option.some.inj ho
            exact hI.stepLoad (by kernel_rfl) hls rfl rfl rfl 45 1 rfl (by kernel_rfl) w.heap.size 16 rfl 45 (numN u) HBn.out _ Tryd.underlying45 rfl sizeNum (numN_size u) rfl rfl hK'
          · obtain rfl := Option.some.inj ho
            exact hI.stepCall (by kernel_rfl) hls rfl rfl rfl 92 #[] _ rfl #[] (by simp) enterrPrime (.val (.agg (numN pp))) rfl rfl ((rPrime_any _).mono fun _ _ h => ⟨_, h.1, rfl, h.2⟩) hK'
          · obtain rfl := Option.some.inj ho
            obtain ⟨vp, hvp, hsp⟩ := hI.have 0 _ 7 (.val (.agg (numN u))) rfl rfl rfl (hdep ⟨0, .data⟩ (by simp) rfl)
            obtain rfl := hsp
            obtain ⟨vq, hvq, hsq⟩ := hI.have 1 _ 8 (.val (.agg (numN pp))) rfl rfl rfl (hdep ⟨1, .data⟩ (by simp) rfl)
            obtain rfl := hsq
            exact hI.stepCall (by kernel_rfl) hls rfl rfl rfl 91 #[.tmp 7, .tmp 8] _ rfl #[.agg (numN u), .agg (numN pp)] (by simp [eval_of hvp, eval_of hvq]) enterrminus (.val (.agg (numN (u - pp)))) rfl rfl ((rminus_any _ _ _ (digits_length _ _ _) (digits_length _ _ _) (digs16 u) (digs16 pp) Hle.out).mono fun _ _ h => ⟨_, h.1.trans (congrArg (fun b => Ending.returned (.agg b)) Hsub.out), rfl, h.2⟩) hK'
        · intro fuel2 an2 wm hf2 hI
          obtain ⟨v0, hv0, hs0⟩ := hI.have 0 _ 7 (.val (.agg (numN u))) rfl rfl rfl rfl
          obtain rfl := hs0
          obtain ⟨v1, hv1, hs1⟩ := hI.have 1 _ 8 (.val (.agg (numN pp))) rfl rfl rfl rfl
          obtain rfl := hs1
          obtain ⟨v2, hv2, hs2⟩ := hI.have 2 _ 9 (.val (.agg (numN (u - pp)))) rfl rfl rfl rfl
          obtain rfl := hs2
          have hupd := hI.upd
          have ha := hI.act [(7, .agg (numN u)), (8, .agg (numN pp)), (9, .agg (numN (u - pp)))] (by simp [hv0, hv1, hv2]) (by kernel_rfl)
          clear hI hv0 hv1 hv2
          subst ha
          simp only [List.foldl_cons, List.foldl_nil, List.setIfInBounds_toArray, List.set_cons_zero, List.set_cons_succ]
          have hf0 : left #[true, true, true, false] 4 = 1 := by kernel_rfl
          have hf1 : left #[true, true, true, false] 4 ≤ fuel2 := hf2
          obtain ⟨fu, rfl⟩ : ∃ fu, fuel2 = fu + 1 := ⟨fuel2 - 1, by omega⟩
          clear hf2 hf0 hf1
          have HBm := Lib.hid (hupd.blk (show Blk wn.drew _ _ _ from HBn.out) (fun h => h))
          have HB1m := Lib.hid (hupd.blk (show Blk wn.drew _ _ _ from HB1n.out) (fun h => h))
          have HUm := Lib.hid (HUn.out.drew.trans hupd)
          refine wpAny_ready (rs := [3]) (by kernel_rfl) (by simp) (AllReady.cons rfl (fun K hK => ?_) AllReady.nil)
          refine step_storeBlk2 rfl 45 (.tmp 1) (.tmp 9) rfl w.heap.size 0 16 rfl (numN (u - pp)) rfl 45 (numN u) HBm.out sizeNum (numN_size _) (by rw [numN_size]; omega) (numsA_one _ _) ?_
          intro ws hs hus _
          rw [splice_all _ _ 16 (numN_size _) (numN_size _)] at hs
          refine hK _ _ ?_
          clear hK K
          dsimp only [Act.put]
          refine wpAny_done (by kernel_rfl) ?_ _
          have Hws := Lib.hid hs
          have Hus := Lib.hid hus
          clear hs hus hupd
          go_wp2
          have hup := Hub.out
          have hgp := Hge.out
          have hpp := HP.out
          refine ⟨⟨u - pp, by omega, by omega, Cong.trans ⟨-1, by omega⟩ HC.out, HUm.out.step Hus.out (fun i hi h => by omega), Hws.out, Hus.out.blk HB1m.out (by simp)⟩, ?_⟩
          rw [numAt_of Hws.out (by omega) (by omega), Hm.out]
          omega
end Go.Proofs.YthnpbodkcdbckaaDoor
