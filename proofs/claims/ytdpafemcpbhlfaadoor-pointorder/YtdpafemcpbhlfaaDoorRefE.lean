/-
  The reference's numbers: Canon.
-/
/-
  The reference's numbers: Bytes, Small.
-/
/-
  The reference's Small; small operations at an act that is not written out.
-/
import Derived.Test.YtdpafemcpbhlfaaDoorRefB
import Derived.Test.YtdpafemcpbhlfaaDoorLists
import Derived.Test.YtdpafemcpbhlfaaDoorCanon
namespace Go.Proofs.YtdpafemcpbhlfaaDoor
set_option maxRecDepth 100000
open Go.RowKit

theorem enterrPrime (vs : Array Value) (w : World) : (callFunc 92 vs).run Tryd.prog w = .ok (.enter 92 vs) w := run_enter Tryd.func92 (by kernel_rfl) (by kernel_rfl) vs w
theorem enterrLess (vs : Array Value) (w : World) : (callFunc 99 vs).run Tryd.prog w = .ok (.enter 99 vs) w := run_enter Tryd.func99 (by kernel_rfl) (by kernel_rfl) vs w
theorem enterrminus (vs : Array Value) (w : World) : (callFunc 91 vs).run Tryd.prog w = .ok (.enter 91 vs) w := run_enter Tryd.func91 (by kernel_rfl) (by kernel_rfl) vs w
theorem run_not {o : Oper} {a : Act} {p : Operand} {b : Bool} (ho : o.op = .unOp .not 4 p) (hp : a.eval p = .bool b) (w : World) : (execOp a.eval o).run Tryd.prog w = .ok (.value (.bool (!b))) w := by
  generalize a.eval = ev at hp ⊢
  unfold execOp
  simp only [ho]
  simp [hp, go_sem, Op.unary]
/-- A number's digits as cells. -/
def numN (u : Int) : Array Value := numsA .u64 (digits 65536 16 u)
theorem numN_size (u : Int) : (numN u).size = 16 := by unfold numN; rw [numsA_size, digits_length]
theorem dig16 (u : Int) (h0 : 0 ≤ u) (h1 : u < 115792089237316195423570985008687907853269984665640564039457584007913129639936) : dig 65536 (digits 65536 16 u) = u := by
  rw [dig_digits (by omega), show (65536 : Int) ^ 16 = 115792089237316195423570985008687907853269984665640564039457584007913129639936 by decide]
  omega
theorem digs16 (u : Int) : Digs 65536 (digits 65536 16 u) := digits_digs (by omega) 16 u
/-- The number that a block holds. -/
def numAt (b : Nat) (w : World) : Nat := match w.heap[b]? with
  | some (.cells arr _ _) => (dig 65536 (arr.toList.map intOf)).toNat
  | _ => 0
theorem numAt_of {b : Nat} {w : World} {t : TypeId} {u : Int} (h : Blk w b t (numN u)) (h0 : 0 ≤ u) (h1 : u < 115792089237316195423570985008687907853269984665640564039457584007913129639936) : numAt b w = u.toNat := by
  have h' : w.heap[b]? = some (.cells (numN u) t (0, 0)) := h
  unfold numAt
  rw [h']
  show (dig 65536 ((numN u).toList.map intOf)).toNat = _
  have e : (numN u).toList.map intOf = digits 65536 16 u := by
    unfold numN numsA
    rw [List.map_map]
    conv => rhs; rw [← List.map_id (digits 65536 16 u)]
    apply List.map_congr_left
    intro x _
    rfl
  rw [e, dig16 u h0 h1]

set_option maxRecDepth 100000 in
set_option maxHeartbeats 2000000 in
theorem rCanon_any (v : Int) (w : World) (h0 : 0 ≤ v) (h1 : v < 115792089237316195423570985008687907853269984665640564039457584007913129639936) :
    Calls Tryd.prog 88 #[.agg (numN v)] w fun e w' => e = .returned (.agg (numN (v % pp))) ∧ Upd (fun _ => False) w w' := by
  have hz := zeroN_run
  have Hv := Lib.hid (And.intro h0 h1)
  have HP := Lib.hid pp_pos
  clear h0 h1
  go_enter Tryd.func88, Tryd.ntmps88
  go_wp2
  go_loopw [] (fun wr => ∃ u : Int, 0 ≤ u ∧ u < 115792089237316195423570985008687907853269984665640564039457584007913129639936 ∧ Cong u v ∧ Upd (fun _ => False) w wr ∧ Blk wr w.heap.size 45 (numN u) ∧ Blk wr (w.heap.size + 1) 45 zeroN) (fun wr => numAt w.heap.size wr)
  case atStart => exact ⟨v, Hv.out.1, Hv.out.2, Cong.refl v, ((Upd.refl (fun _ => False) w).alloc _).alloc _, (Blk.at1 w _ _).alloc _, Blk.at2 w _ _ _⟩
  case round =>
    obtain ⟨u, hu0, hu1, hcong, hupd0, hb, hb1⟩ := hrel
    have HB := Lib.hid hb
    have HB1 := Lib.hid hb1
    have HU := Lib.hid hupd0
    have HC := Lib.hid hcong
    have Hm := Lib.hid (numAt_of hb hu0 hu1)
    have HD := Lib.hid (dig16 u hu0 hu1)
    have Hub := Lib.hid (And.intro hu0 hu1)
    clear hb hb1 hupd0 hcong hu0 hu1
    go_wp2
    by_cases hlt : u < pp
    · have Hcmp : Hid (decide (dig 65536 (digits 65536 16 u) < dig 65536 (digits 65536 16 pp)) = true) := by
        show _ = _
        rw [HD.out, dig16 pp (by decide) (by decide)]
        simp [hlt]
      have Hfin : Hid (numN u = numN (v % pp)) := by
        show _ = _
        rw [mod_unique HC.out Hub.out.1 hlt]
      clear hlt
      refine wp_region_slots #[true, true, true, true] ([.val (.agg (numN u)), .val (.agg (numN pp)), .val (.bool true), .val (.bool false)] : List SP) (by kernel_rfl) (by kernel_rfl) (by kernel_rfl) ?_ ?_
      · intro i o listed an wn ho hls hst hun hdep hI K' hK'
        have hi : i < 4 := by
          have := idx_lt ho; simp at this; omega
        have hcase : i = 0 ∨ i = 1 ∨ i = 2 ∨ i = 3 := by omega
        rcases hcase with rfl | rfl | rfl | rfl
        · obtain rfl := Option.some.inj ho
          exact hI.stepLoad (by kernel_rfl) hls rfl rfl rfl 45 1 rfl (by kernel_rfl) w.heap.size 16 rfl 45 (numN u) HB.out _ Tryd.underlying45 rfl sizeNum (numN_size u) rfl rfl hK'
        · obtain rfl := Option.some.inj ho
          exact hI.stepCall (by kernel_rfl) hls rfl rfl rfl 92 #[] _ rfl #[] (by simp) enterrPrime (.val (.agg (numN pp))) rfl rfl ((rPrime_any _).mono fun _ _ h => ⟨_, h.1, rfl, h.2⟩) hK'
        · obtain rfl := Option.some.inj ho
          obtain ⟨vp, hvp, hsp⟩ := hI.have 0 _ 3 (.val (.agg (numN u))) rfl rfl rfl (hdep ⟨0, .data⟩ (by simp) rfl)
          obtain rfl := hsp
          obtain ⟨vq, hvq, hsq⟩ := hI.have 1 _ 4 (.val (.agg (numN pp))) rfl rfl rfl (hdep ⟨1, .data⟩ (by simp) rfl)
          obtain rfl := hsq
          exact hI.stepCall (by kernel_rfl) hls rfl rfl rfl 99 #[.tmp 3, .tmp 4] _ rfl #[.agg (numN u), .agg (numN pp)] (by simp [eval_of hvp, eval_of hvq]) enterrLess (.val (.bool true)) rfl rfl ((rLess_any _ _ _ (digits_length _ _ _) (digits_length _ _ _) (digs16 u) (digs16 pp)).mono fun _ _ h => ⟨_, h.1.trans (congrArg (fun b => Ending.returned (.bool b)) Hcmp.out), rfl, h.2⟩) hK'
        · obtain rfl := Option.some.inj ho
          obtain ⟨vp, hvp, hsp⟩ := hI.have 2 _ 5 (.val (.bool true)) rfl rfl rfl (hdep ⟨2, .data⟩ (by simp) rfl)
          obtain rfl := hsp
          exact hI.stepPure (by kernel_rfl) hls rfl rfl rfl (.bool false) (run_not rfl (eval_of hvp) wn) rfl rfl hK'
      · intro fuel an wn hf hI
        obtain ⟨v0, hv0, hs0⟩ := hI.have 0 _ 3 (.val (.agg (numN u))) rfl rfl rfl rfl
        obtain rfl := hs0
        obtain ⟨v1, hv1, hs1⟩ := hI.have 1 _ 4 (.val (.agg (numN pp))) rfl rfl rfl rfl
        obtain rfl := hs1
        obtain ⟨v2, hv2, hs2⟩ := hI.have 2 _ 5 (.val (.bool true)) rfl rfl rfl rfl
        obtain rfl := hs2
        obtain ⟨v3, hv3, hs3⟩ := hI.have 3 _ 6 (.val (.bool false)) rfl rfl rfl rfl
        obtain rfl := hs3
        have hupd := hI.upd
        have ha := hI.act [(3, .agg (numN u)), (4, .agg (numN pp)), (5, .bool true), (6, .bool false)] (by simp [hv0, hv1, hv2, hv3]) (by kernel_rfl)
        clear hI hv0 hv1 hv2 hv3
        subst ha
        simp only [List.foldl_cons, List.foldl_nil, List.setIfInBounds_toArray, List.set_cons_zero, List.set_cons_succ]
        refine wpAny_done (by kernel_rfl) ?_ _
        have HBn := Lib.hid (hupd.blk (show Blk wr.drew _ _ _ from HB.out) (fun h => h))
        have HB1n := Lib.hid (hupd.blk (show Blk wr.drew _ _ _ from HB1.out) (fun h => h))
        have HUn := Lib.hid (HU.out.drew.trans hupd)
        clear hupd
        go_wp2_with (first
          | (refine wpList_loadBlk rfl 45 _ rfl w.heap.size 0 16 rfl 45 (numN u) _ HBn.out Tryd.underlying45 rfl sizeNum (by rw [numN_size]; omega) ?_; rw [extract_all _ _ (numN_size u)])
          | (refine wpList_storeBlk2 rfl 45 _ _ rfl (w.heap.size + 1) 0 16 rfl (numN u) rfl 45 _ HB1n.out sizeNum (numN_size u) (by rw [zeroN_size]; omega) (numsA_one _ _) ?_; intro wz hbz huz hzz; rw [splice_all _ _ 16 zeroN_size (numN_size u)] at hbz; have Hbz := Lib.hid hbz; have Huz := Lib.hid huz; clear hbz huz hzz))
        exact bodyPost_ret (v := .agg (numN u)) (results_cell_row (fn := Tryd.f88) (p := 2) (ty := 45) rfl _ _ (w.heap.size + 1) 45 _ (0, 0) _ rfl Hbz.out Tryd.underlying45 rfl (by rw [numN_size]; exact sizeNum)) rfl ⟨by rw [Hfin.out], HUn.out.step Huz.out (fun i hi h => by omega)⟩
    · have Hcmp : Hid (decide (dig 65536 (digits 65536 16 u) < dig 65536 (digits 65536 16 pp)) = false) := by
        show _ = _
        rw [HD.out, dig16 pp (by decide) (by decide)]
        simpa using hlt
      have Hle : Hid (dig 65536 (digits 65536 16 pp) ≤ dig 65536 (digits 65536 16 u)) := by
        show _ ≤ _
        rw [HD.out, dig16 pp (by decide) (by decide)]
        omega
      have Hsub : Hid (numsA .u64 (digits 65536 16 (dig 65536 (digits 65536 16 u) - dig 65536 (digits 65536 16 pp))) = numN (u - pp)) := by
        show _ = _
        rw [HD.out, dig16 pp (by decide) (by decide)]
        rfl
      have Hge := Lib.hid hlt
      clear hlt
      refine wp_region_slots #[true, true, true, true] ([.val (.agg (numN u)), .val (.agg (numN pp)), .val (.bool false), .val (.bool true)] : List SP) (by kernel_rfl) (by kernel_rfl) (by kernel_rfl) ?_ ?_
      · intro i o listed an wn ho hls hst hun hdep hI K' hK'
        have hi : i < 4 := by
          have := idx_lt ho; simp at this; omega
        have hcase : i = 0 ∨ i = 1 ∨ i = 2 ∨ i = 3 := by omega
        rcases hcase with rfl | rfl | rfl | rfl
        · obtain rfl := Option.some.inj ho
          exact hI.stepLoad (by kernel_rfl) hls rfl rfl rfl 45 1 rfl (by kernel_rfl) w.heap.size 16 rfl 45 (numN u) HB.out _ Tryd.underlying45 rfl sizeNum (numN_size u) rfl rfl hK'
        · obtain rfl := Option.some.inj ho
          exact hI.stepCall (by kernel_rfl) hls rfl rfl rfl 92 #[] _ rfl #[] (by simp) enterrPrime (.val (.agg (numN pp))) rfl rfl ((rPrime_any _).mono fun _ _ h => ⟨_, h.1, rfl, h.2⟩) hK'
        · obtain rfl := Option.some.inj ho
          obtain ⟨vp, hvp, hsp⟩ := hI.have 0 _ 3 (.val (.agg (numN u))) rfl rfl rfl (hdep ⟨0, .data⟩ (by simp) rfl)
          obtain rfl := hsp
          obtain ⟨vq, hvq, hsq⟩ := hI.have 1 _ 4 (.val (.agg (numN pp))) rfl rfl rfl (hdep ⟨1, .data⟩ (by simp) rfl)
          obtain rfl := hsq
          exact hI.stepCall (by kernel_rfl) hls rfl rfl rfl 99 #[.tmp 3, .tmp 4] _ rfl #[.agg (numN u), .agg (numN pp)] (by simp [eval_of hvp, eval_of hvq]) enterrLess (.val (.bool false)) rfl rfl ((rLess_any _ _ _ (digits_length _ _ _) (digits_length _ _ _) (digs16 u) (digs16 pp)).mono fun _ _ h => ⟨_, h.1.trans (congrArg (fun b => Ending.returned (.bool b)) Hcmp.out), rfl, h.2⟩) hK'
        · obtain rfl := Option.some.inj ho
          obtain ⟨vp, hvp, hsp⟩ := hI.have 2 _ 5 (.val (.bool false)) rfl rfl rfl (hdep ⟨2, .data⟩ (by simp) rfl)
          obtain rfl := hsp
          exact hI.stepPure (by kernel_rfl) hls rfl rfl rfl (.bool true) (run_not rfl (eval_of hvp) wn) rfl rfl hK'
      · intro fuel an wn hf hI
        obtain ⟨v0, hv0, hs0⟩ := hI.have 0 _ 3 (.val (.agg (numN u))) rfl rfl rfl rfl
        obtain rfl := hs0
        obtain ⟨v1, hv1, hs1⟩ := hI.have 1 _ 4 (.val (.agg (numN pp))) rfl rfl rfl rfl
        obtain rfl := hs1
        obtain ⟨v2, hv2, hs2⟩ := hI.have 2 _ 5 (.val (.bool false)) rfl rfl rfl rfl
        obtain rfl := hs2
        obtain ⟨v3, hv3, hs3⟩ := hI.have 3 _ 6 (.val (.bool true)) rfl rfl rfl rfl
        obtain rfl := hs3
        have hupd := hI.upd
        have ha := hI.act [(3, .agg (numN u)), (4, .agg (numN pp)), (5, .bool false), (6, .bool true)] (by simp [hv0, hv1, hv2, hv3]) (by kernel_rfl)
        clear hI hv0 hv1 hv2 hv3
        subst ha
        simp only [List.foldl_cons, List.foldl_nil, List.setIfInBounds_toArray, List.set_cons_zero, List.set_cons_succ]
        refine wpAny_done (by kernel_rfl) ?_ _
        have HBn := Lib.hid (hupd.blk (show Blk wr.drew _ _ _ from HB.out) (fun h => h))
        have HB1n := Lib.hid (hupd.blk (show Blk wr.drew _ _ _ from HB1.out) (fun h => h))
        have HUn := Lib.hid (HU.out.drew.trans hupd)
        clear hupd
        go_wp2
        refine wp_region_slots #[true, true, true, false] ([.val (.agg (numN u)), .val (.agg (numN pp)), .val (.agg (numN (u - pp)))] : List SP) (by kernel_rfl) (by kernel_rfl) (by kernel_rfl) ?_ ?_
        · intro i o listed an wm ho hls hst hun hdep hI K' hK'
          have hi : i < 3 := by
            rcases Nat.lt_or_ge i 3 with h | h
            · exact h
            · exfalso
              have hq : i = 3 ∨ 4 ≤ i := by omega
              rcases hq with rfl | h2
              · cases hst
              · have := idx_lt ho; simp at this; omega
          have hcase : i = 0 ∨ i = 1 ∨ i = 2 := by omega
          rcases hcase with rfl | rfl | rfl
          · obtain rfl := Option.some.inj ho
            exact hI.stepLoad (by kernel_rfl) hls rfl rfl rfl 45 1 rfl (by kernel_rfl) w.heap.size 16 rfl 45 (numN u) HBn.out _ Tryd.underlying45 rfl sizeNum (numN_size u) rfl rfl hK'
          · obtain rfl := Option.some.inj ho
            exact hI.stepCall (by kernel_rfl) hls rfl rfl rfl 92 #[] _ rfl #[] (by simp) enterrPrime (.val (.agg (numN pp))) rfl rfl ((rPrime_any _).mono fun _ _ h => ⟨_, h.1, rfl, h.2⟩) hK'
          · obtain rfl := Option.some.inj ho
            obtain ⟨vp, hvp, hsp⟩ := hI.have 0 _ 7 (.val (.agg (numN u))) rfl rfl rfl (hdep ⟨0, .data⟩ (by simp) rfl)
            obtain rfl := hsp
            obtain ⟨vq, hvq, hsq⟩ := hI.have 1 _ 8 (.val (.agg (numN pp))) rfl rfl rfl (hdep ⟨1, .data⟩ (by simp) rfl)
            obtain rfl := hsq
            exact hI.stepCall (by kernel_rfl) hls rfl rfl rfl 91 #[.tmp 7, .tmp 8] _ rfl #[.agg (numN u), .agg (numN pp)] (by simp [eval_of hvp, eval_of hvq]) enterrminus (.val (.agg (numN (u - pp)))) rfl rfl ((rminus_any _ _ _ (digits_length _ _ _) (digits_length _ _ _) (digs16 u) (digs16 pp) Hle.out).mono fun _ _ h => ⟨_, h.1.trans (congrArg (fun b => Ending.returned (.agg b)) Hsub.out), rfl, h.2⟩) hK'
        · intro fuel2 an2 wm hf2 hI
          obtain ⟨v0, hv0, hs0⟩ := hI.have 0 _ 7 (.val (.agg (numN u))) rfl rfl rfl rfl
          obtain rfl := hs0
          obtain ⟨v1, hv1, hs1⟩ := hI.have 1 _ 8 (.val (.agg (numN pp))) rfl rfl rfl rfl
          obtain rfl := hs1
          obtain ⟨v2, hv2, hs2⟩ := hI.have 2 _ 9 (.val (.agg (numN (u - pp)))) rfl rfl rfl rfl
          obtain rfl := hs2
          have hupd := hI.upd
          have ha := hI.act [(7, .agg (numN u)), (8, .agg (numN pp)), (9, .agg (numN (u - pp)))] (by simp [hv0, hv1, hv2]) (by kernel_rfl)
          clear hI hv0 hv1 hv2
          subst ha
          simp only [List.foldl_cons, List.foldl_nil, List.setIfInBounds_toArray, List.set_cons_zero, List.set_cons_succ]
          have hf0 : left #[true, true, true, false] 4 = 1 := by kernel_rfl
          have hf1 : left #[true, true, true, false] 4 ≤ fuel2 := hf2
          obtain ⟨fu, rfl⟩ : ∃ fu, fuel2 = fu + 1 := ⟨fuel2 - 1, by omega⟩
          clear hf2 hf0 hf1
          have HBm := Lib.hid (hupd.blk (show Blk wn.drew _ _ _ from HBn.out) (fun h => h))
          have HB1m := Lib.hid (hupd.blk (show Blk wn.drew _ _ _ from HB1n.out) (fun h => h))
          have HUm := Lib.hid (HUn.out.drew.trans hupd)
          refine wpAny_ready (rs := [3]) (by kernel_rfl) (by simp) (AllReady.cons rfl (fun K hK => ?_) AllReady.nil)
          refine step_storeBlk2 rfl 45 (.tmp 1) (.tmp 9) rfl w.heap.size 0 16 rfl (numN (u - pp)) rfl 45 (numN u) HBm.out sizeNum (numN_size _) (by rw [numN_size]; omega) (numsA_one _ _) ?_
          intro ws hs hus _
          rw [splice_all _ _ 16 (numN_size _) (numN_size _)] at hs
          refine hK _ _ ?_
          clear hK K
          dsimp only [Act.put]
          refine wpAny_done (by kernel_rfl) ?_ _
          have Hws := Lib.hid hs
          have Hus := Lib.hid hus
          clear hs hus hupd
          go_wp2
          have hup := Hub.out
          have hgp := Hge.out
          have hpp := HP.out
          refine ⟨⟨u - pp, by omega, by omega, Cong.trans ⟨-1, by omega⟩ HC.out, HUm.out.step Hus.out (fun i hi h => by omega), Hws.out, Hus.out.blk HB1m.out (by simp)⟩, ?_⟩
          rw [numAt_of Hws.out (by omega) (by omega), Hm.out]
          omega
end Go.Proofs.YtdpafemcpbhlfaaDoor
namespace Go.Proofs.YtdpafemcpbhlfaaDoor
set_option maxRecDepth 100000
open Go.RowKit

/-- The bytes of a number's digits. -/
def halves (D : List Int) (j : Nat) : Int := if j % 2 = 0 then D.getD (j / 2) 0 % 256 else D.getD (j / 2) 0 / 256
theorem halves_even (D : List Int) (k : Nat) : halves D (2 * k) = D.getD k 0 % 256 := by
  unfold halves
  rw [if_pos (by omega), show 2 * k / 2 = k by omega]
theorem halves_odd (D : List Int) (k : Nat) : halves D (2 * k + 1) = D.getD k 0 / 256 := by
  unfold halves
  rw [if_neg (by omega), show (2 * k + 1) / 2 = k by omega]
theorem halves_digs {D : List Int} (h : Digs 65536 D) (j : Nat) : 0 ≤ halves D j ∧ halves D j < 256 := by
  have := h.get (B := 65536) (by omega) (j / 2)
  unfold halves
  split <;> omega
theorem halves_math (c : Int) (h0 : 0 ≤ c) (h1 : c < 115792089237316195423570985008687907853269984665640564039457584007913129639936) : fillTo (halves (digits 65536 16 c)) 32 32 = digits 256 32 c := by
  rw [fillTo_all]
  have hD : Digs 256 ((List.range 32).map (halves (digits 65536 16 c))) := fun x hx => by
    obtain ⟨j, _, rfl⟩ := List.mem_map.1 hx
    exact halves_digs (digs16 c) j
  have e : (List.range 16).map (two ((List.range 32).map (halves (digits 65536 16 c)))) = digits 65536 16 c := by
    apply List.ext_getElem (by simp [digits_length])
    intro j h1 h2
    have hj : j < 16 := by simpa using h1
    rw [List.getElem_map, List.getElem_range]
    unfold two
    have g : ∀ i, i < 32 → ((List.range 32).map (halves (digits 65536 16 c))).getD i 0 = halves (digits 65536 16 c) i := fun i hi => by simp [List.getD_eq_getElem?_getD, hi]
    rw [g _ (by omega), g _ (by omega), halves_even, halves_odd]
    have : (digits 65536 16 c).getD j 0 = (digits 65536 16 c)[j] := by rw [List.getD_eq_getElem?_getD, List.getElem?_eq_getElem h2]; rfl
    rw [this]
    omega
  have hdig := dig_two 16 ((List.range 32).map (halves (digits 65536 16 c))) (by simp)
  rw [e, dig16 c h0 h1] at hdig
  have := digits_dig (B := 256) (by omega) hD
  rw [List.length_map, List.length_range, ← hdig] at this
  exact this.symm
/-- A key that the reference makes. -/
structure KeyRel (w wr : World) (r b : Nat) (l : List Int) : Prop where
  upd : Upd (fun _ => False) w wr
  res : Blk wr r 23 zeroK
  out : Blk wr b 23 (numsA .u8 l)
  len : l.length = 32
  ne : r ≠ b
  ge : w.heap.size ≤ b
theorem KeyRel.set {w wr : World} {r b : Nat} {l : List Int} (h : KeyRel w wr r b l) (j : Nat) (x : Int) : KeyRel w (wr.setCell ⟨b, j, none⟩ (.int .u8 x)) r b (l.set j x) := by
  refine ⟨h.upd.set _ (fun hb => by have := h.ge; simp at hb; omega), h.res.setOther (by simpa using h.ne) _, ?_, by simpa using h.len, h.ne, h.ge⟩
  rw [← numsA_set]
  exact h.out.set j _
theorem KeyRel.cell {w wr : World} {r b : Nat} {l : List Int} (h : KeyRel w wr r b l) (j : Nat) (hj : j < 32) : wr.cell? ⟨b, j, none⟩ = some (.int .u8 (l.getD j 0)) := by
  rw [h.out.cell, numsA_get _ _ _ (by rw [h.len]; exact hj)]
set_option maxHeartbeats 2000000 in
theorem rBytes_any (v : Int) (w : World) (h0 : 0 ≤ v) (h1 : v < 115792089237316195423570985008687907853269984665640564039457584007913129639936) :
    Calls Tryd.prog 57 #[.agg (numN v)] w fun e w' => e = .returned (.agg (numsA .u8 (digits 256 32 (v % pp)))) ∧ Upd (fun _ => False) w w' := by
  have hz := zeroK_run
  have hc0 := Int.emod_nonneg v (b := pp) (by decide)
  have hc1 := Int.emod_lt_of_pos v pp_pos
  have Hcb : Hid (0 ≤ v % pp ∧ v % pp < 115792089237316195423570985008687907853269984665640564039457584007913129639936) := ⟨hc0, by unfold pp at *; omega⟩
  have Hfin := Lib.hid (halves_math (v % pp) Hcb.out.1 Hcb.out.2)
  have HG := Lib.hid (fun j => (digs16 (v % pp)).get (B := 65536) (by omega) j)
  have Hv := Lib.hid (And.intro h0 h1)
  have HNv := Lib.hid (numN_size v)
  clear hc0 hc1 h0 h1
  have Hb0 := Lib.hid ((Blk.at1 w (numN v) 45).alloc (.cells zeroK 23))
  have Hb1 := Lib.hid (Blk.at2 w (.cells (numN v) 45) zeroK 23)
  go_enter Tryd.func57, Tryd.ntmps57
  go_wp2_with (refine wpList_loadBlk rfl 45 _ rfl w.heap.size 0 16 rfl 45 (numN v) _ Hb0.out Tryd.underlying45 rfl sizeNum (by rw [HNv.out]; omega) ?_; rw [extract_all _ _ HNv.out])
  refine (rCanon_any v _ Hv.out.1 Hv.out.2).mono ?_
  rintro e w1 ⟨rfl, hu⟩
  have HNc := Lib.hid (numN_size (v % pp))
  have Hb0' := Lib.hid (hu.blk Hb0.out (fun h => h))
  have Hb1' := Lib.hid (hu.blk Hb1.out (fun h => h))
  have Hu1 := Lib.hid ((((Upd.refl (fun _ => False) w).alloc _).alloc _).trans hu)
  have hz1 : w.heap.size + 1 < w1.heap.size := by have := hu.size; simp at this; omega
  generalize hcc : v % pp = c at *
  have Hcc := Lib.hid hcc
  clear hu Hb0 Hb1 hcc
  go_wp2_with (first
    | (refine wpList_storeBlk2 rfl 45 _ _ rfl w.heap.size 0 16 rfl (numN c) rfl 45 (numN v) Hb0'.out sizeNum HNc.out (by rw [HNv.out]; omega) (numsA_one _ _) ?_; intro w2 hb2 hu2 hz2; rw [splice_all _ _ 16 HNv.out HNc.out] at hb2; have Hb2 := Lib.hid hb2; have Hu2 := Lib.hid hu2; have hz2' : w.heap.size + 1 < w2.heap.size := (by omega); clear hb2 hu2 hz2)
    | (refine wpList_storeBlk2 rfl 23 _ _ rfl w2.heap.size 0 32 rfl zeroK rfl 23 zeroK (Blk.at1 w2 _ _) sizeKey zeroK_size (by rw [zeroK_size]; omega) (numsA_one _ _) ?_; intro w3 hb3 hu3 hz3; rw [splice_all _ _ 32 zeroK_size zeroK_size] at hb3; have Hb3 := Lib.hid hb3; have Hu3 := Lib.hid hu3; clear hb3 hu3 hz3))
  have HR : Hid (KeyRel w w3 (w.heap.size + 1) w2.heap.size (fillTo (halves (digits 65536 16 c)) 32 (2 * 0))) :=
    ⟨((Hu1.out.step Hu2.out (T := (· = w.heap.size)) (fun i hi h => by omega)).alloc _).step Hu3.out (fun i hi h => by omega), Hu3.out.blk ((Hu2.out.blk Hb1'.out (by simp)).alloc _) (show ¬ w.heap.size + 1 = w2.heap.size by omega), Hb3.out, fillTo_length _ _ _, by omega, by omega⟩
  have HN := Lib.hid (Hu3.out.blk (Hb2.out.alloc _) (show ¬ w.heap.size = w2.heap.size by omega))
  clear Hu1 Hu2 Hu3 Hb0' Hb1' Hb2 Hb3
  go_loopw [4] (fun i wr => ∃ k : Nat, k ≤ 16 ∧ i = .int .i64 k ∧ KeyRel w wr (w.heap.size + 1) w2.heap.size (fillTo (halves (digits 65536 16 c)) 32 (2 * k)) ∧ Blk wr w.heap.size 45 (numN c)) (fun i _ => 16 - (intOf i).toNat)
  case atStart => exact ⟨0, by omega, rfl, HR.out, HN.out⟩
  case round =>
    clear HR HN
    obtain ⟨k, hk, rfl, hrel, hkb⟩ := hrel
    have hfr := hrel.out.frozen
    by_cases hlt : k < 16
    · have hc1 := hrel.cell (2 * k) (by omega)
      have hc2 := hrel.cell (2 * k + 1) (by omega)
      have Hrel := Lib.hid hrel
      have Hkb := Lib.hid hkb
      have c1 : wr.cell? ⟨w.heap.size, k, none⟩ = some (.int .u64 ((digits 65536 16 c).getD k 0)) := by rw [hkb.cell]; unfold numN; rw [numsA_get _ _ _ (by rw [digits_length]; exact hlt)]
      have g1 := HG.out k
      have He := Lib.hid (halves_even (digits 65536 16 c) k)
      have Ho := Lib.hid (halves_odd (digits 65536 16 c) k)
      generalize (digits 65536 16 c).getD k 0 = x at *
      clear hrel hkb
      go_wp2
      refine ⟨⟨k + 1, by omega, by go_num, ?_, (Hkb.out.setOther (show w.heap.size ≠ w2.heap.size by omega) _).setOther (show w.heap.size ≠ w2.heap.size by omega) _⟩, by simp [intOf]; omega⟩
      have := (Hrel.out.set (2 * k) (halves (digits 65536 16 c) (2 * k))).set (2 * k + 1) (halves (digits 65536 16 c) (2 * k + 1))
      rw [fillTo_succ, fillTo_succ, He.out, Ho.out] at this
      rw [show 2 * (k + 1) = 2 * k + 1 + 1 by omega]
      exact this
    · obtain rfl : k = 16 := by omega
      have hr2 := hrel
      rw [show 2 * 16 = 32 from rfl, Hfin.out] at hr2
      have Hr2 := Lib.hid hr2
      have hd16 : decide (((16 : Nat) : Int) < 16) = false := by decide
      have HS : Hid ((numsA .u8 (digits 256 32 c)).size = 32) := by show _ = _; rw [numsA_size, digits_length]
      clear hrel hr2 hkb
      go_wp2_with (first
        | (refine wpList_loadBlk rfl 23 _ rfl w2.heap.size 0 32 rfl 23 (numsA .u8 (digits 256 32 c)) _ Hr2.out.out Tryd.underlying23 rfl sizeKey (by rw [HS.out]; omega) ?_; rw [extract_all _ _ HS.out])
        | (refine wpList_storeBlk2 rfl 23 _ _ rfl (w.heap.size + 1) 0 32 rfl (numsA .u8 (digits 256 32 c)) rfl 23 _ Hr2.out.res sizeKey HS.out (by rw [zeroK_size]; omega) (numsA_one _ _) ?_; intro wz hbz huz hzz; rw [splice_all _ _ 32 zeroK_size HS.out] at hbz; have Hbz := Lib.hid hbz; have Huz := Lib.hid huz; clear hbz huz hzz))
      exact bodyPost_ret (v := .agg (numsA .u8 (digits 256 32 c))) (results_cell_row (fn := Tryd.f57) (p := 2) (ty := 23) rfl _ _ (w.heap.size + 1) 23 _ (0, 0) _ rfl Hbz.out Tryd.underlying23 rfl (by rw [HS.out]; exact sizeKey)) rfl ⟨by rw [Hcc.out], Hr2.out.upd.step Huz.out (fun i hi h => by omega)⟩
end Go.Proofs.YtdpafemcpbhlfaaDoor
namespace Go.Proofs.YtdpafemcpbhlfaaDoor
set_option maxRecDepth 100000
open Go.RowKit

def lowL (x y : Int) : List Int := x :: y :: List.replicate 14 0
theorem zeroN_set2 (x y : Int) : (zeroN.setIfInBounds 0 (.int .u64 x)).setIfInBounds 1 (.int .u64 y) = numsA .u64 (lowL x y) := by
  unfold zeroN
  rw [numsA_set, numsA_set]
  rfl
theorem lowL_digits (n : Int) (h0 : 0 ≤ n) (h1 : n < 4294967296) : lowL (n % 65536) (n / 65536 % 65536) = digits 65536 16 n := by
  have e : n / 65536 / 65536 = 0 := by omega
  have e2 : n / 65536 % 65536 = n / 65536 := by omega
  rw [e2]
  simp only [digits, e, e2]
  rfl
set_option maxHeartbeats 1000000 in
theorem rSmall_any (n : Int) (w : World) (h0 : 0 ≤ n) (h1 : n < 4294967296) : Calls Tryd.prog 54 #[.int .u64 n] w fun e w' => e = .returned (.agg (numN n)) ∧ Upd (fun _ => False) w w' := by
  have hz := zeroN_run
  have hzs := zeroN_size
  have hset := zeroN_set2
  have Hn := Lib.hid (lowL_digits n h0 h1)
  have HS : Hid ((numsA .u64 (lowL (n % 65536) (n / 65536 % 65536))).size = 16) := by show _ = _; rw [Hn.out, numsA_size, digits_length]
  go_enter Tryd.func54, Tryd.ntmps54
  go_wp2_with (refine wpList_storeBlk2 rfl 45 _ _ rfl w.heap.size 0 16 rfl (numsA .u64 (lowL (n % 65536) (n / 65536 % 65536))) rfl 45 zeroN (Blk.at1 w _ _) sizeNum HS.out (by rw [zeroN_size]; omega) (numsA_one _ _) ?_; intro wz hbz huz hzz; rw [splice_all _ _ 16 zeroN_size HS.out] at hbz; have Hbz := Lib.hid hbz; have Huz := Lib.hid huz; clear hbz huz hzz)
  exact bodyPost_ret (v := .agg (numsA .u64 (lowL (n % 65536) (n / 65536 % 65536)))) (results_cell_row (fn := Tryd.f54) (p := 2) (ty := 45) rfl _ _ w.heap.size 45 _ (0, 0) _ rfl Hbz.out Tryd.underlying45 rfl (by rw [HS.out]; exact sizeNum)) rfl ⟨by rw [Hn.out]; rfl, ((Upd.refl (fun _ => False) w).alloc _).step Huz.out (fun i hi h => by omega)⟩
theorem run_eqlBool {o : Oper} {a : Act} {p q : Operand} {b : Bool} (ho : o.op = .binOp .eql 4 p q 4) (hp : a.eval p = .bool b) (hq : a.eval q = .bool b) (w : World) : (execOp a.eval o).run Tryd.prog w = .ok (.value (.bool true)) w := by
  generalize a.eval = ev at hp hq ⊢
  unfold execOp
  simp only [ho]
  simp [hp, hq, go_sem]
theorem run_conv32 {o : Oper} {a : Act} {p : Operand} {n : Int} (ho : o.op = .convert 67 36 p) (hp : a.eval p = .int .u32 n) (h0 : 0 ≤ n) (h1 : n < 4294967296) (w : World) : (execOp a.eval o).run Tryd.prog w = .ok (.value (.int .u64 n)) w := by
  generalize a.eval = ev at hp ⊢
  unfold execOp
  simp only [ho]
  simp [hp, go_sem]
  exact IntWalk.u64_in _ (by omega)
theorem enterrBytes (vs : Array Value) (w : World) : (callFunc 57 vs).run Tryd.prog w = .ok (.enter 57 vs) w := run_enter Tryd.func57 (by kernel_rfl) (by kernel_rfl) vs w
theorem enterrSmall (vs : Array Value) (w : World) : (callFunc 54 vs).run Tryd.prog w = .ok (.enter 54 vs) w := run_enter Tryd.func54 (by kernel_rfl) (by kernel_rfl) vs w
theorem enterSmall (vs : Array Value) (w : World) : (callFunc 43 vs).run Tryd.prog w = .ok (.enter 43 vs) w := run_enter Tryd.func43 (by kernel_rfl) (by kernel_rfl) vs w
theorem enterIsZero (vs : Array Value) (w : World) : (callFunc 62 vs).run Tryd.prog w = .ok (.enter 62 vs) w := run_enter Tryd.func62 (by kernel_rfl) (by kernel_rfl) vs w
theorem enterOdd (vs : Array Value) (w : World) : (callFunc 69 vs).run Tryd.prog w = .ok (.enter 69 vs) w := run_enter Tryd.func69 (by kernel_rfl) (by kernel_rfl) vs w
theorem enterCanonical (vs : Array Value) (w : World) : (callFunc 60 vs).run Tryd.prog w = .ok (.enter 60 vs) w := run_enter Tryd.func60 (by kernel_rfl) (by kernel_rfl) vs w
end Go.Proofs.YtdpafemcpbhlfaaDoor
