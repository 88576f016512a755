/-
  The walk of ScalarLeft.
-/
import Derived.Test.YtmfjlicchgacmaaDoorRed
import Derived.Test.YtmfjlicchgacmaaDoorRef4
namespace Go.Proofs.YtmfjlicchgacmaaDoor
open Go.RowKit

theorem addr_add0 (a : Addr) : a.add 0 = a := by unfold Addr.add; simp
theorem sp_add0 (sp : Option Addr) (c : Prop) [Decidable c] : (if c then sp else sp.map (fun a => a.add 0)) = sp := by
  split
  · rfl
  · cases sp with
    | none => rfl
    | some a => simp [addr_add0]
/-- The place of what is left of a slice behind k. -/
def spAt (sp : Option Addr) (cap k : Nat) : Option Addr := if cap = k then sp else sp.map (fun a => a.add k)
theorem run_sliceH {o : Oper} {a : Act} {p q : Operand} {sp : Option Addr} {n cap k : Nat} (ho : o.op = .slice 22 p none (some q) none) (hp : a.eval p = .slice sp n cap) (hq : a.eval q = .int .i64 k) (hk : k ≤ cap) (w : World) :
    (execOp a.eval o).run Tryd.prog w = .ok (.value (.slice sp k cap)) w := by
  have hu := Tryd.underlying22
  generalize a.eval = ev at hp hq ⊢
  unfold execOp
  simp only [ho]
  simp [hp, hq, go_sem, hk]
theorem run_sliceL {o : Oper} {a : Act} {p q : Operand} {sp : Option Addr} {n cap k : Nat} (ho : o.op = .slice 22 p (some q) none none) (hp : a.eval p = .slice sp n cap) (hq : a.eval q = .int .i64 k) (hk : k ≤ n) (w : World) :
    (execOp a.eval o).run Tryd.prog w = .ok (.value (.slice (spAt sp cap k) (n - k) (cap - k))) w := by
  have hu := Tryd.underlying22
  generalize a.eval = ev at hp hq ⊢
  unfold execOp spAt
  simp only [ho]
  simp [hp, hq, go_sem, hk]
theorem run_list2 {o : Oper} {a : Act} {p q : Operand} {s1 s2 : Option Addr} {n1 c1 n2 c2 : Nat} (ho : o.op = .buildSlice 38 2 #[(0, p), (1, q)]) (hp : a.eval p = .slice s1 n1 c1) (hq : a.eval q = .slice s2 n2 c2) (w : World) :
    (execOp a.eval o).run Tryd.prog w = .ok (.value (.slice (some ⟨w.heap.size, 0, none⟩) 2 2)) (w.alloc (.cells #[.slice s1 n1 c1, .slice s2 n2 c2] 22)) := by
  generalize a.eval = ev at hp hq ⊢
  unfold execOp
  simp only [ho]
  simp [hp, hq, go_sem]
theorem run_convS {o : Oper} {a : Act} {p : Operand} {v : Value} {s : ByteArray} (ho : o.op = .convert 22 9 p) (hp : a.eval p = v) (w : World) (h : (convert 22 9 v).run Tryd.prog w = .ok (.string s) w) :
    (execOp a.eval o).run Tryd.prog w = .ok (.value (.string s)) w := by
  subst hp
  unfold execOp
  simp only [ho, Sem.run_bind, h, Result.andThen_ok, Sem.run_pure]
theorem left_reduce (sp : Option Addr) (pb po cap m k bp : Nat) (lm : List Int) (w : World) (hT : Tab w) (hlm : lm.length = m) (hd : Digs 256 lm) (hm : m ≤ 200) (hk : k ≤ m) (hmc : m ≤ cap) (hsp : 0 < m → sp = some ⟨pb, po, none⟩)
    (hcs : ∀ j, j < m → w.cell? ⟨pb, po + j, none⟩ = some (.int .u8 (lm.getD j 0))) (hb : Blk w bp 22 #[.slice sp k cap, .slice (spAt sp cap k) (m - k) (cap - k)]) :
    Calls Tryd.prog 9 #[.slice (some ⟨bp, 0, none⟩) 2 2] w fun e w' => e = .returned (.agg (numsA .u8 (redL lm))) ∧ Upd (fun _ => False) w w' := by
  have l1 : (lm.take k).length = k := by rw [List.length_take]; omega
  have l2 : (lm.drop k).length = m - k := by rw [List.length_drop]; omega
  have h := reduce_any [⟨sp, pb, po, cap, lm.take k⟩, ⟨spAt sp cap k, pb, po + k, cap - k, lm.drop k⟩] bp 0 2 w hT (by simp) (fun i h => by
    have hi : i = 0 ∨ i = 1 := by simp at h; omega
    rcases hi with rfl | rfl
    · refine ⟨?_, fun hne => hsp ?_, fun j hj => ?_, fun x hx => hd x (List.mem_of_mem_take hx), ?_⟩
      · rw [hb.cell]
        show some _ = some (Part.val _)
        unfold Part.val
        simp only [List.getElem_cons_zero, l1]
        rfl
      · simp only [List.getElem_cons_zero] at hne
        have : 0 < (lm.take k).length := List.length_pos_iff.2 hne
        omega
      · simp only [List.getElem_cons_zero] at hj ⊢
        rw [hcs j (by omega), List.getD_eq_getElem?_getD, List.getD_eq_getElem?_getD, List.getElem?_take_of_lt (by omega)]
      · simp only [List.getElem_cons_zero, l1]; omega
    · refine ⟨?_, fun hne => ?_, fun j hj => ?_, fun x hx => hd x (List.mem_of_mem_drop hx), ?_⟩
      · rw [hb.cell]
        show some _ = some (Part.val _)
        unfold Part.val
        simp only [List.getElem_cons_succ, List.getElem_cons_zero, l2]
        rfl
      · simp only [List.getElem_cons_succ, List.getElem_cons_zero] at hne ⊢
        have : 0 < (lm.drop k).length := List.length_pos_iff.2 hne
        unfold spAt
        rw [if_neg (by omega), hsp (by omega)]
        simp only [Option.map_some]
        congr 1
        unfold Addr.add
        split
        · rename_i h0; subst h0; rfl
        · rfl
      · simp only [List.getElem_cons_succ, List.getElem_cons_zero] at hj ⊢
        rw [Nat.add_assoc, hcs (k + j) (by omega), List.getD_eq_getElem?_getD, List.getD_eq_getElem?_getD, List.getElem?_drop]
      · simp only [List.getElem_cons_succ, List.getElem_cons_zero, l2]; omega)
  have e : dig 256 (allOf [⟨sp, pb, po, cap, lm.take k⟩, ⟨spAt sp cap k, pb, po + k, cap - k, lm.drop k⟩]) = dig 256 lm := by
    show dig 256 (lm.take k ++ (lm.drop k ++ [])) = _
    rw [List.append_nil, List.take_append_drop]
  rw [e] at h
  exact h
theorem left_conv (sp : Option Addr) (pb po cap m : Nat) (lm : List Int) (w : World) (hlm : lm.length = m) (hsp : 0 < m → sp = some ⟨pb, po, none⟩) (hcs : ∀ j, j < m → w.cell? ⟨pb, po + j, none⟩ = some (.int .u8 (lm.getD j 0))) :
    (convert 22 9 (.slice sp m cap)).run Tryd.prog w = .ok (.string (strOfNums lm)) w := by
  by_cases h0 : 0 < m
  · rw [hsp h0]
    exact run_convert_bytes_arg w 22 5 Tryd.underlying22 Tryd.underlying5 pb po m cap lm hlm hcs 9 Tryd.underlying9
  · obtain rfl : m = 0 := by omega
    obtain rfl : lm = [] := List.eq_nil_of_length_eq_zero hlm
    rw [run_convert_bytes_string w 22 9 5 _ 0 cap Tryd.underlying22 Tryd.underlying5 Tryd.underlying9]
    cases sp <;> simp [Conv.bytesToString, loadCells]
    all_goals rfl
theorem enterReduce (vs : Array Value) (w : World) : (callFunc 9 vs).run Tryd.prog w = .ok (.enter 9 vs) w := run_enter Tryd.func9 (by kernel_rfl) (by kernel_rfl) vs w
theorem enterrReduce (vs : Array Value) (w : World) : (callFunc 10 vs).run Tryd.prog w = .ok (.enter 10 vs) w := run_enter Tryd.func10 (by kernel_rfl) (by kernel_rfl) vs w
set_option maxRecDepth 100000 in
set_option maxHeartbeats 1600000 in
theorem scalarLeft_any (sp : Option Addr) (pb po n cap : Nat) (l : List Int) (at' : Int) (w : World) (hT : Tab w) (hl : l.length = n) (hd : Digs 256 l) (hcap : n ≤ cap) (hc47 : cap ≤ 140737488355328) (hsp : 0 < n → sp = some ⟨pb, po, none⟩) (hcs : ∀ j, j < n → w.cell? ⟨pb, po + j, none⟩ = some (.int .u8 (l.getD j 0))) :
    Calls Tryd.prog 3 #[.slice sp n cap, .int .i64 at'] w fun e w' => e = .returned (.bool true) ∧ Upd (fun _ => False) w w' := by
  have HT := Lib.hid hT
  have Hl := Lib.hid hl
  have Hd := Lib.hid hd
  have Hsp := Lib.hid hsp
  have Hcs := Lib.hid hcs
  clear hT hl hd hsp hcs
  go_enter Tryd.func3, Tryd.ntmps3
  go_wp2_with fail
  refine (counts_any _ HT.out).mono ?_
  rintro e w1 ⟨rfl, hu⟩
  have Hu1 := Lib.hid hu
  clear hu
  by_cases h200 : 200 < n
  · by_cases ha : 0 ≤ at' ∧ at' ≤ (200 : Int)
    · obtain ⟨k, rfl⟩ := Int.eq_ofNat_of_zero_le ha.1
      have hk : k ≤ 200 := by omega
      have d1 : decide ((k : Int) < 0) = false := decide_eq_false (by omega)
      have d2 : decide ((200 : Int) < (k : Int)) = false := decide_eq_false (by omega)
      clear ha
      have HX : Hid (∃ lm : List Int, lm.length = 200 ∧ Digs 256 lm ∧ ∀ j, j < 200 → w1.cell? ⟨pb, po + j, none⟩ = some (.int .u8 (lm.getD j 0))) := ⟨l.take 200, by rw [List.length_take, Hl.out]; omega, fun x hx => Hd.out x (List.mem_of_mem_take hx), fun j hj => by rw [List.getD_eq_getElem?_getD, List.getElem?_take_of_lt hj, ← List.getD_eq_getElem?_getD]; exact Hu1.out.cell (Hcs.out j (by omega)) (fun h => h)⟩
      obtain ⟨lm, hlm, hdm, hcm⟩ := HX.out
      have Hlm := Lib.hid hlm
      have Hdm := Lib.hid hdm
      have Hcm : Hid (∀ j, j < 200 → w1.drew.cell? ⟨pb, po + j, none⟩ = some (.int .u8 (lm.getD j 0))) := hcm
      have Hspm : Hid (0 < 200 → sp = some ⟨pb, po, none⟩) := fun h => Hsp.out (by omega)
      have Hm2 : Hid (200 ≤ 200) := by show _ ≤ _; omega
      have Hkm : Hid (k ≤ 200) := by show _ ≤ _; omega
      have Hkc : Hid (k ≤ cap) := by show _ ≤ _; omega
      have Hmc : Hid (200 ≤ cap) := by show _ ≤ _; omega
      clear HX hlm hdm hcm Hsp Hcs Hl Hd
      go_wp2
      refine wp_region_slots #[true, true, true, true, true, true, true, true, true, true, true, true, true] ([.val (.slice sp 200 cap), .val (.int .i64 (k : Nat)), .val (.slice sp k cap), .val (.slice sp 200 cap), .val (.int .i64 (k : Nat)), .val (.slice (spAt sp cap k) (200 - k) (cap - k)), .blk (fun b => .slice (some ⟨b, 0, none⟩) 2 2) 22 #[.slice sp k cap, .slice (spAt sp cap k) (200 - k) (cap - k)], .val (.agg (numsA .u8 (redL lm))), .val (.slice sp 200 cap), .val (.string (strOfNums lm)), .val (.agg (numsA .u8 (redL lm))), .val (.bool true), .val (.bool true)] : List SP) (by kernel_rfl) (by kernel_rfl) (by kernel_rfl) ?_ ?_
      · intro i o listed an wn ho hls hst hun hdep hI K' hK'
        have hi : i < 13 := by
          have := idx_lt ho; simp only [List.size_toArray, List.length_cons, List.length_nil] at this; exact this
        have hcase : i = 0 ∨ i = 1 ∨ i = 2 ∨ i = 3 ∨ i = 4 ∨ i = 5 ∨ i = 6 ∨ i = 7 ∨ i = 8 ∨ i = 9 ∨ i = 10 ∨ i = 11 ∨ i = 12 := by clear hls hst hun hdep hI hK' ho; omega
        rcases hcase with rfl | rfl | rfl | rfl | rfl | rfl | rfl | rfl | rfl | rfl | rfl | rfl | rfl
        · obtain rfl := Option.some.inj ho
          have hvp : an.eval (.tmp 0) = .slice sp 200 cap := hI.old (t := 0) (by kernel_rfl) rfl
          exact hI.stepPure (by kernel_rfl) hls rfl rfl rfl (.slice sp 200 cap) (by simp [execOp, hvp]) rfl rfl hK'
        · obtain rfl := Option.some.inj ho
          have hvp : an.eval (.tmp 1) = .int .i64 (k : Nat) := hI.old (t := 1) (by kernel_rfl) rfl
          exact hI.stepPure (by kernel_rfl) hls rfl rfl rfl (.int .i64 (k : Nat)) (by simp [execOp, hvp]) rfl rfl hK'
        · obtain rfl := Option.some.inj ho
          obtain ⟨vp, hvp, hsp⟩ := hI.have 0 _ 20 (.val (.slice sp 200 cap)) rfl rfl rfl (hdep ⟨0, .data⟩ (by simp) rfl)
          obtain rfl := hsp
          obtain ⟨vq, hvq, hsq⟩ := hI.have 1 _ 21 (.val (.int .i64 (k : Nat))) rfl rfl rfl (hdep ⟨1, .data⟩ (by simp) rfl)
          obtain rfl := hsq
          exact hI.stepPure (by kernel_rfl) hls rfl rfl rfl (.slice sp k cap) (run_sliceH rfl (eval_of hvp) (eval_of hvq) Hkc.out wn) rfl rfl hK'
        · obtain rfl := Option.some.inj ho
          have hvp : an.eval (.tmp 0) = .slice sp 200 cap := hI.old (t := 0) (by kernel_rfl) rfl
          exact hI.stepPure (by kernel_rfl) hls rfl rfl rfl (.slice sp 200 cap) (by simp [execOp, hvp]) rfl rfl hK'
        · obtain rfl := Option.some.inj ho
          have hvp : an.eval (.tmp 1) = .int .i64 (k : Nat) := hI.old (t := 1) (by kernel_rfl) rfl
          exact hI.stepPure (by kernel_rfl) hls rfl rfl rfl (.int .i64 (k : Nat)) (by simp [execOp, hvp]) rfl rfl hK'
        · obtain rfl := Option.some.inj ho
          obtain ⟨vp, hvp, hsp⟩ := hI.have 3 _ 23 (.val (.slice sp 200 cap)) rfl rfl rfl (hdep ⟨3, .data⟩ (by simp) rfl)
          obtain rfl := hsp
          obtain ⟨vq, hvq, hsq⟩ := hI.have 4 _ 24 (.val (.int .i64 (k : Nat))) rfl rfl rfl (hdep ⟨4, .data⟩ (by simp) rfl)
          obtain rfl := hsq
          exact hI.stepPure (by kernel_rfl) hls rfl rfl rfl (.slice (spAt sp cap k) (200 - k) (cap - k)) (run_sliceL rfl (eval_of hvp) (eval_of hvq) Hkm.out wn) rfl rfl hK'
        · obtain rfl := Option.some.inj ho
          obtain ⟨vp, hvp, hsp⟩ := hI.have 2 _ 22 (.val (.slice sp k cap)) rfl rfl rfl (hdep ⟨2, .data⟩ (by simp) rfl)
          obtain rfl := hsp
          obtain ⟨vq, hvq, hsq⟩ := hI.have 5 _ 25 (.val (.slice (spAt sp cap k) (200 - k) (cap - k))) rfl rfl rfl (hdep ⟨5, .data⟩ (by simp) rfl)
          obtain rfl := hsq
          exact hI.stepBlk (by kernel_rfl) hls (Nat.le_refl _) rfl rfl rfl _ _ _ (run_list2 rfl (eval_of hvp) (eval_of hvq) wn) rfl rfl hK'
        · obtain rfl := Option.some.inj ho
          obtain ⟨vp, hvp, bp, rfl, hnp, hbp⟩ := hI.have 6 _ 26 (.blk (fun b => .slice (some ⟨b, 0, none⟩) 2 2) 22 #[.slice sp k cap, .slice (spAt sp cap k) (200 - k) (cap - k)]) rfl rfl rfl (hdep ⟨6, .data⟩ (by simp) rfl)
          exact hI.stepCall (by kernel_rfl) hls rfl rfl rfl 9 #[.tmp 26] _ rfl #[.slice (some ⟨bp, 0, none⟩) 2 2] (by simp [eval_of hvp]) enterReduce (.val (.agg (numsA .u8 (redL lm)))) rfl rfl ((left_reduce sp pb po cap 200 k bp lm _ (HT.out.upd (Hu1.out.drew.trans hI.upd) (fun h => h)) Hlm.out Hdm.out Hm2.out Hkm.out Hmc.out Hspm.out (fun j hj => hI.upd.cell (Hcm.out j hj) (fun h => h)) hbp).mono fun _ _ h => ⟨_, h.1, rfl, h.2⟩) hK'
        · obtain rfl := Option.some.inj ho
          have hvp : an.eval (.tmp 0) = .slice sp 200 cap := hI.old (t := 0) (by kernel_rfl) rfl
          exact hI.stepPure (by kernel_rfl) hls rfl rfl rfl (.slice sp 200 cap) (by simp [execOp, hvp]) rfl rfl hK'
        · obtain rfl := Option.some.inj ho
          obtain ⟨vp, hvp, hsp⟩ := hI.have 8 _ 28 (.val (.slice sp 200 cap)) rfl rfl rfl (hdep ⟨8, .data⟩ (by simp) rfl)
          obtain rfl := hsp
          exact hI.stepRead (by kernel_rfl) hls rfl rfl rfl (.string (strOfNums lm)) (fun hu => run_convS rfl (eval_of hvp) wn (left_conv sp pb po cap 200 lm wn Hlm.out Hspm.out (fun j hj => hu.cell (Hcm.out j hj) (fun h => h)))) rfl rfl hK'
        · obtain rfl := Option.some.inj ho
          obtain ⟨vp, hvp, hsp⟩ := hI.have 9 _ 29 (.val (.string (strOfNums lm))) rfl rfl rfl (hdep ⟨9, .data⟩ (by simp) rfl)
          obtain rfl := hsp
          exact hI.stepCall (by kernel_rfl) hls rfl rfl rfl 10 #[.tmp 29] _ rfl #[.string (strOfNums lm)] (by simp [eval_of hvp]) enterrReduce (.val (.agg (numsA .u8 (redL lm)))) rfl rfl ((rReduce_any lm 200 _ Hlm.out (by have := Hm2.out; omega) Hdm.out).mono fun _ _ h => ⟨_, h.1, rfl, h.2⟩) hK'
        · obtain rfl := Option.some.inj ho
          obtain ⟨vp, hvp, hsp⟩ := hI.have 7 _ 27 (.val (.agg (numsA .u8 (redL lm)))) rfl rfl rfl (hdep ⟨7, .data⟩ (by simp) rfl)
          obtain rfl := hsp
          obtain ⟨vq, hvq, hsq⟩ := hI.have 10 _ 30 (.val (.agg (numsA .u8 (redL lm)))) rfl rfl rfl (hdep ⟨10, .data⟩ (by simp) rfl)
          obtain rfl := hsq
          exact hI.stepPure (by kernel_rfl) hls rfl rfl rfl (.bool true) (run_eqlKey rfl (eval_of hvp) (eval_of hvq) (redL_length _) (redL_length _) (decide_eq_true rfl) wn) rfl rfl hK'
        · obtain rfl := Option.some.inj ho
          obtain ⟨vp, hvp, hsp⟩ := hI.have 11 _ 31 (.val (.bool true)) rfl rfl rfl (hdep ⟨11, .data⟩ (by simp) rfl)
          obtain rfl := hsp
          exact hI.stepPure (by kernel_rfl) hls rfl rfl rfl (.bool true) (by simp [execOp, (eval_of hvp)]) rfl rfl hK'
      · intro fuel an wn hf hI
        obtain ⟨v0, hv0, hs0⟩ := hI.have 0 _ 20 (.val (.slice sp 200 cap)) rfl rfl rfl rfl
        obtain rfl := hs0
        obtain ⟨v1, hv1, hs1⟩ := hI.have 1 _ 21 (.val (.int .i64 (k : Nat))) rfl rfl rfl rfl
        obtain rfl := hs1
        obtain ⟨v2, hv2, hs2⟩ := hI.have 2 _ 22 (.val (.slice sp k cap)) rfl rfl rfl rfl
        obtain rfl := hs2
        obtain ⟨v3, hv3, hs3⟩ := hI.have 3 _ 23 (.val (.slice sp 200 cap)) rfl rfl rfl rfl
        obtain rfl := hs3
        obtain ⟨v4, hv4, hs4⟩ := hI.have 4 _ 24 (.val (.int .i64 (k : Nat))) rfl rfl rfl rfl
        obtain rfl := hs4
        obtain ⟨v5, hv5, hs5⟩ := hI.have 5 _ 25 (.val (.slice (spAt sp cap k) (200 - k) (cap - k))) rfl rfl rfl rfl
        obtain rfl := hs5
        obtain ⟨v6, hv6, b6, rfl, hn6, hb6⟩ := hI.have 6 _ 26 (.blk (fun b => .slice (some ⟨b, 0, none⟩) 2 2) 22 #[.slice sp k cap, .slice (spAt sp cap k) (200 - k) (cap - k)]) rfl rfl rfl rfl
        obtain ⟨v7, hv7, hs7⟩ := hI.have 7 _ 27 (.val (.agg (numsA .u8 (redL lm)))) rfl rfl rfl rfl
        obtain rfl := hs7
        obtain ⟨v8, hv8, hs8⟩ := hI.have 8 _ 28 (.val (.slice sp 200 cap)) rfl rfl rfl rfl
        obtain rfl := hs8
        obtain ⟨v9, hv9, hs9⟩ := hI.have 9 _ 29 (.val (.string (strOfNums lm))) rfl rfl rfl rfl
        obtain rfl := hs9
        obtain ⟨v10, hv10, hs10⟩ := hI.have 10 _ 30 (.val (.agg (numsA .u8 (redL lm)))) rfl rfl rfl rfl
        obtain rfl := hs10
        obtain ⟨v11, hv11, hs11⟩ := hI.have 11 _ 31 (.val (.bool true)) rfl rfl rfl rfl
        obtain rfl := hs11
        obtain ⟨v12, hv12, hs12⟩ := hI.have 12 _ 4 (.val (.bool true)) rfl rfl rfl rfl
        obtain rfl := hs12
        have hupd := hI.upd
        have ha := hI.act [(20, .slice sp 200 cap), (21, .int .i64 (k : Nat)), (22, .slice sp k cap), (23, .slice sp 200 cap), (24, .int .i64 (k : Nat)), (25, .slice (spAt sp cap k) (200 - k) (cap - k)), (26, .slice (some ⟨b6, 0, none⟩) 2 2), (27, .agg (numsA .u8 (redL lm))), (28, .slice sp 200 cap), (29, .string (strOfNums lm)), (30, .agg (numsA .u8 (redL lm))), (31, .bool true), (4, .bool true)] (by simp [hv0, hv1, hv2, hv3, hv4, hv5, hv6, hv7, hv8, hv9, hv10, hv11, hv12]) (by kernel_rfl)
        clear hI hv0 hv1 hv2 hv3 hv4 hv5 hv6 hv7 hv8 hv9 hv10 hv11 hv12
        subst ha
        simp only [List.foldl_cons, List.foldl_nil, List.setIfInBounds_toArray, List.set_cons_zero, List.set_cons_succ]
        refine wpAny_done (by kernel_rfl) ?_ _
        go_wp2
        go_ret
        exact ⟨rfl, Hu1.out.drew.trans hupd⟩
    · by_cases hb : at' < 0
      · have d1 : decide (at' < 0) = true := decide_eq_true hb
        clear ha
        have HX : Hid (∃ lm : List Int, lm.length = 200 ∧ Digs 256 lm ∧ ∀ j, j < 200 → w1.cell? ⟨pb, po + j, none⟩ = some (.int .u8 (lm.getD j 0))) := ⟨l.take 200, by rw [List.length_take, Hl.out]; omega, fun x hx => Hd.out x (List.mem_of_mem_take hx), fun j hj => by rw [List.getD_eq_getElem?_getD, List.getElem?_take_of_lt hj, ← List.getD_eq_getElem?_getD]; exact Hu1.out.cell (Hcs.out j (by omega)) (fun h => h)⟩
        obtain ⟨lm, hlm, hdm, hcm⟩ := HX.out
        have Hlm := Lib.hid hlm
        have Hdm := Lib.hid hdm
        have Hcm : Hid (∀ j, j < 200 → w1.drew.cell? ⟨pb, po + j, none⟩ = some (.int .u8 (lm.getD j 0))) := hcm
        have Hspm : Hid (0 < 200 → sp = some ⟨pb, po, none⟩) := fun h => Hsp.out (by omega)
        have Hm2 : Hid (200 ≤ 200) := by show _ ≤ _; omega
        have Hkm : Hid (0 ≤ 200) := by show _ ≤ _; omega
        have Hkc : Hid (0 ≤ cap) := by show _ ≤ _; omega
        have Hmc : Hid (200 ≤ cap) := by show _ ≤ _; omega
        clear HX hlm hdm hcm Hsp Hcs Hl Hd
        go_wp2
        refine wp_region_slots #[true, true, true, true, true, true, true, true, true, true, true, true, true] ([.val (.slice sp 200 cap), .val (.int .i64 0), .val (.slice sp 0 cap), .val (.slice sp 200 cap), .val (.int .i64 0), .val (.slice (spAt sp cap 0) (200 - 0) (cap - 0)), .blk (fun b => .slice (some ⟨b, 0, none⟩) 2 2) 22 #[.slice sp 0 cap, .slice (spAt sp cap 0) (200 - 0) (cap - 0)], .val (.agg (numsA .u8 (redL lm))), .val (.slice sp 200 cap), .val (.string (strOfNums lm)), .val (.agg (numsA .u8 (redL lm))), .val (.bool true), .val (.bool true)] : List SP) (by kernel_rfl) (by kernel_rfl) (by kernel_rfl) ?_ ?_
        · intro i o listed an wn ho hls hst hun hdep hI K' hK'
          have hi : i < 13 := by
            have := idx_lt ho; simp only [List.size_toArray, List.length_cons, List.length_nil] at this; exact this
          have hcase : i = 0 ∨ i = 1 ∨ i = 2 ∨ i = 3 ∨ i = 4 ∨ i = 5 ∨ i = 6 ∨ i = 7 ∨ i = 8 ∨ i = 9 ∨ i = 10 ∨ i = 11 ∨ i = 12 := by clear hls hst hun hdep hI hK' ho; omega
          rcases hcase with rfl | rfl | rfl | rfl | rfl | rfl | rfl | rfl | rfl | rfl | rfl | rfl | rfl
          · obtain rfl := Option.some.inj ho
            have hvp : an.eval (.tmp 0) = .slice sp 200 cap := hI.old (t := 0) (by kernel_rfl) rfl
            exact hI.stepPure (by kernel_rfl) hls rfl rfl rfl (.slice sp 200 cap) (by simp [execOp, hvp]) rfl rfl hK'
          · obtain rfl := Option.some.inj ho
            have hvp : an.eval (.tmp 1) = .int .i64 0 := hI.old (t := 1) (by kernel_rfl) rfl
            exact hI.stepPure (by kernel_rfl) hls rfl rfl rfl (.int .i64 0) (by simp [execOp, hvp]) rfl rfl hK'
          · obtain rfl := Option.some.inj ho
            obtain ⟨vp, hvp, hsp⟩ := hI.have 0 _ 20 (.val (.slice sp 200 cap)) rfl rfl rfl (hdep ⟨0, .data⟩ (by simp) rfl)
            obtain rfl := hsp
            obtain ⟨vq, hvq, hsq⟩ := hI.have 1 _ 21 (.val (.int .i64 0)) rfl rfl rfl (hdep ⟨1, .data⟩ (by simp) rfl)
            obtain rfl := hsq
            exact hI.stepPure (by kernel_rfl) hls rfl rfl rfl (.slice sp 0 cap) (run_sliceH rfl (eval_of hvp) (eval_of hvq) Hkc.out wn) rfl rfl hK'
          · obtain rfl := Option.some.inj ho
            have hvp : an.eval (.tmp 0) = .slice sp 200 cap := hI.old (t := 0) (by kernel_rfl) rfl
            exact hI.stepPure (by kernel_rfl) hls rfl rfl rfl (.slice sp 200 cap) (by simp [execOp, hvp]) rfl rfl hK'
          · obtain rfl := Option.some.inj ho
            have hvp : an.eval (.tmp 1) = .int .i64 0 := hI.old (t := 1) (by kernel_rfl) rfl
            exact hI.stepPure (by kernel_rfl) hls rfl rfl rfl (.int .i64 0) (by simp [execOp, hvp]) rfl rfl hK'
          · obtain rfl := Option.some.inj ho
            obtain ⟨vp, hvp, hsp⟩ := hI.have 3 _ 23 (.val (.slice sp 200 cap)) rfl rfl rfl (hdep ⟨3, .data⟩ (by simp) rfl)
            obtain rfl := hsp
            obtain ⟨vq, hvq, hsq⟩ := hI.have 4 _ 24 (.val (.int .i64 0)) rfl rfl rfl (hdep ⟨4, .data⟩ (by simp) rfl)
            obtain rfl := hsq
            exact hI.stepPure (by kernel_rfl) hls rfl rfl rfl (.slice (spAt sp cap 0) (200 - 0) (cap - 0)) (run_sliceL rfl (eval_of hvp) (eval_of hvq) Hkm.out wn) rfl rfl hK'
          · obtain rfl := Option.some.inj ho
            obtain ⟨vp, hvp, hsp⟩ := hI.have 2 _ 22 (.val (.slice sp 0 cap)) rfl rfl rfl (hdep ⟨2, .data⟩ (by simp) rfl)
            obtain rfl := hsp
            obtain ⟨vq, hvq, hsq⟩ := hI.have 5 _ 25 (.val (.slice (spAt sp cap 0) (200 - 0) (cap - 0))) rfl rfl rfl (hdep ⟨5, .data⟩ (by simp) rfl)
            obtain rfl := hsq
            exact hI.stepBlk (by kernel_rfl) hls (Nat.le_refl _) rfl rfl rfl _ _ _ (run_list2 rfl (eval_of hvp) (eval_of hvq) wn) rfl rfl hK'
          · obtain rfl := Option.some.inj ho
            obtain ⟨vp, hvp, bp, rfl, hnp, hbp⟩ := hI.have 6 _ 26 (.blk (fun b => .slice (some ⟨b, 0, none⟩) 2 2) 22 #[.slice sp 0 cap, .slice (spAt sp cap 0) (200 - 0) (cap - 0)]) rfl rfl rfl (hdep ⟨6, .data⟩ (by simp) rfl)
            exact hI.stepCall (by kernel_rfl) hls rfl rfl rfl 9 #[.tmp 26] _ rfl #[.slice (some ⟨bp, 0, none⟩) 2 2] (by simp [eval_of hvp]) enterReduce (.val (.agg (numsA .u8 (redL lm)))) rfl rfl ((left_reduce sp pb po cap 200 0 bp lm _ (HT.out.upd (Hu1.out.drew.trans hI.upd) (fun h => h)) Hlm.out Hdm.out Hm2.out Hkm.out Hmc.out Hspm.out (fun j hj => hI.upd.cell (Hcm.out j hj) (fun h => h)) hbp).mono fun _ _ h => ⟨_, h.1, rfl, h.2⟩) hK'
          · obtain rfl := Option.some.inj ho
            have hvp : an.eval (.tmp 0) = .slice sp 200 cap := hI.old (t := 0) (by kernel_rfl) rfl
            exact hI.stepPure (by kernel_rfl) hls rfl rfl rfl (.slice sp 200 cap) (by simp [execOp, hvp]) rfl rfl hK'
          · obtain rfl := Option.some.inj ho
            obtain ⟨vp, hvp, hsp⟩ := hI.have 8 _ 28 (.val (.slice sp 200 cap)) rfl rfl rfl (hdep ⟨8, .data⟩ (by simp) rfl)
            obtain rfl := hsp
            exact hI.stepRead (by kernel_rfl) hls rfl rfl rfl (.string (strOfNums lm)) (fun hu => run_convS rfl (eval_of hvp) wn (left_conv sp pb po cap 200 lm wn Hlm.out Hspm.out (fun j hj => hu.cell (Hcm.out j hj) (fun h => h)))) rfl rfl hK'
          · obtain rfl := Option.some.inj ho
            obtain ⟨vp, hvp, hsp⟩ := hI.have 9 _ 29 (.val (.string (strOfNums lm))) rfl rfl rfl (hdep ⟨9, .data⟩ (by simp) rfl)
            obtain rfl := hsp
            exact hI.stepCall (by kernel_rfl) hls rfl rfl rfl 10 #[.tmp 29] _ rfl #[.string (strOfNums lm)] (by simp [eval_of hvp]) enterrReduce (.val (.agg (numsA .u8 (redL lm)))) rfl rfl ((rReduce_any lm 200 _ Hlm.out (by have := Hm2.out; omega) Hdm.out).mono fun _ _ h => ⟨_, h.1, rfl, h.2⟩) hK'
          · obtain rfl := Option.some.inj ho
            obtain ⟨vp, hvp, hsp⟩ := hI.have 7 _ 27 (.val (.agg (numsA .u8 (redL lm)))) rfl rfl rfl (hdep ⟨7, .data⟩ (by simp) rfl)
            obtain rfl := hsp
            obtain ⟨vq, hvq, hsq⟩ := hI.have 10 _ 30 (.val (.agg (numsA .u8 (redL lm)))) rfl rfl rfl (hdep ⟨10, .data⟩ (by simp) rfl)
            obtain rfl := hsq
            exact hI.stepPure (by kernel_rfl) hls rfl rfl rfl (.bool true) (run_eqlKey rfl (eval_of hvp) (eval_of hvq) (redL_length _) (redL_length _) (decide_eq_true rfl) wn) rfl rfl hK'
          · obtain rfl := Option.some.inj ho
            obtain ⟨vp, hvp, hsp⟩ := hI.have 11 _ 31 (.val (.bool true)) rfl rfl rfl (hdep ⟨11, .data⟩ (by simp) rfl)
            obtain rfl := hsp
            exact hI.stepPure (by kernel_rfl) hls rfl rfl rfl (.bool true) (by simp [execOp, (eval_of hvp)]) rfl rfl hK'
        · intro fuel an wn hf hI
          obtain ⟨v0, hv0, hs0⟩ := hI.have 0 _ 20 (.val (.slice sp 200 cap)) rfl rfl rfl rfl
          obtain rfl := hs0
          obtain ⟨v1, hv1, hs1⟩ := hI.have 1 _ 21 (.val (.int .i64 0)) rfl rfl rfl rfl
          obtain rfl := hs1
          obtain ⟨v2, hv2, hs2⟩ := hI.have 2 _ 22 (.val (.slice sp 0 cap)) rfl rfl rfl rfl
          obtain rfl := hs2
          obtain ⟨v3, hv3, hs3⟩ := hI.have 3 _ 23 (.val (.slice sp 200 cap)) rfl rfl rfl rfl
          obtain rfl := hs3
          obtain ⟨v4, hv4, hs4⟩ := hI.have 4 _ 24 (.val (.int .i64 0)) rfl rfl rfl rfl
          obtain rfl := hs4
          obtain ⟨v5, hv5, hs5⟩ := hI.have 5 _ 25 (.val (.slice (spAt sp cap 0) (200 - 0) (cap - 0))) rfl rfl rfl rfl
          obtain rfl := hs5
          obtain ⟨v6, hv6, b6, rfl, hn6, hb6⟩ := hI.have 6 _ 26 (.blk (fun b => .slice (some ⟨b, 0, none⟩) 2 2) 22 #[.slice sp 0 cap, .slice (spAt sp cap 0) (200 - 0) (cap - 0)]) rfl rfl rfl rfl
          obtain ⟨v7, hv7, hs7⟩ := hI.have 7 _ 27 (.val (.agg (numsA .u8 (redL lm)))) rfl rfl rfl rfl
          obtain rfl := hs7
          obtain ⟨v8, hv8, hs8⟩ := hI.have 8 _ 28 (.val (.slice sp 200 cap)) rfl rfl rfl rfl
          obtain rfl := hs8
          obtain ⟨v9, hv9, hs9⟩ := hI.have 9 _ 29 (.val (.string (strOfNums lm))) rfl rfl rfl rfl
          obtain rfl := hs9
          obtain ⟨v10, hv10, hs10⟩ := hI.have 10 _ 30 (.val (.agg (numsA .u8 (redL lm)))) rfl rfl rfl rfl
          obtain rfl := hs10
          obtain ⟨v11, hv11, hs11⟩ := hI.have 11 _ 31 (.val (.bool true)) rfl rfl rfl rfl
          obtain rfl := hs11
          obtain ⟨v12, hv12, hs12⟩ := hI.have 12 _ 4 (.val (.bool true)) rfl rfl rfl rfl
          obtain rfl := hs12
          have hupd := hI.upd
          have ha := hI.act [(20, .slice sp 200 cap), (21, .int .i64 0), (22, .slice sp 0 cap), (23, .slice sp 200 cap), (24, .int .i64 0), (25, .slice (spAt sp cap 0) (200 - 0) (cap - 0)), (26, .slice (some ⟨b6, 0, none⟩) 2 2), (27, .agg (numsA .u8 (redL lm))), (28, .slice sp 200 cap), (29, .string (strOfNums lm)), (30, .agg (numsA .u8 (redL lm))), (31, .bool true), (4, .bool true)] (by simp [hv0, hv1, hv2, hv3, hv4, hv5, hv6, hv7, hv8, hv9, hv10, hv11, hv12]) (by kernel_rfl)
          clear hI hv0 hv1 hv2 hv3 hv4 hv5 hv6 hv7 hv8 hv9 hv10 hv11 hv12
          subst ha
          simp only [List.foldl_cons, List.foldl_nil, List.setIfInBounds_toArray, List.set_cons_zero, List.set_cons_succ]
          refine wpAny_done (by kernel_rfl) ?_ _
          go_wp2
          go_ret
          exact ⟨rfl, Hu1.out.drew.trans hupd⟩
      · have d1 : decide (at' < 0) = false := decide_eq_false hb
        have d2 : decide ((200 : Int) < at') = true := decide_eq_true (by omega)
        clear ha
        have HX : Hid (∃ lm : List Int, lm.length = 200 ∧ Digs 256 lm ∧ ∀ j, j < 200 → w1.cell? ⟨pb, po + j, none⟩ = some (.int .u8 (lm.getD j 0))) := ⟨l.take 200, by rw [List.length_take, Hl.out]; omega, fun x hx => Hd.out x (List.mem_of_mem_take hx), fun j hj => by rw [List.getD_eq_getElem?_getD, List.getElem?_take_of_lt hj, ← List.getD_eq_getElem?_getD]; exact Hu1.out.cell (Hcs.out j (by omega)) (fun h => h)⟩
        obtain ⟨lm, hlm, hdm, hcm⟩ := HX.out
        have Hlm := Lib.hid hlm
        have Hdm := Lib.hid hdm
        have Hcm : Hid (∀ j, j < 200 → w1.drew.cell? ⟨pb, po + j, none⟩ = some (.int .u8 (lm.getD j 0))) := hcm
        have Hspm : Hid (0 < 200 → sp = some ⟨pb, po, none⟩) := fun h => Hsp.out (by omega)
        have Hm2 : Hid (200 ≤ 200) := by show _ ≤ _; omega
        have Hkm : Hid (0 ≤ 200) := by show _ ≤ _; omega
        have Hkc : Hid (0 ≤ cap) := by show _ ≤ _; omega
        have Hmc : Hid (200 ≤ cap) := by show _ ≤ _; omega
        clear HX hlm hdm hcm Hsp Hcs Hl Hd
        go_wp2
        refine wp_region_slots #[true, true, true, true, true, true, true, true, true, true, true, true, true] ([.val (.slice sp 200 cap), .val (.int .i64 0), .val (.slice sp 0 cap), .val (.slice sp 200 cap), .val (.int .i64 0), .val (.slice (spAt sp cap 0) (200 - 0) (cap - 0)), .blk (fun b => .slice (some ⟨b, 0, none⟩) 2 2) 22 #[.slice sp 0 cap, .slice (spAt sp cap 0) (200 - 0) (cap - 0)], .val (.agg (numsA .u8 (redL lm))), .val (.slice sp 200 cap), .val (.string (strOfNums lm)), .val (.agg (numsA .u8 (redL lm))), .val (.bool true), .val (.bool true)] : List SP) (by kernel_rfl) (by kernel_rfl) (by kernel_rfl) ?_ ?_
        · intro i o listed an wn ho hls hst hun hdep hI K' hK'
          have hi : i < 13 := by
            have := idx_lt ho; simp only [List.size_toArray, List.length_cons, List.length_nil] at this; exact this
          have hcase : i = 0 ∨ i = 1 ∨ i = 2 ∨ i = 3 ∨ i = 4 ∨ i = 5 ∨ i = 6 ∨ i = 7 ∨ i = 8 ∨ i = 9 ∨ i = 10 ∨ i = 11 ∨ i = 12 := by clear hls hst hun hdep hI hK' ho; omega
          rcases hcase with rfl | rfl | rfl | rfl | rfl | rfl | rfl | rfl | rfl | rfl | rfl | rfl | rfl
          · obtain rfl := Option.some.inj ho
            have hvp : an.eval (.tmp 0) = .slice sp 200 cap := hI.old (t := 0) (by kernel_rfl) rfl
            exact hI.stepPure (by kernel_rfl) hls rfl rfl rfl (.slice sp 200 cap) (by simp [execOp, hvp]) rfl rfl hK'
          · obtain rfl := Option.some.inj ho
            have hvp : an.eval (.tmp 1) = .int .i64 0 := hI.old (t := 1) (by kernel_rfl) rfl
            exact hI.stepPure (by kernel_rfl) hls rfl rfl rfl (.int .i64 0) (by simp [execOp, hvp]) rfl rfl hK'
          · obtain rfl := Option.some.inj ho
            obtain ⟨vp, hvp, hsp⟩ := hI.have 0 _ 20 (.val (.slice sp 200 cap)) rfl rfl rfl (hdep ⟨0, .data⟩ (by simp) rfl)
            obtain rfl := hsp
            obtain ⟨vq, hvq, hsq⟩ := hI.have 1 _ 21 (.val (.int .i64 0)) rfl rfl rfl (hdep ⟨1, .data⟩ (by simp) rfl)
            obtain rfl := hsq
            exact hI.stepPure (by kernel_rfl) hls rfl rfl rfl (.slice sp 0 cap) (run_sliceH rfl (eval_of hvp) (eval_of hvq) Hkc.out wn) rfl rfl hK'
          · obtain rfl := Option.some.inj ho
            have hvp : an.eval (.tmp 0) = .slice sp 200 cap := hI.old (t := 0) (by kernel_rfl) rfl
            exact hI.stepPure (by kernel_rfl) hls rfl rfl rfl (.slice sp 200 cap) (by simp [execOp, hvp]) rfl rfl hK'
          · obtain rfl := Option.some.inj ho
            have hvp : an.eval (.tmp 1) = .int .i64 0 := hI.old (t := 1) (by kernel_rfl) rfl
            exact hI.stepPure (by kernel_rfl) hls rfl rfl rfl (.int .i64 0) (by simp [execOp, hvp]) rfl rfl hK'
          · obtain rfl := Option.some.inj ho
            obtain ⟨vp, hvp, hsp⟩ := hI.have 3 _ 23 (.val (.slice sp 200 cap)) rfl rfl rfl (hdep ⟨3, .data⟩ (by simp) rfl)
            obtain rfl := hsp
            obtain ⟨vq, hvq, hsq⟩ := hI.have 4 _ 24 (.val (.int .i64 0)) rfl rfl rfl (hdep ⟨4, .data⟩ (by simp) rfl)
            obtain rfl := hsq
            exact hI.stepPure (by kernel_rfl) hls rfl rfl rfl (.slice (spAt sp cap 0) (200 - 0) (cap - 0)) (run_sliceL rfl (eval_of hvp) (eval_of hvq) Hkm.out wn) rfl rfl hK'
          · obtain rfl := Option.some.inj ho
            obtain ⟨vp, hvp, hsp⟩ := hI.have 2 _ 22 (.val (.slice sp 0 cap)) rfl rfl rfl (hdep ⟨2, .data⟩ (by simp) rfl)
            obtain rfl := hsp
            obtain ⟨vq, hvq, hsq⟩ := hI.have 5 _ 25 (.val (.slice (spAt sp cap 0) (200 - 0) (cap - 0))) rfl rfl rfl (hdep ⟨5, .data⟩ (by simp) rfl)
            obtain rfl := hsq
            exact hI.stepBlk (by kernel_rfl) hls (Nat.le_refl _) rfl rfl rfl _ _ _ (run_list2 rfl (eval_of hvp) (eval_of hvq) wn) rfl rfl hK'
          · obtain rfl := Option.some.inj ho
            obtain ⟨vp, hvp, bp, rfl, hnp, hbp⟩ := hI.have 6 _ 26 (.blk (fun b => .slice (some ⟨b, 0, none⟩) 2 2) 22 #[.slice sp 0 cap, .slice (spAt sp cap 0) (200 - 0) (cap - 0)]) rfl rfl rfl (hdep ⟨6, .data⟩ (by simp) rfl)
            exact hI.stepCall (by kernel_rfl) hls rfl rfl rfl 9 #[.tmp 26] _ rfl #[.slice (some ⟨bp, 0, none⟩) 2 2] (by simp [eval_of hvp]) enterReduce (.val (.agg (numsA .u8 (redL lm)))) rfl rfl ((left_reduce sp pb po cap 200 0 bp lm _ (HT.out.upd (Hu1.out.drew.trans hI.upd) (fun h => h)) Hlm.out Hdm.out Hm2.out Hkm.out Hmc.out Hspm.out (fun j hj => hI.upd.cell (Hcm.out j hj) (fun h => h)) hbp).mono fun _ _ h => ⟨_, h.1, rfl, h.2⟩) hK'
          · obtain rfl := Option.some.inj ho
            have hvp : an.eval (.tmp 0) = .slice sp 200 cap := hI.old (t := 0) (by kernel_rfl) rfl
            exact hI.stepPure (by kernel_rfl) hls rfl rfl rfl (.slice sp 200 cap) (by simp [execOp, hvp]) rfl rfl hK'
          · obtain rfl := Option.some.inj ho
            obtain ⟨vp, hvp, hsp⟩ := hI.have 8 _ 28 (.val (.slice sp 200 cap)) rfl rfl rfl (hdep ⟨8, .data⟩ (by simp) rfl)
            obtain rfl := hsp
            exact hI.stepRead (by kernel_rfl) hls rfl rfl rfl (.string (strOfNums lm)) (fun hu => run_convS rfl (eval_of hvp) wn (left_conv sp pb po cap 200 lm wn Hlm.out Hspm.out (fun j hj => hu.cell (Hcm.out j hj) (fun h => h)))) rfl rfl hK'
          · obtain rfl := Option.some.inj ho
            obtain ⟨vp, hvp, hsp⟩ := hI.have 9 _ 29 (.val (.string (strOfNums lm))) rfl rfl rfl (hdep ⟨9, .data⟩ (by simp) rfl)
            obtain rfl := hsp
            exact hI.stepCall (by kernel_rfl) hls rfl rfl rfl 10 #[.tmp 29] _ rfl #[.string (strOfNums lm)] (by simp [eval_of hvp]) enterrReduce (.val (.agg (numsA .u8 (redL lm)))) rfl rfl ((rReduce_any lm 200 _ Hlm.out (by have := Hm2.out; omega) Hdm.out).mono fun _ _ h => ⟨_, h.1, rfl, h.2⟩) hK'
          · obtain rfl := Option.some.inj ho
            obtain ⟨vp, hvp, hsp⟩ := hI.have 7 _ 27 (.val (.agg (numsA .u8 (redL lm)))) rfl rfl rfl (hdep ⟨7, .data⟩ (by simp) rfl)
            obtain rfl := hsp
            obtain ⟨vq, hvq, hsq⟩ := hI.have 10 _ 30 (.val (.agg (numsA .u8 (redL lm)))) rfl rfl rfl (hdep ⟨10, .data⟩ (by simp) rfl)
            obtain rfl := hsq
            exact hI.stepPure (by kernel_rfl) hls rfl rfl rfl (.bool true) (run_eqlKey rfl (eval_of hvp) (eval_of hvq) (redL_length _) (redL_length _) (decide_eq_true rfl) wn) rfl rfl hK'
          · obtain rfl := Option.some.inj ho
            obtain ⟨vp, hvp, hsp⟩ := hI.have 11 _ 31 (.val (.bool true)) rfl rfl rfl (hdep ⟨11, .data⟩ (by simp) rfl)
            obtain rfl := hsp
            exact hI.stepPure (by kernel_rfl) hls rfl rfl rfl (.bool true) (by simp [execOp, (eval_of hvp)]) rfl rfl hK'
        · intro fuel an wn hf hI
          obtain ⟨v0, hv0, hs0⟩ := hI.have 0 _ 20 (.val (.slice sp 200 cap)) rfl rfl rfl rfl
          obtain rfl := hs0
          obtain ⟨v1, hv1, hs1⟩ := hI.have 1 _ 21 (.val (.int .i64 0)) rfl rfl rfl rfl
          obtain rfl := hs1
          obtain ⟨v2, hv2, hs2⟩ := hI.have 2 _ 22 (.val (.slice sp 0 cap)) rfl rfl rfl rfl
          obtain rfl := hs2
          obtain ⟨v3, hv3, hs3⟩ := hI.have 3 _ 23 (.val (.slice sp 200 cap)) rfl rfl rfl rfl
          obtain rfl := hs3
          obtain ⟨v4, hv4, hs4⟩ := hI.have 4 _ 24 (.val (.int .i64 0)) rfl rfl rfl rfl
          obtain rfl := hs4
          obtain ⟨v5, hv5, hs5⟩ := hI.have 5 _ 25 (.val (.slice (spAt sp cap 0) (200 - 0) (cap - 0))) rfl rfl rfl rfl
          obtain rfl := hs5
          obtain ⟨v6, hv6, b6, rfl, hn6, hb6⟩ := hI.have 6 _ 26 (.blk (fun b => .slice (some ⟨b, 0, none⟩) 2 2) 22 #[.slice sp 0 cap, .slice (spAt sp cap 0) (200 - 0) (cap - 0)]) rfl rfl rfl rfl
          obtain ⟨v7, hv7, hs7⟩ := hI.have 7 _ 27 (.val (.agg (numsA .u8 (redL lm)))) rfl rfl rfl rfl
          obtain rfl := hs7
          obtain ⟨v8, hv8, hs8⟩ := hI.have 8 _ 28 (.val (.slice sp 200 cap)) rfl rfl rfl rfl
          obtain rfl := hs8
          obtain ⟨v9, hv9, hs9⟩ := hI.have 9 _ 29 (.val (.string (strOfNums lm))) rfl rfl rfl rfl
          obtain rfl := hs9
          obtain ⟨v10, hv10, hs10⟩ := hI.have 10 _ 30 (.val (.agg (numsA .u8 (redL lm)))) rfl rfl rfl rfl
          obtain rfl := hs10
          obtain ⟨v11, hv11, hs11⟩ := hI.have 11 _ 31 (.val (.bool true)) rfl rfl rfl rfl
          obtain rfl := hs11
          obtain ⟨v12, hv12, hs12⟩ := hI.have 12 _ 4 (.val (.bool true)) rfl rfl rfl rfl
          obtain rfl := hs12
          have hupd := hI.upd
          have ha := hI.act [(20, .slice sp 200 cap), (21, .int .i64 0), (22, .slice sp 0 cap), (23, .slice sp 200 cap), (24, .int .i64 0), (25, .slice (spAt sp cap 0) (200 - 0) (cap - 0)), (26, .slice (some ⟨b6, 0, none⟩) 2 2), (27, .agg (numsA .u8 (redL lm))), (28, .slice sp 200 cap), (29, .string (strOfNums lm)), (30, .agg (numsA .u8 (redL lm))), (31, .bool true), (4, .bool true)] (by simp [hv0, hv1, hv2, hv3, hv4, hv5, hv6, hv7, hv8, hv9, hv10, hv11, hv12]) (by kernel_rfl)
          clear hI hv0 hv1 hv2 hv3 hv4 hv5 hv6 hv7 hv8 hv9 hv10 hv11 hv12
          subst ha
          simp only [List.foldl_cons, List.foldl_nil, List.setIfInBounds_toArray, List.set_cons_zero, List.set_cons_succ]
          refine wpAny_done (by kernel_rfl) ?_ _
          go_wp2
          go_ret
          exact ⟨rfl, Hu1.out.drew.trans hupd⟩
  · by_cases ha : 0 ≤ at' ∧ at' ≤ (n : Int)
    · obtain ⟨k, rfl⟩ := Int.eq_ofNat_of_zero_le ha.1
      have hk : k ≤ n := by omega
      have d1 : decide ((k : Int) < 0) = false := decide_eq_false (by omega)
      have d2 : decide ((n : Int) < (k : Int)) = false := decide_eq_false (by omega)
      clear ha
      have HX : Hid (∃ lm : List Int, lm.length = n ∧ Digs 256 lm ∧ ∀ j, j < n → w1.cell? ⟨pb, po + j, none⟩ = some (.int .u8 (lm.getD j 0))) := ⟨l.take n, by rw [List.length_take, Hl.out]; omega, fun x hx => Hd.out x (List.mem_of_mem_take hx), fun j hj => by rw [List.getD_eq_getElem?_getD, List.getElem?_take_of_lt hj, ← List.getD_eq_getElem?_getD]; exact Hu1.out.cell (Hcs.out j (by omega)) (fun h => h)⟩
      obtain ⟨lm, hlm, hdm, hcm⟩ := HX.out
      have Hlm := Lib.hid hlm
      have Hdm := Lib.hid hdm
      have Hcm : Hid (∀ j, j < n → w1.drew.cell? ⟨pb, po + j, none⟩ = some (.int .u8 (lm.getD j 0))) := hcm
      have Hspm : Hid (0 < n → sp = some ⟨pb, po, none⟩) := fun h => Hsp.out (by omega)
      have Hm2 : Hid (n ≤ 200) := by show _ ≤ _; omega
      have Hkm : Hid (k ≤ n) := by show _ ≤ _; omega
      have Hkc : Hid (k ≤ cap) := by show _ ≤ _; omega
      have Hmc : Hid (n ≤ cap) := by show _ ≤ _; omega
      clear HX hlm hdm hcm Hsp Hcs Hl Hd
      go_wp2
      refine wp_region_slots #[true, true, true, true, true, true, true, true, true, true, true, true, true] ([.val (.slice sp n cap), .val (.int .i64 (k : Nat)), .val (.slice sp k cap), .val (.slice sp n cap), .val (.int .i64 (k : Nat)), .val (.slice (spAt sp cap k) (n - k) (cap - k)), .blk (fun b => .slice (some ⟨b, 0, none⟩) 2 2) 22 #[.slice sp k cap, .slice (spAt sp cap k) (n - k) (cap - k)], .val (.agg (numsA .u8 (redL lm))), .val (.slice sp n cap), .val (.string (strOfNums lm)), .val (.agg (numsA .u8 (redL lm))), .val (.bool true), .val (.bool true)] : List SP) (by kernel_rfl) (by kernel_rfl) (by kernel_rfl) ?_ ?_
      · intro i o listed an wn ho hls hst hun hdep hI K' hK'
        have hi : i < 13 := by
          have := idx_lt ho; simp only [List.size_toArray, List.length_cons, List.length_nil] at this; exact this
        have hcase : i = 0 ∨ i = 1 ∨ i = 2 ∨ i = 3 ∨ i = 4 ∨ i = 5 ∨ i = 6 ∨ i = 7 ∨ i = 8 ∨ i = 9 ∨ i = 10 ∨ i = 11 ∨ i = 12 := by clear hls hst hun hdep hI hK' ho; omega
        rcases hcase with rfl | rfl | rfl | rfl | rfl | rfl | rfl | rfl | rfl | rfl | rfl | rfl | rfl
        · obtain rfl := Option.some.inj ho
          have hvp : an.eval (.tmp 0) = .slice sp n cap := hI.old (t := 0) (by kernel_rfl) rfl
          exact hI.stepPure (by kernel_rfl) hls rfl rfl rfl (.slice sp n cap) (by simp [execOp, hvp]) rfl rfl hK'
        · obtain rfl := Option.some.inj ho
          have hvp : an.eval (.tmp 1) = .int .i64 (k : Nat) := hI.old (t := 1) (by kernel_rfl) rfl
          exact hI.stepPure (by kernel_rfl) hls rfl rfl rfl (.int .i64 (k : Nat)) (by simp [execOp, hvp]) rfl rfl hK'
        · obtain rfl := Option.some.inj ho
          obtain ⟨vp, hvp, hsp⟩ := hI.have 0 _ 20 (.val (.slice sp n cap)) rfl rfl rfl (hdep ⟨0, .data⟩ (by simp) rfl)
          obtain rfl := hsp
          obtain ⟨vq, hvq, hsq⟩ := hI.have 1 _ 21 (.val (.int .i64 (k : Nat))) rfl rfl rfl (hdep ⟨1, .data⟩ (by simp) rfl)
          obtain rfl := hsq
          exact hI.stepPure (by kernel_rfl) hls rfl rfl rfl (.slice sp k cap) (run_sliceH rfl (eval_of hvp) (eval_of hvq) Hkc.out wn) rfl rfl hK'
        · obtain rfl := Option.some.inj ho
          have hvp : an.eval (.tmp 0) = .slice sp n cap := hI.old (t := 0) (by kernel_rfl) rfl
          exact hI.stepPure (by kernel_rfl) hls rfl rfl rfl (.slice sp n cap) (by simp [execOp, hvp]) rfl rfl hK'
        · obtain rfl := Option.some.inj ho
          have hvp : an.eval (.tmp 1) = .int .i64 (k : Nat) := hI.old (t := 1) (by kernel_rfl) rfl
          exact hI.stepPure (by kernel_rfl) hls rfl rfl rfl (.int .i64 (k : Nat)) (by simp [execOp, hvp]) rfl rfl hK'
        · obtain rfl := Option.some.inj ho
          obtain ⟨vp, hvp, hsp⟩ := hI.have 3 _ 23 (.val (.slice sp n cap)) rfl rfl rfl (hdep ⟨3, .data⟩ (by simp) rfl)
          obtain rfl := hsp
          obtain ⟨vq, hvq, hsq⟩ := hI.have 4 _ 24 (.val (.int .i64 (k : Nat))) rfl rfl rfl (hdep ⟨4, .data⟩ (by simp) rfl)
          obtain rfl := hsq
          exact hI.stepPure (by kernel_rfl) hls rfl rfl rfl (.slice (spAt sp cap k) (n - k) (cap - k)) (run_sliceL rfl (eval_of hvp) (eval_of hvq) Hkm.out wn) rfl rfl hK'
        · obtain rfl := Option.some.inj ho
          obtain ⟨vp, hvp, hsp⟩ := hI.have 2 _ 22 (.val (.slice sp k cap)) rfl rfl rfl (hdep ⟨2, .data⟩ (by simp) rfl)
          obtain rfl := hsp
          obtain ⟨vq, hvq, hsq⟩ := hI.have 5 _ 25 (.val (.slice (spAt sp cap k) (n - k) (cap - k))) rfl rfl rfl (hdep ⟨5, .data⟩ (by simp) rfl)
          obtain rfl := hsq
          exact hI.stepBlk (by kernel_rfl) hls (Nat.le_refl _) rfl rfl rfl _ _ _ (run_list2 rfl (eval_of hvp) (eval_of hvq) wn) rfl rfl hK'
        · obtain rfl := Option.some.inj ho
          obtain ⟨vp, hvp, bp, rfl, hnp, hbp⟩ := hI.have 6 _ 26 (.blk (fun b => .slice (some ⟨b, 0, none⟩) 2 2) 22 #[.slice sp k cap, .slice (spAt sp cap k) (n - k) (cap - k)]) rfl rfl rfl (hdep ⟨6, .data⟩ (by simp) rfl)
          exact hI.stepCall (by kernel_rfl) hls rfl rfl rfl 9 #[.tmp 26] _ rfl #[.slice (some ⟨bp, 0, none⟩) 2 2] (by simp [eval_of hvp]) enterReduce (.val (.agg (numsA .u8 (redL lm)))) rfl rfl ((left_reduce sp pb po cap n k bp lm _ (HT.out.upd (Hu1.out.drew.trans hI.upd) (fun h => h)) Hlm.out Hdm.out Hm2.out Hkm.out Hmc.out Hspm.out (fun j hj => hI.upd.cell (Hcm.out j hj) (fun h => h)) hbp).mono fun _ _ h => ⟨_, h.1, rfl, h.2⟩) hK'
        · obtain rfl := Option.some.inj ho
          have hvp : an.eval (.tmp 0) = .slice sp n cap := hI.old (t := 0) (by kernel_rfl) rfl
          exact hI.stepPure (by kernel_rfl) hls rfl rfl rfl (.slice sp n cap) (by simp [execOp, hvp]) rfl rfl hK'
        · obtain rfl := Option.some.inj ho
          obtain ⟨vp, hvp, hsp⟩ := hI.have 8 _ 28 (.val (.slice sp n cap)) rfl rfl rfl (hdep ⟨8, .data⟩ (by simp) rfl)
          obtain rfl := hsp
          exact hI.stepRead (by kernel_rfl) hls rfl rfl rfl (.string (strOfNums lm)) (fun hu => run_convS rfl (eval_of hvp) wn (left_conv sp pb po cap n lm wn Hlm.out Hspm.out (fun j hj => hu.cell (Hcm.out j hj) (fun h => h)))) rfl rfl hK'
        · obtain rfl := Option.some.inj ho
          obtain ⟨vp, hvp, hsp⟩ := hI.have 9 _ 29 (.val (.string (strOfNums lm))) rfl rfl rfl (hdep ⟨9, .data⟩ (by simp) rfl)
          obtain rfl := hsp
          exact hI.stepCall (by kernel_rfl) hls rfl rfl rfl 10 #[.tmp 29] _ rfl #[.string (strOfNums lm)] (by simp [eval_of hvp]) enterrReduce (.val (.agg (numsA .u8 (redL lm)))) rfl rfl ((rReduce_any lm n _ Hlm.out (by have := Hm2.out; omega) Hdm.out).mono fun _ _ h => ⟨_, h.1, rfl, h.2⟩) hK'
        · obtain rfl := Option.some.inj ho
          obtain ⟨vp, hvp, hsp⟩ := hI.have 7 _ 27 (.val (.agg (numsA .u8 (redL lm)))) rfl rfl rfl (hdep ⟨7, .data⟩ (by simp) rfl)
          obtain rfl := hsp
          obtain ⟨vq, hvq, hsq⟩ := hI.have 10 _ 30 (.val (.agg (numsA .u8 (redL lm)))) rfl rfl rfl (hdep ⟨10, .data⟩ (by simp) rfl)
          obtain rfl := hsq
          exact hI.stepPure (by kernel_rfl) hls rfl rfl rfl (.bool true) (run_eqlKey rfl (eval_of hvp) (eval_of hvq) (redL_length _) (redL_length _) (decide_eq_true rfl) wn) rfl rfl hK'
        · obtain rfl := Option.some.inj ho
          obtain ⟨vp, hvp, hsp⟩ := hI.have 11 _ 31 (.val (.bool true)) rfl rfl rfl (hdep ⟨11, .data⟩ (by simp) rfl)
          obtain rfl := hsp
          exact hI.stepPure (by kernel_rfl) hls rfl rfl rfl (.bool true) (by simp [execOp, (eval_of hvp)]) rfl rfl hK'
      · intro fuel an wn hf hI
        obtain ⟨v0, hv0, hs0⟩ := hI.have 0 _ 20 (.val (.slice sp n cap)) rfl rfl rfl rfl
        obtain rfl := hs0
        obtain ⟨v1, hv1, hs1⟩ := hI.have 1 _ 21 (.val (.int .i64 (k : Nat))) rfl rfl rfl rfl
        obtain rfl := hs1
        obtain ⟨v2, hv2, hs2⟩ := hI.have 2 _ 22 (.val (.slice sp k cap)) rfl rfl rfl rfl
        obtain rfl := hs2
        obtain ⟨v3, hv3, hs3⟩ := hI.have 3 _ 23 (.val (.slice sp n cap)) rfl rfl rfl rfl
        obtain rfl := hs3
        obtain ⟨v4, hv4, hs4⟩ := hI.have 4 _ 24 (.val (.int .i64 (k : Nat))) rfl rfl rfl rfl
        obtain rfl := hs4
        obtain ⟨v5, hv5, hs5⟩ := hI.have 5 _ 25 (.val (.slice (spAt sp cap k) (n - k) (cap - k))) rfl rfl rfl rfl
        obtain rfl := hs5
        obtain ⟨v6, hv6, b6, rfl, hn6, hb6⟩ := hI.have 6 _ 26 (.blk (fun b => .slice (some ⟨b, 0, none⟩) 2 2) 22 #[.slice sp k cap, .slice (spAt sp cap k) (n - k) (cap - k)]) rfl rfl rfl rfl
        obtain ⟨v7, hv7, hs7⟩ := hI.have 7 _ 27 (.val (.agg (numsA .u8 (redL lm)))) rfl rfl rfl rfl
        obtain rfl := hs7
        obtain ⟨v8, hv8, hs8⟩ := hI.have 8 _ 28 (.val (.slice sp n cap)) rfl rfl rfl rfl
        obtain rfl := hs8
        obtain ⟨v9, hv9, hs9⟩ := hI.have 9 _ 29 (.val (.string (strOfNums lm))) rfl rfl rfl rfl
        obtain rfl := hs9
        obtain ⟨v10, hv10, hs10⟩ := hI.have 10 _ 30 (.val (.agg (numsA .u8 (redL lm)))) rfl rfl rfl rfl
        obtain rfl := hs10
        obtain ⟨v11, hv11, hs11⟩ := hI.have 11 _ 31 (.val (.bool true)) rfl rfl rfl rfl
        obtain rfl := hs11
        obtain ⟨v12, hv12, hs12⟩ := hI.have 12 _ 4 (.val (.bool true)) rfl rfl rfl rfl
        obtain rfl := hs12
        have hupd := hI.upd
        have ha := hI.act [(20, .slice sp n cap), (21, .int .i64 (k : Nat)), (22, .slice sp k cap), (23, .slice sp n cap), (24, .int .i64 (k : Nat)), (25, .slice (spAt sp cap k) (n - k) (cap - k)), (26, .slice (some ⟨b6, 0, none⟩) 2 2), (27, .agg (numsA .u8 (redL lm))), (28, .slice sp n cap), (29, .string (strOfNums lm)), (30, .agg (numsA .u8 (redL lm))), (31, .bool true), (4, .bool true)] (by simp [hv0, hv1, hv2, hv3, hv4, hv5, hv6, hv7, hv8, hv9, hv10, hv11, hv12]) (by kernel_rfl)
        clear hI hv0 hv1 hv2 hv3 hv4 hv5 hv6 hv7 hv8 hv9 hv10 hv11 hv12
        subst ha
        simp only [List.foldl_cons, List.foldl_nil, List.setIfInBounds_toArray, List.set_cons_zero, List.set_cons_succ]
        refine wpAny_done (by kernel_rfl) ?_ _
        go_wp2
        go_ret
        exact ⟨rfl, Hu1.out.drew.trans hupd⟩
    · by_cases hb : at' < 0
      · have d1 : decide (at' < 0) = true := decide_eq_true hb
        clear ha
        have HX : Hid (∃ lm : List Int, lm.length = n ∧ Digs 256 lm ∧ ∀ j, j < n → w1.cell? ⟨pb, po + j, none⟩ = some (.int .u8 (lm.getD j 0))) := ⟨l.take n, by rw [List.length_take, Hl.out]; omega, fun x hx => Hd.out x (List.mem_of_mem_take hx), fun j hj => by rw [List.getD_eq_getElem?_getD, List.getElem?_take_of_lt hj, ← List.getD_eq_getElem?_getD]; exact Hu1.out.cell (Hcs.out j (by omega)) (fun h => h)⟩
        obtain ⟨lm, hlm, hdm, hcm⟩ := HX.out
        have Hlm := Lib.hid hlm
        have Hdm := Lib.hid hdm
        have Hcm : Hid (∀ j, j < n → w1.drew.cell? ⟨pb, po + j, none⟩ = some (.int .u8 (lm.getD j 0))) := hcm
        have Hspm : Hid (0 < n → sp = some ⟨pb, po, none⟩) := fun h => Hsp.out (by omega)
        have Hm2 : Hid (n ≤ 200) := by show _ ≤ _; omega
        have Hkm : Hid (0 ≤ n) := by show _ ≤ _; omega
        have Hkc : Hid (0 ≤ cap) := by show _ ≤ _; omega
        have Hmc : Hid (n ≤ cap) := by show _ ≤ _; omega
        clear HX hlm hdm hcm Hsp Hcs Hl Hd
        go_wp2
        refine wp_region_slots #[true, true, true, true, true, true, true, true, true, true, true, true, true] ([.val (.slice sp n cap), .val (.int .i64 0), .val (.slice sp 0 cap), .val (.slice sp n cap), .val (.int .i64 0), .val (.slice (spAt sp cap 0) (n - 0) (cap - 0)), .blk (fun b => .slice (some ⟨b, 0, none⟩) 2 2) 22 #[.slice sp 0 cap, .slice (spAt sp cap 0) (n - 0) (cap - 0)], .val (.agg (numsA .u8 (redL lm))), .val (.slice sp n cap), .val (.string (strOfNums lm)), .val (.agg (numsA .u8 (redL lm))), .val (.bool true), .val (.bool true)] : List SP) (by kernel_rfl) (by kernel_rfl) (by kernel_rfl) ?_ ?_
        · intro i o listed an wn ho hls hst hun hdep hI K' hK'
          have hi : i < 13 := by
            have := idx_lt ho; simp only [List.size_toArray, List.length_cons, List.length_nil] at this; exact this
          have hcase : i = 0 ∨ i = 1 ∨ i = 2 ∨ i = 3 ∨ i = 4 ∨ i = 5 ∨ i = 6 ∨ i = 7 ∨ i = 8 ∨ i = 9 ∨ i = 10 ∨ i = 11 ∨ i = 12 := by clear hls hst hun hdep hI hK' ho; omega
          rcases hcase with rfl | rfl | rfl | rfl | rfl | rfl | rfl | rfl | rfl | rfl | rfl | rfl | rfl
          · obtain rfl := Option.some.inj ho
            have hvp : an.eval (.tmp 0) = .slice sp n cap := hI.old (t := 0) (by kernel_rfl) rfl
            exact hI.stepPure (by kernel_rfl) hls rfl rfl rfl (.slice sp n cap) (by simp [execOp, hvp]) rfl rfl hK'
          · obtain rfl := Option.some.inj ho
            have hvp : an.eval (.tmp 1) = .int .i64 0 := hI.old (t := 1) (by kernel_rfl) rfl
            exact hI.stepPure (by kernel_rfl) hls rfl rfl rfl (.int .i64 0) (by simp [execOp, hvp]) rfl rfl hK'
          · obtain rfl := Option.some.inj ho
            obtain ⟨vp, hvp, hsp⟩ := hI.have 0 _ 20 (.val (.slice sp n cap)) rfl rfl rfl (hdep ⟨0, .data⟩ (by simp) rfl)
            obtain rfl := hsp
            obtain ⟨vq, hvq, hsq⟩ := hI.have 1 _ 21 (.val (.int .i64 0)) rfl rfl rfl (hdep ⟨1, .data⟩ (by simp) rfl)
            obtain rfl := hsq
            exact hI.stepPure (by kernel_rfl) hls rfl rfl rfl (.slice sp 0 cap) (run_sliceH rfl (eval_of hvp) (eval_of hvq) Hkc.out wn) rfl rfl hK'
          · obtain rfl := Option.some.inj ho
            have hvp : an.eval (.tmp 0) = .slice sp n cap := hI.old (t := 0) (by kernel_rfl) rfl
            exact hI.stepPure (by kernel_rfl) hls rfl rfl rfl (.slice sp n cap) (by simp [execOp, hvp]) rfl rfl hK'
          · obtain rfl := Option.some.inj ho
            have hvp : an.eval (.tmp 1) = .int .i64 0 := hI.old (t := 1) (by kernel_rfl) rfl
            exact hI.stepPure (by kernel_rfl) hls rfl rfl rfl (.int .i64 0) (by simp [execOp, hvp]) rfl rfl hK'
          · obtain rfl := Option.some.inj ho
            obtain ⟨vp, hvp, hsp⟩ := hI.have 3 _ 23 (.val (.slice sp n cap)) rfl rfl rfl (hdep ⟨3, .data⟩ (by simp) rfl)
            obtain rfl := hsp
            obtain ⟨vq, hvq, hsq⟩ := hI.have 4 _ 24 (.val (.int .i64 0)) rfl rfl rfl (hdep ⟨4, .data⟩ (by simp) rfl)
            obtain rfl := hsq
            exact hI.stepPure (by kernel_rfl) hls rfl rfl rfl (.slice (spAt sp cap 0) (n - 0) (cap - 0)) (run_sliceL rfl (eval_of hvp) (eval_of hvq) Hkm.out wn) rfl rfl hK'
          · obtain rfl := Option.some.inj ho
            obtain ⟨vp, hvp, hsp⟩ := hI.have 2 _ 22 (.val (.slice sp 0 cap)) rfl rfl rfl (hdep ⟨2, .data⟩ (by simp) rfl)
            obtain rfl := hsp
            obtain ⟨vq, hvq, hsq⟩ := hI.have 5 _ 25 (.val (.slice (spAt sp cap 0) (n - 0) (cap - 0))) rfl rfl rfl (hdep ⟨5, .data⟩ (by simp) rfl)
            obtain rfl := hsq
            exact hI.stepBlk (by kernel_rfl) hls (Nat.le_refl _) rfl rfl rfl _ _ _ (run_list2 rfl (eval_of hvp) (eval_of hvq) wn) rfl rfl hK'
          · obtain rfl := Option.some.inj ho
            obtain ⟨vp, hvp, bp, rfl, hnp, hbp⟩ := hI.have 6 _ 26 (.blk (fun b => .slice (some ⟨b, 0, none⟩) 2 2) 22 #[.slice sp 0 cap, .slice (spAt sp cap 0) (n - 0) (cap - 0)]) rfl rfl rfl (hdep ⟨6, .data⟩ (by simp) rfl)
            exact hI.stepCall (by kernel_rfl) hls rfl rfl rfl 9 #[.tmp 26] _ rfl #[.slice (some ⟨bp, 0, none⟩) 2 2] (by simp [eval_of hvp]) enterReduce (.val (.agg (numsA .u8 (redL lm)))) rfl rfl ((left_reduce sp pb po cap n 0 bp lm _ (HT.out.upd (Hu1.out.drew.trans hI.upd) (fun h => h)) Hlm.out Hdm.out Hm2.out Hkm.out Hmc.out Hspm.out (fun j hj => hI.upd.cell (Hcm.out j hj) (fun h => h)) hbp).mono fun _ _ h => ⟨_, h.1, rfl, h.2⟩) hK'
          · obtain rfl := Option.some.inj ho
            have hvp : an.eval (.tmp 0) = .slice sp n cap := hI.old (t := 0) (by kernel_rfl) rfl
            exact hI.stepPure (by kernel_rfl) hls rfl rfl rfl (.slice sp n cap) (by simp [execOp, hvp]) rfl rfl hK'
          · obtain rfl := Option.some.inj ho
            obtain ⟨vp, hvp, hsp⟩ := hI.have 8 _ 28 (.val (.slice sp n cap)) rfl rfl rfl (hdep ⟨8, .data⟩ (by simp) rfl)
            obtain rfl := hsp
            exact hI.stepRead (by kernel_rfl) hls rfl rfl rfl (.string (strOfNums lm)) (fun hu => run_convS rfl (eval_of hvp) wn (left_conv sp pb po cap n lm wn Hlm.out Hspm.out (fun j hj => hu.cell (Hcm.out j hj) (fun h => h)))) rfl rfl hK'
          · obtain rfl := Option.some.inj ho
            obtain ⟨vp, hvp, hsp⟩ := hI.have 9 _ 29 (.val (.string (strOfNums lm))) rfl rfl rfl (hdep ⟨9, .data⟩ (by simp) rfl)
            obtain rfl := hsp
            exact hI.stepCall (by kernel_rfl) hls rfl rfl rfl 10 #[.tmp 29] _ rfl #[.string (strOfNums lm)] (by simp [eval_of hvp]) enterrReduce (.val (.agg (numsA .u8 (redL lm)))) rfl rfl ((rReduce_any lm n _ Hlm.out (by have := Hm2.out; omega) Hdm.out).mono fun _ _ h => ⟨_, h.1, rfl, h.2⟩) hK'
          · obtain rfl := Option.some.inj ho
            obtain ⟨vp, hvp, hsp⟩ := hI.have 7 _ 27 (.val (.agg (numsA .u8 (redL lm)))) rfl rfl rfl (hdep ⟨7, .data⟩ (by simp) rfl)
            obtain rfl := hsp
            obtain ⟨vq, hvq, hsq⟩ := hI.have 10 _ 30 (.val (.agg (numsA .u8 (redL lm)))) rfl rfl rfl (hdep ⟨10, .data⟩ (by simp) rfl)
            obtain rfl := hsq
            exact hI.stepPure (by kernel_rfl) hls rfl rfl rfl (.bool true) (run_eqlKey rfl (eval_of hvp) (eval_of hvq) (redL_length _) (redL_length _) (decide_eq_true rfl) wn) rfl rfl hK'
          · obtain rfl := Option.some.inj ho
            obtain ⟨vp, hvp, hsp⟩ := hI.have 11 _ 31 (.val (.bool true)) rfl rfl rfl (hdep ⟨11, .data⟩ (by simp) rfl)
            obtain rfl := hsp
            exact hI.stepPure (by kernel_rfl) hls rfl rfl rfl (.bool true) (by simp [execOp, (eval_of hvp)]) rfl rfl hK'
        · intro fuel an wn hf hI
          obtain ⟨v0, hv0, hs0⟩ := hI.have 0 _ 20 (.val (.slice sp n cap)) rfl rfl rfl rfl
          obtain rfl := hs0
          obtain ⟨v1, hv1, hs1⟩ := hI.have 1 _ 21 (.val (.int .i64 0)) rfl rfl rfl rfl
          obtain rfl := hs1
          obtain ⟨v2, hv2, hs2⟩ := hI.have 2 _ 22 (.val (.slice sp 0 cap)) rfl rfl rfl rfl
          obtain rfl := hs2
          obtain ⟨v3, hv3, hs3⟩ := hI.have 3 _ 23 (.val (.slice sp n cap)) rfl rfl rfl rfl
          obtain rfl := hs3
          obtain ⟨v4, hv4, hs4⟩ := hI.have 4 _ 24 (.val (.int .i64 0)) rfl rfl rfl rfl
          obtain rfl := hs4
          obtain ⟨v5, hv5, hs5⟩ := hI.have 5 _ 25 (.val (.slice (spAt sp cap 0) (n - 0) (cap - 0))) rfl rfl rfl rfl
          obtain rfl := hs5
          obtain ⟨v6, hv6, b6, rfl, hn6, hb6⟩ := hI.have 6 _ 26 (.blk (fun b => .slice (some ⟨b, 0, none⟩) 2 2) 22 #[.slice sp 0 cap, .slice (spAt sp cap 0) (n - 0) (cap - 0)]) rfl rfl rfl rfl
          obtain ⟨v7, hv7, hs7⟩ := hI.have 7 _ 27 (.val (.agg (numsA .u8 (redL lm)))) rfl rfl rfl rfl
          obtain rfl := hs7
          obtain ⟨v8, hv8, hs8⟩ := hI.have 8 _ 28 (.val (.slice sp n cap)) rfl rfl rfl rfl
          obtain rfl := hs8
          obtain ⟨v9, hv9, hs9⟩ := hI.have 9 _ 29 (.val (.string (strOfNums lm))) rfl rfl rfl rfl
          obtain rfl := hs9
          obtain ⟨v10, hv10, hs10⟩ := hI.have 10 _ 30 (.val (.agg (numsA .u8 (redL lm)))) rfl rfl rfl rfl
          obtain rfl := hs10
          obtain ⟨v11, hv11, hs11⟩ := hI.have 11 _ 31 (.val (.bool true)) rfl rfl rfl rfl
          obtain rfl := hs11
          obtain ⟨v12, hv12, hs12⟩ := hI.have 12 _ 4 (.val (.bool true)) rfl rfl rfl rfl
          obtain rfl := hs12
          have hupd := hI.upd
          have ha := hI.act [(20, .slice sp n cap), (21, .int .i64 0), (22, .slice sp 0 cap), (23, .slice sp n cap), (24, .int .i64 0), (25, .slice (spAt sp cap 0) (n - 0) (cap - 0)), (26, .slice (some ⟨b6, 0, none⟩) 2 2), (27, .agg (numsA .u8 (redL lm))), (28, .slice sp n cap), (29, .string (strOfNums lm)), (30, .agg (numsA .u8 (redL lm))), (31, .bool true), (4, .bool true)] (by simp [hv0, hv1, hv2, hv3, hv4, hv5, hv6, hv7, hv8, hv9, hv10, hv11, hv12]) (by kernel_rfl)
          clear hI hv0 hv1 hv2 hv3 hv4 hv5 hv6 hv7 hv8 hv9 hv10 hv11 hv12
          subst ha
          simp only [List.foldl_cons, List.foldl_nil, List.setIfInBounds_toArray, List.set_cons_zero, List.set_cons_succ]
          refine wpAny_done (by kernel_rfl) ?_ _
          go_wp2
          go_ret
          exact ⟨rfl, Hu1.out.drew.trans hupd⟩
      · have d1 : decide (at' < 0) = false := decide_eq_false hb
        have d2 : decide ((n : Int) < at') = true := decide_eq_true (by omega)
        clear ha
        have HX : Hid (∃ lm : List Int, lm.length = n ∧ Digs 256 lm ∧ ∀ j, j < n → w1.cell? ⟨pb, po + j, none⟩ = some (.int .u8 (lm.getD j 0))) := ⟨l.take n, by rw [List.length_take, Hl.out]; omega, fun x hx => Hd.out x (List.mem_of_mem_take hx), fun j hj => by rw [List.getD_eq_getElem?_getD, List.getElem?_take_of_lt hj, ← List.getD_eq_getElem?_getD]; exact Hu1.out.cell (Hcs.out j (by omega)) (fun h => h)⟩
        obtain ⟨lm, hlm, hdm, hcm⟩ := HX.out
        have Hlm := Lib.hid hlm
        have Hdm := Lib.hid hdm
        have Hcm : Hid (∀ j, j < n → w1.drew.cell? ⟨pb, po + j, none⟩ = some (.int .u8 (lm.getD j 0))) := hcm
        have Hspm : Hid (0 < n → sp = some ⟨pb, po, none⟩) := fun h => Hsp.out (by omega)
        have Hm2 : Hid (n ≤ 200) := by show _ ≤ _; omega
        have Hkm : Hid (0 ≤ n) := by show _ ≤ _; omega
        have Hkc : Hid (0 ≤ cap) := by show _ ≤ _; omega
        have Hmc : Hid (n ≤ cap) := by show _ ≤ _; omega
        clear HX hlm hdm hcm Hsp Hcs Hl Hd
        go_wp2
        refine wp_region_slots #[true, true, true, true, true, true, true, true, true, true, true, true, true] ([.val (.slice sp n cap), .val (.int .i64 0), .val (.slice sp 0 cap), .val (.slice sp n cap), .val (.int .i64 0), .val (.slice (spAt sp cap 0) (n - 0) (cap - 0)), .blk (fun b => .slice (some ⟨b, 0, none⟩) 2 2) 22 #[.slice sp 0 cap, .slice (spAt sp cap 0) (n - 0) (cap - 0)], .val (.agg (numsA .u8 (redL lm))), .val (.slice sp n cap), .val (.string (strOfNums lm)), .val (.agg (numsA .u8 (redL lm))), .val (.bool true), .val (.bool true)] : List SP) (by kernel_rfl) (by kernel_rfl) (by kernel_rfl) ?_ ?_
        · intro i o listed an wn ho hls hst hun hdep hI K' hK'
          have hi : i < 13 := by
            have := idx_lt ho; simp only [List.size_toArray, List.length_cons, List.length_nil] at this; exact this
          have hcase : i = 0 ∨ i = 1 ∨ i = 2 ∨ i = 3 ∨ i = 4 ∨ i = 5 ∨ i = 6 ∨ i = 7 ∨ i = 8 ∨ i = 9 ∨ i = 10 ∨ i = 11 ∨ i = 12 := by clear hls hst hun hdep hI hK' ho; omega
          rcases hcase with rfl | rfl | rfl | rfl | rfl | rfl | rfl | rfl | rfl | rfl | rfl | rfl | rfl
          · obtain rfl := Option.some.inj ho
            have hvp : an.eval (.tmp 0) = .slice sp n cap := hI.old (t := 0) (by kernel_rfl) rfl
            exact hI.stepPure (by kernel_rfl) hls rfl rfl rfl (.slice sp n cap) (by simp [execOp, hvp]) rfl rfl hK'
          · obtain rfl := Option.some.inj ho
            have hvp : an.eval (.tmp 1) = .int .i64 0 := hI.old (t := 1) (by kernel_rfl) rfl
            exact hI.stepPure (by kernel_rfl) hls rfl rfl rfl (.int .i64 0) (by simp [execOp, hvp]) rfl rfl hK'
          · obtain rfl := Option.some.inj ho
            obtain ⟨vp, hvp, hsp⟩ := hI.have 0 _ 20 (.val (.slice sp n cap)) rfl rfl rfl (hdep ⟨0, .data⟩ (by simp) rfl)
            obtain rfl := hsp
            obtain ⟨vq, hvq, hsq⟩ := hI.have 1 _ 21 (.val (.int .i64 0)) rfl rfl rfl (hdep ⟨1, .data⟩ (by simp) rfl)
            obtain rfl := hsq
            exact hI.stepPure (by kernel_rfl) hls rfl rfl rfl (.slice sp 0 cap) (run_sliceH rfl (eval_of hvp) (eval_of hvq) Hkc.out wn) rfl rfl hK'
          · obtain rfl := Option.some.inj ho
            have hvp : an.eval (.tmp 0) = .slice sp n cap := hI.old (t := 0) (by kernel_rfl) rfl
            exact hI.stepPure (by kernel_rfl) hls rfl rfl rfl (.slice sp n cap) (by simp [execOp, hvp]) rfl rfl hK'
          · obtain rfl := Option.some.inj ho
            have hvp : an.eval (.tmp 1) = .int .i64 0 := hI.old (t := 1) (by kernel_rfl) rfl
            exact hI.stepPure (by kernel_rfl) hls rfl rfl rfl (.int .i64 0) (by simp [execOp, hvp]) rfl rfl hK'
          · obtain rfl := Option.some.inj ho
            obtain ⟨vp, hvp, hsp⟩ := hI.have 3 _ 23 (.val (.slice sp n cap)) rfl rfl rfl (hdep ⟨3, .data⟩ (by simp) rfl)
            obtain rfl := hsp
            obtain ⟨vq, hvq, hsq⟩ := hI.have 4 _ 24 (.val (.int .i64 0)) rfl rfl rfl (hdep ⟨4, .data⟩ (by simp) rfl)
            obtain rfl := hsq
            exact hI.stepPure (by kernel_rfl) hls rfl rfl rfl (.slice (spAt sp cap 0) (n - 0) (cap - 0)) (run_sliceL rfl (eval_of hvp) (eval_of hvq) Hkm.out wn) rfl rfl hK'
          · obtain rfl := Option.some.inj ho
            obtain ⟨vp, hvp, hsp⟩ := hI.have 2 _ 22 (.val (.slice sp 0 cap)) rfl rfl rfl (hdep ⟨2, .data⟩ (by simp) rfl)
            obtain rfl := hsp
            obtain ⟨vq, hvq, hsq⟩ := hI.have 5 _ 25 (.val (.slice (spAt sp cap 0) (n - 0) (cap - 0))) rfl rfl rfl (hdep ⟨5, .data⟩ (by simp) rfl)
            obtain rfl := hsq
            exact hI.stepBlk (by kernel_rfl) hls (Nat.le_refl _) rfl rfl rfl _ _ _ (run_list2 rfl (eval_of hvp) (eval_of hvq) wn) rfl rfl hK'
          · obtain rfl := Option.some.inj ho
            obtain ⟨vp, hvp, bp, rfl, hnp, hbp⟩ := hI.have 6 _ 26 (.blk (fun b => .slice (some ⟨b, 0, none⟩) 2 2) 22 #[.slice sp 0 cap, .slice (spAt sp cap 0) (n - 0) (cap - 0)]) rfl rfl rfl (hdep ⟨6, .data⟩ (by simp) rfl)
            exact hI.stepCall (by kernel_rfl) hls rfl rfl rfl 9 #[.tmp 26] _ rfl #[.slice (some ⟨bp, 0, none⟩) 2 2] (by simp [eval_of hvp]) enterReduce (.val (.agg (numsA .u8 (redL lm)))) rfl rfl ((left_reduce sp pb po cap n 0 bp lm _ (HT.out.upd (Hu1.out.drew.trans hI.upd) (fun h => h)) Hlm.out Hdm.out Hm2.out Hkm.out Hmc.out Hspm.out (fun j hj => hI.upd.cell (Hcm.out j hj) (fun h => h)) hbp).mono fun _ _ h => ⟨_, h.1, rfl, h.2⟩) hK'
          · obtain rfl := Option.some.inj ho
            have hvp : an.eval (.tmp 0) = .slice sp n cap := hI.old (t := 0) (by kernel_rfl) rfl
            exact hI.stepPure (by kernel_rfl) hls rfl rfl rfl (.slice sp n cap) (by simp [execOp, hvp]) rfl rfl hK'
          · obtain rfl := Option.some.inj ho
            obtain ⟨vp, hvp, hsp⟩ := hI.have 8 _ 28 (.val (.slice sp n cap)) rfl rfl rfl (hdep ⟨8, .data⟩ (by simp) rfl)
            obtain rfl := hsp
            exact hI.stepRead (by kernel_rfl) hls rfl rfl rfl (.string (strOfNums lm)) (fun hu => run_convS rfl (eval_of hvp) wn (left_conv sp pb po cap n lm wn Hlm.out Hspm.out (fun j hj => hu.cell (Hcm.out j hj) (fun h => h)))) rfl rfl hK'
          · obtain rfl := Option.some.inj ho
            obtain ⟨vp, hvp, hsp⟩ := hI.have 9 _ 29 (.val (.string (strOfNums lm))) rfl rfl rfl (hdep ⟨9, .data⟩ (by simp) rfl)
            obtain rfl := hsp
            exact hI.stepCall (by kernel_rfl) hls rfl rfl rfl 10 #[.tmp 29] _ rfl #[.string (strOfNums lm)] (by simp [eval_of hvp]) enterrReduce (.val (.agg (numsA .u8 (redL lm)))) rfl rfl ((rReduce_any lm n _ Hlm.out (by have := Hm2.out; omega) Hdm.out).mono fun _ _ h => ⟨_, h.1, rfl, h.2⟩) hK'
          · obtain rfl := Option.some.inj ho
            obtain ⟨vp, hvp, hsp⟩ := hI.have 7 _ 27 (.val (.agg (numsA .u8 (redL lm)))) rfl rfl rfl (hdep ⟨7, .data⟩ (by simp) rfl)
            obtain rfl := hsp
            obtain ⟨vq, hvq, hsq⟩ := hI.have 10 _ 30 (.val (.agg (numsA .u8 (redL lm)))) rfl rfl rfl (hdep ⟨10, .data⟩ (by simp) rfl)
            obtain rfl := hsq
            exact hI.stepPure (by kernel_rfl) hls rfl rfl rfl (.bool true) (run_eqlKey rfl (eval_of hvp) (eval_of hvq) (redL_length _) (redL_length _) (decide_eq_true rfl) wn) rfl rfl hK'
          · obtain rfl := Option.some.inj ho
            obtain ⟨vp, hvp, hsp⟩ := hI.have 11 _ 31 (.val (.bool true)) rfl rfl rfl (hdep ⟨11, .data⟩ (by simp) rfl)
            obtain rfl := hsp
            exact hI.stepPure (by kernel_rfl) hls rfl rfl rfl (.bool true) (by simp [execOp, (eval_of hvp)]) rfl rfl hK'
        · intro fuel an wn hf hI
          obtain ⟨v0, hv0, hs0⟩ := hI.have 0 _ 20 (.val (.slice sp n cap)) rfl rfl rfl rfl
          obtain rfl := hs0
          obtain ⟨v1, hv1, hs1⟩ := hI.have 1 _ 21 (.val (.int .i64 0)) rfl rfl rfl rfl
          obtain rfl := hs1
          obtain ⟨v2, hv2, hs2⟩ := hI.have 2 _ 22 (.val (.slice sp 0 cap)) rfl rfl rfl rfl
          obtain rfl := hs2
          obtain ⟨v3, hv3, hs3⟩ := hI.have 3 _ 23 (.val (.slice sp n cap)) rfl rfl rfl rfl
          obtain rfl := hs3
          obtain ⟨v4, hv4, hs4⟩ := hI.have 4 _ 24 (.val (.int .i64 0)) rfl rfl rfl rfl
          obtain rfl := hs4
          obtain ⟨v5, hv5, hs5⟩ := hI.have 5 _ 25 (.val (.slice (spAt sp cap 0) (n - 0) (cap - 0))) rfl rfl rfl rfl
          obtain rfl := hs5
          obtain ⟨v6, hv6, b6, rfl, hn6, hb6⟩ := hI.have 6 _ 26 (.blk (fun b => .slice (some ⟨b, 0, none⟩) 2 2) 22 #[.slice sp 0 cap, .slice (spAt sp cap 0) (n - 0) (cap - 0)]) rfl rfl rfl rfl
          obtain ⟨v7, hv7, hs7⟩ := hI.have 7 _ 27 (.val (.agg (numsA .u8 (redL lm)))) rfl rfl rfl rfl
          obtain rfl := hs7
          obtain ⟨v8, hv8, hs8⟩ := hI.have 8 _ 28 (.val (.slice sp n cap)) rfl rfl rfl rfl
          obtain rfl := hs8
          obtain ⟨v9, hv9, hs9⟩ := hI.have 9 _ 29 (.val (.string (strOfNums lm))) rfl rfl rfl rfl
          obtain rfl := hs9
          obtain ⟨v10, hv10, hs10⟩ := hI.have 10 _ 30 (.val (.agg (numsA .u8 (redL lm)))) rfl rfl rfl rfl
          obtain rfl := hs10
          obtain ⟨v11, hv11, hs11⟩ := hI.have 11 _ 31 (.val (.bool true)) rfl rfl rfl rfl
          obtain rfl := hs11
          obtain ⟨v12, hv12, hs12⟩ := hI.have 12 _ 4 (.val (.bool true)) rfl rfl rfl rfl
          obtain rfl := hs12
          have hupd := hI.upd
          have ha := hI.act [(20, .slice sp n cap), (21, .int .i64 0), (22, .slice sp 0 cap), (23, .slice sp n cap), (24, .int .i64 0), (25, .slice (spAt sp cap 0) (n - 0) (cap - 0)), (26, .slice (some ⟨b6, 0, none⟩) 2 2), (27, .agg (numsA .u8 (redL lm))), (28, .slice sp n cap), (29, .string (strOfNums lm)), (30, .agg (numsA .u8 (redL lm))), (31, .bool true), (4, .bool true)] (by simp [hv0, hv1, hv2, hv3, hv4, hv5, hv6, hv7, hv8, hv9, hv10, hv11, hv12]) (by kernel_rfl)
          clear hI hv0 hv1 hv2 hv3 hv4 hv5 hv6 hv7 hv8 hv9 hv10 hv11 hv12
          subst ha
          simp only [List.foldl_cons, List.foldl_nil, List.setIfInBounds_toArray, List.set_cons_zero, List.set_cons_succ]
          refine wpAny_done (by kernel_rfl) ?_ _
          go_wp2
          go_ret
          exact ⟨rfl, Hu1.out.drew.trans hupd⟩
end Go.Proofs.YtmfjlicchgacmaaDoor
