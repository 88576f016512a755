/-
  The walk of LadderLow.
-/
import Derived.Test.YtdpafemcpbhlfaaDoorAgr
import Derived.Test.YtdpafemcpbhlfaaDoorLowMath
namespace Go.Proofs.YtdpafemcpbhlfaaDoor
set_option maxRecDepth 100000
open Go.RowKit

def keyW0 : List Int := [1, 0, 0, 0, 0, 0, 0, 0, 0, 0, 0, 0, 0, 0, 0, 0, 0, 0, 0, 0, 0, 0, 0, 0, 0, 0, 0, 0, 0, 0, 0, 0]
theorem keyW0_length : keyW0.length = 32 := rfl
theorem keyW0_digs : Digs 256 keyW0 := digs_of_all (by decide)
theorem keyW0_run {o : Oper} {a : Act} (ho : o.op = .build 23 #[(0, .const (.int .u8 1))]) (w : World) : (execOp a.eval o).run Tryd.prog w = .ok (.value (.agg (numsA .u8 keyW0))) w := by
  have hb : (Instr.build 23 #[(0, .int .u8 1)]).run Tryd.prog w = .ok (.agg (numsA .u8 keyW0)) w := by kernel_rfl
  have hm : (#[(0, .const (.int .u8 1))] : Array (Nat × Operand)).map (fun (i, x) => (i, a.eval x)) = #[(0, .int .u8 1)] := by simp [Act.eval]
  unfold execOp
  simp only [ho]
  rw [hm, Sem.run_bind, hb]
  rfl
def keyW1 : List Int := [224, 235, 122, 124, 59, 65, 184, 174, 22, 86, 227, 250, 241, 159, 196, 106, 218, 9, 141, 235, 156, 50, 177, 253, 134, 98, 5, 22, 95, 73, 184, 0]
theorem keyW1_length : keyW1.length = 32 := rfl
theorem keyW1_digs : Digs 256 keyW1 := digs_of_all (by decide)
theorem keyW1_run {o : Oper} {a : Act} (ho : o.op = .build 23 #[(0, .const (.int .u8 224)), (1, .const (.int .u8 235)), (2, .const (.int .u8 122)), (3, .const (.int .u8 124)), (4, .const (.int .u8 59)), (5, .const (.int .u8 65)), (6, .const (.int .u8 184)), (7, .const (.int .u8 174)), (8, .const (.int .u8 22)), (9, .const (.int .u8 86)), (10, .const (.int .u8 227)), (11, .const (.int .u8 250)), (12, .const (.int .u8 241)), (13, .const (.int .u8 159)), (14, .const (.int .u8 196)), (15, .const (.int .u8 106)), (16, .const (.int .u8 218)), (17, .const (.int .u8 9)), (18, .const (.int .u8 141)), (19, .const (.int .u8 235)), (20, .const (.int .u8 156)), (21, .const (.int .u8 50)), (22, .const (.int .u8 177)), (23, .const (.int .u8 253)), (24, .const (.int .u8 134)), (25, .const (.int .u8 98)), (26, .const (.int .u8 5)), (27, .const (.int .u8 22)), (28, .const (.int .u8 95)), (29, .const (.int .u8 73)), (30, .const (.int .u8 184)), (31, .const (.int .u8 0))]) (w : World) : (execOp a.eval o).run Tryd.prog w = .ok (.value (.agg (numsA .u8 keyW1))) w := by
  have hb : (Instr.build 23 #[(0, .int .u8 224), (1, .int .u8 235), (2, .int .u8 122), (3, .int .u8 124), (4, .int .u8 59), (5, .int .u8 65), (6, .int .u8 184), (7, .int .u8 174), (8, .int .u8 22), (9, .int .u8 86), (10, .int .u8 227), (11, .int .u8 250), (12, .int .u8 241), (13, .int .u8 159), (14, .int .u8 196), (15, .int .u8 106), (16, .int .u8 218), (17, .int .u8 9), (18, .int .u8 141), (19, .int .u8 235), (20, .int .u8 156), (21, .int .u8 50), (22, .int .u8 177), (23, .int .u8 253), (24, .int .u8 134), (25, .int .u8 98), (26, .int .u8 5), (27, .int .u8 22), (28, .int .u8 95), (29, .int .u8 73), (30, .int .u8 184), (31, .int .u8 0)]).run Tryd.prog w = .ok (.agg (numsA .u8 keyW1)) w := by kernel_rfl
  have hm : (#[(0, .const (.int .u8 224)), (1, .const (.int .u8 235)), (2, .const (.int .u8 122)), (3, .const (.int .u8 124)), (4, .const (.int .u8 59)), (5, .const (.int .u8 65)), (6, .const (.int .u8 184)), (7, .const (.int .u8 174)), (8, .const (.int .u8 22)), (9, .const (.int .u8 86)), (10, .const (.int .u8 227)), (11, .const (.int .u8 250)), (12, .const (.int .u8 241)), (13, .const (.int .u8 159)), (14, .const (.int .u8 196)), (15, .const (.int .u8 106)), (16, .const (.int .u8 218)), (17, .const (.int .u8 9)), (18, .const (.int .u8 141)), (19, .const (.int .u8 235)), (20, .const (.int .u8 156)), (21, .const (.int .u8 50)), (22, .const (.int .u8 177)), (23, .const (.int .u8 253)), (24, .const (.int .u8 134)), (25, .const (.int .u8 98)), (26, .const (.int .u8 5)), (27, .const (.int .u8 22)), (28, .const (.int .u8 95)), (29, .const (.int .u8 73)), (30, .const (.int .u8 184)), (31, .const (.int .u8 0))] : Array (Nat × Operand)).map (fun (i, x) => (i, a.eval x)) = #[(0, .int .u8 224), (1, .int .u8 235), (2, .int .u8 122), (3, .int .u8 124), (4, .int .u8 59), (5, .int .u8 65), (6, .int .u8 184), (7, .int .u8 174), (8, .int .u8 22), (9, .int .u8 86), (10, .int .u8 227), (11, .int .u8 250), (12, .int .u8 241), (13, .int .u8 159), (14, .int .u8 196), (15, .int .u8 106), (16, .int .u8 218), (17, .int .u8 9), (18, .int .u8 141), (19, .int .u8 235), (20, .int .u8 156), (21, .int .u8 50), (22, .int .u8 177), (23, .int .u8 253), (24, .int .u8 134), (25, .int .u8 98), (26, .int .u8 5), (27, .int .u8 22), (28, .int .u8 95), (29, .int .u8 73), (30, .int .u8 184), (31, .int .u8 0)] := by simp [Act.eval]
  unfold execOp
  simp only [ho]
  rw [hm, Sem.run_bind, hb]
  rfl
def keyW2 : List Int := [236, 255, 255, 255, 255, 255, 255, 255, 255, 255, 255, 255, 255, 255, 255, 255, 255, 255, 255, 255, 255, 255, 255, 255, 255, 255, 255, 255, 255, 255, 255, 127]
theorem keyW2_length : keyW2.length = 32 := rfl
theorem keyW2_digs : Digs 256 keyW2 := digs_of_all (by decide)
theorem keyW2_run {o : Oper} {a : Act} (ho : o.op = .build 23 #[(0, .const (.int .u8 236)), (1, .const (.int .u8 255)), (2, .const (.int .u8 255)), (3, .const (.int .u8 255)), (4, .const (.int .u8 255)), (5, .const (.int .u8 255)), (6, .const (.int .u8 255)), (7, .const (.int .u8 255)), (8, .const (.int .u8 255)), (9, .const (.int .u8 255)), (10, .const (.int .u8 255)), (11, .const (.int .u8 255)), (12, .const (.int .u8 255)), (13, .const (.int .u8 255)), (14, .const (.int .u8 255)), (15, .const (.int .u8 255)), (16, .const (.int .u8 255)), (17, .const (.int .u8 255)), (18, .const (.int .u8 255)), (19, .const (.int .u8 255)), (20, .const (.int .u8 255)), (21, .const (.int .u8 255)), (22, .const (.int .u8 255)), (23, .const (.int .u8 255)), (24, .const (.int .u8 255)), (25, .const (.int .u8 255)), (26, .const (.int .u8 255)), (27, .const (.int .u8 255)), (28, .const (.int .u8 255)), (29, .const (.int .u8 255)), (30, .const (.int .u8 255)), (31, .const (.int .u8 127))]) (w : World) : (execOp a.eval o).run Tryd.prog w = .ok (.value (.agg (numsA .u8 keyW2))) w := by
  have hb : (Instr.build 23 #[(0, .int .u8 236), (1, .int .u8 255), (2, .int .u8 255), (3, .int .u8 255), (4, .int .u8 255), (5, .int .u8 255), (6, .int .u8 255), (7, .int .u8 255), (8, .int .u8 255), (9, .int .u8 255), (10, .int .u8 255), (11, .int .u8 255), (12, .int .u8 255), (13, .int .u8 255), (14, .int .u8 255), (15, .int .u8 255), (16, .int .u8 255), (17, .int .u8 255), (18, .int .u8 255), (19, .int .u8 255), (20, .int .u8 255), (21, .int .u8 255), (22, .int .u8 255), (23, .int .u8 255), (24, .int .u8 255), (25, .int .u8 255), (26, .int .u8 255), (27, .int .u8 255), (28, .int .u8 255), (29, .int .u8 255), (30, .int .u8 255), (31, .int .u8 127)]).run Tryd.prog w = .ok (.agg (numsA .u8 keyW2)) w := by kernel_rfl
  have hm : (#[(0, .const (.int .u8 236)), (1, .const (.int .u8 255)), (2, .const (.int .u8 255)), (3, .const (.int .u8 255)), (4, .const (.int .u8 255)), (5, .const (.int .u8 255)), (6, .const (.int .u8 255)), (7, .const (.int .u8 255)), (8, .const (.int .u8 255)), (9, .const (.int .u8 255)), (10, .const (.int .u8 255)), (11, .const (.int .u8 255)), (12, .const (.int .u8 255)), (13, .const (.int .u8 255)), (14, .const (.int .u8 255)), (15, .const (.int .u8 255)), (16, .const (.int .u8 255)), (17, .const (.int .u8 255)), (18, .const (.int .u8 255)), (19, .const (.int .u8 255)), (20, .const (.int .u8 255)), (21, .const (.int .u8 255)), (22, .const (.int .u8 255)), (23, .const (.int .u8 255)), (24, .const (.int .u8 255)), (25, .const (.int .u8 255)), (26, .const (.int .u8 255)), (27, .const (.int .u8 255)), (28, .const (.int .u8 255)), (29, .const (.int .u8 255)), (30, .const (.int .u8 255)), (31, .const (.int .u8 127))] : Array (Nat × Operand)).map (fun (i, x) => (i, a.eval x)) = #[(0, .int .u8 236), (1, .int .u8 255), (2, .int .u8 255), (3, .int .u8 255), (4, .int .u8 255), (5, .int .u8 255), (6, .int .u8 255), (7, .int .u8 255), (8, .int .u8 255), (9, .int .u8 255), (10, .int .u8 255), (11, .int .u8 255), (12, .int .u8 255), (13, .int .u8 255), (14, .int .u8 255), (15, .int .u8 255), (16, .int .u8 255), (17, .int .u8 255), (18, .int .u8 255), (19, .int .u8 255), (20, .int .u8 255), (21, .int .u8 255), (22, .int .u8 255), (23, .int .u8 255), (24, .int .u8 255), (25, .int .u8 255), (26, .int .u8 255), (27, .int .u8 255), (28, .int .u8 255), (29, .int .u8 255), (30, .int .u8 255), (31, .int .u8 127)] := by simp [Act.eval]
  unfold execOp
  simp only [ho]
  rw [hm, Sem.run_bind, hb]
  rfl
def lowT (i : Nat) : List Int := [zeroKL, keyW0, keyW1, keyW2].getD i zeroKL
theorem lowT_cases {i : Nat} (h : i < 4) : i = 0 ∨ i = 1 ∨ i = 2 ∨ i = 3 := by omega
theorem lowT_length {i : Nat} (h : i < 4) : (lowT i).length = 32 := by
  rcases lowT_cases h with rfl | rfl | rfl | rfl <;> rfl
theorem lowT_digs {i : Nat} (h : i < 4) : Digs 256 (lowT i) := by
  rcases lowT_cases h with rfl | rfl | rfl | rfl
  · exact zeroKL_digs
  · exact keyW0_digs
  · exact keyW1_digs
  · exact keyW2_digs
theorem lowT_get {i : Nat} (h : i < 4) : [zeroKL, keyW0, keyW1, keyW2][i]? = some (lowT i) := by
  rcases lowT_cases h with rfl | rfl | rfl | rfl <;> rfl
theorem lowT_of {i : Nat} (h : i < 4) : (i = 0 ∧ ofKey (lowT i) = 0 ∧ ofKey ((lowT i).set 31 (bits .or .u8 ((lowT i).getD 31 0) 128)) = 0) ∨ (i = 1 ∧ ofKey (lowT i) = 1 ∧ ofKey ((lowT i).set 31 (bits .or .u8 ((lowT i).getD 31 0) 128)) = 1) ∨
    (i = 2 ∧ ofKey (lowT i) = 325606250916557431795983626356110631294008115727848805560023387167927233504 ∧ ofKey ((lowT i).set 31 (bits .or .u8 ((lowT i).getD 31 0) 128)) = 325606250916557431795983626356110631294008115727848805560023387167927233504) ∨ (i = 3 ∧ ofKey (lowT i) = -1 ∧ ofKey ((lowT i).set 31 (bits .or .u8 ((lowT i).getD 31 0) 128)) = -1) := by
  rcases lowT_cases h with rfl | rfl | rfl | rfl <;> decide +kernel
theorem low_zero {l : List Int} (hl : l.length = 32) (hd : Digs 256 l) {i : Nat} (h : i < 4) : ladV (clampL l) (ofKey (lowT i)) = 0 := by
  rcases lowT_of h with ⟨_, h1, _⟩ | ⟨_, h1, _⟩ | ⟨_, h1, _⟩ | ⟨_, h1, _⟩ <;> rw [h1]
  · exact lad_u0 hl hd
  · exact lad_u1 hl hd
  · exact lad_u8 hl hd
  · exact lad_um hl hd
theorem low_zeroH {l : List Int} (hl : l.length = 32) (hd : Digs 256 l) {i : Nat} (h : i < 4) : ladV (clampL l) (ofKey ((lowT i).set 31 (bits .or .u8 ((lowT i).getD 31 0) 128))) = 0 := by
  rcases lowT_of h with ⟨_, _, h1⟩ | ⟨_, _, h1⟩ | ⟨_, _, h1⟩ | ⟨_, _, h1⟩ <;> rw [h1]
  · exact lad_u0 hl hd
  · exact lad_u1 hl hd
  · exact lad_u8 hl hd
  · exact lad_um hl hd
theorem run_build4K {o : Oper} {a : Act} {p q r s : Operand} (ho : o.op = .build 34 #[(0, p), (1, q), (2, r), (3, s)]) (hp : a.eval p = .agg (numsA .u8 zeroKL)) (hq : a.eval q = .agg (numsA .u8 keyW0)) (hr : a.eval r = .agg (numsA .u8 keyW1)) (hs : a.eval s = .agg (numsA .u8 keyW2)) (_ : (numsA .u8 zeroKL).size = 32) (_ : (numsA .u8 keyW0).size = 32) (_ : (numsA .u8 keyW1).size = 32) (_ : (numsA .u8 keyW2).size = 32) (w : World) :
    (execOp a.eval o).run Tryd.prog w = .ok (.value (.agg (numsA .u8 zeroKL ++ numsA .u8 keyW0 ++ numsA .u8 keyW1 ++ numsA .u8 keyW2))) w := by
  have hb : (Instr.build 34 #[(0, .agg (numsA .u8 zeroKL)), (1, .agg (numsA .u8 keyW0)), (2, .agg (numsA .u8 keyW1)), (3, .agg (numsA .u8 keyW2))]).run Tryd.prog w = .ok (.agg (numsA .u8 zeroKL ++ numsA .u8 keyW0 ++ numsA .u8 keyW1 ++ numsA .u8 keyW2)) w := by kernel_rfl
  have hm : (#[(0, p), (1, q), (2, r), (3, s)] : Array (Nat × Operand)).map (fun (i, x) => (i, a.eval x)) = #[(0, .agg (numsA .u8 zeroKL)), (1, .agg (numsA .u8 keyW0)), (2, .agg (numsA .u8 keyW1)), (3, .agg (numsA .u8 keyW2))] := by simp [hp, hq, hr, hs]
  unfold execOp
  simp only [ho]
  rw [hm, Sem.run_bind, hb]
  rfl
set_option maxHeartbeats 4000000 in
theorem ladderLowN {l : List Int} {pk : Int} {high : Bool} (w : World) (hT : Tw w) (hp : pk < 0) :
    Calls Tryd.prog 7 #[.agg (numsA .u8 l), .int .i64 pk, .bool high] w fun e w' => e = .returned (.bool true) ∧ Upd (fun _ => False) w w' := by
  have HT := Lib.hid hT
  clear hT
  have HU := Lib.hid (Upd.refl (fun _ => False) w)
  go_enter Tryd.func7, Tryd.ntmps7
  refine wp_seq_k fun K0 hK0 => ?_
  refine wp_region_qS 2 #[true, true] [] ([.blk ptrTo 23 (fun z => z = numsA .u8 l), .val (.bool false)] : List SQ) (by kernel_rfl) (by kernel_rfl) (by kernel_rfl) ?_ ?_
  · intro i o listed an wn ho hls hst hun hdep hI hpre K' hK'
    have hi : i = 0 ∨ i = 1 ∨ False := slot_cases (l := [0, 1]) rfl ho hst
    rcases hi with rfl | rfl | hi
    · obtain rfl := Option.some.inj ho
      have hvp : an.eval (.tmp 0) = .agg (numsA .u8 l) := hI.oldQ (by kernel_rfl) rfl
      exact hI.newQ (by kernel_rfl) hls (Nat.le_refl _) (newsQ_spec (l := [0]) (by kernel_rfl) ⟨⟨_, _, rfl⟩, trivial⟩) rfl rfl rfl 23 _ (fun z => z = numsA .u8 l) (run_boxQ rfl hvp wn) rfl rfl hK'
    · obtain rfl := Option.some.inj ho
      exact hI.pureQ (by kernel_rfl) hls rfl rfl rfl (.bool false) (run_moveQ (.inr rfl) (show an.eval (.const (.bool false)) = .bool false from rfl) wn) (.val (.bool false)) rfl rfl rfl hK'
    · exact hi.elim
  · intro an w1 hI
    obtain ⟨vr0_0, hvr0_0, br0_0, zr0_0, rfl, hnr0_0, hbr0_0, hzr0_0⟩ := hI.haveQ 0 _ 3 (.blk ptrTo 23 (fun z => z = numsA .u8 l)) rfl rfl rfl rfl
    rw [hzr0_0] at hbr0_0
    clear hzr0_0
    obtain ⟨vr0_1, hvr0_1, hsr0_1⟩ := hI.haveQ 1 _ 6 (.val (.bool false)) rfl rfl rfl rfl
    obtain rfl := hsr0_1
    have hupd := hI.upd
    have ha := hI.act [(3, ptrTo br0_0), (6, .bool false)] (by simp [hvr0_0, hvr0_1]) (by kernel_rfl)
    clear hI hvr0_0 hvr0_1
    subst ha
    simp only [List.foldl_cons, List.foldl_nil, List.setIfInBounds_toArray, List.set_cons_zero, List.set_cons_succ]
    have hger0_0 := Lib.hid (Nat.le_trans HU.out.size hnr0_0)
    have Bxr0y0 := Lib.hid hbr0_0
    have HU0 := Lib.hid (HU.out.trans hupd)
    clear hupd
    refine wpOps_nil ?_
    refine hK0 _ _ ?_
    clear hK0
    refine wp_seq_k fun K1 hK1 => ?_
    refine wp_seq_k fun K2 hK2 => ?_
    refine wp_region_qS 2 #[true, true] [] ([.val (.bool true), .val (.bool false)] : List SQ) (by kernel_rfl) (by kernel_rfl) (by kernel_rfl) ?_ ?_
    · intro i o listed an wn ho hls hst hun hdep hI hpre K' hK'
      have hi : i = 0 ∨ i = 1 ∨ False := slot_cases (l := [0, 1]) rfl ho hst
      rcases hi with rfl | rfl | hi
      · obtain rfl := Option.some.inj ho
        exact hI.callQ (by kernel_rfl) hls rfl rfl rfl 16 #[] _ rfl #[] (by simp) (run_enter Tryd.func16 (by kernel_rfl) (by kernel_rfl)) (.val (.bool true)) rfl rfl ((agreesL _ (HT.out.upd (HU0.out.trans hI.upd))).mono fun _ _ h => ret_val h) hK'
      · obtain rfl := Option.some.inj ho
        obtain ⟨vp, hvp, hsp⟩ := hI.haveQ 0 _ 11 (.val (.bool true)) rfl rfl rfl (hdep ⟨0, .data⟩ (by simp) rfl)
        obtain rfl := hsp
        exact hI.pureQ (by kernel_rfl) hls rfl rfl rfl (.bool false) (run_not rfl (eval_of hvp) wn) (.val (.bool false)) rfl rfl rfl hK'
      · exact hi.elim
    · intro an w2 hI
      obtain ⟨vr1_0, hvr1_0, hsr1_0⟩ := hI.haveQ 0 _ 11 (.val (.bool true)) rfl rfl rfl rfl
      obtain rfl := hsr1_0
      obtain ⟨vr1_1, hvr1_1, hsr1_1⟩ := hI.haveQ 1 _ 12 (.val (.bool false)) rfl rfl rfl rfl
      obtain rfl := hsr1_1
      have hupd := hI.upd
      have ha := hI.act [(11, .bool true), (12, .bool false)] (by simp [hvr1_0, hvr1_1]) (by kernel_rfl)
      clear hI hvr1_0 hvr1_1
      subst ha
      simp only [List.foldl_cons, List.foldl_nil, List.setIfInBounds_toArray, List.set_cons_zero, List.set_cons_succ]
      have Bxr0y0_1 := Lib.hid (hupd.blk (show Blk w1 br0_0 23 (numsA .u8 l) from Bxr0y0.out) (fun h => h))
      have HU1 := Lib.hid (HU0.out.trans hupd)
      clear hupd
      refine wpOps_nil ?_
      refine hK2 _ _ ?_
      clear hK2
      refine wp_cond_false rfl ?_
      refine wp_skip ?_
      refine hK1 _ _ ?_
      clear hK1
      refine wp_seq_k fun K3 hK3 => ?_
      refine wp_region_qS 6 #[true, true, true, true, true, true, false] [6] ([.val (.agg (numsA .u8 zeroKL)), .val (.agg (numsA .u8 keyW0)), .val (.agg (numsA .u8 keyW1)), .val (.agg (numsA .u8 keyW2)), .like (IsC 32 RK [zeroKL, keyW0, keyW1, keyW2]), .blk ptrTo 34 (Ch 32 RK [zeroKL, zeroKL, zeroKL, zeroKL]), .val undef] : List SQ) (by kernel_rfl) (by kernel_rfl) (by kernel_rfl) ?_ ?_
      · intro i o listed an wn ho hls hst hun hdep hI hpre K' hK'
        have hi : i = 0 ∨ i = 1 ∨ i = 2 ∨ i = 3 ∨ i = 4 ∨ i = 5 ∨ False := slot_cases (l := [0, 1, 2, 3, 4, 5]) rfl ho hst
        rcases hi with rfl | rfl | rfl | rfl | rfl | rfl | hi
        · obtain rfl := Option.some.inj ho
          exact hI.pureQ (by kernel_rfl) hls rfl rfl rfl (.agg (numsA .u8 zeroKL)) (zeroKL_bld rfl wn) (.val (.agg (numsA .u8 zeroKL))) rfl rfl rfl hK'
        · obtain rfl := Option.some.inj ho
          exact hI.pureQ (by kernel_rfl) hls rfl rfl rfl (.agg (numsA .u8 keyW0)) (keyW0_run rfl wn) (.val (.agg (numsA .u8 keyW0))) rfl rfl rfl hK'
        · obtain rfl := Option.some.inj ho
          exact hI.pureQ (by kernel_rfl) hls rfl rfl rfl (.agg (numsA .u8 keyW1)) (keyW1_run rfl wn) (.val (.agg (numsA .u8 keyW1))) rfl rfl rfl hK'
        · obtain rfl := Option.some.inj ho
          exact hI.pureQ (by kernel_rfl) hls rfl rfl rfl (.agg (numsA .u8 keyW2)) (keyW2_run rfl wn) (.val (.agg (numsA .u8 keyW2))) rfl rfl rfl hK'
        · obtain rfl := Option.some.inj ho
          obtain ⟨vp, hvp, hsp⟩ := hI.haveQ 0 _ 13 (.val (.agg (numsA .u8 zeroKL))) rfl rfl rfl (hdep ⟨0, .data⟩ (by simp) rfl)
          obtain rfl := hsp
          obtain ⟨vq, hvq, hsq⟩ := hI.haveQ 1 _ 14 (.val (.agg (numsA .u8 keyW0))) rfl rfl rfl (hdep ⟨1, .data⟩ (by simp) rfl)
          obtain rfl := hsq
          obtain ⟨vr, hvr, hsr⟩ := hI.haveQ 2 _ 15 (.val (.agg (numsA .u8 keyW1))) rfl rfl rfl (hdep ⟨2, .data⟩ (by simp) rfl)
          obtain rfl := hsr
          obtain ⟨vu, hvu, hsu⟩ := hI.haveQ 3 _ 16 (.val (.agg (numsA .u8 keyW2))) rfl rfl rfl (hdep ⟨3, .data⟩ (by simp) rfl)
          obtain rfl := hsu
          exact hI.pureQ (by kernel_rfl) hls rfl rfl rfl _ (run_build4K rfl (eval_of hvp) (eval_of hvq) (eval_of hvr) (eval_of hvu) (Ch.key zeroKL_length zeroKL_digs).size (Ch.key keyW0_length keyW0_digs).size (Ch.key keyW1_length keyW1_digs).size (Ch.key keyW2_length keyW2_digs).size wn) (.like (IsC 32 RK [zeroKL, keyW0, keyW1, keyW2])) rfl ⟨_, rfl, ((((Ch.key zeroKL_length zeroKL_digs).cat (Ch.key keyW0_length keyW0_digs)).cat (Ch.key keyW1_length keyW1_digs)).cat (Ch.key keyW2_length keyW2_digs))⟩ rfl hK'
        · obtain rfl := Option.some.inj ho
          exact hI.newQ (by kernel_rfl) hls (Nat.le_refl _) (newsQ_spec (l := [5]) (by kernel_rfl) ⟨⟨_, _, rfl⟩, trivial⟩) rfl rfl rfl 34 z4K _ (run_allocQ rfl z4K_run wn) rfl z4K_ch hK'
        · exact hi.elim
      · intro an w3 hI
        obtain ⟨vr2_0, hvr2_0, hsr2_0⟩ := hI.haveQ 0 _ 13 (.val (.agg (numsA .u8 zeroKL))) rfl rfl rfl rfl
        obtain rfl := hsr2_0
        obtain ⟨vr2_1, hvr2_1, hsr2_1⟩ := hI.haveQ 1 _ 14 (.val (.agg (numsA .u8 keyW0))) rfl rfl rfl rfl
        obtain rfl := hsr2_1
        obtain ⟨vr2_2, hvr2_2, hsr2_2⟩ := hI.haveQ 2 _ 15 (.val (.agg (numsA .u8 keyW1))) rfl rfl rfl rfl
        obtain rfl := hsr2_2
        obtain ⟨vr2_3, hvr2_3, hsr2_3⟩ := hI.haveQ 3 _ 16 (.val (.agg (numsA .u8 keyW2))) rfl rfl rfl rfl
        obtain rfl := hsr2_3
        obtain ⟨vr2_4, hvr2_4, ar2_4, rfl, hCr2_4⟩ := hI.haveQ 4 _ 17 (.like (IsC 32 RK [zeroKL, keyW0, keyW1, keyW2])) rfl rfl rfl rfl
        obtain ⟨vr2_5, hvr2_5, br2_5, zr2_5, rfl, hnr2_5, hbr2_5, hzr2_5⟩ := hI.haveQ 5 _ 7 (.blk ptrTo 34 (Ch 32 RK [zeroKL, zeroKL, zeroKL, zeroKL])) rfl rfl rfl rfl
        have hupd := hI.upd
        have ha := hI.act [(13, .agg (numsA .u8 zeroKL)), (14, .agg (numsA .u8 keyW0)), (15, .agg (numsA .u8 keyW1)), (16, .agg (numsA .u8 keyW2)), (17, .agg ar2_4), (7, ptrTo br2_5)] (by simp [hvr2_0, hvr2_1, hvr2_2, hvr2_3, hvr2_4, hvr2_5]) (by kernel_rfl)
        clear hI hvr2_0 hvr2_1 hvr2_2 hvr2_3 hvr2_4 hvr2_5
        subst ha
        simp only [List.foldl_cons, List.foldl_nil, List.setIfInBounds_toArray, List.set_cons_zero, List.set_cons_succ]
        have hner2_5_Bxr0y0_1 := Lib.hid (show br2_5 ≠ br0_0 from Nat.ne_of_gt (Nat.lt_of_lt_of_le Bxr0y0_1.out.lt hnr2_5))
        have hger2_5 := Lib.hid (Nat.le_trans HU1.out.size hnr2_5)
        have Bxr0y0_2 := Lib.hid (hupd.blk (show Blk w2 br0_0 23 (numsA .u8 l) from Bxr0y0_1.out) (fun h => h))
        have Bxr2y5 := Lib.hid hbr2_5
        have HU2 := Lib.hid (HU1.out.trans hupd)
        clear hupd
        refine wpOps_storeQ 6 rfl rfl rfl 34 (.tmp 7) (.tmp 17) rfl br2_5 0 128 rfl ar2_4 rfl 34 zr2_5 Bxr2y5.out sz4K hCr2_4.size (by rw [hzr2_5.size]; exact Nat.le_of_ble_eq_true rfl) hCr2_4.one' ?_
        intro ws2_0 hs2_0 hus2_0
        rw [splice_all _ _ 128 hzr2_5.size hCr2_4.size] at hs2_0
        have Bxr0y0_s2_0 := Lib.hid (hus2_0.blk Bxr0y0_2.out (fun e => hner2_5_Bxr0y0_1.out e.symm))
        have Bxr2y5_s2_0 := Lib.hid hs2_0
        have HU2_0 := Lib.hid (HU2.out.step hus2_0 (fun i hi h => absurd hi (Nat.not_lt.2 (h.symm ▸ hger2_5.out))))
        clear hs2_0 hus2_0
        refine wpOps_nil ?_
        refine hK3 _ _ ?_
        clear hK3
        refine wp_seq_k fun K4 hK4 => ?_
        refine wp_seq_k fun K5 hK5 => ?_
        refine wp_region_qS 6 #[true, true, true, true, true, true] [] ([.val (.int .i64 pk), .val (.bool true), .val (.bool true), .val undef, .val undef, .val (.bool true)] : List SQ) (by kernel_rfl) (by kernel_rfl) (by kernel_rfl) ?_ ?_
        · intro i o listed an wn ho hls hst hun hdep hI hpre K' hK'
          have hi : i = 0 ∨ i = 1 ∨ i = 2 ∨ i = 3 ∨ i = 4 ∨ i = 5 ∨ False := slot_cases (l := [0, 1, 2, 3, 4, 5]) rfl ho hst
          rcases hi with rfl | rfl | rfl | rfl | rfl | rfl | hi
          · obtain rfl := Option.some.inj ho
            have hvp : an.eval (.tmp 1) = .int .i64 pk := hI.oldQ (by kernel_rfl) rfl
            exact hI.pureQ (by kernel_rfl) hls rfl rfl rfl (.int .i64 pk) (run_moveQ (.inl rfl) hvp wn) (.val (.int .i64 pk)) rfl rfl rfl hK'
          · obtain rfl := Option.some.inj ho
            obtain ⟨vp, hvp, hsp⟩ := hI.haveQ 0 _ 18 (.val (.int .i64 pk)) rfl rfl rfl (hdep ⟨0, .data⟩ (by simp) rfl)
            obtain rfl := hsp
            exact hI.pureQ (by kernel_rfl) hls rfl rfl rfl (.bool true) (run_lss rfl (eval_of hvp) rfl (decide_eq_true hp) wn) (.val (.bool true)) rfl rfl rfl hK'
          · obtain rfl := Option.some.inj ho
            obtain ⟨vp, hvp, hsp⟩ := hI.haveQ 1 _ 19 (.val (.bool true)) rfl rfl rfl (hdep ⟨1, .data⟩ (by simp) rfl)
            obtain rfl := hsp
            exact hI.pureQ (by kernel_rfl) hls rfl rfl rfl (.bool true) (run_moveQ (.inl rfl) (eval_of hvp) wn) (.val (.bool true)) rfl rfl rfl hK'
          · obtain rfl := Option.some.inj ho
            obtain ⟨vg, hvg, hsg⟩ := hI.haveQ 2 _ 20 (.val (.bool true)) rfl rfl rfl (hdep ⟨2, .guard⟩ (by simp) rfl)
            obtain rfl := hsg
            exact hI.skipQ (by kernel_rfl) hls rfl (wanted_notQ rfl rfl rfl hvg rfl) rfl rfl rfl hK'
          · obtain rfl := Option.some.inj ho
            obtain ⟨vg, hvg, hsg⟩ := hI.haveQ 2 _ 20 (.val (.bool true)) rfl rfl rfl (hdep ⟨2, .guard⟩ (by simp) rfl)
            obtain rfl := hsg
            exact hI.skipQ (by kernel_rfl) hls rfl (wanted_notQ rfl rfl rfl hvg rfl) rfl rfl rfl hK'
          · obtain rfl := Option.some.inj ho
            obtain ⟨vp, hvp, hsp⟩ := hI.haveQ 2 _ 20 (.val (.bool true)) rfl rfl rfl (hdep ⟨2, .data⟩ (by simp) rfl)
            obtain rfl := hsp
            exact hI.pureQ (by kernel_rfl) hls rfl rfl rfl (.bool true) (run_pickT rfl (eval_of hvp) (show an.eval (.const (.bool true)) = .bool true from rfl) wn) (.val (.bool true)) rfl rfl rfl hK'
          · exact hi.elim
        · intro an w4 hI
          obtain ⟨vr3_0, hvr3_0, hsr3_0⟩ := hI.haveQ 0 _ 18 (.val (.int .i64 pk)) rfl rfl rfl rfl
          obtain rfl := hsr3_0
          obtain ⟨vr3_1, hvr3_1, hsr3_1⟩ := hI.haveQ 1 _ 19 (.val (.bool true)) rfl rfl rfl rfl
          obtain rfl := hsr3_1
          obtain ⟨vr3_2, hvr3_2, hsr3_2⟩ := hI.haveQ 2 _ 20 (.val (.bool true)) rfl rfl rfl rfl
          obtain rfl := hsr3_2
          obtain ⟨vr3_3, hvr3_3, hsr3_3⟩ := hI.haveQ 3 _ 21 (.val undef) rfl rfl rfl rfl
          obtain rfl := hsr3_3
          obtain ⟨vr3_4, hvr3_4, hsr3_4⟩ := hI.haveQ 4 _ 22 (.val undef) rfl rfl rfl rfl
          obtain rfl := hsr3_4
          obtain ⟨vr3_5, hvr3_5, hsr3_5⟩ := hI.haveQ 5 _ 23 (.val (.bool true)) rfl rfl rfl rfl
          obtain rfl := hsr3_5
          have hupd := hI.upd
          have ha := hI.act [(18, .int .i64 pk), (19, .bool true), (20, .bool true), (21, undef), (22, undef), (23, .bool true)] (by simp [hvr3_0, hvr3_1, hvr3_2, hvr3_3, hvr3_4, hvr3_5]) (by kernel_rfl)
          clear hI hvr3_0 hvr3_1 hvr3_2 hvr3_3 hvr3_4 hvr3_5
          subst ha
          simp only [List.foldl_cons, List.foldl_nil, List.setIfInBounds_toArray, List.set_cons_zero, List.set_cons_succ]
          have Bxr0y0_3 := Lib.hid (hupd.blk (show Blk ws2_0 br0_0 23 (numsA .u8 l) from Bxr0y0_s2_0.out) (fun h => h))
          have Bxr2y5_3 := Lib.hid (hupd.blk (show Blk ws2_0 br2_5 34 ar2_4 from Bxr2y5_s2_0.out) (fun h => h))
          have HU3 := Lib.hid (HU2_0.out.trans hupd)
          clear hupd
          refine wpOps_nil ?_
          refine hK5 _ _ ?_
          clear hK5
          refine wp_cond_true rfl ?_
          refine wp_seq_k fun K6 hK6 => ?_
          refine wp_region_qS 1 #[true] [] ([.val (.bool true)] : List SQ) (by kernel_rfl) (by kernel_rfl) (by kernel_rfl) ?_ ?_
          · intro i o listed an wn ho hls hst hun hdep hI hpre K' hK'
            have hi : i = 0 ∨ False := slot_cases (l := [0]) rfl ho hst
            rcases hi with rfl | hi
            · obtain rfl := Option.some.inj ho
              exact hI.pureQ (by kernel_rfl) hls rfl rfl rfl (.bool true) (run_moveQ (.inr rfl) (show an.eval (.const (.bool true)) = .bool true from rfl) wn) (.val (.bool true)) rfl rfl rfl hK'
            · exact hi.elim
          · intro an w5 hI
            obtain ⟨vr4_0, hvr4_0, hsr4_0⟩ := hI.haveQ 0 _ 6 (.val (.bool true)) rfl rfl rfl rfl
            obtain rfl := hsr4_0
            have hupd := hI.upd
            have ha := hI.act [(6, .bool true)] (by simp [hvr4_0]) (by kernel_rfl)
            clear hI hvr4_0
            subst ha
            simp only [List.foldl_cons, List.foldl_nil, List.setIfInBounds_toArray, List.set_cons_zero, List.set_cons_succ]
            have Bxr0y0_4 := Lib.hid (hupd.blk (show Blk w4 br0_0 23 (numsA .u8 l) from Bxr0y0_3.out) (fun h => h))
            have Bxr2y5_4 := Lib.hid (hupd.blk (show Blk w4 br2_5 34 ar2_4 from Bxr2y5_3.out) (fun h => h))
            have HU4 := Lib.hid (HU3.out.trans hupd)
            clear hupd
            refine wpOps_nil ?_
            refine hK6 _ _ ?_
            clear hK6
            refine wp_ret ?_
            try dsimp only [Exit.then]
            try dsimp only [Exit.inBlock]
            exact bodyPost_ret (v := .bool true) (results_tmpQ (fn := Tryd.f7) (t := 6) rfl _ _ (.bool true) rfl) rfl ⟨rfl, HU4.out⟩
set_option maxHeartbeats 4000000 in
theorem ladderLowG {l : List Int} {pk : Int} {high : Bool} (w : World) (hT : Tw w) (hp : 3 < pk) :
    Calls Tryd.prog 7 #[.agg (numsA .u8 l), .int .i64 pk, .bool high] w fun e w' => e = .returned (.bool true) ∧ Upd (fun _ => False) w w' := by
  have HT := Lib.hid hT
  clear hT
  have HU := Lib.hid (Upd.refl (fun _ => False) w)
  go_enter Tryd.func7, Tryd.ntmps7
  refine wp_seq_k fun K0 hK0 => ?_
  refine wp_region_qS 2 #[true, true] [] ([.blk ptrTo 23 (fun z => z = numsA .u8 l), .val (.bool false)] : List SQ) (by kernel_rfl) (by kernel_rfl) (by kernel_rfl) ?_ ?_
  · intro i o listed an wn ho hls hst hun hdep hI hpre K' hK'
    have hi : i = 0 ∨ i = 1 ∨ False := slot_cases (l := [0, 1]) rfl ho hst
    rcases hi with rfl | rfl | hi
    · obtain rfl := Option.some.inj ho
      have hvp : an.eval (.tmp 0) = .agg (numsA .u8 l) := hI.oldQ (by kernel_rfl) rfl
      exact hI.newQ (by kernel_rfl) hls (Nat.le_refl _) (newsQ_spec (l := [0]) (by kernel_rfl) ⟨⟨_, _, rfl⟩, trivial⟩) rfl rfl rfl 23 _ (fun z => z = numsA .u8 l) (run_boxQ rfl hvp wn) rfl rfl hK'
    · obtain rfl := Option.some.inj ho
      exact hI.pureQ (by kernel_rfl) hls rfl rfl rfl (.bool false) (run_moveQ (.inr rfl) (show an.eval (.const (.bool false)) = .bool false from rfl) wn) (.val (.bool false)) rfl rfl rfl hK'
    · exact hi.elim
  · intro an w1 hI
    obtain ⟨vr0_0, hvr0_0, br0_0, zr0_0, rfl, hnr0_0, hbr0_0, hzr0_0⟩ := hI.haveQ 0 _ 3 (.blk ptrTo 23 (fun z => z = numsA .u8 l)) rfl rfl rfl rfl
    rw [hzr0_0] at hbr0_0
    clear hzr0_0
    obtain ⟨vr0_1, hvr0_1, hsr0_1⟩ := hI.haveQ 1 _ 6 (.val (.bool false)) rfl rfl rfl rfl
    obtain rfl := hsr0_1
    have hupd := hI.upd
    have ha := hI.act [(3, ptrTo br0_0), (6, .bool false)] (by simp [hvr0_0, hvr0_1]) (by kernel_rfl)
    clear hI hvr0_0 hvr0_1
    subst ha
    simp only [List.foldl_cons, List.foldl_nil, List.setIfInBounds_toArray, List.set_cons_zero, List.set_cons_succ]
    have hger0_0 := Lib.hid (Nat.le_trans HU.out.size hnr0_0)
    have Bxr0y0 := Lib.hid hbr0_0
    have HU0 := Lib.hid (HU.out.trans hupd)
    clear hupd
    refine wpOps_nil ?_
    refine hK0 _ _ ?_
    clear hK0
    refine wp_seq_k fun K1 hK1 => ?_
    refine wp_seq_k fun K2 hK2 => ?_
    refine wp_region_qS 2 #[true, true] [] ([.val (.bool true), .val (.bool false)] : List SQ) (by kernel_rfl) (by kernel_rfl) (by kernel_rfl) ?_ ?_
    · intro i o listed an wn ho hls hst hun hdep hI hpre K' hK'
      have hi : i = 0 ∨ i = 1 ∨ False := slot_cases (l := [0, 1]) rfl ho hst
      rcases hi with rfl | rfl | hi
      · obtain rfl := Option.some.inj ho
        exact hI.callQ (by kernel_rfl) hls rfl rfl rfl 16 #[] _ rfl #[] (by simp) (run_enter Tryd.func16 (by kernel_rfl) (by kernel_rfl)) (.val (.bool true)) rfl rfl ((agreesL _ (HT.out.upd (HU0.out.trans hI.upd))).mono fun _ _ h => ret_val h) hK'
      · obtain rfl := Option.some.inj ho
        obtain ⟨vp, hvp, hsp⟩ := hI.haveQ 0 _ 11 (.val (.bool true)) rfl rfl rfl (hdep ⟨0, .data⟩ (by simp) rfl)
        obtain rfl := hsp
        exact hI.pureQ (by kernel_rfl) hls rfl rfl rfl (.bool false) (run_not rfl (eval_of hvp) wn) (.val (.bool false)) rfl rfl rfl hK'
      · exact hi.elim
    · intro an w2 hI
      obtain ⟨vr1_0, hvr1_0, hsr1_0⟩ := hI.haveQ 0 _ 11 (.val (.bool true)) rfl rfl rfl rfl
      obtain rfl := hsr1_0
      obtain ⟨vr1_1, hvr1_1, hsr1_1⟩ := hI.haveQ 1 _ 12 (.val (.bool false)) rfl rfl rfl rfl
      obtain rfl := hsr1_1
      have hupd := hI.upd
      have ha := hI.act [(11, .bool true), (12, .bool false)] (by simp [hvr1_0, hvr1_1]) (by kernel_rfl)
      clear hI hvr1_0 hvr1_1
      subst ha
      simp only [List.foldl_cons, List.foldl_nil, List.setIfInBounds_toArray, List.set_cons_zero, List.set_cons_succ]
      have Bxr0y0_1 := Lib.hid (hupd.blk (show Blk w1 br0_0 23 (numsA .u8 l) from Bxr0y0.out) (fun h => h))
      have HU1 := Lib.hid (HU0.out.trans hupd)
      clear hupd
      refine wpOps_nil ?_
      refine hK2 _ _ ?_
      clear hK2
      refine wp_cond_false rfl ?_
      refine wp_skip ?_
      refine hK1 _ _ ?_
      clear hK1
      refine wp_seq_k fun K3 hK3 => ?_
      refine wp_region_qS 6 #[true, true, true, true, true, true, false] [6] ([.val (.agg (numsA .u8 zeroKL)), .val (.agg (numsA .u8 keyW0)), .val (.agg (numsA .u8 keyW1)), .val (.agg (numsA .u8 keyW2)), .like (IsC 32 RK [zeroKL, keyW0, keyW1, keyW2]), .blk ptrTo 34 (Ch 32 RK [zeroKL, zeroKL, zeroKL, zeroKL]), .val undef] : List SQ) (by kernel_rfl) (by kernel_rfl) (by kernel_rfl) ?_ ?_
      · intro i o listed an wn ho hls hst hun hdep hI hpre K' hK'
        have hi : i = 0 ∨ i = 1 ∨ i = 2 ∨ i = 3 ∨ i = 4 ∨ i = 5 ∨ False := slot_cases (l := [0, 1, 2, 3, 4, 5]) rfl ho hst
        rcases hi with rfl | rfl | rfl | rfl | rfl | rfl | hi
        · obtain rfl := Option.some.inj ho
          exact hI.pureQ (by kernel_rfl) hls rfl rfl rfl (.agg (numsA .u8 zeroKL)) (zeroKL_bld rfl wn) (.val (.agg (numsA .u8 zeroKL))) rfl rfl rfl hK'
        · obtain rfl := Option.some.inj ho
          exact hI.pureQ (by kernel_rfl) hls rfl rfl rfl (.agg (numsA .u8 keyW0)) (keyW0_run rfl wn) (.val (.agg (numsA .u8 keyW0))) rfl rfl rfl hK'
        · obtain rfl := Option.some.inj ho
          exact hI.pureQ (by kernel_rfl) hls rfl rfl rfl (.agg (numsA .u8 keyW1)) (keyW1_run rfl wn) (.val (.agg (numsA .u8 keyW1))) rfl rfl rfl hK'
        · obtain rfl := Option.some.inj ho
          exact hI.pureQ (by kernel_rfl) hls rfl rfl rfl (.agg (numsA .u8 keyW2)) (keyW2_run rfl wn) (.val (.agg (numsA .u8 keyW2))) rfl rfl rfl hK'
        · obtain rfl := Option.some.inj ho
          obtain ⟨vp, hvp, hsp⟩ := hI.haveQ 0 _ 13 (.val (.agg (numsA .u8 zeroKL))) rfl rfl rfl (hdep ⟨0, .data⟩ (by simp) rfl)
          obtain rfl := hsp
          obtain ⟨vq, hvq, hsq⟩ := hI.haveQ 1 _ 14 (.val (.agg (numsA .u8 keyW0))) rfl rfl rfl (hdep ⟨1, .data⟩ (by simp) rfl)
          obtain rfl := hsq
          obtain ⟨vr, hvr, hsr⟩ := hI.haveQ 2 _ 15 (.val (.agg (numsA .u8 keyW1))) rfl rfl rfl (hdep ⟨2, .data⟩ (by simp) rfl)
          obtain rfl := hsr
          obtain ⟨vu, hvu, hsu⟩ := hI.haveQ 3 _ 16 (.val (.agg (numsA .u8 keyW2))) rfl rfl rfl (hdep ⟨3, .data⟩ (by simp) rfl)
          obtain rfl := hsu
          exact hI.pureQ (by kernel_rfl) hls rfl rfl rfl _ (run_build4K rfl (eval_of hvp) (eval_of hvq) (eval_of hvr) (eval_of hvu) (Ch.key zeroKL_length zeroKL_digs).size (Ch.key keyW0_length keyW0_digs).size (Ch.key keyW1_length keyW1_digs).size (Ch.key keyW2_length keyW2_digs).size wn) (.like (IsC 32 RK [zeroKL, keyW0, keyW1, keyW2])) rfl ⟨_, rfl, ((((Ch.key zeroKL_length zeroKL_digs).cat (Ch.key keyW0_length keyW0_digs)).cat (Ch.key keyW1_length keyW1_digs)).cat (Ch.key keyW2_length keyW2_digs))⟩ rfl hK'
        · obtain rfl := Option.some.inj ho
          exact hI.newQ (by kernel_rfl) hls (Nat.le_refl _) (newsQ_spec (l := [5]) (by kernel_rfl) ⟨⟨_, _, rfl⟩, trivial⟩) rfl rfl rfl 34 z4K _ (run_allocQ rfl z4K_run wn) rfl z4K_ch hK'
        · exact hi.elim
      · intro an w3 hI
        obtain ⟨vr2_0, hvr2_0, hsr2_0⟩ := hI.haveQ 0 _ 13 (.val (.agg (numsA .u8 zeroKL))) rfl rfl rfl rfl
        obtain rfl := hsr2_0
        obtain ⟨vr2_1, hvr2_1, hsr2_1⟩ := hI.haveQ 1 _ 14 (.val (.agg (numsA .u8 keyW0))) rfl rfl rfl rfl
        obtain rfl := hsr2_1
        obtain ⟨vr2_2, hvr2_2, hsr2_2⟩ := hI.haveQ 2 _ 15 (.val (.agg (numsA .u8 keyW1))) rfl rfl rfl rfl
        obtain rfl := hsr2_2
        obtain ⟨vr2_3, hvr2_3, hsr2_3⟩ := hI.haveQ 3 _ 16 (.val (.agg (numsA .u8 keyW2))) rfl rfl rfl rfl
        obtain rfl := hsr2_3
        obtain ⟨vr2_4, hvr2_4, ar2_4, rfl, hCr2_4⟩ := hI.haveQ 4 _ 17 (.like (IsC 32 RK [zeroKL, keyW0, keyW1, keyW2])) rfl rfl rfl rfl
        obtain ⟨vr2_5, hvr2_5, br2_5, zr2_5, rfl, hnr2_5, hbr2_5, hzr2_5⟩ := hI.haveQ 5 _ 7 (.blk ptrTo 34 (Ch 32 RK [zeroKL, zeroKL, zeroKL, zeroKL])) rfl rfl rfl rfl
        have hupd := hI.upd
        have ha := hI.act [(13, .agg (numsA .u8 zeroKL)), (14, .agg (numsA .u8 keyW0)), (15, .agg (numsA .u8 keyW1)), (16, .agg (numsA .u8 keyW2)), (17, .agg ar2_4), (7, ptrTo br2_5)] (by simp [hvr2_0, hvr2_1, hvr2_2, hvr2_3, hvr2_4, hvr2_5]) (by kernel_rfl)
        clear hI hvr2_0 hvr2_1 hvr2_2 hvr2_3 hvr2_4 hvr2_5
        subst ha
        simp only [List.foldl_cons, List.foldl_nil, List.setIfInBounds_toArray, List.set_cons_zero, List.set_cons_succ]
        have hner2_5_Bxr0y0_1 := Lib.hid (show br2_5 ≠ br0_0 from Nat.ne_of_gt (Nat.lt_of_lt_of_le Bxr0y0_1.out.lt hnr2_5))
        have hger2_5 := Lib.hid (Nat.le_trans HU1.out.size hnr2_5)
        have Bxr0y0_2 := Lib.hid (hupd.blk (show Blk w2 br0_0 23 (numsA .u8 l) from Bxr0y0_1.out) (fun h => h))
        have Bxr2y5 := Lib.hid hbr2_5
        have HU2 := Lib.hid (HU1.out.trans hupd)
        clear hupd
        refine wpOps_storeQ 6 rfl rfl rfl 34 (.tmp 7) (.tmp 17) rfl br2_5 0 128 rfl ar2_4 rfl 34 zr2_5 Bxr2y5.out sz4K hCr2_4.size (by rw [hzr2_5.size]; exact Nat.le_of_ble_eq_true rfl) hCr2_4.one' ?_
        intro ws2_0 hs2_0 hus2_0
        rw [splice_all _ _ 128 hzr2_5.size hCr2_4.size] at hs2_0
        have Bxr0y0_s2_0 := Lib.hid (hus2_0.blk Bxr0y0_2.out (fun e => hner2_5_Bxr0y0_1.out e.symm))
        have Bxr2y5_s2_0 := Lib.hid hs2_0
        have HU2_0 := Lib.hid (HU2.out.step hus2_0 (fun i hi h => absurd hi (Nat.not_lt.2 (h.symm ▸ hger2_5.out))))
        clear hs2_0 hus2_0
        refine wpOps_nil ?_
        refine hK3 _ _ ?_
        clear hK3
        refine wp_seq_k fun K4 hK4 => ?_
        refine wp_seq_k fun K5 hK5 => ?_
        refine wp_region_qS 6 #[true, true, true, true, true, true] [] ([.val (.int .i64 pk), .val (.bool false), .val (.bool false), .val (.int .i64 pk), .val (.bool true), .val (.bool true)] : List SQ) (by kernel_rfl) (by kernel_rfl) (by kernel_rfl) ?_ ?_
        · intro i o listed an wn ho hls hst hun hdep hI hpre K' hK'
          have hi : i = 0 ∨ i = 1 ∨ i = 2 ∨ i = 3 ∨ i = 4 ∨ i = 5 ∨ False := slot_cases (l := [0, 1, 2, 3, 4, 5]) rfl ho hst
          rcases hi with rfl | rfl | rfl | rfl | rfl | rfl | hi
          · obtain rfl := Option.some.inj ho
            have hvp : an.eval (.tmp 1) = .int .i64 pk := hI.oldQ (by kernel_rfl) rfl
            exact hI.pureQ (by kernel_rfl) hls rfl rfl rfl (.int .i64 pk) (run_moveQ (.inl rfl) hvp wn) (.val (.int .i64 pk)) rfl rfl rfl hK'
          · obtain rfl := Option.some.inj ho
            obtain ⟨vp, hvp, hsp⟩ := hI.haveQ 0 _ 18 (.val (.int .i64 pk)) rfl rfl rfl (hdep ⟨0, .data⟩ (by simp) rfl)
            obtain rfl := hsp
            exact hI.pureQ (by kernel_rfl) hls rfl rfl rfl (.bool false) (run_lss rfl (eval_of hvp) rfl (decide_eq_false (by omega)) wn) (.val (.bool false)) rfl rfl rfl hK'
          · obtain rfl := Option.some.inj ho
            obtain ⟨vp, hvp, hsp⟩ := hI.haveQ 1 _ 19 (.val (.bool false)) rfl rfl rfl (hdep ⟨1, .data⟩ (by simp) rfl)
            obtain rfl := hsp
            exact hI.pureQ (by kernel_rfl) hls rfl rfl rfl (.bool false) (run_moveQ (.inl rfl) (eval_of hvp) wn) (.val (.bool false)) rfl rfl rfl hK'
          · obtain rfl := Option.some.inj ho
            obtain ⟨vg, hvg, hsg⟩ := hI.haveQ 2 _ 20 (.val (.bool false)) rfl rfl rfl (hdep ⟨2, .guard⟩ (by simp) rfl)
            obtain rfl := hsg
            have hvp : an.eval (.tmp 1) = .int .i64 pk := hI.oldQ (by kernel_rfl) rfl
            exact hI.pureQ (by kernel_rfl) hls rfl (wanted_of rfl rfl rfl hvg) rfl (.int .i64 pk) (run_moveQ (.inl rfl) hvp wn) (.val (.int .i64 pk)) rfl rfl rfl hK'
          · obtain rfl := Option.some.inj ho
            obtain ⟨vg, hvg, hsg⟩ := hI.haveQ 2 _ 20 (.val (.bool false)) rfl rfl rfl (hdep ⟨2, .guard⟩ (by simp) rfl)
            obtain rfl := hsg
            obtain ⟨vp, hvp, hsp⟩ := hI.haveQ 3 _ 21 (.val (.int .i64 pk)) rfl rfl rfl (hdep ⟨3, .data⟩ (by simp) rfl)
            obtain rfl := hsp
            exact hI.pureQ (by kernel_rfl) hls rfl (wanted_of rfl rfl rfl hvg) rfl (.bool true) (run_gtr rfl (eval_of hvp) rfl (decide_eq_true hp) wn) (.val (.bool true)) rfl rfl rfl hK'
          · obtain rfl := Option.some.inj ho
            obtain ⟨vp, hvp, hsp⟩ := hI.haveQ 2 _ 20 (.val (.bool false)) rfl rfl rfl (hdep ⟨2, .data⟩ (by simp) rfl)
            obtain rfl := hsp
            obtain ⟨vq, hvq, hsq⟩ := hI.haveQ 4 _ 22 (.val (.bool true)) rfl rfl rfl (hdep ⟨4, .data⟩ (by simp) rfl)
            obtain rfl := hsq
            exact hI.pureQ (by kernel_rfl) hls rfl rfl rfl (.bool true) (run_pickF rfl (eval_of hvp) (eval_of hvq) wn) (.val (.bool true)) rfl rfl rfl hK'
          · exact hi.elim
        · intro an w4 hI
          obtain ⟨vr3_0, hvr3_0, hsr3_0⟩ := hI.haveQ 0 _ 18 (.val (.int .i64 pk)) rfl rfl rfl rfl
          obtain rfl := hsr3_0
          obtain ⟨vr3_1, hvr3_1, hsr3_1⟩ := hI.haveQ 1 _ 19 (.val (.bool false)) rfl rfl rfl rfl
          obtain rfl := hsr3_1
          obtain ⟨vr3_2, hvr3_2, hsr3_2⟩ := hI.haveQ 2 _ 20 (.val (.bool false)) rfl rfl rfl rfl
          obtain rfl := hsr3_2
          obtain ⟨vr3_3, hvr3_3, hsr3_3⟩ := hI.haveQ 3 _ 21 (.val (.int .i64 pk)) rfl rfl rfl rfl
          obtain rfl := hsr3_3
          obtain ⟨vr3_4, hvr3_4, hsr3_4⟩ := hI.haveQ 4 _ 22 (.val (.bool true)) rfl rfl rfl rfl
          obtain rfl := hsr3_4
          obtain ⟨vr3_5, hvr3_5, hsr3_5⟩ := hI.haveQ 5 _ 23 (.val (.bool true)) rfl rfl rfl rfl
          obtain rfl := hsr3_5
          have hupd := hI.upd
          have ha := hI.act [(18, .int .i64 pk), (19, .bool false), (20, .bool false), (21, .int .i64 pk), (22, .bool true), (23, .bool true)] (by simp [hvr3_0, hvr3_1, hvr3_2, hvr3_3, hvr3_4, hvr3_5]) (by kernel_rfl)
          clear hI hvr3_0 hvr3_1 hvr3_2 hvr3_3 hvr3_4 hvr3_5
          subst ha
          simp only [List.foldl_cons, List.foldl_nil, List.setIfInBounds_toArray, List.set_cons_zero, List.set_cons_succ]
          have Bxr0y0_3 := Lib.hid (hupd.blk (show Blk ws2_0 br0_0 23 (numsA .u8 l) from Bxr0y0_s2_0.out) (fun h => h))
          have Bxr2y5_3 := Lib.hid (hupd.blk (show Blk ws2_0 br2_5 34 ar2_4 from Bxr2y5_s2_0.out) (fun h => h))
          have HU3 := Lib.hid (HU2_0.out.trans hupd)
          clear hupd
          refine wpOps_nil ?_
          refine hK5 _ _ ?_
          clear hK5
          refine wp_cond_true rfl ?_
          refine wp_seq_k fun K6 hK6 => ?_
          refine wp_region_qS 1 #[true] [] ([.val (.bool true)] : List SQ) (by kernel_rfl) (by kernel_rfl) (by kernel_rfl) ?_ ?_
          · intro i o listed an wn ho hls hst hun hdep hI hpre K' hK'
            have hi : i = 0 ∨ False := slot_cases (l := [0]) rfl ho hst
            rcases hi with rfl | hi
            · obtain rfl := Option.some.inj ho
              exact hI.pureQ (by kernel_rfl) hls rfl rfl rfl (.bool true) (run_moveQ (.inr rfl) (show an.eval (.const (.bool true)) = .bool true from rfl) wn) (.val (.bool true)) rfl rfl rfl hK'
            · exact hi.elim
          · intro an w5 hI
            obtain ⟨vr4_0, hvr4_0, hsr4_0⟩ := hI.haveQ 0 _ 6 (.val (.bool true)) rfl rfl rfl rfl
            obtain rfl := hsr4_0
            have hupd := hI.upd
            have ha := hI.act [(6, .bool true)] (by simp [hvr4_0]) (by kernel_rfl)
            clear hI hvr4_0
            subst ha
            simp only [List.foldl_cons, List.foldl_nil, List.setIfInBounds_toArray, List.set_cons_zero, List.set_cons_succ]
            have Bxr0y0_4 := Lib.hid (hupd.blk (show Blk w4 br0_0 23 (numsA .u8 l) from Bxr0y0_3.out) (fun h => h))
            have Bxr2y5_4 := Lib.hid (hupd.blk (show Blk w4 br2_5 34 ar2_4 from Bxr2y5_3.out) (fun h => h))
            have HU4 := Lib.hid (HU3.out.trans hupd)
            clear hupd
            refine wpOps_nil ?_
            refine hK6 _ _ ?_
            clear hK6
            refine wp_ret ?_
            try dsimp only [Exit.then]
            try dsimp only [Exit.inBlock]
            exact bodyPost_ret (v := .bool true) (results_tmpQ (fn := Tryd.f7) (t := 6) rfl _ _ (.bool true) rfl) rfl ⟨rfl, HU4.out⟩
set_option maxHeartbeats 4000000 in
theorem ladderLowM {l : List Int} {i : Nat} {high : Bool} (w : World) (hT : Tw w) (hl : l.length = 32) (hd : Digs 256 l) (hi : i < 4) :
    Calls Tryd.prog 7 #[.agg (numsA .u8 l), .int .i64 (i : Int), .bool high] w fun e w' => e = .returned (.bool true) ∧ Upd (fun _ => False) w w' := by
  have HT := Lib.hid hT
  clear hT
  have HU := Lib.hid (Upd.refl (fun _ => False) w)
  have Hi := Lib.hid hi
  clear hi
  have hz0 : ladV (clampL l) (ofKey (lowT i)) = 0 := low_zero hl hd Hi.out
  have f0 : decide (agE (ladV (clampL l) (ofKey (lowT i))) = 50) = true := decide_eq_true (by rw [hz0]; exact if_pos keyOf_zero)
  have g0 : decide (keyOf (ladV (clampL l) (ofKey (lowT i))) = zeroKL) = true := decide_eq_true (by rw [hz0]; exact keyOf_zero)
  have hz1 : ladV (clampL l) (ofKey ((lowT i).set 31 (bits .or .u8 ((lowT i).getD 31 0) 128))) = 0 := low_zeroH hl hd Hi.out
  have f1 : decide (agE (ladV (clampL l) (ofKey ((lowT i).set 31 (bits .or .u8 ((lowT i).getD 31 0) 128)))) = 50) = true := decide_eq_true (by rw [hz1]; exact if_pos keyOf_zero)
  have g1 : decide (keyOf (ladV (clampL l) (ofKey ((lowT i).set 31 (bits .or .u8 ((lowT i).getD 31 0) 128)))) = zeroKL) = true := decide_eq_true (by rw [hz1]; exact keyOf_zero)
  go_enter Tryd.func7, Tryd.ntmps7
  refine wp_seq_k fun K0 hK0 => ?_
  refine wp_region_qS 2 #[true, true] [] ([.blk ptrTo 23 (fun z => z = numsA .u8 l), .val (.bool false)] : List SQ) (by kernel_rfl) (by kernel_rfl) (by kernel_rfl) ?_ ?_
  · intro i o listed an wn ho hls hst hun hdep hI hpre K' hK'
    have hi : i = 0 ∨ i = 1 ∨ False := slot_cases (l := [0, 1]) rfl ho hst
    rcases hi with rfl | rfl | hi
    · obtain rfl := Option.some.inj ho
      have hvp : an.eval (.tmp 0) = .agg (numsA .u8 l) := hI.oldQ (by kernel_rfl) rfl
      exact hI.newQ (by kernel_rfl) hls (Nat.le_refl _) (newsQ_spec (l := [0]) (by kernel_rfl) ⟨⟨_, _, rfl⟩, trivial⟩) rfl rfl rfl 23 _ (fun z => z = numsA .u8 l) (run_boxQ rfl hvp wn) rfl rfl hK'
    · obtain rfl := Option.some.inj ho
      exact hI.pureQ (by kernel_rfl) hls rfl rfl rfl (.bool false) (run_moveQ (.inr rfl) (show an.eval (.const (.bool false)) = .bool false from rfl) wn) (.val (.bool false)) rfl rfl rfl hK'
    · exact hi.elim
  · intro an w1 hI
    obtain ⟨vr0_0, hvr0_0, br0_0, zr0_0, rfl, hnr0_0, hbr0_0, hzr0_0⟩ := hI.haveQ 0 _ 3 (.blk ptrTo 23 (fun z => z = numsA .u8 l)) rfl rfl rfl rfl
    rw [hzr0_0] at hbr0_0
    clear hzr0_0
    obtain ⟨vr0_1, hvr0_1, hsr0_1⟩ := hI.haveQ 1 _ 6 (.val (.bool false)) rfl rfl rfl rfl
    obtain rfl := hsr0_1
    have hupd := hI.upd
    have ha := hI.act [(3, ptrTo br0_0), (6, .bool false)] (by simp [hvr0_0, hvr0_1]) (by kernel_rfl)
    clear hI hvr0_0 hvr0_1
    subst ha
    simp only [List.foldl_cons, List.foldl_nil, List.setIfInBounds_toArray, List.set_cons_zero, List.set_cons_succ]
    have hger0_0 := Lib.hid (Nat.le_trans HU.out.size hnr0_0)
    have Bxr0y0 := Lib.hid hbr0_0
    have HU0 := Lib.hid (HU.out.trans hupd)
    clear hupd
    refine wpOps_nil ?_
    refine hK0 _ _ ?_
    clear hK0
    refine wp_seq_k fun K1 hK1 => ?_
    refine wp_seq_k fun K2 hK2 => ?_
    refine wp_region_qS 2 #[true, true] [] ([.val (.bool true), .val (.bool false)] : List SQ) (by kernel_rfl) (by kernel_rfl) (by kernel_rfl) ?_ ?_
    · intro i o listed an wn ho hls hst hun hdep hI hpre K' hK'
      have hi : i = 0 ∨ i = 1 ∨ False := slot_cases (l := [0, 1]) rfl ho hst
      rcases hi with rfl | rfl | hi
      · obtain rfl := Option.some.inj ho
        exact hI.callQ (by kernel_rfl) hls rfl rfl rfl 16 #[] _ rfl #[] (by simp) (run_enter Tryd.func16 (by kernel_rfl) (by kernel_rfl)) (.val (.bool true)) rfl rfl ((agreesL _ (HT.out.upd (HU0.out.trans hI.upd))).mono fun _ _ h => ret_val h) hK'
      · obtain rfl := Option.some.inj ho
        obtain ⟨vp, hvp, hsp⟩ := hI.haveQ 0 _ 11 (.val (.bool true)) rfl rfl rfl (hdep ⟨0, .data⟩ (by simp) rfl)
        obtain rfl := hsp
        exact hI.pureQ (by kernel_rfl) hls rfl rfl rfl (.bool false) (run_not rfl (eval_of hvp) wn) (.val (.bool false)) rfl rfl rfl hK'
      · exact hi.elim
    · intro an w2 hI
      obtain ⟨vr1_0, hvr1_0, hsr1_0⟩ := hI.haveQ 0 _ 11 (.val (.bool true)) rfl rfl rfl rfl
      obtain rfl := hsr1_0
      obtain ⟨vr1_1, hvr1_1, hsr1_1⟩ := hI.haveQ 1 _ 12 (.val (.bool false)) rfl rfl rfl rfl
      obtain rfl := hsr1_1
      have hupd := hI.upd
      have ha := hI.act [(11, .bool true), (12, .bool false)] (by simp [hvr1_0, hvr1_1]) (by kernel_rfl)
      clear hI hvr1_0 hvr1_1
      subst ha
      simp only [List.foldl_cons, List.foldl_nil, List.setIfInBounds_toArray, List.set_cons_zero, List.set_cons_succ]
      have Bxr0y0_1 := Lib.hid (hupd.blk (show Blk w1 br0_0 23 (numsA .u8 l) from Bxr0y0.out) (fun h => h))
      have HU1 := Lib.hid (HU0.out.trans hupd)
      clear hupd
      refine wpOps_nil ?_
      refine hK2 _ _ ?_
      clear hK2
      refine wp_cond_false rfl ?_
      refine wp_skip ?_
      refine hK1 _ _ ?_
      clear hK1
      refine wp_seq_k fun K3 hK3 => ?_
      refine wp_region_qS 6 #[true, true, true, true, true, true, false] [6] ([.val (.agg (numsA .u8 zeroKL)), .val (.agg (numsA .u8 keyW0)), .val (.agg (numsA .u8 keyW1)), .val (.agg (numsA .u8 keyW2)), .like (IsC 32 RK [zeroKL, keyW0, keyW1, keyW2]), .blk ptrTo 34 (Ch 32 RK [zeroKL, zeroKL, zeroKL, zeroKL]), .val undef] : List SQ) (by kernel_rfl) (by kernel_rfl) (by kernel_rfl) ?_ ?_
      · intro i o listed an wn ho hls hst hun hdep hI hpre K' hK'
        have hi : i = 0 ∨ i = 1 ∨ i = 2 ∨ i = 3 ∨ i = 4 ∨ i = 5 ∨ False := slot_cases (l := [0, 1, 2, 3, 4, 5]) rfl ho hst
        rcases hi with rfl | rfl | rfl | rfl | rfl | rfl | hi
        · obtain rfl := Option.some.inj ho
          exact hI.pureQ (by kernel_rfl) hls rfl rfl rfl (.agg (numsA .u8 zeroKL)) (zeroKL_bld rfl wn) (.val (.agg (numsA .u8 zeroKL))) rfl rfl rfl hK'
        · obtain rfl := Option.some.inj ho
          exact hI.pureQ (by kernel_rfl) hls rfl rfl rfl (.agg (numsA .u8 keyW0)) (keyW0_run rfl wn) (.val (.agg (numsA .u8 keyW0))) rfl rfl rfl hK'
        · obtain rfl := Option.some.inj ho
          exact hI.pureQ (by kernel_rfl) hls rfl rfl rfl (.agg (numsA .u8 keyW1)) (keyW1_run rfl wn) (.val (.agg (numsA .u8 keyW1))) rfl rfl rfl hK'
        · obtain rfl := Option.some.inj ho
          exact hI.pureQ (by kernel_rfl) hls rfl rfl rfl (.agg (numsA .u8 keyW2)) (keyW2_run rfl wn) (.val (.agg (numsA .u8 keyW2))) rfl rfl rfl hK'
        · obtain rfl := Option.some.inj ho
          obtain ⟨vp, hvp, hsp⟩ := hI.haveQ 0 _ 13 (.val (.agg (numsA .u8 zeroKL))) rfl rfl rfl (hdep ⟨0, .data⟩ (by simp) rfl)
          obtain rfl := hsp
          obtain ⟨vq, hvq, hsq⟩ := hI.haveQ 1 _ 14 (.val (.agg (numsA .u8 keyW0))) rfl rfl rfl (hdep ⟨1, .data⟩ (by simp) rfl)
          obtain rfl := hsq
          obtain ⟨vr, hvr, hsr⟩ := hI.haveQ 2 _ 15 (.val (.agg (numsA .u8 keyW1))) rfl rfl rfl (hdep ⟨2, .data⟩ (by simp) rfl)
          obtain rfl := hsr
          obtain ⟨vu, hvu, hsu⟩ := hI.haveQ 3 _ 16 (.val (.agg (numsA .u8 keyW2))) rfl rfl rfl (hdep ⟨3, .data⟩ (by simp) rfl)
          obtain rfl := hsu
          exact hI.pureQ (by kernel_rfl) hls rfl rfl rfl _ (run_build4K rfl (eval_of hvp) (eval_of hvq) (eval_of hvr) (eval_of hvu) (Ch.key zeroKL_length zeroKL_digs).size (Ch.key keyW0_length keyW0_digs).size (Ch.key keyW1_length keyW1_digs).size (Ch.key keyW2_length keyW2_digs).size wn) (.like (IsC 32 RK [zeroKL, keyW0, keyW1, keyW2])) rfl ⟨_, rfl, ((((Ch.key zeroKL_length zeroKL_digs).cat (Ch.key keyW0_length keyW0_digs)).cat (Ch.key keyW1_length keyW1_digs)).cat (Ch.key keyW2_length keyW2_digs))⟩ rfl hK'
        · obtain rfl := Option.some.inj ho
          exact hI.newQ (by kernel_rfl) hls (Nat.le_refl _) (newsQ_spec (l := [5]) (by kernel_rfl) ⟨⟨_, _, rfl⟩, trivial⟩) rfl rfl rfl 34 z4K _ (run_allocQ rfl z4K_run wn) rfl z4K_ch hK'
        · exact hi.elim
      · intro an w3 hI
        obtain ⟨vr2_0, hvr2_0, hsr2_0⟩ := hI.haveQ 0 _ 13 (.val (.agg (numsA .u8 zeroKL))) rfl rfl rfl rfl
        obtain rfl := hsr2_0
        obtain ⟨vr2_1, hvr2_1, hsr2_1⟩ := hI.haveQ 1 _ 14 (.val (.agg (numsA .u8 keyW0))) rfl rfl rfl rfl
        obtain rfl := hsr2_1
        obtain ⟨vr2_2, hvr2_2, hsr2_2⟩ := hI.haveQ 2 _ 15 (.val (.agg (numsA .u8 keyW1))) rfl rfl rfl rfl
        obtain rfl := hsr2_2
        obtain ⟨vr2_3, hvr2_3, hsr2_3⟩ := hI.haveQ 3 _ 16 (.val (.agg (numsA .u8 keyW2))) rfl rfl rfl rfl
        obtain rfl := hsr2_3
        obtain ⟨vr2_4, hvr2_4, ar2_4, rfl, hCr2_4⟩ := hI.haveQ 4 _ 17 (.like (IsC 32 RK [zeroKL, keyW0, keyW1, keyW2])) rfl rfl rfl rfl
        obtain ⟨vr2_5, hvr2_5, br2_5, zr2_5, rfl, hnr2_5, hbr2_5, hzr2_5⟩ := hI.haveQ 5 _ 7 (.blk ptrTo 34 (Ch 32 RK [zeroKL, zeroKL, zeroKL, zeroKL])) rfl rfl rfl rfl
        have hupd := hI.upd
        have ha := hI.act [(13, .agg (numsA .u8 zeroKL)), (14, .agg (numsA .u8 keyW0)), (15, .agg (numsA .u8 keyW1)), (16, .agg (numsA .u8 keyW2)), (17, .agg ar2_4), (7, ptrTo br2_5)] (by simp [hvr2_0, hvr2_1, hvr2_2, hvr2_3, hvr2_4, hvr2_5]) (by kernel_rfl)
        clear hI hvr2_0 hvr2_1 hvr2_2 hvr2_3 hvr2_4 hvr2_5
        subst ha
        simp only [List.foldl_cons, List.foldl_nil, List.setIfInBounds_toArray, List.set_cons_zero, List.set_cons_succ]
        have hner2_5_Bxr0y0_1 := Lib.hid (show br2_5 ≠ br0_0 from Nat.ne_of_gt (Nat.lt_of_lt_of_le Bxr0y0_1.out.lt hnr2_5))
        have hger2_5 := Lib.hid (Nat.le_trans HU1.out.size hnr2_5)
        have Bxr0y0_2 := Lib.hid (hupd.blk (show Blk w2 br0_0 23 (numsA .u8 l) from Bxr0y0_1.out) (fun h => h))
        have Bxr2y5 := Lib.hid hbr2_5
        have HU2 := Lib.hid (HU1.out.trans hupd)
        clear hupd
        refine wpOps_storeQ 6 rfl rfl rfl 34 (.tmp 7) (.tmp 17) rfl br2_5 0 128 rfl ar2_4 rfl 34 zr2_5 Bxr2y5.out sz4K hCr2_4.size (by rw [hzr2_5.size]; exact Nat.le_of_ble_eq_true rfl) hCr2_4.one' ?_
        intro ws2_0 hs2_0 hus2_0
        rw [splice_all _ _ 128 hzr2_5.size hCr2_4.size] at hs2_0
        have Bxr0y0_s2_0 := Lib.hid (hus2_0.blk Bxr0y0_2.out (fun e => hner2_5_Bxr0y0_1.out e.symm))
        have Bxr2y5_s2_0 := Lib.hid hs2_0
        have HU2_0 := Lib.hid (HU2.out.step hus2_0 (fun i hi h => absurd hi (Nat.not_lt.2 (h.symm ▸ hger2_5.out))))
        clear hs2_0 hus2_0
        refine wpOps_nil ?_
        refine hK3 _ _ ?_
        clear hK3
        refine wp_seq_k fun K4 hK4 => ?_
        refine wp_seq_k fun K5 hK5 => ?_
        refine wp_region_qS 6 #[true, true, true, true, true, true] [] ([.val (.int .i64 (i : Int)), .val (.bool false), .val (.bool false), .val (.int .i64 (i : Int)), .val (.bool false), .val (.bool false)] : List SQ) (by kernel_rfl) (by kernel_rfl) (by kernel_rfl) ?_ ?_
        · intro i o listed an wn ho hls hst hun hdep hI hpre K' hK'
          have hi : i = 0 ∨ i = 1 ∨ i = 2 ∨ i = 3 ∨ i = 4 ∨ i = 5 ∨ False := slot_cases (l := [0, 1, 2, 3, 4, 5]) rfl ho hst
          rcases hi with rfl | rfl | rfl | rfl | rfl | rfl | hi
          · obtain rfl := Option.some.inj ho
            have hvp : an.eval (.tmp 1) = .int .i64 (i : Int) := hI.oldQ (by kernel_rfl) rfl
            exact hI.pureQ (by kernel_rfl) hls rfl rfl rfl (.int .i64 (i : Int)) (run_moveQ (.inl rfl) hvp wn) (.val (.int .i64 (i : Int))) rfl rfl rfl hK'
          · obtain rfl := Option.some.inj ho
            obtain ⟨vp, hvp, hsp⟩ := hI.haveQ 0 _ 18 (.val (.int .i64 (i : Int))) rfl rfl rfl (hdep ⟨0, .data⟩ (by simp) rfl)
            obtain rfl := hsp
            exact hI.pureQ (by kernel_rfl) hls rfl rfl rfl (.bool false) (run_lss rfl (eval_of hvp) rfl (decide_eq_false (by omega)) wn) (.val (.bool false)) rfl rfl rfl hK'
          · obtain rfl := Option.some.inj ho
            obtain ⟨vp, hvp, hsp⟩ := hI.haveQ 1 _ 19 (.val (.bool false)) rfl rfl rfl (hdep ⟨1, .data⟩ (by simp) rfl)
            obtain rfl := hsp
            exact hI.pureQ (by kernel_rfl) hls rfl rfl rfl (.bool false) (run_moveQ (.inl rfl) (eval_of hvp) wn) (.val (.bool false)) rfl rfl rfl hK'
          · obtain rfl := Option.some.inj ho
            obtain ⟨vg, hvg, hsg⟩ := hI.haveQ 2 _ 20 (.val (.bool false)) rfl rfl rfl (hdep ⟨2, .guard⟩ (by simp) rfl)
            obtain rfl := hsg
            have hvp : an.eval (.tmp 1) = .int .i64 (i : Int) := hI.oldQ (by kernel_rfl) rfl
            exact hI.pureQ (by kernel_rfl) hls rfl (wanted_of rfl rfl rfl hvg) rfl (.int .i64 (i : Int)) (run_moveQ (.inl rfl) hvp wn) (.val (.int .i64 (i : Int))) rfl rfl rfl hK'
          · obtain rfl := Option.some.inj ho
            obtain ⟨vg, hvg, hsg⟩ := hI.haveQ 2 _ 20 (.val (.bool false)) rfl rfl rfl (hdep ⟨2, .guard⟩ (by simp) rfl)
            obtain rfl := hsg
            obtain ⟨vp, hvp, hsp⟩ := hI.haveQ 3 _ 21 (.val (.int .i64 (i : Int))) rfl rfl rfl (hdep ⟨3, .data⟩ (by simp) rfl)
            obtain rfl := hsp
            exact hI.pureQ (by kernel_rfl) hls rfl (wanted_of rfl rfl rfl hvg) rfl (.bool false) (run_gtr rfl (eval_of hvp) rfl (decide_eq_false (by have := Hi.out; omega)) wn) (.val (.bool false)) rfl rfl rfl hK'
          · obtain rfl := Option.some.inj ho
            obtain ⟨vp, hvp, hsp⟩ := hI.haveQ 2 _ 20 (.val (.bool false)) rfl rfl rfl (hdep ⟨2, .data⟩ (by simp) rfl)
            obtain rfl := hsp
            obtain ⟨vq, hvq, hsq⟩ := hI.haveQ 4 _ 22 (.val (.bool false)) rfl rfl rfl (hdep ⟨4, .data⟩ (by simp) rfl)
            obtain rfl := hsq
            exact hI.pureQ (by kernel_rfl) hls rfl rfl rfl (.bool false) (run_pickF rfl (eval_of hvp) (eval_of hvq) wn) (.val (.bool false)) rfl rfl rfl hK'
          · exact hi.elim
        · intro an w4 hI
          obtain ⟨vr3_0, hvr3_0, hsr3_0⟩ := hI.haveQ 0 _ 18 (.val (.int .i64 (i : Int))) rfl rfl rfl rfl
          obtain rfl := hsr3_0
          obtain ⟨vr3_1, hvr3_1, hsr3_1⟩ := hI.haveQ 1 _ 19 (.val (.bool false)) rfl rfl rfl rfl
          obtain rfl := hsr3_1
          obtain ⟨vr3_2, hvr3_2, hsr3_2⟩ := hI.haveQ 2 _ 20 (.val (.bool false)) rfl rfl rfl rfl
          obtain rfl := hsr3_2
          obtain ⟨vr3_3, hvr3_3, hsr3_3⟩ := hI.haveQ 3 _ 21 (.val (.int .i64 (i : Int))) rfl rfl rfl rfl
          obtain rfl := hsr3_3
          obtain ⟨vr3_4, hvr3_4, hsr3_4⟩ := hI.haveQ 4 _ 22 (.val (.bool false)) rfl rfl rfl rfl
          obtain rfl := hsr3_4
          obtain ⟨vr3_5, hvr3_5, hsr3_5⟩ := hI.haveQ 5 _ 23 (.val (.bool false)) rfl rfl rfl rfl
          obtain rfl := hsr3_5
          have hupd := hI.upd
          have ha := hI.act [(18, .int .i64 (i : Int)), (19, .bool false), (20, .bool false), (21, .int .i64 (i : Int)), (22, .bool false), (23, .bool false)] (by simp [hvr3_0, hvr3_1, hvr3_2, hvr3_3, hvr3_4, hvr3_5]) (by kernel_rfl)
          clear hI hvr3_0 hvr3_1 hvr3_2 hvr3_3 hvr3_4 hvr3_5
          subst ha
          simp only [List.foldl_cons, List.foldl_nil, List.setIfInBounds_toArray, List.set_cons_zero, List.set_cons_succ]
          have Bxr0y0_3 := Lib.hid (hupd.blk (show Blk ws2_0 br0_0 23 (numsA .u8 l) from Bxr0y0_s2_0.out) (fun h => h))
          have Bxr2y5_3 := Lib.hid (hupd.blk (show Blk ws2_0 br2_5 34 ar2_4 from Bxr2y5_s2_0.out) (fun h => h))
          have HU3 := Lib.hid (HU2_0.out.trans hupd)
          clear hupd
          refine wpOps_nil ?_
          refine hK5 _ _ ?_
          clear hK5
          refine wp_cond_false rfl ?_
          refine wp_skip ?_
          refine hK4 _ _ ?_
          clear hK4
          refine wp_seq_k fun K6 hK6 => ?_
          refine wp_region_qS 4 #[true, true, true, true, false] [4] ([.val (.int .i64 (i : Int)), .val (.pointer (some ⟨br2_5, 32 * i, none⟩)), .val (.agg (numsA .u8 (lowT i))), .blk ptrTo 23 (fun z => z = numsA .u8 zeroKL), .val undef] : List SQ) (by kernel_rfl) (by kernel_rfl) (by kernel_rfl) ?_ ?_
          · intro i o listed an wn ho hls hst hun hdep hI hpre K' hK'
            have hi : i = 0 ∨ i = 1 ∨ i = 2 ∨ i = 3 ∨ False := slot_cases (l := [0, 1, 2, 3]) rfl ho hst
            rcases hi with rfl | rfl | rfl | rfl | hi
            · obtain rfl := Option.some.inj ho
              have hvp : an.eval (.tmp 1) = .int .i64 (i : Int) := hI.oldQ (by kernel_rfl) rfl
              exact hI.pureQ (by kernel_rfl) hls rfl rfl rfl (.int .i64 (i : Int)) (run_moveQ (.inl rfl) hvp wn) (.val (.int .i64 (i : Int))) rfl rfl rfl hK'
            · obtain rfl := Option.some.inj ho
              have hvp : an.eval (.tmp 7) = ptrTo br2_5 := hI.oldQ (by kernel_rfl) rfl
              obtain ⟨vq, hvq, hsq⟩ := hI.haveQ 0 _ 24 (.val (.int .i64 (i : Int))) rfl rfl rfl (hdep ⟨0, .data⟩ (by simp) rfl)
              obtain rfl := hsq
              exact hI.pureQ (by kernel_rfl) hls rfl rfl rfl (.pointer (some ⟨br2_5, 32 * i, none⟩)) (run_adrA (i := i) rfl Tryd.underlying34 sizeKey hvp (eval_of hvq) Hi.out wn) (.val (.pointer (some ⟨br2_5, 32 * i, none⟩))) rfl rfl rfl hK'
            · obtain rfl := Option.some.inj ho
              obtain ⟨vp, hvp, hsp⟩ := hI.haveQ 1 _ 25 (.val (.pointer (some ⟨br2_5, 32 * i, none⟩))) rfl rfl rfl (hdep ⟨1, .data⟩ (by simp) rfl)
              obtain rfl := hsp
              exact hI.pureQ (by kernel_rfl) hls rfl rfl rfl _ (run_loadQ rfl (eval_of hvp) wn (hI.upd.blk (show Blk w4 br2_5 34 ar2_4 from Bxr2y5_3.out) (fun h => h)) Tryd.underlying23 rfl sizeKey (by rw [hCr2_4.size]; exact (by show 32 * i + 32 ≤ 32 * 4; have := Hi.out; omega))) (.val (.agg (numsA .u8 (lowT i)))) rfl (congrArg Value.agg (hCr2_4.at i (32 * i) rfl (lowT_get Hi.out)).get.1) rfl hK'
            · obtain rfl := Option.some.inj ho
              exact hI.newQ (by kernel_rfl) hls (Nat.le_refl _) (newsQ_spec (l := [3]) (by kernel_rfl) ⟨⟨_, _, rfl⟩, trivial⟩) rfl rfl rfl 23 _ (fun z => z = numsA .u8 zeroKL) (run_allocQ rfl zeroK_run wn) rfl rfl hK'
            · exact hi.elim
          · intro an w5 hI
            obtain ⟨vr4_0, hvr4_0, hsr4_0⟩ := hI.haveQ 0 _ 24 (.val (.int .i64 (i : Int))) rfl rfl rfl rfl
            obtain rfl := hsr4_0
            obtain ⟨vr4_1, hvr4_1, hsr4_1⟩ := hI.haveQ 1 _ 25 (.val (.pointer (some ⟨br2_5, 32 * i, none⟩))) rfl rfl rfl rfl
            obtain rfl := hsr4_1
            obtain ⟨vr4_2, hvr4_2, hsr4_2⟩ := hI.haveQ 2 _ 26 (.val (.agg (numsA .u8 (lowT i)))) rfl rfl rfl rfl
            obtain rfl := hsr4_2
            obtain ⟨vr4_3, hvr4_3, br4_3, zr4_3, rfl, hnr4_3, hbr4_3, hzr4_3⟩ := hI.haveQ 3 _ 8 (.blk ptrTo 23 (fun z => z = numsA .u8 zeroKL)) rfl rfl rfl rfl
            rw [hzr4_3] at hbr4_3
            clear hzr4_3
            have hupd := hI.upd
            have ha := hI.act [(24, .int .i64 (i : Int)), (25, .pointer (some ⟨br2_5, 32 * i, none⟩)), (26, .agg (numsA .u8 (lowT i))), (8, ptrTo br4_3)] (by simp [hvr4_0, hvr4_1, hvr4_2, hvr4_3]) (by kernel_rfl)
            clear hI hvr4_0 hvr4_1 hvr4_2 hvr4_3
            subst ha
            simp only [List.foldl_cons, List.foldl_nil, List.setIfInBounds_toArray, List.set_cons_zero, List.set_cons_succ]
            have hner4_3_Bxr0y0_3 := Lib.hid (show br4_3 ≠ br0_0 from Nat.ne_of_gt (Nat.lt_of_lt_of_le Bxr0y0_3.out.lt hnr4_3))
            have hner4_3_Bxr2y5_3 := Lib.hid (show br4_3 ≠ br2_5 from Nat.ne_of_gt (Nat.lt_of_lt_of_le Bxr2y5_3.out.lt hnr4_3))
            have hger4_3 := Lib.hid (Nat.le_trans HU3.out.size hnr4_3)
            have Bxr0y0_4 := Lib.hid (hupd.blk (show Blk w4 br0_0 23 (numsA .u8 l) from Bxr0y0_3.out) (fun h => h))
            have Bxr2y5_4 := Lib.hid (hupd.blk (show Blk w4 br2_5 34 ar2_4 from Bxr2y5_3.out) (fun h => h))
            have Bxr4y3 := Lib.hid hbr4_3
            have HU4 := Lib.hid (HU3.out.trans hupd)
            clear hupd
            refine wpOps_storeQ 4 rfl rfl rfl 23 (.tmp 8) (.tmp 26) rfl br4_3 0 32 rfl (numsA .u8 (lowT i)) rfl 23 (numsA .u8 zeroKL) Bxr4y3.out sizeKey (by rw [numsA_size]; exact lowT_length Hi.out) (by rw [(show (numsA _ _).size = 32 by rw [numsA_size]; exact zeroKL_length)]; exact Nat.le_of_ble_eq_true rfl) (numsA_one _ _) ?_
            intro ws4_0 hs4_0 hus4_0
            rw [splice_all _ _ 32 (show (numsA _ _).size = 32 by rw [numsA_size]; exact zeroKL_length) (by rw [numsA_size]; exact lowT_length Hi.out)] at hs4_0
            have Bxr0y0_s4_0 := Lib.hid (hus4_0.blk Bxr0y0_4.out (fun e => hner4_3_Bxr0y0_3.out e.symm))
            have Bxr2y5_s4_0 := Lib.hid (hus4_0.blk Bxr2y5_4.out (fun e => hner4_3_Bxr2y5_3.out e.symm))
            have Bxr4y3_s4_0 := Lib.hid hs4_0
            have HU4_0 := Lib.hid (HU4.out.step hus4_0 (fun i hi h => absurd hi (Nat.not_lt.2 (h.symm ▸ hger4_3.out))))
            clear hs4_0 hus4_0
            refine wpOps_nil ?_
            refine hK6 _ _ ?_
            clear hK6
            refine wp_seq_k fun K7 hK7 => ?_
            refine wp_seq_k fun K8 hK8 => ?_
            refine wp_region_qS 1 #[true] [] ([.val (.bool high)] : List SQ) (by kernel_rfl) (by kernel_rfl) (by kernel_rfl) ?_ ?_
            · intro i o listed an wn ho hls hst hun hdep hI hpre K' hK'
              have hi : i = 0 ∨ False := slot_cases (l := [0]) rfl ho hst
              rcases hi with rfl | hi
              · obtain rfl := Option.some.inj ho
                have hvp : an.eval (.tmp 2) = .bool high := hI.oldQ (by kernel_rfl) rfl
                exact hI.pureQ (by kernel_rfl) hls rfl rfl rfl (.bool high) (run_moveQ (.inl rfl) hvp wn) (.val (.bool high)) rfl rfl rfl hK'
              · exact hi.elim
            · intro an w6 hI
              obtain ⟨vr5_0, hvr5_0, hsr5_0⟩ := hI.haveQ 0 _ 27 (.val (.bool high)) rfl rfl rfl rfl
              obtain rfl := hsr5_0
              have hupd := hI.upd
              have ha := hI.act [(27, .bool high)] (by simp [hvr5_0]) (by kernel_rfl)
              clear hI hvr5_0
              subst ha
              simp only [List.foldl_cons, List.foldl_nil, List.setIfInBounds_toArray, List.set_cons_zero, List.set_cons_succ]
              have Bxr0y0_5 := Lib.hid (hupd.blk (show Blk ws4_0 br0_0 23 (numsA .u8 l) from Bxr0y0_s4_0.out) (fun h => h))
              have Bxr2y5_5 := Lib.hid (hupd.blk (show Blk ws4_0 br2_5 34 ar2_4 from Bxr2y5_s4_0.out) (fun h => h))
              have Bxr4y3_5 := Lib.hid (hupd.blk (show Blk ws4_0 br4_3 23 (numsA .u8 (lowT i)) from Bxr4y3_s4_0.out) (fun h => h))
              have HU5 := Lib.hid (HU4_0.out.trans hupd)
              clear hupd
              refine wpOps_nil ?_
              refine hK8 _ _ ?_
              clear hK8
              refine wp_cond_split (t := high) rfl (fun hcd => ?_) (fun hcd => ?_)
              · have Hcd9 := Lib.hid hcd
                clear hcd
                refine wp_region_qS 4 #[true, true, true, true, false] [4] ([.val (.pointer (some ⟨br4_3, 0 + 31, none⟩)), .val (.int .u8 ((lowT i).getD 31 0)), .val (.int .u8 (bits .or .u8 ((lowT i).getD 31 0) 128)), .val (.pointer (some ⟨br4_3, 0 + 31, none⟩)), .val undef] : List SQ) (by kernel_rfl) (by kernel_rfl) (by kernel_rfl) ?_ ?_
                · intro i o listed an wn ho hls hst hun hdep hI hpre K' hK'
                  have hi : i = 0 ∨ i = 1 ∨ i = 2 ∨ i = 3 ∨ False := slot_cases (l := [0, 1, 2, 3]) rfl ho hst
                  rcases hi with rfl | rfl | rfl | rfl | hi
                  · obtain rfl := Option.some.inj ho
                    have hvp : an.eval (.tmp 8) = ptrTo br4_3 := hI.oldQ (by kernel_rfl) rfl
                    exact hI.pureQ (by kernel_rfl) hls rfl rfl rfl (.pointer (some ⟨br4_3, 0 + 31, none⟩)) (run_adr (off := 0) (i := 31) rfl Tryd.underlying23 size5 hvp rfl (by omega) wn) (.val (.pointer (some ⟨br4_3, 0 + 31, none⟩))) rfl rfl rfl hK'
                  · obtain rfl := Option.some.inj ho
                    obtain ⟨vp, hvp, hsp⟩ := hI.haveQ 0 _ 28 (.val (.pointer (some ⟨br4_3, 0 + 31, none⟩))) rfl rfl rfl (hdep ⟨0, .data⟩ (by simp) rfl)
                    obtain rfl := hsp
                    exact hI.pureQ (by kernel_rfl) hls rfl rfl rfl (.int .u8 ((lowT i).getD 31 0)) (run_cellQ rfl Tryd.underlying5 (eval_of hvp) wn (hI.upd.blk (show Blk w6 br4_3 23 (numsA .u8 (lowT i)) from Bxr4y3_5.out) (fun h => h)) (by rw [Nat.zero_add]; exact numsA_get _ _ _ (by rw [lowT_length Hi.out]; omega))) (.val (.int .u8 ((lowT i).getD 31 0))) rfl rfl rfl hK'
                  · obtain rfl := Option.some.inj ho
                    obtain ⟨vp, hvp, hsp⟩ := hI.haveQ 1 _ 29 (.val (.int .u8 ((lowT i).getD 31 0))) rfl rfl rfl (hdep ⟨1, .data⟩ (by simp) rfl)
                    obtain rfl := hsp
                    exact hI.pureQ (by kernel_rfl) hls rfl rfl rfl (.int .u8 (bits .or .u8 ((lowT i).getD 31 0) 128)) (run_or8 rfl (eval_of hvp) rfl wn) (.val (.int .u8 (bits .or .u8 ((lowT i).getD 31 0) 128))) rfl rfl rfl hK'
                  · obtain rfl := Option.some.inj ho
                    have hvp : an.eval (.tmp 8) = ptrTo br4_3 := hI.oldQ (by kernel_rfl) rfl
                    exact hI.pureQ (by kernel_rfl) hls rfl rfl rfl (.pointer (some ⟨br4_3, 0 + 31, none⟩)) (run_adr (off := 0) (i := 31) rfl Tryd.underlying23 size5 hvp rfl (by omega) wn) (.val (.pointer (some ⟨br4_3, 0 + 31, none⟩))) rfl rfl rfl hK'
                  · exact hi.elim
                · intro an w7 hI
                  obtain ⟨vr6_0, hvr6_0, hsr6_0⟩ := hI.haveQ 0 _ 28 (.val (.pointer (some ⟨br4_3, 0 + 31, none⟩))) rfl rfl rfl rfl
                  obtain rfl := hsr6_0
                  obtain ⟨vr6_1, hvr6_1, hsr6_1⟩ := hI.haveQ 1 _ 29 (.val (.int .u8 ((lowT i).getD 31 0))) rfl rfl rfl rfl
                  obtain rfl := hsr6_1
                  obtain ⟨vr6_2, hvr6_2, hsr6_2⟩ := hI.haveQ 2 _ 30 (.val (.int .u8 (bits .or .u8 ((lowT i).getD 31 0) 128))) rfl rfl rfl rfl
                  obtain rfl := hsr6_2
                  obtain ⟨vr6_3, hvr6_3, hsr6_3⟩ := hI.haveQ 3 _ 31 (.val (.pointer (some ⟨br4_3, 0 + 31, none⟩))) rfl rfl rfl rfl
                  obtain rfl := hsr6_3
                  have hupd := hI.upd
                  have ha := hI.act [(28, .pointer (some ⟨br4_3, 0 + 31, none⟩)), (29, .int .u8 ((lowT i).getD 31 0)), (30, .int .u8 (bits .or .u8 ((lowT i).getD 31 0) 128)), (31, .pointer (some ⟨br4_3, 0 + 31, none⟩))] (by simp [hvr6_0, hvr6_1, hvr6_2, hvr6_3]) (by kernel_rfl)
                  clear hI hvr6_0 hvr6_1 hvr6_2 hvr6_3
                  subst ha
                  simp only [List.foldl_cons, List.foldl_nil, List.setIfInBounds_toArray, List.set_cons_zero, List.set_cons_succ]
                  have Bxr0y0_6 := Lib.hid (hupd.blk (show Blk w6 br0_0 23 (numsA .u8 l) from Bxr0y0_5.out) (fun h => h))
                  have Bxr2y5_6 := Lib.hid (hupd.blk (show Blk w6 br2_5 34 ar2_4 from Bxr2y5_5.out) (fun h => h))
                  have Bxr4y3_6 := Lib.hid (hupd.blk (show Blk w6 br4_3 23 (numsA .u8 (lowT i)) from Bxr4y3_5.out) (fun h => h))
                  have HU6 := Lib.hid (HU5.out.trans hupd)
                  clear hupd
                  refine wpOps_storeB 4 rfl rfl rfl 5 (.tmp 31) (.tmp 30) rfl size5 br4_3 (0 + 31) rfl (bits .or .u8 ((lowT i).getD 31 0) 128) rfl 23 (lowT i) Bxr4y3_6.out (by rw [lowT_length Hi.out]; omega) ?_
                  rw [Nat.zero_add]
                  intro ws6_0 hs6_0 hus6_0
                  have Bxr0y0_s6_0 := Lib.hid (hus6_0.blk Bxr0y0_6.out (fun e => hner4_3_Bxr0y0_3.out e.symm))
                  have Bxr2y5_s6_0 := Lib.hid (hus6_0.blk Bxr2y5_6.out (fun e => hner4_3_Bxr2y5_3.out e.symm))
                  have Bxr4y3_s6_0 := Lib.hid hs6_0
                  have HU6_0 := Lib.hid (HU6.out.step hus6_0 (fun i hi h => absurd hi (Nat.not_lt.2 (h.symm ▸ hger4_3.out))))
                  clear hs6_0 hus6_0
                  refine wpOps_nil ?_
                  refine hK7 _ _ ?_
                  clear hK7
                  refine wp_seq_k fun K10 hK10 => ?_
                  refine wp_region_qS 7 #[true, true, true, true, true, true, true, false, false] [7, 8] ([.val (.agg (numsA .u8 l)), .val (.agg (numsA .u8 ((lowT i).set 31 (bits .or .u8 ((lowT i).getD 31 0) 128)))), .val (.tuple #[.agg (numsA .u8 (keyOf (ladV (clampL l) (ofKey ((lowT i).set 31 (bits .or .u8 ((lowT i).getD 31 0) 128)))))), .int .i64 (agE (ladV (clampL l) (ofKey ((lowT i).set 31 (bits .or .u8 ((lowT i).getD 31 0) 128)))))]), .val (.tuple #[.agg (numsA .u8 (keyOf (ladV (clampL l) (ofKey ((lowT i).set 31 (bits .or .u8 ((lowT i).getD 31 0) 128)))))), .int .i64 (agE (ladV (clampL l) (ofKey ((lowT i).set 31 (bits .or .u8 ((lowT i).getD 31 0) 128)))))]), .val (.agg (numsA .u8 (keyOf (ladV (clampL l) (ofKey ((lowT i).set 31 (bits .or .u8 ((lowT i).getD 31 0) 128))))))), .val (.int .i64 (agE (ladV (clampL l) (ofKey ((lowT i).set 31 (bits .or .u8 ((lowT i).getD 31 0) 128)))))), .blk ptrTo 23 (fun z => z = numsA .u8 zeroKL), .val undef, .val undef] : List SQ) (by kernel_rfl) (by kernel_rfl) (by kernel_rfl) ?_ ?_
                  · intro i o listed an wn ho hls hst hun hdep hI hpre K' hK'
                    have hi : i = 0 ∨ i = 1 ∨ i = 2 ∨ i = 3 ∨ i = 4 ∨ i = 5 ∨ i = 6 ∨ False := slot_cases (l := [0, 1, 2, 3, 4, 5, 6]) rfl ho hst
                    rcases hi with rfl | rfl | rfl | rfl | rfl | rfl | rfl | hi
                    · obtain rfl := Option.some.inj ho
                      have hvp : an.eval (.tmp 3) = ptrTo br0_0 := hI.oldQ (by kernel_rfl) rfl
                      exact hI.pureQ (by kernel_rfl) hls rfl rfl rfl _ (run_loadQ rfl hvp wn (hI.upd.blk (show Blk ws6_0 br0_0 23 (numsA .u8 l) from Bxr0y0_s6_0.out) (fun h => h)) Tryd.underlying23 rfl sizeKey (by rw [numsA_size, hl]; omega)) (.val (.agg (numsA .u8 l))) rfl (congrArg Value.agg (extract_all _ 32 (by rw [numsA_size]; exact hl))) rfl hK'
                    · obtain rfl := Option.some.inj ho
                      have hvp : an.eval (.tmp 8) = ptrTo br4_3 := hI.oldQ (by kernel_rfl) rfl
                      exact hI.pureQ (by kernel_rfl) hls rfl rfl rfl _ (run_loadQ rfl hvp wn (hI.upd.blk (show Blk ws6_0 br4_3 23 (numsA .u8 ((lowT i).set 31 (bits .or .u8 ((lowT i).getD 31 0) 128))) from Bxr4y3_s6_0.out) (fun h => h)) Tryd.underlying23 rfl sizeKey (by rw [numsA_size, (set_length (lowT_length Hi.out) _ _)]; omega)) (.val (.agg (numsA .u8 ((lowT i).set 31 (bits .or .u8 ((lowT i).getD 31 0) 128))))) rfl (congrArg Value.agg (extract_all _ 32 (by rw [numsA_size]; exact (set_length (lowT_length Hi.out) _ _)))) rfl hK'
                    · obtain rfl := Option.some.inj ho
                      obtain ⟨vp, hvp, hsp⟩ := hI.haveQ 0 _ 33 (.val (.agg (numsA .u8 l))) rfl rfl rfl (hdep ⟨0, .data⟩ (by simp) rfl)
                      obtain rfl := hsp
                      obtain ⟨vq, hvq, hsq⟩ := hI.haveQ 1 _ 34 (.val (.agg (numsA .u8 ((lowT i).set 31 (bits .or .u8 ((lowT i).getD 31 0) 128))))) rfl rfl rfl (hdep ⟨1, .data⟩ (by simp) rfl)
                      obtain rfl := hsq
                      exact hI.callQ (by kernel_rfl) hls rfl rfl rfl 19 #[.tmp 33, .tmp 34] _ rfl #[.agg (numsA .u8 l), .agg (numsA .u8 ((lowT i).set 31 (bits .or .u8 ((lowT i).getD 31 0) 128)))] (by simp [eval_of hvp, eval_of hvq]) (run_enter Tryd.func19 (by kernel_rfl) (by kernel_rfl)) (.val (.tuple #[.agg (numsA .u8 (keyOf (ladV (clampL l) (ofKey ((lowT i).set 31 (bits .or .u8 ((lowT i).getD 31 0) 128)))))), .int .i64 (agE (ladV (clampL l) (ofKey ((lowT i).set 31 (bits .or .u8 ((lowT i).getD 31 0) 128)))))])) rfl rfl ((agreeL _ (HT.out.upd (HU6_0.out.trans hI.upd)) hl hd (set_length (lowT_length Hi.out) _ _) (digs_set (lowT_digs Hi.out) _ _ (or8_bnd _ _ (Digs.get (B := 256) (by decide) (lowT_digs Hi.out) _) (by decide)).1 (or8_bnd _ _ (Digs.get (B := 256) (by decide) (lowT_digs Hi.out) _) (by decide)).2)).mono fun _ _ h => ret_val h) hK'
                    · obtain rfl := Option.some.inj ho
                      obtain ⟨vp, hvp, hsp⟩ := hI.haveQ 2 _ 35 (.val (.tuple #[.agg (numsA .u8 (keyOf (ladV (clampL l) (ofKey ((lowT i).set 31 (bits .or .u8 ((lowT i).getD 31 0) 128)))))), .int .i64 (agE (ladV (clampL l) (ofKey ((lowT i).set 31 (bits .or .u8 ((lowT i).getD 31 0) 128)))))])) rfl rfl rfl (hdep ⟨2, .data⟩ (by simp) rfl)
                      obtain rfl := hsp
                      exact hI.pureQ (by kernel_rfl) hls rfl rfl rfl (.tuple #[.agg (numsA .u8 (keyOf (ladV (clampL l) (ofKey ((lowT i).set 31 (bits .or .u8 ((lowT i).getD 31 0) 128)))))), .int .i64 (agE (ladV (clampL l) (ofKey ((lowT i).set 31 (bits .or .u8 ((lowT i).getD 31 0) 128)))))]) (run_moveQ (.inl rfl) (eval_of hvp) wn) (.val (.tuple #[.agg (numsA .u8 (keyOf (ladV (clampL l) (ofKey ((lowT i).set 31 (bits .or .u8 ((lowT i).getD 31 0) 128)))))), .int .i64 (agE (ladV (clampL l) (ofKey ((lowT i).set 31 (bits .or .u8 ((lowT i).getD 31 0) 128)))))])) rfl rfl rfl hK'
                    · obtain rfl := Option.some.inj ho
                      obtain ⟨vp, hvp, hsp⟩ := hI.haveQ 3 _ 32 (.val (.tuple #[.agg (numsA .u8 (keyOf (ladV (clampL l) (ofKey ((lowT i).set 31 (bits .or .u8 ((lowT i).getD 31 0) 128)))))), .int .i64 (agE (ladV (clampL l) (ofKey ((lowT i).set 31 (bits .or .u8 ((lowT i).getD 31 0) 128)))))])) rfl rfl rfl (hdep ⟨3, .data⟩ (by simp) rfl)
                      obtain rfl := hsp
                      exact hI.pureQ (by kernel_rfl) hls rfl rfl rfl (.agg (numsA .u8 (keyOf (ladV (clampL l) (ofKey ((lowT i).set 31 (bits .or .u8 ((lowT i).getD 31 0) 128))))))) (run_extractQ rfl (eval_of hvp) rfl wn) (.val (.agg (numsA .u8 (keyOf (ladV (clampL l) (ofKey ((lowT i).set 31 (bits .or .u8 ((lowT i).getD 31 0) 128)))))))) rfl rfl rfl hK'
                    · obtain rfl := Option.some.inj ho
                      obtain ⟨vp, hvp, hsp⟩ := hI.haveQ 3 _ 32 (.val (.tuple #[.agg (numsA .u8 (keyOf (ladV (clampL l) (ofKey ((lowT i).set 31 (bits .or .u8 ((lowT i).getD 31 0) 128)))))), .int .i64 (agE (ladV (clampL l) (ofKey ((lowT i).set 31 (bits .or .u8 ((lowT i).getD 31 0) 128)))))])) rfl rfl rfl (hdep ⟨3, .data⟩ (by simp) rfl)
                      obtain rfl := hsp
                      exact hI.pureQ (by kernel_rfl) hls rfl rfl rfl (.int .i64 (agE (ladV (clampL l) (ofKey ((lowT i).set 31 (bits .or .u8 ((lowT i).getD 31 0) 128)))))) (run_extractQ rfl (eval_of hvp) rfl wn) (.val (.int .i64 (agE (ladV (clampL l) (ofKey ((lowT i).set 31 (bits .or .u8 ((lowT i).getD 31 0) 128))))))) rfl rfl rfl hK'
                    · obtain rfl := Option.some.inj ho
                      exact hI.newQ (by kernel_rfl) hls (Nat.le_refl _) (newsQ_spec (l := [6]) (by kernel_rfl) ⟨⟨_, _, rfl⟩, trivial⟩) rfl rfl rfl 23 _ (fun z => z = numsA .u8 zeroKL) (run_allocQ rfl zeroK_run wn) rfl rfl hK'
                    · exact hi.elim
                  · intro an w8 hI
                    obtain ⟨vr7_0, hvr7_0, hsr7_0⟩ := hI.haveQ 0 _ 33 (.val (.agg (numsA .u8 l))) rfl rfl rfl rfl
                    obtain rfl := hsr7_0
                    obtain ⟨vr7_1, hvr7_1, hsr7_1⟩ := hI.haveQ 1 _ 34 (.val (.agg (numsA .u8 ((lowT i).set 31 (bits .or .u8 ((lowT i).getD 31 0) 128))))) rfl rfl rfl rfl
                    obtain rfl := hsr7_1
                    obtain ⟨vr7_2, hvr7_2, hsr7_2⟩ := hI.haveQ 2 _ 35 (.val (.tuple #[.agg (numsA .u8 (keyOf (ladV (clampL l) (ofKey ((lowT i).set 31 (bits .or .u8 ((lowT i).getD 31 0) 128)))))), .int .i64 (agE (ladV (clampL l) (ofKey ((lowT i).set 31 (bits .or .u8 ((lowT i).getD 31 0) 128)))))])) rfl rfl rfl rfl
                    obtain rfl := hsr7_2
                    obtain ⟨vr7_3, hvr7_3, hsr7_3⟩ := hI.haveQ 3 _ 32 (.val (.tuple #[.agg (numsA .u8 (keyOf (ladV (clampL l) (ofKey ((lowT i).set 31 (bits .or .u8 ((lowT i).getD 31 0) 128)))))), .int .i64 (agE (ladV (clampL l) (ofKey ((lowT i).set 31 (bits .or .u8 ((lowT i).getD 31 0) 128)))))])) rfl rfl rfl rfl
                    obtain rfl := hsr7_3
                    obtain ⟨vr7_4, hvr7_4, hsr7_4⟩ := hI.haveQ 4 _ 36 (.val (.agg (numsA .u8 (keyOf (ladV (clampL l) (ofKey ((lowT i).set 31 (bits .or .u8 ((lowT i).getD 31 0) 128)))))))) rfl rfl rfl rfl
                    obtain rfl := hsr7_4
                    obtain ⟨vr7_5, hvr7_5, hsr7_5⟩ := hI.haveQ 5 _ 37 (.val (.int .i64 (agE (ladV (clampL l) (ofKey ((lowT i).set 31 (bits .or .u8 ((lowT i).getD 31 0) 128))))))) rfl rfl rfl rfl
                    obtain rfl := hsr7_5
                    obtain ⟨vr7_6, hvr7_6, br7_6, zr7_6, rfl, hnr7_6, hbr7_6, hzr7_6⟩ := hI.haveQ 6 _ 9 (.blk ptrTo 23 (fun z => z = numsA .u8 zeroKL)) rfl rfl rfl rfl
                    rw [hzr7_6] at hbr7_6
                    clear hzr7_6
                    have hupd := hI.upd
                    have ha := hI.act [(33, .agg (numsA .u8 l)), (34, .agg (numsA .u8 ((lowT i).set 31 (bits .or .u8 ((lowT i).getD 31 0) 128)))), (35, .tuple #[.agg (numsA .u8 (keyOf (ladV (clampL l) (ofKey ((lowT i).set 31 (bits .or .u8 ((lowT i).getD 31 0) 128)))))), .int .i64 (agE (ladV (clampL l) (ofKey ((lowT i).set 31 (bits .or .u8 ((lowT i).getD 31 0) 128)))))]), (32, .tuple #[.agg (numsA .u8 (keyOf (ladV (clampL l) (ofKey ((lowT i).set 31 (bits .or .u8 ((lowT i).getD 31 0) 128)))))), .int .i64 (agE (ladV (clampL l) (ofKey ((lowT i).set 31 (bits .or .u8 ((lowT i).getD 31 0) 128)))))]), (36, .agg (numsA .u8 (keyOf (ladV (clampL l) (ofKey ((lowT i).set 31 (bits .or .u8 ((lowT i).getD 31 0) 128))))))), (37, .int .i64 (agE (ladV (clampL l) (ofKey ((lowT i).set 31 (bits .or .u8 ((lowT i).getD 31 0) 128)))))), (9, ptrTo br7_6)] (by simp [hvr7_0, hvr7_1, hvr7_2, hvr7_3, hvr7_4, hvr7_5, hvr7_6]) (by kernel_rfl)
                    clear hI hvr7_0 hvr7_1 hvr7_2 hvr7_3 hvr7_4 hvr7_5 hvr7_6
                    subst ha
                    simp only [List.foldl_cons, List.foldl_nil, List.setIfInBounds_toArray, List.set_cons_zero, List.set_cons_succ]
                    have hner7_6_Bxr0y0_s6_0 := Lib.hid (show br7_6 ≠ br0_0 from Nat.ne_of_gt (Nat.lt_of_lt_of_le Bxr0y0_s6_0.out.lt hnr7_6))
                    have hner7_6_Bxr2y5_s6_0 := Lib.hid (show br7_6 ≠ br2_5 from Nat.ne_of_gt (Nat.lt_of_lt_of_le Bxr2y5_s6_0.out.lt hnr7_6))
                    have hner7_6_Bxr4y3_s6_0 := Lib.hid (show br7_6 ≠ br4_3 from Nat.ne_of_gt (Nat.lt_of_lt_of_le Bxr4y3_s6_0.out.lt hnr7_6))
                    have hger7_6 := Lib.hid (Nat.le_trans HU6_0.out.size hnr7_6)
                    have Bxr0y0_7 := Lib.hid (hupd.blk (show Blk ws6_0 br0_0 23 (numsA .u8 l) from Bxr0y0_s6_0.out) (fun h => h))
                    have Bxr2y5_7 := Lib.hid (hupd.blk (show Blk ws6_0 br2_5 34 ar2_4 from Bxr2y5_s6_0.out) (fun h => h))
                    have Bxr4y3_7 := Lib.hid (hupd.blk (show Blk ws6_0 br4_3 23 (numsA .u8 ((lowT i).set 31 (bits .or .u8 ((lowT i).getD 31 0) 128))) from Bxr4y3_s6_0.out) (fun h => h))
                    have Bxr7y6 := Lib.hid hbr7_6
                    have HU7 := Lib.hid (HU6_0.out.trans hupd)
                    clear hupd
                    refine wpOps_storeQ 7 rfl rfl rfl 23 (.tmp 9) (.tmp 36) rfl br7_6 0 32 rfl (numsA .u8 (keyOf (ladV (clampL l) (ofKey ((lowT i).set 31 (bits .or .u8 ((lowT i).getD 31 0) 128)))))) rfl 23 (numsA .u8 zeroKL) Bxr7y6.out sizeKey (by rw [numsA_size]; exact keyOf_length _) (by rw [(show (numsA _ _).size = 32 by rw [numsA_size]; exact zeroKL_length)]; exact Nat.le_of_ble_eq_true rfl) (numsA_one _ _) ?_
                    intro ws7_0 hs7_0 hus7_0
                    rw [splice_all _ _ 32 (show (numsA _ _).size = 32 by rw [numsA_size]; exact zeroKL_length) (by rw [numsA_size]; exact keyOf_length _)] at hs7_0
                    have Bxr0y0_s7_0 := Lib.hid (hus7_0.blk Bxr0y0_7.out (fun e => hner7_6_Bxr0y0_s6_0.out e.symm))
                    have Bxr2y5_s7_0 := Lib.hid (hus7_0.blk Bxr2y5_7.out (fun e => hner7_6_Bxr2y5_s6_0.out e.symm))
                    have Bxr4y3_s7_0 := Lib.hid (hus7_0.blk Bxr4y3_7.out (fun e => hner7_6_Bxr4y3_s6_0.out e.symm))
                    have Bxr7y6_s7_0 := Lib.hid hs7_0
                    have HU7_0 := Lib.hid (HU7.out.step hus7_0 (fun i hi h => absurd hi (Nat.not_lt.2 (h.symm ▸ hger7_6.out))))
                    clear hs7_0 hus7_0
                    refine wpOps_pureQ 8 rfl rfl 10 rfl (.int .i64 (agE (ladV (clampL l) (ofKey ((lowT i).set 31 (bits .or .u8 ((lowT i).getD 31 0) 128)))))) (run_moveQ (x := .tmp 37) (v := .int .i64 (agE (ladV (clampL l) (ofKey ((lowT i).set 31 (bits .or .u8 ((lowT i).getD 31 0) 128)))))) (.inr rfl) rfl _) ?_
                    simp only [List.setIfInBounds_toArray, List.set_cons_zero, List.set_cons_succ]
                    refine wpOps_nil ?_
                    refine hK10 _ _ ?_
                    clear hK10
                    refine wp_seq_k fun K11 hK11 => ?_
                    refine wp_region_qS 15 #[true, true, true, true, true, true, true, true, true, true, true, true, true, true, true] [] ([.val (.int .i64 (agE (ladV (clampL l) (ofKey ((lowT i).set 31 (bits .or .u8 ((lowT i).getD 31 0) 128)))))), .val (.bool true), .val (.bool true), .val (.agg (numsA .u8 (keyOf (ladV (clampL l) (ofKey ((lowT i).set 31 (bits .or .u8 ((lowT i).getD 31 0) 128))))))), .val (.agg (numsA .u8 zeroKL)), .val (.bool true), .val (.bool true), .val (.bool true), .val (.agg (numsA .u8 l)), .val (.agg (numsA .u8 ((lowT i).set 31 (bits .or .u8 ((lowT i).getD 31 0) 128)))), .val (.agg (numsA .u8 (keyOf (ladV (clampL l) (ofKey ((lowT i).set 31 (bits .or .u8 ((lowT i).getD 31 0) 128))))))), .val (.agg (numsA .u8 zeroKL)), .val (.bool true), .val (.bool true), .val (.bool true)] : List SQ) (by kernel_rfl) (by kernel_rfl) (by kernel_rfl) ?_ ?_
                    · intro i o listed an wn ho hls hst hun hdep hI hpre K' hK'
                      have hi : i = 0 ∨ i = 1 ∨ i = 2 ∨ i = 3 ∨ i = 4 ∨ i = 5 ∨ i = 6 ∨ i = 7 ∨ i = 8 ∨ i = 9 ∨ i = 10 ∨ i = 11 ∨ i = 12 ∨ i = 13 ∨ i = 14 ∨ False := slot_cases (l := [0, 1, 2, 3, 4, 5, 6, 7, 8, 9, 10, 11, 12, 13, 14]) rfl ho hst
                      rcases hi with rfl | rfl | rfl | rfl | rfl | rfl | rfl | rfl | rfl | rfl | rfl | rfl | rfl | rfl | rfl | hi
                      · obtain rfl := Option.some.inj ho
                        have hvp : an.eval (.tmp 10) = .int .i64 (agE (ladV (clampL l) (ofKey ((lowT i).set 31 (bits .or .u8 ((lowT i).getD 31 0) 128))))) := hI.oldQ (by kernel_rfl) rfl
                        exact hI.pureQ (by kernel_rfl) hls rfl rfl rfl (.int .i64 (agE (ladV (clampL l) (ofKey ((lowT i).set 31 (bits .or .u8 ((lowT i).getD 31 0) 128)))))) (run_moveQ (.inl rfl) hvp wn) (.val (.int .i64 (agE (ladV (clampL l) (ofKey ((lowT i).set 31 (bits .or .u8 ((lowT i).getD 31 0) 128))))))) rfl rfl rfl hK'
                      · obtain rfl := Option.some.inj ho
                        obtain ⟨vp, hvp, hsp⟩ := hI.haveQ 0 _ 38 (.val (.int .i64 (agE (ladV (clampL l) (ofKey ((lowT i).set 31 (bits .or .u8 ((lowT i).getD 31 0) 128))))))) rfl rfl rfl (hdep ⟨0, .data⟩ (by simp) rfl)
                        obtain rfl := hsp
                        exact hI.pureQ (by kernel_rfl) hls rfl rfl rfl (.bool true) (run_eql rfl (eval_of hvp) rfl f1 wn) (.val (.bool true)) rfl rfl rfl hK'
                      · obtain rfl := Option.some.inj ho
                        obtain ⟨vp, hvp, hsp⟩ := hI.haveQ 1 _ 39 (.val (.bool true)) rfl rfl rfl (hdep ⟨1, .data⟩ (by simp) rfl)
                        obtain rfl := hsp
                        exact hI.pureQ (by kernel_rfl) hls rfl rfl rfl (.bool true) (run_moveQ (.inl rfl) (eval_of hvp) wn) (.val (.bool true)) rfl rfl rfl hK'
                      · obtain rfl := Option.some.inj ho
                        obtain ⟨vg, hvg, hsg⟩ := hI.haveQ 2 _ 40 (.val (.bool true)) rfl rfl rfl (hdep ⟨2, .guard⟩ (by simp) rfl)
                        obtain rfl := hsg
                        have hvp : an.eval (.tmp 9) = ptrTo br7_6 := hI.oldQ (by kernel_rfl) rfl
                        exact hI.pureQ (by kernel_rfl) hls rfl (wanted_of rfl rfl rfl hvg) rfl _ (run_loadQ rfl hvp wn (hI.upd.blk (show Blk ws7_0 br7_6 23 (numsA .u8 (keyOf (ladV (clampL l) (ofKey ((lowT i).set 31 (bits .or .u8 ((lowT i).getD 31 0) 128)))))) from Bxr7y6_s7_0.out) (fun h => h)) Tryd.underlying23 rfl sizeKey (by rw [numsA_size, keyOf_length _]; omega)) (.val (.agg (numsA .u8 (keyOf (ladV (clampL l) (ofKey ((lowT i).set 31 (bits .or .u8 ((lowT i).getD 31 0) 128)))))))) rfl (congrArg Value.agg (extract_all _ 32 (by rw [numsA_size]; exact keyOf_length _))) rfl hK'
                      · obtain rfl := Option.some.inj ho
                        obtain ⟨vg, hvg, hsg⟩ := hI.haveQ 2 _ 40 (.val (.bool true)) rfl rfl rfl (hdep ⟨2, .guard⟩ (by simp) rfl)
                        obtain rfl := hsg
                        exact hI.pureQ (by kernel_rfl) hls rfl (wanted_of rfl rfl rfl hvg) rfl (.agg (numsA .u8 zeroKL)) (zeroKL_bld rfl wn) (.val (.agg (numsA .u8 zeroKL))) rfl rfl rfl hK'
                      · obtain rfl := Option.some.inj ho
                        obtain ⟨vg, hvg, hsg⟩ := hI.haveQ 2 _ 40 (.val (.bool true)) rfl rfl rfl (hdep ⟨2, .guard⟩ (by simp) rfl)
                        obtain rfl := hsg
                        obtain ⟨vp, hvp, hsp⟩ := hI.haveQ 3 _ 41 (.val (.agg (numsA .u8 (keyOf (ladV (clampL l) (ofKey ((lowT i).set 31 (bits .or .u8 ((lowT i).getD 31 0) 128)))))))) rfl rfl rfl (hdep ⟨3, .data⟩ (by simp) rfl)
                        obtain rfl := hsp
                        obtain ⟨vq, hvq, hsq⟩ := hI.haveQ 4 _ 42 (.val (.agg (numsA .u8 zeroKL))) rfl rfl rfl (hdep ⟨4, .data⟩ (by simp) rfl)
                        obtain rfl := hsq
                        exact hI.pureQ (by kernel_rfl) hls rfl (wanted_of rfl rfl rfl hvg) rfl (.bool true) (run_eqlK (b := true) rfl (eval_of hvp) (eval_of hvq) (keyOf_length _) zeroKL_length g1 wn) (.val (.bool true)) rfl rfl rfl hK'
                      · obtain rfl := Option.some.inj ho
                        obtain ⟨vp, hvp, hsp⟩ := hI.haveQ 2 _ 40 (.val (.bool true)) rfl rfl rfl (hdep ⟨2, .data⟩ (by simp) rfl)
                        obtain rfl := hsp
                        obtain ⟨vq, hvq, hsq⟩ := hI.haveQ 5 _ 43 (.val (.bool true)) rfl rfl rfl (hdep ⟨5, .data⟩ (by simp) rfl)
                        obtain rfl := hsq
                        exact hI.pureQ (by kernel_rfl) hls rfl rfl rfl (.bool true) (run_pickT rfl (eval_of hvp) (eval_of hvq) wn) (.val (.bool true)) rfl rfl rfl hK'
                      · obtain rfl := Option.some.inj ho
                        obtain ⟨vp, hvp, hsp⟩ := hI.haveQ 6 _ 44 (.val (.bool true)) rfl rfl rfl (hdep ⟨6, .data⟩ (by simp) rfl)
                        obtain rfl := hsp
                        exact hI.pureQ (by kernel_rfl) hls rfl rfl rfl (.bool true) (run_moveQ (.inl rfl) (eval_of hvp) wn) (.val (.bool true)) rfl rfl rfl hK'
                      · obtain rfl := Option.some.inj ho
                        obtain ⟨vg, hvg, hsg⟩ := hI.haveQ 7 _ 45 (.val (.bool true)) rfl rfl rfl (hdep ⟨7, .guard⟩ (by simp) rfl)
                        obtain rfl := hsg
                        have hvp : an.eval (.tmp 3) = ptrTo br0_0 := hI.oldQ (by kernel_rfl) rfl
                        exact hI.pureQ (by kernel_rfl) hls rfl (wanted_of rfl rfl rfl hvg) rfl _ (run_loadQ rfl hvp wn (hI.upd.blk (show Blk ws7_0 br0_0 23 (numsA .u8 l) from Bxr0y0_s7_0.out) (fun h => h)) Tryd.underlying23 rfl sizeKey (by rw [numsA_size, hl]; omega)) (.val (.agg (numsA .u8 l))) rfl (congrArg Value.agg (extract_all _ 32 (by rw [numsA_size]; exact hl))) rfl hK'
                      · obtain rfl := Option.some.inj ho
                        obtain ⟨vg, hvg, hsg⟩ := hI.haveQ 7 _ 45 (.val (.bool true)) rfl rfl rfl (hdep ⟨7, .guard⟩ (by simp) rfl)
                        obtain rfl := hsg
                        have hvp : an.eval (.tmp 8) = ptrTo br4_3 := hI.oldQ (by kernel_rfl) rfl
                        exact hI.pureQ (by kernel_rfl) hls rfl (wanted_of rfl rfl rfl hvg) rfl _ (run_loadQ rfl hvp wn (hI.upd.blk (show Blk ws7_0 br4_3 23 (numsA .u8 ((lowT i).set 31 (bits .or .u8 ((lowT i).getD 31 0) 128))) from Bxr4y3_s7_0.out) (fun h => h)) Tryd.underlying23 rfl sizeKey (by rw [numsA_size, (set_length (lowT_length Hi.out) _ _)]; omega)) (.val (.agg (numsA .u8 ((lowT i).set 31 (bits .or .u8 ((lowT i).getD 31 0) 128))))) rfl (congrArg Value.agg (extract_all _ 32 (by rw [numsA_size]; exact (set_length (lowT_length Hi.out) _ _)))) rfl hK'
                      · obtain rfl := Option.some.inj ho
                        obtain ⟨vg, hvg, hsg⟩ := hI.haveQ 7 _ 45 (.val (.bool true)) rfl rfl rfl (hdep ⟨7, .guard⟩ (by simp) rfl)
                        obtain rfl := hsg
                        obtain ⟨vp, hvp, hsp⟩ := hI.haveQ 8 _ 46 (.val (.agg (numsA .u8 l))) rfl rfl rfl (hdep ⟨8, .data⟩ (by simp) rfl)
                        obtain rfl := hsp
                        obtain ⟨vq, hvq, hsq⟩ := hI.haveQ 9 _ 47 (.val (.agg (numsA .u8 ((lowT i).set 31 (bits .or .u8 ((lowT i).getD 31 0) 128))))) rfl rfl rfl (hdep ⟨9, .data⟩ (by simp) rfl)
                        obtain rfl := hsq
                        exact hI.callQ (by kernel_rfl) hls rfl (wanted_of rfl rfl rfl hvg) rfl 17 #[.tmp 46, .tmp 47] _ rfl #[.agg (numsA .u8 l), .agg (numsA .u8 ((lowT i).set 31 (bits .or .u8 ((lowT i).getD 31 0) 128)))] (by simp [eval_of hvp, eval_of hvq]) (run_enter Tryd.func17 (by kernel_rfl) (by kernel_rfl)) (.val (.agg (numsA .u8 (keyOf (ladV (clampL l) (ofKey ((lowT i).set 31 (bits .or .u8 ((lowT i).getD 31 0) 128)))))))) rfl rfl ((multiplyL _ (HT.out.upd (HU7_0.out.trans hI.upd)) hl hd (set_length (lowT_length Hi.out) _ _) (digs_set (lowT_digs Hi.out) _ _ (or8_bnd _ _ (Digs.get (B := 256) (by decide) (lowT_digs Hi.out) _) (by decide)).1 (or8_bnd _ _ (Digs.get (B := 256) (by decide) (lowT_digs Hi.out) _) (by decide)).2)).mono fun _ _ h => ret_val h) hK'
                      · obtain rfl := Option.some.inj ho
                        obtain ⟨vg, hvg, hsg⟩ := hI.haveQ 7 _ 45 (.val (.bool true)) rfl rfl rfl (hdep ⟨7, .guard⟩ (by simp) rfl)
                        obtain rfl := hsg
                        exact hI.pureQ (by kernel_rfl) hls rfl (wanted_of rfl rfl rfl hvg) rfl (.agg (numsA .u8 zeroKL)) (zeroKL_bld rfl wn) (.val (.agg (numsA .u8 zeroKL))) rfl rfl rfl hK'
                      · obtain rfl := Option.some.inj ho
                        obtain ⟨vg, hvg, hsg⟩ := hI.haveQ 7 _ 45 (.val (.bool true)) rfl rfl rfl (hdep ⟨7, .guard⟩ (by simp) rfl)
                        obtain rfl := hsg
                        obtain ⟨vp, hvp, hsp⟩ := hI.haveQ 10 _ 48 (.val (.agg (numsA .u8 (keyOf (ladV (clampL l) (ofKey ((lowT i).set 31 (bits .or .u8 ((lowT i).getD 31 0) 128)))))))) rfl rfl rfl (hdep ⟨10, .data⟩ (by simp) rfl)
                        obtain rfl := hsp
                        obtain ⟨vq, hvq, hsq⟩ := hI.haveQ 11 _ 49 (.val (.agg (numsA .u8 zeroKL))) rfl rfl rfl (hdep ⟨11, .data⟩ (by simp) rfl)
                        obtain rfl := hsq
                        exact hI.pureQ (by kernel_rfl) hls rfl (wanted_of rfl rfl rfl hvg) rfl (.bool true) (run_eqlK (b := true) rfl (eval_of hvp) (eval_of hvq) (keyOf_length _) zeroKL_length g1 wn) (.val (.bool true)) rfl rfl rfl hK'
                      · obtain rfl := Option.some.inj ho
                        obtain ⟨vp, hvp, hsp⟩ := hI.haveQ 7 _ 45 (.val (.bool true)) rfl rfl rfl (hdep ⟨7, .data⟩ (by simp) rfl)
                        obtain rfl := hsp
                        obtain ⟨vq, hvq, hsq⟩ := hI.haveQ 12 _ 50 (.val (.bool true)) rfl rfl rfl (hdep ⟨12, .data⟩ (by simp) rfl)
                        obtain rfl := hsq
                        exact hI.pureQ (by kernel_rfl) hls rfl rfl rfl (.bool true) (run_pickT rfl (eval_of hvp) (eval_of hvq) wn) (.val (.bool true)) rfl rfl rfl hK'
                      · obtain rfl := Option.some.inj ho
                        obtain ⟨vp, hvp, hsp⟩ := hI.haveQ 13 _ 51 (.val (.bool true)) rfl rfl rfl (hdep ⟨13, .data⟩ (by simp) rfl)
                        obtain rfl := hsp
                        exact hI.pureQ (by kernel_rfl) hls rfl rfl rfl (.bool true) (run_moveQ (.inr rfl) (eval_of hvp) wn) (.val (.bool true)) rfl rfl rfl hK'
                      · exact hi.elim
                    · intro an w9 hI
                      obtain ⟨vr8_0, hvr8_0, hsr8_0⟩ := hI.haveQ 0 _ 38 (.val (.int .i64 (agE (ladV (clampL l) (ofKey ((lowT i).set 31 (bits .or .u8 ((lowT i).getD 31 0) 128))))))) rfl rfl rfl rfl
                      obtain rfl := hsr8_0
                      obtain ⟨vr8_1, hvr8_1, hsr8_1⟩ := hI.haveQ 1 _ 39 (.val (.bool true)) rfl rfl rfl rfl
                      obtain rfl := hsr8_1
                      obtain ⟨vr8_2, hvr8_2, hsr8_2⟩ := hI.haveQ 2 _ 40 (.val (.bool true)) rfl rfl rfl rfl
                      obtain rfl := hsr8_2
                      obtain ⟨vr8_3, hvr8_3, hsr8_3⟩ := hI.haveQ 3 _ 41 (.val (.agg (numsA .u8 (keyOf (ladV (clampL l) (ofKey ((lowT i).set 31 (bits .or .u8 ((lowT i).getD 31 0) 128)))))))) rfl rfl rfl rfl
                      obtain rfl := hsr8_3
                      obtain ⟨vr8_4, hvr8_4, hsr8_4⟩ := hI.haveQ 4 _ 42 (.val (.agg (numsA .u8 zeroKL))) rfl rfl rfl rfl
                      obtain rfl := hsr8_4
                      obtain ⟨vr8_5, hvr8_5, hsr8_5⟩ := hI.haveQ 5 _ 43 (.val (.bool true)) rfl rfl rfl rfl
                      obtain rfl := hsr8_5
                      obtain ⟨vr8_6, hvr8_6, hsr8_6⟩ := hI.haveQ 6 _ 44 (.val (.bool true)) rfl rfl rfl rfl
                      obtain rfl := hsr8_6
                      obtain ⟨vr8_7, hvr8_7, hsr8_7⟩ := hI.haveQ 7 _ 45 (.val (.bool true)) rfl rfl rfl rfl
                      obtain rfl := hsr8_7
                      obtain ⟨vr8_8, hvr8_8, hsr8_8⟩ := hI.haveQ 8 _ 46 (.val (.agg (numsA .u8 l))) rfl rfl rfl rfl
                      obtain rfl := hsr8_8
                      obtain ⟨vr8_9, hvr8_9, hsr8_9⟩ := hI.haveQ 9 _ 47 (.val (.agg (numsA .u8 ((lowT i).set 31 (bits .or .u8 ((lowT i).getD 31 0) 128))))) rfl rfl rfl rfl
                      obtain rfl := hsr8_9
                      obtain ⟨vr8_10, hvr8_10, hsr8_10⟩ := hI.haveQ 10 _ 48 (.val (.agg (numsA .u8 (keyOf (ladV (clampL l) (ofKey ((lowT i).set 31 (bits .or .u8 ((lowT i).getD 31 0) 128)))))))) rfl rfl rfl rfl
                      obtain rfl := hsr8_10
                      obtain ⟨vr8_11, hvr8_11, hsr8_11⟩ := hI.haveQ 11 _ 49 (.val (.agg (numsA .u8 zeroKL))) rfl rfl rfl rfl
                      obtain rfl := hsr8_11
                      obtain ⟨vr8_12, hvr8_12, hsr8_12⟩ := hI.haveQ 12 _ 50 (.val (.bool true)) rfl rfl rfl rfl
                      obtain rfl := hsr8_12
                      obtain ⟨vr8_13, hvr8_13, hsr8_13⟩ := hI.haveQ 13 _ 51 (.val (.bool true)) rfl rfl rfl rfl
                      obtain rfl := hsr8_13
                      obtain ⟨vr8_14, hvr8_14, hsr8_14⟩ := hI.haveQ 14 _ 6 (.val (.bool true)) rfl rfl rfl rfl
                      obtain rfl := hsr8_14
                      have hupd := hI.upd
                      have ha := hI.act [(38, .int .i64 (agE (ladV (clampL l) (ofKey ((lowT i).set 31 (bits .or .u8 ((lowT i).getD 31 0) 128)))))), (39, .bool true), (40, .bool true), (41, .agg (numsA .u8 (keyOf (ladV (clampL l) (ofKey ((lowT i).set 31 (bits .or .u8 ((lowT i).getD 31 0) 128))))))), (42, .agg (numsA .u8 zeroKL)), (43, .bool true), (44, .bool true), (45, .bool true), (46, .agg (numsA .u8 l)), (47, .agg (numsA .u8 ((lowT i).set 31 (bits .or .u8 ((lowT i).getD 31 0) 128)))), (48, .agg (numsA .u8 (keyOf (ladV (clampL l) (ofKey ((lowT i).set 31 (bits .or .u8 ((lowT i).getD 31 0) 128))))))), (49, .agg (numsA .u8 zeroKL)), (50, .bool true), (51, .bool true), (6, .bool true)] (by simp [hvr8_0, hvr8_1, hvr8_2, hvr8_3, hvr8_4, hvr8_5, hvr8_6, hvr8_7, hvr8_8, hvr8_9, hvr8_10, hvr8_11, hvr8_12, hvr8_13, hvr8_14]) (by kernel_rfl)
                      clear hI hvr8_0 hvr8_1 hvr8_2 hvr8_3 hvr8_4 hvr8_5 hvr8_6 hvr8_7 hvr8_8 hvr8_9 hvr8_10 hvr8_11 hvr8_12 hvr8_13 hvr8_14
                      subst ha
                      simp only [List.foldl_cons, List.foldl_nil, List.setIfInBounds_toArray, List.set_cons_zero, List.set_cons_succ]
                      have Bxr0y0_8 := Lib.hid (hupd.blk (show Blk ws7_0 br0_0 23 (numsA .u8 l) from Bxr0y0_s7_0.out) (fun h => h))
                      have Bxr2y5_8 := Lib.hid (hupd.blk (show Blk ws7_0 br2_5 34 ar2_4 from Bxr2y5_s7_0.out) (fun h => h))
                      have Bxr4y3_8 := Lib.hid (hupd.blk (show Blk ws7_0 br4_3 23 (numsA .u8 ((lowT i).set 31 (bits .or .u8 ((lowT i).getD 31 0) 128))) from Bxr4y3_s7_0.out) (fun h => h))
                      have Bxr7y6_8 := Lib.hid (hupd.blk (show Blk ws7_0 br7_6 23 (numsA .u8 (keyOf (ladV (clampL l) (ofKey ((lowT i).set 31 (bits .or .u8 ((lowT i).getD 31 0) 128)))))) from Bxr7y6_s7_0.out) (fun h => h))
                      have HU8 := Lib.hid (HU7_0.out.trans hupd)
                      clear hupd
                      refine wpOps_nil ?_
                      refine hK11 _ _ ?_
                      clear hK11
                      refine wp_ret ?_
                      try dsimp only [Exit.then]
                      try dsimp only [Exit.inBlock]
                      exact bodyPost_ret (v := .bool true) (results_tmpQ (fn := Tryd.f7) (t := 6) rfl _ _ (.bool true) rfl) rfl ⟨rfl, HU8.out⟩
              · have Hcd12 := Lib.hid hcd
                clear hcd
                refine wp_skip ?_
                refine hK7 _ _ ?_
                clear hK7
                refine wp_seq_k fun K13 hK13 => ?_
                refine wp_region_qS 7 #[true, true, true, true, true, true, true, false, false] [7, 8] ([.val (.agg (numsA .u8 l)), .val (.agg (numsA .u8 (lowT i))), .val (.tuple #[.agg (numsA .u8 (keyOf (ladV (clampL l) (ofKey (lowT i))))), .int .i64 (agE (ladV (clampL l) (ofKey (lowT i))))]), .val (.tuple #[.agg (numsA .u8 (keyOf (ladV (clampL l) (ofKey (lowT i))))), .int .i64 (agE (ladV (clampL l) (ofKey (lowT i))))]), .val (.agg (numsA .u8 (keyOf (ladV (clampL l) (ofKey (lowT i)))))), .val (.int .i64 (agE (ladV (clampL l) (ofKey (lowT i))))), .blk ptrTo 23 (fun z => z = numsA .u8 zeroKL), .val undef, .val undef] : List SQ) (by kernel_rfl) (by kernel_rfl) (by kernel_rfl) ?_ ?_
                · intro i o listed an wn ho hls hst hun hdep hI hpre K' hK'
                  have hi : i = 0 ∨ i = 1 ∨ i = 2 ∨ i = 3 ∨ i = 4 ∨ i = 5 ∨ i = 6 ∨ False := slot_cases (l := [0, 1, 2, 3, 4, 5, 6]) rfl ho hst
                  rcases hi with rfl | rfl | rfl | rfl | rfl | rfl | rfl | hi
                  · obtain rfl := Option.some.inj ho
                    have hvp : an.eval (.tmp 3) = ptrTo br0_0 := hI.oldQ (by kernel_rfl) rfl
                    exact hI.pureQ (by kernel_rfl) hls rfl rfl rfl _ (run_loadQ rfl hvp wn (hI.upd.blk (show Blk w6 br0_0 23 (numsA .u8 l) from Bxr0y0_5.out) (fun h => h)) Tryd.underlying23 rfl sizeKey (by rw [numsA_size, hl]; omega)) (.val (.agg (numsA .u8 l))) rfl (congrArg Value.agg (extract_all _ 32 (by rw [numsA_size]; exact hl))) rfl hK'
                  · obtain rfl := Option.some.inj ho
                    have hvp : an.eval (.tmp 8) = ptrTo br4_3 := hI.oldQ (by kernel_rfl) rfl
                    exact hI.pureQ (by kernel_rfl) hls rfl rfl rfl _ (run_loadQ rfl hvp wn (hI.upd.blk (show Blk w6 br4_3 23 (numsA .u8 (lowT i)) from Bxr4y3_5.out) (fun h => h)) Tryd.underlying23 rfl sizeKey (by rw [numsA_size, lowT_length Hi.out]; omega)) (.val (.agg (numsA .u8 (lowT i)))) rfl (congrArg Value.agg (extract_all _ 32 (by rw [numsA_size]; exact lowT_length Hi.out))) rfl hK'
                  · obtain rfl := Option.some.inj ho
                    obtain ⟨vp, hvp, hsp⟩ := hI.haveQ 0 _ 33 (.val (.agg (numsA .u8 l))) rfl rfl rfl (hdep ⟨0, .data⟩ (by simp) rfl)
                    obtain rfl := hsp
                    obtain ⟨vq, hvq, hsq⟩ := hI.haveQ 1 _ 34 (.val (.agg (numsA .u8 (lowT i)))) rfl rfl rfl (hdep ⟨1, .data⟩ (by simp) rfl)
                    obtain rfl := hsq
                    exact hI.callQ (by kernel_rfl) hls rfl rfl rfl 19 #[.tmp 33, .tmp 34] _ rfl #[.agg (numsA .u8 l), .agg (numsA .u8 (lowT i))] (by simp [eval_of hvp, eval_of hvq]) (run_enter Tryd.func19 (by kernel_rfl) (by kernel_rfl)) (.val (.tuple #[.agg (numsA .u8 (keyOf (ladV (clampL l) (ofKey (lowT i))))), .int .i64 (agE (ladV (clampL l) (ofKey (lowT i))))])) rfl rfl ((agreeL _ (HT.out.upd (HU5.out.trans hI.upd)) hl hd (lowT_length Hi.out) (lowT_digs Hi.out)).mono fun _ _ h => ret_val h) hK'
                  · obtain rfl := Option.some.inj ho
                    obtain ⟨vp, hvp, hsp⟩ := hI.haveQ 2 _ 35 (.val (.tuple #[.agg (numsA .u8 (keyOf (ladV (clampL l) (ofKey (lowT i))))), .int .i64 (agE (ladV (clampL l) (ofKey (lowT i))))])) rfl rfl rfl (hdep ⟨2, .data⟩ (by simp) rfl)
                    obtain rfl := hsp
                    exact hI.pureQ (by kernel_rfl) hls rfl rfl rfl (.tuple #[.agg (numsA .u8 (keyOf (ladV (clampL l) (ofKey (lowT i))))), .int .i64 (agE (ladV (clampL l) (ofKey (lowT i))))]) (run_moveQ (.inl rfl) (eval_of hvp) wn) (.val (.tuple #[.agg (numsA .u8 (keyOf (ladV (clampL l) (ofKey (lowT i))))), .int .i64 (agE (ladV (clampL l) (ofKey (lowT i))))])) rfl rfl rfl hK'
                  · obtain rfl := Option.some.inj ho
                    obtain ⟨vp, hvp, hsp⟩ := hI.haveQ 3 _ 32 (.val (.tuple #[.agg (numsA .u8 (keyOf (ladV (clampL l) (ofKey (lowT i))))), .int .i64 (agE (ladV (clampL l) (ofKey (lowT i))))])) rfl rfl rfl (hdep ⟨3, .data⟩ (by simp) rfl)
                    obtain rfl := hsp
                    exact hI.pureQ (by kernel_rfl) hls rfl rfl rfl (.agg (numsA .u8 (keyOf (ladV (clampL l) (ofKey (lowT i)))))) (run_extractQ rfl (eval_of hvp) rfl wn) (.val (.agg (numsA .u8 (keyOf (ladV (clampL l) (ofKey (lowT i))))))) rfl rfl rfl hK'
                  · obtain rfl := Option.some.inj ho
                    obtain ⟨vp, hvp, hsp⟩ := hI.haveQ 3 _ 32 (.val (.tuple #[.agg (numsA .u8 (keyOf (ladV (clampL l) (ofKey (lowT i))))), .int .i64 (agE (ladV (clampL l) (ofKey (lowT i))))])) rfl rfl rfl (hdep ⟨3, .data⟩ (by simp) rfl)
                    obtain rfl := hsp
                    exact hI.pureQ (by kernel_rfl) hls rfl rfl rfl (.int .i64 (agE (ladV (clampL l) (ofKey (lowT i))))) (run_extractQ rfl (eval_of hvp) rfl wn) (.val (.int .i64 (agE (ladV (clampL l) (ofKey (lowT i)))))) rfl rfl rfl hK'
                  · obtain rfl := Option.some.inj ho
                    exact hI.newQ (by kernel_rfl) hls (Nat.le_refl _) (newsQ_spec (l := [6]) (by kernel_rfl) ⟨⟨_, _, rfl⟩, trivial⟩) rfl rfl rfl 23 _ (fun z => z = numsA .u8 zeroKL) (run_allocQ rfl zeroK_run wn) rfl rfl hK'
                  · exact hi.elim
                · intro an w10 hI
                  obtain ⟨vr9_0, hvr9_0, hsr9_0⟩ := hI.haveQ 0 _ 33 (.val (.agg (numsA .u8 l))) rfl rfl rfl rfl
                  obtain rfl := hsr9_0
                  obtain ⟨vr9_1, hvr9_1, hsr9_1⟩ := hI.haveQ 1 _ 34 (.val (.agg (numsA .u8 (lowT i)))) rfl rfl rfl rfl
                  obtain rfl := hsr9_1
                  obtain ⟨vr9_2, hvr9_2, hsr9_2⟩ := hI.haveQ 2 _ 35 (.val (.tuple #[.agg (numsA .u8 (keyOf (ladV (clampL l) (ofKey (lowT i))))), .int .i64 (agE (ladV (clampL l) (ofKey (lowT i))))])) rfl rfl rfl rfl
                  obtain rfl := hsr9_2
                  obtain ⟨vr9_3, hvr9_3, hsr9_3⟩ := hI.haveQ 3 _ 32 (.val (.tuple #[.agg (numsA .u8 (keyOf (ladV (clampL l) (ofKey (lowT i))))), .int .i64 (agE (ladV (clampL l) (ofKey (lowT i))))])) rfl rfl rfl rfl
                  obtain rfl := hsr9_3
                  obtain ⟨vr9_4, hvr9_4, hsr9_4⟩ := hI.haveQ 4 _ 36 (.val (.agg (numsA .u8 (keyOf (ladV (clampL l) (ofKey (lowT i))))))) rfl rfl rfl rfl
                  obtain rfl := hsr9_4
                  obtain ⟨vr9_5, hvr9_5, hsr9_5⟩ := hI.haveQ 5 _ 37 (.val (.int .i64 (agE (ladV (clampL l) (ofKey (lowT i)))))) rfl rfl rfl rfl
                  obtain rfl := hsr9_5
                  obtain ⟨vr9_6, hvr9_6, br9_6, zr9_6, rfl, hnr9_6, hbr9_6, hzr9_6⟩ := hI.haveQ 6 _ 9 (.blk ptrTo 23 (fun z => z = numsA .u8 zeroKL)) rfl rfl rfl rfl
                  rw [hzr9_6] at hbr9_6
                  clear hzr9_6
                  have hupd := hI.upd
                  have ha := hI.act [(33, .agg (numsA .u8 l)), (34, .agg (numsA .u8 (lowT i))), (35, .tuple #[.agg (numsA .u8 (keyOf (ladV (clampL l) (ofKey (lowT i))))), .int .i64 (agE (ladV (clampL l) (ofKey (lowT i))))]), (32, .tuple #[.agg (numsA .u8 (keyOf (ladV (clampL l) (ofKey (lowT i))))), .int .i64 (agE (ladV (clampL l) (ofKey (lowT i))))]), (36, .agg (numsA .u8 (keyOf (ladV (clampL l) (ofKey (lowT i)))))), (37, .int .i64 (agE (ladV (clampL l) (ofKey (lowT i))))), (9, ptrTo br9_6)] (by simp [hvr9_0, hvr9_1, hvr9_2, hvr9_3, hvr9_4, hvr9_5, hvr9_6]) (by kernel_rfl)
                  clear hI hvr9_0 hvr9_1 hvr9_2 hvr9_3 hvr9_4 hvr9_5 hvr9_6
                  subst ha
                  simp only [List.foldl_cons, List.foldl_nil, List.setIfInBounds_toArray, List.set_cons_zero, List.set_cons_succ]
                  have hner9_6_Bxr0y0_5 := Lib.hid (show br9_6 ≠ br0_0 from Nat.ne_of_gt (Nat.lt_of_lt_of_le Bxr0y0_5.out.lt hnr9_6))
                  have hner9_6_Bxr2y5_5 := Lib.hid (show br9_6 ≠ br2_5 from Nat.ne_of_gt (Nat.lt_of_lt_of_le Bxr2y5_5.out.lt hnr9_6))
                  have hner9_6_Bxr4y3_5 := Lib.hid (show br9_6 ≠ br4_3 from Nat.ne_of_gt (Nat.lt_of_lt_of_le Bxr4y3_5.out.lt hnr9_6))
                  have hger9_6 := Lib.hid (Nat.le_trans HU5.out.size hnr9_6)
                  have Bxr0y0_9 := Lib.hid (hupd.blk (show Blk w6 br0_0 23 (numsA .u8 l) from Bxr0y0_5.out) (fun h => h))
                  have Bxr2y5_9 := Lib.hid (hupd.blk (show Blk w6 br2_5 34 ar2_4 from Bxr2y5_5.out) (fun h => h))
                  have Bxr4y3_9 := Lib.hid (hupd.blk (show Blk w6 br4_3 23 (numsA .u8 (lowT i)) from Bxr4y3_5.out) (fun h => h))
                  have Bxr9y6 := Lib.hid hbr9_6
                  have HU9 := Lib.hid (HU5.out.trans hupd)
                  clear hupd
                  refine wpOps_storeQ 7 rfl rfl rfl 23 (.tmp 9) (.tmp 36) rfl br9_6 0 32 rfl (numsA .u8 (keyOf (ladV (clampL l) (ofKey (lowT i))))) rfl 23 (numsA .u8 zeroKL) Bxr9y6.out sizeKey (by rw [numsA_size]; exact keyOf_length _) (by rw [(show (numsA _ _).size = 32 by rw [numsA_size]; exact zeroKL_length)]; exact Nat.le_of_ble_eq_true rfl) (numsA_one _ _) ?_
                  intro ws9_0 hs9_0 hus9_0
                  rw [splice_all _ _ 32 (show (numsA _ _).size = 32 by rw [numsA_size]; exact zeroKL_length) (by rw [numsA_size]; exact keyOf_length _)] at hs9_0
                  have Bxr0y0_s9_0 := Lib.hid (hus9_0.blk Bxr0y0_9.out (fun e => hner9_6_Bxr0y0_5.out e.symm))
                  have Bxr2y5_s9_0 := Lib.hid (hus9_0.blk Bxr2y5_9.out (fun e => hner9_6_Bxr2y5_5.out e.symm))
                  have Bxr4y3_s9_0 := Lib.hid (hus9_0.blk Bxr4y3_9.out (fun e => hner9_6_Bxr4y3_5.out e.symm))
                  have Bxr9y6_s9_0 := Lib.hid hs9_0
                  have HU9_0 := Lib.hid (HU9.out.step hus9_0 (fun i hi h => absurd hi (Nat.not_lt.2 (h.symm ▸ hger9_6.out))))
                  clear hs9_0 hus9_0
                  refine wpOps_pureQ 8 rfl rfl 10 rfl (.int .i64 (agE (ladV (clampL l) (ofKey (lowT i))))) (run_moveQ (x := .tmp 37) (v := .int .i64 (agE (ladV (clampL l) (ofKey (lowT i))))) (.inr rfl) rfl _) ?_
                  simp only [List.setIfInBounds_toArray, List.set_cons_zero, List.set_cons_succ]
                  refine wpOps_nil ?_
                  refine hK13 _ _ ?_
                  clear hK13
                  refine wp_seq_k fun K14 hK14 => ?_
                  refine wp_region_qS 15 #[true, true, true, true, true, true, true, true, true, true, true, true, true, true, true] [] ([.val (.int .i64 (agE (ladV (clampL l) (ofKey (lowT i))))), .val (.bool true), .val (.bool true), .val (.agg (numsA .u8 (keyOf (ladV (clampL l) (ofKey (lowT i)))))), .val (.agg (numsA .u8 zeroKL)), .val (.bool true), .val (.bool true), .val (.bool true), .val (.agg (numsA .u8 l)), .val (.agg (numsA .u8 (lowT i))), .val (.agg (numsA .u8 (keyOf (ladV (clampL l) (ofKey (lowT i)))))), .val (.agg (numsA .u8 zeroKL)), .val (.bool true), .val (.bool true), .val (.bool true)] : List SQ) (by kernel_rfl) (by kernel_rfl) (by kernel_rfl) ?_ ?_
                  · intro i o listed an wn ho hls hst hun hdep hI hpre K' hK'
                    have hi : i = 0 ∨ i = 1 ∨ i = 2 ∨ i = 3 ∨ i = 4 ∨ i = 5 ∨ i = 6 ∨ i = 7 ∨ i = 8 ∨ i = 9 ∨ i = 10 ∨ i = 11 ∨ i = 12 ∨ i = 13 ∨ i = 14 ∨ False := slot_cases (l := [0, 1, 2, 3, 4, 5, 6, 7, 8, 9, 10, 11, 12, 13, 14]) rfl ho hst
                    rcases hi with rfl | rfl | rfl | rfl | rfl | rfl | rfl | rfl | rfl | rfl | rfl | rfl | rfl | rfl | rfl | hi
                    · obtain rfl := Option.some.inj ho
                      have hvp : an.eval (.tmp 10) = .int .i64 (agE (ladV (clampL l) (ofKey (lowT i)))) := hI.oldQ (by kernel_rfl) rfl
                      exact hI.pureQ (by kernel_rfl) hls rfl rfl rfl (.int .i64 (agE (ladV (clampL l) (ofKey (lowT i))))) (run_moveQ (.inl rfl) hvp wn) (.val (.int .i64 (agE (ladV (clampL l) (ofKey (lowT i)))))) rfl rfl rfl hK'
                    · obtain rfl := Option.some.inj ho
                      obtain ⟨vp, hvp, hsp⟩ := hI.haveQ 0 _ 38 (.val (.int .i64 (agE (ladV (clampL l) (ofKey (lowT i)))))) rfl rfl rfl (hdep ⟨0, .data⟩ (by simp) rfl)
                      obtain rfl := hsp
                      exact hI.pureQ (by kernel_rfl) hls rfl rfl rfl (.bool true) (run_eql rfl (eval_of hvp) rfl f0 wn) (.val (.bool true)) rfl rfl rfl hK'
                    · obtain rfl := Option.some.inj ho
                      obtain ⟨vp, hvp, hsp⟩ := hI.haveQ 1 _ 39 (.val (.bool true)) rfl rfl rfl (hdep ⟨1, .data⟩ (by simp) rfl)
                      obtain rfl := hsp
                      exact hI.pureQ (by kernel_rfl) hls rfl rfl rfl (.bool true) (run_moveQ (.inl rfl) (eval_of hvp) wn) (.val (.bool true)) rfl rfl rfl hK'
                    · obtain rfl := Option.some.inj ho
                      obtain ⟨vg, hvg, hsg⟩ := hI.haveQ 2 _ 40 (.val (.bool true)) rfl rfl rfl (hdep ⟨2, .guard⟩ (by simp) rfl)
                      obtain rfl := hsg
                      have hvp : an.eval (.tmp 9) = ptrTo br9_6 := hI.oldQ (by kernel_rfl) rfl
                      exact hI.pureQ (by kernel_rfl) hls rfl (wanted_of rfl rfl rfl hvg) rfl _ (run_loadQ rfl hvp wn (hI.upd.blk (show Blk ws9_0 br9_6 23 (numsA .u8 (keyOf (ladV (clampL l) (ofKey (lowT i))))) from Bxr9y6_s9_0.out) (fun h => h)) Tryd.underlying23 rfl sizeKey (by rw [numsA_size, keyOf_length _]; omega)) (.val (.agg (numsA .u8 (keyOf (ladV (clampL l) (ofKey (lowT i))))))) rfl (congrArg Value.agg (extract_all _ 32 (by rw [numsA_size]; exact keyOf_length _))) rfl hK'
                    · obtain rfl := Option.some.inj ho
                      obtain ⟨vg, hvg, hsg⟩ := hI.haveQ 2 _ 40 (.val (.bool true)) rfl rfl rfl (hdep ⟨2, .guard⟩ (by simp) rfl)
                      obtain rfl := hsg
                      exact hI.pureQ (by kernel_rfl) hls rfl (wanted_of rfl rfl rfl hvg) rfl (.agg (numsA .u8 zeroKL)) (zeroKL_bld rfl wn) (.val (.agg (numsA .u8 zeroKL))) rfl rfl rfl hK'
                    · obtain rfl := Option.some.inj ho
                      obtain ⟨vg, hvg, hsg⟩ := hI.haveQ 2 _ 40 (.val (.bool true)) rfl rfl rfl (hdep ⟨2, .guard⟩ (by simp) rfl)
                      obtain rfl := hsg
                      obtain ⟨vp, hvp, hsp⟩ := hI.haveQ 3 _ 41 (.val (.agg (numsA .u8 (keyOf (ladV (clampL l) (ofKey (lowT i))))))) rfl rfl rfl (hdep ⟨3, .data⟩ (by simp) rfl)
                      obtain rfl := hsp
                      obtain ⟨vq, hvq, hsq⟩ := hI.haveQ 4 _ 42 (.val (.agg (numsA .u8 zeroKL))) rfl rfl rfl (hdep ⟨4, .data⟩ (by simp) rfl)
                      obtain rfl := hsq
                      exact hI.pureQ (by kernel_rfl) hls rfl (wanted_of rfl rfl rfl hvg) rfl (.bool true) (run_eqlK (b := true) rfl (eval_of hvp) (eval_of hvq) (keyOf_length _) zeroKL_length g0 wn) (.val (.bool true)) rfl rfl rfl hK'
                    · obtain rfl := Option.some.inj ho
                      obtain ⟨vp, hvp, hsp⟩ := hI.haveQ 2 _ 40 (.val (.bool true)) rfl rfl rfl (hdep ⟨2, .data⟩ (by simp) rfl)
                      obtain rfl := hsp
                      obtain ⟨vq, hvq, hsq⟩ := hI.haveQ 5 _ 43 (.val (.bool true)) rfl rfl rfl (hdep ⟨5, .data⟩ (by simp) rfl)
                      obtain rfl := hsq
                      exact hI.pureQ (by kernel_rfl) hls rfl rfl rfl (.bool true) (run_pickT rfl (eval_of hvp) (eval_of hvq) wn) (.val (.bool true)) rfl rfl rfl hK'
                    · obtain rfl := Option.some.inj ho
                      obtain ⟨vp, hvp, hsp⟩ := hI.haveQ 6 _ 44 (.val (.bool true)) rfl rfl rfl (hdep ⟨6, .data⟩ (by simp) rfl)
                      obtain rfl := hsp
                      exact hI.pureQ (by kernel_rfl) hls rfl rfl rfl (.bool true) (run_moveQ (.inl rfl) (eval_of hvp) wn) (.val (.bool true)) rfl rfl rfl hK'
                    · obtain rfl := Option.some.inj ho
                      obtain ⟨vg, hvg, hsg⟩ := hI.haveQ 7 _ 45 (.val (.bool true)) rfl rfl rfl (hdep ⟨7, .guard⟩ (by simp) rfl)
                      obtain rfl := hsg
                      have hvp : an.eval (.tmp 3) = ptrTo br0_0 := hI.oldQ (by kernel_rfl) rfl
                      exact hI.pureQ (by kernel_rfl) hls rfl (wanted_of rfl rfl rfl hvg) rfl _ (run_loadQ rfl hvp wn (hI.upd.blk (show Blk ws9_0 br0_0 23 (numsA .u8 l) from Bxr0y0_s9_0.out) (fun h => h)) Tryd.underlying23 rfl sizeKey (by rw [numsA_size, hl]; omega)) (.val (.agg (numsA .u8 l))) rfl (congrArg Value.agg (extract_all _ 32 (by rw [numsA_size]; exact hl))) rfl hK'
                    · obtain rfl := Option.some.inj ho
                      obtain ⟨vg, hvg, hsg⟩ := hI.haveQ 7 _ 45 (.val (.bool true)) rfl rfl rfl (hdep ⟨7, .guard⟩ (by simp) rfl)
                      obtain rfl := hsg
                      have hvp : an.eval (.tmp 8) = ptrTo br4_3 := hI.oldQ (by kernel_rfl) rfl
                      exact hI.pureQ (by kernel_rfl) hls rfl (wanted_of rfl rfl rfl hvg) rfl _ (run_loadQ rfl hvp wn (hI.upd.blk (show Blk ws9_0 br4_3 23 (numsA .u8 (lowT i)) from Bxr4y3_s9_0.out) (fun h => h)) Tryd.underlying23 rfl sizeKey (by rw [numsA_size, lowT_length Hi.out]; omega)) (.val (.agg (numsA .u8 (lowT i)))) rfl (congrArg Value.agg (extract_all _ 32 (by rw [numsA_size]; exact lowT_length Hi.out))) rfl hK'
                    · obtain rfl := Option.some.inj ho
                      obtain ⟨vg, hvg, hsg⟩ := hI.haveQ 7 _ 45 (.val (.bool true)) rfl rfl rfl (hdep ⟨7, .guard⟩ (by simp) rfl)
                      obtain rfl := hsg
                      obtain ⟨vp, hvp, hsp⟩ := hI.haveQ 8 _ 46 (.val (.agg (numsA .u8 l))) rfl rfl rfl (hdep ⟨8, .data⟩ (by simp) rfl)
                      obtain rfl := hsp
                      obtain ⟨vq, hvq, hsq⟩ := hI.haveQ 9 _ 47 (.val (.agg (numsA .u8 (lowT i)))) rfl rfl rfl (hdep ⟨9, .data⟩ (by simp) rfl)
                      obtain rfl := hsq
                      exact hI.callQ (by kernel_rfl) hls rfl (wanted_of rfl rfl rfl hvg) rfl 17 #[.tmp 46, .tmp 47] _ rfl #[.agg (numsA .u8 l), .agg (numsA .u8 (lowT i))] (by simp [eval_of hvp, eval_of hvq]) (run_enter Tryd.func17 (by kernel_rfl) (by kernel_rfl)) (.val (.agg (numsA .u8 (keyOf (ladV (clampL l) (ofKey (lowT i))))))) rfl rfl ((multiplyL _ (HT.out.upd (HU9_0.out.trans hI.upd)) hl hd (lowT_length Hi.out) (lowT_digs Hi.out)).mono fun _ _ h => ret_val h) hK'
                    · obtain rfl := Option.some.inj ho
                      obtain ⟨vg, hvg, hsg⟩ := hI.haveQ 7 _ 45 (.val (.bool true)) rfl rfl rfl (hdep ⟨7, .guard⟩ (by simp) rfl)
                      obtain rfl := hsg
                      exact hI.pureQ (by kernel_rfl) hls rfl (wanted_of rfl rfl rfl hvg) rfl (.agg (numsA .u8 zeroKL)) (zeroKL_bld rfl wn) (.val (.agg (numsA .u8 zeroKL))) rfl rfl rfl hK'
                    · obtain rfl := Option.some.inj ho
                      obtain ⟨vg, hvg, hsg⟩ := hI.haveQ 7 _ 45 (.val (.bool true)) rfl rfl rfl (hdep ⟨7, .guard⟩ (by simp) rfl)
                      obtain rfl := hsg
                      obtain ⟨vp, hvp, hsp⟩ := hI.haveQ 10 _ 48 (.val (.agg (numsA .u8 (keyOf (ladV (clampL l) (ofKey (lowT i))))))) rfl rfl rfl (hdep ⟨10, .data⟩ (by simp) rfl)
                      obtain rfl := hsp
                      obtain ⟨vq, hvq, hsq⟩ := hI.haveQ 11 _ 49 (.val (.agg (numsA .u8 zeroKL))) rfl rfl rfl (hdep ⟨11, .data⟩ (by simp) rfl)
                      obtain rfl := hsq
                      exact hI.pureQ (by kernel_rfl) hls rfl (wanted_of rfl rfl rfl hvg) rfl (.bool true) (run_eqlK (b := true) rfl (eval_of hvp) (eval_of hvq) (keyOf_length _) zeroKL_length g0 wn) (.val (.bool true)) rfl rfl rfl hK'
                    · obtain rfl := Option.some.inj ho
                      obtain ⟨vp, hvp, hsp⟩ := hI.haveQ 7 _ 45 (.val (.bool true)) rfl rfl rfl (hdep ⟨7, .data⟩ (by simp) rfl)
                      obtain rfl := hsp
                      obtain ⟨vq, hvq, hsq⟩ := hI.haveQ 12 _ 50 (.val (.bool true)) rfl rfl rfl (hdep ⟨12, .data⟩ (by simp) rfl)
                      obtain rfl := hsq
                      exact hI.pureQ (by kernel_rfl) hls rfl rfl rfl (.bool true) (run_pickT rfl (eval_of hvp) (eval_of hvq) wn) (.val (.bool true)) rfl rfl rfl hK'
                    · obtain rfl := Option.some.inj ho
                      obtain ⟨vp, hvp, hsp⟩ := hI.haveQ 13 _ 51 (.val (.bool true)) rfl rfl rfl (hdep ⟨13, .data⟩ (by simp) rfl)
                      obtain rfl := hsp
                      exact hI.pureQ (by kernel_rfl) hls rfl rfl rfl (.bool true) (run_moveQ (.inr rfl) (eval_of hvp) wn) (.val (.bool true)) rfl rfl rfl hK'
                    · exact hi.elim
                  · intro an w11 hI
                    obtain ⟨vr10_0, hvr10_0, hsr10_0⟩ := hI.haveQ 0 _ 38 (.val (.int .i64 (agE (ladV (clampL l) (ofKey (lowT i)))))) rfl rfl rfl rfl
                    obtain rfl := hsr10_0
                    obtain ⟨vr10_1, hvr10_1, hsr10_1⟩ := hI.haveQ 1 _ 39 (.val (.bool true)) rfl rfl rfl rfl
                    obtain rfl := hsr10_1
                    obtain ⟨vr10_2, hvr10_2, hsr10_2⟩ := hI.haveQ 2 _ 40 (.val (.bool true)) rfl rfl rfl rfl
                    obtain rfl := hsr10_2
                    obtain ⟨vr10_3, hvr10_3, hsr10_3⟩ := hI.haveQ 3 _ 41 (.val (.agg (numsA .u8 (keyOf (ladV (clampL l) (ofKey (lowT i))))))) rfl rfl rfl rfl
                    obtain rfl := hsr10_3
                    obtain ⟨vr10_4, hvr10_4, hsr10_4⟩ := hI.haveQ 4 _ 42 (.val (.agg (numsA .u8 zeroKL))) rfl rfl rfl rfl
                    obtain rfl := hsr10_4
                    obtain ⟨vr10_5, hvr10_5, hsr10_5⟩ := hI.haveQ 5 _ 43 (.val (.bool true)) rfl rfl rfl rfl
                    obtain rfl := hsr10_5
                    obtain ⟨vr10_6, hvr10_6, hsr10_6⟩ := hI.haveQ 6 _ 44 (.val (.bool true)) rfl rfl rfl rfl
                    obtain rfl := hsr10_6
                    obtain ⟨vr10_7, hvr10_7, hsr10_7⟩ := hI.haveQ 7 _ 45 (.val (.bool true)) rfl rfl rfl rfl
                    obtain rfl := hsr10_7
                    obtain ⟨vr10_8, hvr10_8, hsr10_8⟩ := hI.haveQ 8 _ 46 (.val (.agg (numsA .u8 l))) rfl rfl rfl rfl
                    obtain rfl := hsr10_8
                    obtain ⟨vr10_9, hvr10_9, hsr10_9⟩ := hI.haveQ 9 _ 47 (.val (.agg (numsA .u8 (lowT i)))) rfl rfl rfl rfl
                    obtain rfl := hsr10_9
                    obtain ⟨vr10_10, hvr10_10, hsr10_10⟩ := hI.haveQ 10 _ 48 (.val (.agg (numsA .u8 (keyOf (ladV (clampL l) (ofKey (lowT i))))))) rfl rfl rfl rfl
                    obtain rfl := hsr10_10
                    obtain ⟨vr10_11, hvr10_11, hsr10_11⟩ := hI.haveQ 11 _ 49 (.val (.agg (numsA .u8 zeroKL))) rfl rfl rfl rfl
                    obtain rfl := hsr10_11
                    obtain ⟨vr10_12, hvr10_12, hsr10_12⟩ := hI.haveQ 12 _ 50 (.val (.bool true)) rfl rfl rfl rfl
                    obtain rfl := hsr10_12
                    obtain ⟨vr10_13, hvr10_13, hsr10_13⟩ := hI.haveQ 13 _ 51 (.val (.bool true)) rfl rfl rfl rfl
                    obtain rfl := hsr10_13
                    obtain ⟨vr10_14, hvr10_14, hsr10_14⟩ := hI.haveQ 14 _ 6 (.val (.bool true)) rfl rfl rfl rfl
                    obtain rfl := hsr10_14
                    have hupd := hI.upd
                    have ha := hI.act [(38, .int .i64 (agE (ladV (clampL l) (ofKey (lowT i))))), (39, .bool true), (40, .bool true), (41, .agg (numsA .u8 (keyOf (ladV (clampL l) (ofKey (lowT i)))))), (42, .agg (numsA .u8 zeroKL)), (43, .bool true), (44, .bool true), (45, .bool true), (46, .agg (numsA .u8 l)), (47, .agg (numsA .u8 (lowT i))), (48, .agg (numsA .u8 (keyOf (ladV (clampL l) (ofKey (lowT i)))))), (49, .agg (numsA .u8 zeroKL)), (50, .bool true), (51, .bool true), (6, .bool true)] (by simp [hvr10_0, hvr10_1, hvr10_2, hvr10_3, hvr10_4, hvr10_5, hvr10_6, hvr10_7, hvr10_8, hvr10_9, hvr10_10, hvr10_11, hvr10_12, hvr10_13, hvr10_14]) (by kernel_rfl)
                    clear hI hvr10_0 hvr10_1 hvr10_2 hvr10_3 hvr10_4 hvr10_5 hvr10_6 hvr10_7 hvr10_8 hvr10_9 hvr10_10 hvr10_11 hvr10_12 hvr10_13 hvr10_14
                    subst ha
                    simp only [List.foldl_cons, List.foldl_nil, List.setIfInBounds_toArray, List.set_cons_zero, List.set_cons_succ]
                    have Bxr0y0_10 := Lib.hid (hupd.blk (show Blk ws9_0 br0_0 23 (numsA .u8 l) from Bxr0y0_s9_0.out) (fun h => h))
                    have Bxr2y5_10 := Lib.hid (hupd.blk (show Blk ws9_0 br2_5 34 ar2_4 from Bxr2y5_s9_0.out) (fun h => h))
                    have Bxr4y3_10 := Lib.hid (hupd.blk (show Blk ws9_0 br4_3 23 (numsA .u8 (lowT i)) from Bxr4y3_s9_0.out) (fun h => h))
                    have Bxr9y6_10 := Lib.hid (hupd.blk (show Blk ws9_0 br9_6 23 (numsA .u8 (keyOf (ladV (clampL l) (ofKey (lowT i))))) from Bxr9y6_s9_0.out) (fun h => h))
                    have HU10 := Lib.hid (HU9_0.out.trans hupd)
                    clear hupd
                    refine wpOps_nil ?_
                    refine hK14 _ _ ?_
                    clear hK14
                    refine wp_ret ?_
                    try dsimp only [Exit.then]
                    try dsimp only [Exit.inBlock]
                    exact bodyPost_ret (v := .bool true) (results_tmpQ (fn := Tryd.f7) (t := 6) rfl _ _ (.bool true) rfl) rfl ⟨rfl, HU10.out⟩
theorem ladderLow_any {l : List Int} {pk : Int} {high : Bool} (w : World) (hT : Tw w) (hl : l.length = 32) (hd : Digs 256 l) : Calls Tryd.prog 7 #[.agg (numsA .u8 l), .int .i64 pk, .bool high] w fun e w' => e = .returned (.bool true) ∧ Upd (fun _ => False) w w' := by
  by_cases h0 : pk < 0
  · exact ladderLowN w hT h0
  · by_cases h3 : 3 < pk
    · exact ladderLowG w hT h3
    · obtain ⟨i, rfl⟩ := Int.eq_ofNat_of_zero_le (Int.not_lt.1 h0)
      exact ladderLowM w hT hl hd (by omega)
end Go.Proofs.YtdpafemcpbhlfaaDoor
