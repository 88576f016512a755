/-
  Plain facts for the reference's fold, Add, Mul. No program.
-/
/-
  The reference's numbers: fold.
-/
/-
  Plain facts for the reference's Add and Mul. No program.
-/
/-
  The reference's numbers: Mul.
-/
/-
  Numbers of the reference as operations of a drawn region leave them.
-/
import Derived.Test.YtdpafemcpbhlfaaDoorRefE
namespace Go.Proofs.YtdpafemcpbhlfaaDoor
set_option maxRecDepth 100000
open Go.RowKit

theorem dig_set (B : Int) : ∀ (l : List Int) (j : Nat) (x : Int), j < l.length → dig B (l.set j x) = dig B l + B ^ j * (x - l.getD j 0)
  | [], j, x, h => by simp at h
  | a :: l, 0, x, _ => by simp [dig]; omega
  | a :: l, j + 1, x, h => by
    have ih := dig_set B l j x (by simpa using h)
    rw [List.set_cons_succ, List.getD_cons_succ]
    simp only [dig, ih]
    rw [Int.mul_add, Int.pow_succ, Int.mul_comm (B ^ j) B, ← Int.mul_assoc]
    omega
theorem getD_set_ne (l : List Int) (i j : Nat) (x : Int) (h : j ≠ i) : (l.set i x).getD j 0 = l.getD j 0 := by
  rw [List.getD_eq_getElem?_getD, List.getD_eq_getElem?_getD, List.getElem?_set_ne (by omega)]
theorem getD_set_eq (l : List Int) (i : Nat) (x : Int) (h : i < l.length) : (l.set i x).getD i 0 = x := by
  rw [List.getD_eq_getElem?_getD, List.getElem?_set_self h]; rfl
theorem pow16 : (65536 : Int) ^ 16 = 115792089237316195423570985008687907853269984665640564039457584007913129639936 := by decide
theorem pow32 : (65536 : Int) ^ 32 = 13407807929942597099574024998205846127479365820592393377723561443721764030073546976801874298166903427690031858186486050853753882811946569946433649006084096 := by decide
/-- All digits below a bound. -/
def Small40 (l : List Int) : Prop := ∀ j, 0 ≤ l.getD j 0 ∧ l.getD j 0 < 1099511627776
theorem Small40.set {l : List Int} (h : Small40 l) (i : Nat) (x : Int) (h0 : 0 ≤ x) (h1 : x < 1099511627776) : Small40 (l.set i x) := fun j => by
  by_cases e : j = i
  · subst e
    by_cases hl : j < l.length
    · rw [getD_set_eq _ _ _ hl]; exact ⟨h0, h1⟩
    · rw [List.set_eq_of_length_le (by omega)]; exact h j
  · rw [getD_set_ne _ _ _ _ e]; exact h j
/-- The digits as they are after k rounds of carrying. -/
structure Carry (L M : List Int) (k : Nat) (c : Int) : Prop where
  len : M.length = 32
  small : Small40 M
  low : ∀ j, j < k → M.getD j 0 < 65536
  c0 : 0 ≤ c
  c1 : c < 1099511627776
  eq : dig 65536 M + 65536 ^ k * c = dig 65536 L
theorem Carry.start {L : List Int} (hl : L.length = 32) (hs : Small40 L) : Carry L L 0 0 := ⟨hl, hs, fun j h => by omega, by omega, by omega, by simp⟩
theorem Carry.step {L M : List Int} {k : Nat} {c : Int} (h : Carry L M k c) (hk : k < 32) : Carry L (M.set k ((M.getD k 0 + c) % 65536)) (k + 1) ((M.getD k 0 + c) / 65536) := by
  have hm := h.small k
  have hc0 := h.c0
  have hc1 := h.c1
  refine ⟨by rw [List.length_set]; exact h.len, h.small.set k _ (by omega) (by omega), fun j hj => ?_, by omega, by omega, ?_⟩
  · by_cases e : j = k
    · subst e; rw [getD_set_eq _ _ _ (by rw [h.len]; exact hk)]; omega
    · rw [getD_set_ne _ _ _ _ e]; exact h.low j (by omega)
  · rw [dig_set _ _ _ _ (by rw [h.len]; exact hk), ← h.eq, Int.pow_succ, Int.mul_assoc, Int.add_assoc, ← Int.mul_add]
    congr 2
    omega
theorem digs_of_low {M : List Int} (hs : Small40 M) (hl : ∀ j, j < M.length → M.getD j 0 < 65536) : Digs 65536 M := fun x hx => by
  obtain ⟨j, hj, rfl⟩ := List.getElem_of_mem hx
  have e : M.getD j 0 = M[j] := by rw [List.getD_eq_getElem?_getD, List.getElem?_eq_getElem hj]; rfl
  have h1 := hs j
  have h2 := hl j hj
  rw [e] at h1 h2
  exact ⟨h1.1, h2⟩
theorem Carry.done {L M : List Int} {c : Int} (h : Carry L M 32 c) (hL : dig 65536 L < 65536 ^ 32) : Digs 65536 M ∧ dig 65536 M = dig 65536 L := by
  have hd : Digs 65536 M := digs_of_low h.small (fun j hj => h.low j (by rw [h.len] at hj; exact hj))
  have h0 := dig_nonneg (B := 65536) (by omega) hd
  have he := h.eq
  have hc0 := h.c0
  refine ⟨hd, ?_⟩
  rw [pow32] at *
  omega
theorem pow_pos' (k : Nat) : (0 : Int) < 65536 ^ k := Int.pow_pos (by omega)
/-- The higher half, k of its digits. -/
def hi (M : List Int) (k : Nat) : Int := dig 65536 (fillTo (fun j => M.getD (16 + j) 0) 16 k)
theorem hi_zero (M : List Int) : hi M 0 = 0 := by unfold hi; rw [fillTo_zero]; decide
theorem hi_succ (M : List Int) (k : Nat) (hk : k < 16) : hi M (k + 1) = hi M k + 65536 ^ k * M.getD (16 + k) 0 := by
  unfold hi
  rw [← fillTo_succ, dig_set _ _ _ _ (by rw [fillTo_length]; exact hk), fillTo_get _ _ _ _ hk, if_neg (by omega), Int.sub_zero]
theorem hi_nonneg {M : List Int} (hs : Small40 M) : ∀ k, k ≤ 16 → 0 ≤ hi M k
  | 0, _ => by rw [hi_zero]; omega
  | k + 1, h => by
    rw [hi_succ _ _ (by omega)]
    have h1 := hi_nonneg hs k (by omega)
    have h2 := Int.mul_nonneg (Int.le_of_lt (pow_pos' k)) (hs (16 + k)).1
    omega
theorem hi_over {M : List Int} (hs : Small40 M) (k : Nat) (hk : k < 16) : (hi M (k + 1) ≠ 0) ↔ (hi M k ≠ 0 ∨ M.getD (16 + k) 0 ≠ 0) := by
  rw [hi_succ _ _ hk]
  have h1 := hi_nonneg hs k (by omega)
  have hp := pow_pos' k
  have h2 := (hs (16 + k)).1
  generalize M.getD (16 + k) 0 = x at *
  have h3 := Int.mul_nonneg (Int.le_of_lt hp) h2
  constructor
  · intro h
    by_cases e : x = 0
    · subst e; left; intro e2; apply h; rw [e2]; simp
    · exact Or.inr e
  · rintro (h | h) e
    · omega
    · have : 0 < (65536 : Int) ^ k * x := Int.mul_pos hp (by omega)
      omega
theorem split16 (M : List Int) (hl : M.length = 32) : dig 65536 M = dig 65536 (fillTo (fun j => M.getD j 0) 16 16) + 65536 ^ 16 * hi M 16 := by
  have e : M = fillTo (fun j => M.getD j 0) 16 16 ++ fillTo (fun j => M.getD (16 + j) 0) 16 16 := by
    apply List.ext_getElem (by simp [fillTo, hl])
    intro j h1 h2
    rw [List.getElem_append]
    split
    · next h =>
      simp only [fillTo_length] at h
      simp [fillTo, List.getD_eq_getElem?_getD, List.getElem?_eq_getElem h1]
      omega
    · next h =>
      simp only [fillTo_length] at h
      simp [fillTo, List.getD_eq_getElem?_getD, show 16 + (j - 16) = j by omega, List.getElem?_eq_getElem h1]
      omega
  conv => lhs; rw [e]
  rw [dig_append, fillTo_length]
  rfl
theorem low_digits {M : List Int} (hd : Digs 65536 M) (hl : M.length = 32) (h0 : hi M 16 = 0) : fillTo (fun j => M.getD j 0) 16 16 = digits 65536 16 (dig 65536 M) ∧ dig 65536 M < 65536 ^ 16 := by
  have hD : Digs 65536 (fillTo (fun j => M.getD j 0) 16 16) := fun x hx => by
    rw [fillTo_all] at hx
    obtain ⟨j, _, rfl⟩ := List.mem_map.1 hx
    exact hd.get (by omega) j
  rw [split16 M hl, h0, Int.mul_zero, Int.add_zero]
  have h1 := digits_dig (B := 65536) (by omega) hD
  have h2 := dig_lt (B := 65536) (by omega) hD
  rw [fillTo_length] at h1 h2
  exact ⟨h1.symm, h2⟩
/-- The digits as they are after k rounds of folding. -/
structure Folds (M N : List Int) (k : Nat) : Prop where
  len : N.length = 32
  small : Small40 N
  same : ∀ j, k ≤ j → j < 16 → N.getD j 0 = M.getD j 0 ∧ N.getD (16 + j) 0 = M.getD (16 + j) 0
  eq : dig 65536 N + 115792089237316195423570985008687907853269984665640564039457584007913129639898 * hi M k = dig 65536 M
theorem Folds.start {M : List Int} (hl : M.length = 32) (hs : Small40 M) : Folds M M 0 := ⟨hl, hs, fun j _ _ => ⟨rfl, rfl⟩, by rw [hi_zero]; simp⟩
theorem Folds.step {M N : List Int} {k : Nat} (h : Folds M N k) (hd : Digs 65536 M) (hk : k < 16) : Folds M ((N.set k (N.getD k 0 + 38 * N.getD (16 + k) 0)).set (16 + k) 0) (k + 1) := by
  obtain ⟨e1, e2⟩ := h.same k (by omega) hk
  have b1 := hd.get (B := 65536) (by omega) k
  have b2 := hd.get (B := 65536) (by omega) (16 + k)
  refine ⟨by rw [List.length_set, List.length_set]; exact h.len, (h.small.set k _ (by omega) (by omega)).set (16 + k) 0 (by omega) (by omega), fun j hj hj2 => ?_, ?_⟩
  · rw [getD_set_ne _ _ _ _ (by omega), getD_set_ne _ _ _ _ (by omega), getD_set_ne _ _ _ _ (by omega), getD_set_ne _ _ _ _ (by omega)]
    exact h.same j (by omega) hj2
  · rw [dig_set _ _ _ _ (by rw [List.length_set, h.len]; omega), dig_set _ _ _ _ (by rw [h.len]; omega), getD_set_ne _ _ _ _ (by omega), hi_succ _ _ hk, ← h.eq, ← e2]
    rw [Int.pow_add, pow16]
    generalize N.getD (16 + k) 0 = x
    generalize N.getD k 0 = y
    generalize (65536 : Int) ^ k = z
    have q : 115792089237316195423570985008687907853269984665640564039457584007913129639936 * z * (0 - x) = -(115792089237316195423570985008687907853269984665640564039457584007913129639936 * (z * x)) := by
      rw [Int.zero_sub, Int.mul_neg, Int.mul_assoc]
    have q2 : z * (y + 38 * x - y) = 38 * (z * x) := by
      rw [show y + 38 * x - y = 38 * x by omega, ← Int.mul_assoc, Int.mul_comm z 38, Int.mul_assoc]
    rw [q, q2]
    omega
theorem Folds.cong {M N : List Int} (h : Folds M N 16) : Cong (dig 65536 N) (dig 65536 M) := by
  refine ⟨-(2 * hi M 16), ?_⟩
  have := h.eq
  unfold pp
  omega
theorem Folds.less {M N : List Int} (h : Folds M N 16) (hs : Small40 M) (h0 : hi M 16 ≠ 0) : 0 ≤ dig 65536 N → (dig 65536 N).toNat < (dig 65536 M).toNat := by
  have h1 := h.eq
  have h2 := hi_nonneg hs 16 (by omega)
  omega
theorem small40_nonneg : ∀ {l : List Int}, Small40 l → 0 ≤ dig 65536 l
  | [], _ => by simp [dig]
  | x :: l, h => by
    have h1 := (h 0).1
    have h2 := small40_nonneg (l := l) (fun j => by have := h (j + 1); rwa [List.getD_cons_succ] at this)
    rw [List.getD_cons_zero] at h1
    simp only [dig]
    omega
end Go.Proofs.YtdpafemcpbhlfaaDoor
namespace Go.Proofs.YtdpafemcpbhlfaaDoor
set_option maxRecDepth 100000
open Go.RowKit

theorem numAt_nums {b : Nat} {w : World} {t : TypeId} {l : List Int} (h : Blk w b t (numsA .u64 l)) : numAt b w = (dig 65536 l).toNat := by
  have h' : w.heap[b]? = some (.cells (numsA .u64 l) t (0, 0)) := h
  unfold numAt
  rw [h']
  show (dig 65536 ((numsA .u64 l).toList.map intOf)).toNat = _
  have e : (numsA .u64 l).toList.map intOf = l := by
    unfold numsA
    rw [List.map_map]
    conv => rhs; rw [← List.map_id l]
    apply List.map_congr_left
    intro x _
    rfl
  rw [e]
/-- fold's blocks: its argument, its result. -/
structure FRel (w wr : World) (M : List Int) : Prop where
  upd : Upd (fun _ => False) w wr
  d : Blk wr w.heap.size 117 (numsA .u64 M)
  res : Blk wr (w.heap.size + 1) 45 zeroN
  len : M.length = 32
theorem FRel.set {w wr : World} {M : List Int} (h : FRel w wr M) (n j : Nat) (x : Int) : FRel w ((wr.drewN n).setCell ⟨w.heap.size, j, none⟩ (.int .u64 x)) (M.set j x) := by
  refine ⟨(h.upd.drewN n).set _ (fun hb => by simp at hb), ?_, (h.res.drewN n).setOther (by simp) _, by simpa using h.len⟩
  rw [← numsA_set]
  exact (h.d.drewN n).set j _
theorem FRel.cell {w wr : World} {M : List Int} (h : FRel w wr M) (j : Nat) (hj : j < 32) : wr.cell? ⟨w.heap.size, j, none⟩ = some (.int .u64 (M.getD j 0)) := by
  rw [h.d.cell, numsA_get _ _ _ (by rw [h.len]; exact hj)]
set_option maxHeartbeats 4000000 in
theorem rfold_any (L0 : List Int) (w : World) (hl : L0.length = 32) (hs : Small40 L0) (hd : dig 65536 L0 < 65536 ^ 32) :
    Calls Tryd.prog 89 #[.agg (numsA .u64 L0)] w fun e w' => ∃ r, 0 ≤ r ∧ r < 115792089237316195423570985008687907853269984665640564039457584007913129639936 ∧ Cong r (dig 65536 L0) ∧ e = .returned (.agg (numN r)) ∧ Upd (fun _ => False) w w' := by
  have hz := zeroN_run
  have Hl := Lib.hid hl
  have Hs := Lib.hid hs
  have Hd := Lib.hid hd
  clear hl hs hd
  go_enter Tryd.func89, Tryd.ntmps89
  go_wp2
  go_loopw [] (fun wr => ∃ L : List Int, FRel w wr L ∧ Small40 L ∧ dig 65536 L < 65536 ^ 32 ∧ Cong (dig 65536 L) (dig 65536 L0)) (fun wr => numAt w.heap.size wr)
  case atStart => exact ⟨L0, ⟨((Upd.refl (fun _ => False) w).alloc _).alloc _, (Blk.at1 w _ _).alloc _, Blk.at2 w _ _ _, Hl.out⟩, Hs.out, Hd.out, Cong.refl _⟩
  case round =>
    clear Hl Hs Hd
    obtain ⟨L, hrel, hsm, hdL, hcong⟩ := hrel
    have Hm := Lib.hid (numAt_nums hrel.d)
    have HF := Lib.hid hrel
    have HS := Lib.hid hsm
    have HD := Lib.hid hdL
    have HC := Lib.hid hcong
    clear hrel hsm hdL hcong
    go_wp2
    go_loopw [3, 4] (fun c i w1 => ∃ (k : Nat) (M : List Int) (cc : Int), k ≤ 32 ∧ i = .int .i64 k ∧ c = .int .u64 cc ∧ Carry L M k cc ∧ FRel w w1 M) (fun _ i _ => 32 - (intOf i).toNat)
    case atStart => exact ⟨0, L, 0, by omega, rfl, rfl, Carry.start HF.out.len HS.out, HF.out⟩
    case round =>
      clear HF
      obtain ⟨k, M, cc, hk, rfl, rfl, hcar, hrel⟩ := hrel
      have hfr := hrel.d.frozen
      by_cases hlt : k < 32
      · have hc := hrel.cell k hlt
        have Hrel := Lib.hid hrel
        have Hnext := Lib.hid (hcar.step hlt)
        have hm := hcar.small k
        have hc0 := hcar.c0
        have hc1 := hcar.c1
        generalize M.getD k 0 = x at *
        clear hrel hcar
        go_wp2
        refine ⟨⟨k + 1, M.set k ((x + cc) % 65536), (x + cc) / 65536, by omega, by go_num, rfl, Hnext.out, Hrel.out.set 0 k _⟩, by simp [intOf]; omega⟩
      · obtain rfl : k = 32 := by omega
        have hdone := hcar.done HD.out
        have HDg := Lib.hid hdone.1
        have HE := Lib.hid hdone.2
        have HM := Lib.hid hrel
        have HSM := Lib.hid hcar.small
        clear hdone hrel hcar HS hfr
        have hsz : w.heap.size + 1 < wr.heap.size := by have := HM.out.res.lt; omega
        go_wp2_with (refine wpList_storeBlk2 rfl 45 _ _ rfl wr.heap.size 0 16 rfl zeroN rfl 45 zeroN (Blk.at1 wr _ _) sizeNum zeroN_size (by rw [zeroN_size]; omega) (numsA_one _ _) ?_; intro w2 hb2 hu2 hz2; rw [splice_all _ _ 16 zeroN_size zeroN_size] at hb2; have Hb2 := Lib.hid hb2; have Hu2 := Lib.hid hu2; clear hb2 hu2 hz2)
        have HM2 : Hid (FRel w w2 M) := ⟨(HM.out.upd.alloc _).step Hu2.out (fun i hi h => by omega), Hu2.out.blk (HM.out.d.alloc _) (show ¬ w.heap.size = wr.heap.size by omega), Hu2.out.blk (HM.out.res.alloc _) (show ¬ w.heap.size + 1 = wr.heap.size by omega), HM.out.len⟩
        clear HM Hu2
        generalize wr.heap.size = b at *
        go_loopw [7, 8] (fun o i w3 => ∃ k : Nat, k ≤ 16 ∧ i = .int .i64 k ∧ o = .bool (decide (hi M k ≠ 0)) ∧ FRel w w3 M ∧ Blk w3 b 45 (numsA .u64 (fillTo (fun j => M.getD j 0) 16 k))) (fun _ i _ => 16 - (intOf i).toNat)
        case atStart => exact ⟨0, by omega, rfl, by rw [hi_zero]; rfl, HM2.out, by rw [fillTo_zero]; exact Hb2.out⟩
        case round =>
          clear HM2 Hb2
          obtain ⟨k, hk, rfl, rfl, hrel, hbk⟩ := hrel
          have hfr := hrel.d.frozen
          have hfb := hbk.frozen
          by_cases hlt : k < 16
          · have hc := hrel.cell k (by omega)
            have hc2 : wr.cell? ⟨w.heap.size, k + 16, none⟩ = some (.int .u64 (M.getD (16 + k) 0)) := by rw [Nat.add_comm k 16]; exact hrel.cell (16 + k) (by omega)
            have hcb : wr.cell? ⟨b, k, none⟩ = some (.int .u64 ((fillTo (fun j => M.getD j 0) 16 k).getD k 0)) := by rw [hbk.cell, numsA_get _ _ _ (by rw [fillTo_length]; exact hlt)]
            have Hrel := Lib.hid hrel
            have Hbk := Lib.hid hbk
            have hm := HSM.out k
            have hm2 := HSM.out (16 + k)
            have Hov := Lib.hid (hi_over HSM.out k hlt)
            have Hset := Lib.hid (fillTo_succ (fun j => M.getD j 0) 16 k)
            generalize M.getD k 0 = x at *
            generalize M.getD (16 + k) 0 = y at *
            clear hrel hbk
            have q1 : IntKind.i64.wrap ((k : Int) + 16) = (k : Int) + 16 := IntWalk.i64_in _ (by omega)
            have q2 : ((k : Int) + 16).toNat = k + 16 := by omega
            have q3 : (0 : Int) ≤ (k : Int) + 16 := by omega
            by_cases hov : hi M k ≠ 0
            · have hdec : decide (hi M k ≠ 0) = true := by simp [hov]
              have Hdec2 : Hid (decide (hi M (k + 1) ≠ 0) = true) := by show _ = _; rw [decide_eq_true_iff]; exact Hov.out.2 (Or.inl hov)
              rw [hdec]
              clear hov hdec
              go_wp2
              have hb2 := Hbk.out.set k (.int .u64 x)
              rw [numsA_set, Hset.out] at hb2
              exact ⟨⟨k + 1, by omega, by go_num, by rw [Hdec2.out], ⟨Hrel.out.upd.set _ (fun h => by simp at h; omega), Hrel.out.d.setOther (by simp; omega) _, Hrel.out.res.setOther (by simp; omega) _, Hrel.out.len⟩, hb2⟩, by simp [intOf]; omega⟩
            · have hdec : decide (hi M k ≠ 0) = false := by simpa using hov
              rw [hdec]
              by_cases hy : y = 0
              · have Hdec2 : Hid (decide (hi M (k + 1) ≠ 0) = false) := by show _ = _; rw [decide_eq_false_iff_not]; exact fun h => (Hov.out.1 h).elim hov (fun g => g hy)
                subst hy
                clear hov hdec Hov
                go_wp2
                have hb2 := Hbk.out.set k (.int .u64 x)
                rw [numsA_set, Hset.out] at hb2
                exact ⟨⟨k + 1, by omega, by go_num, by rw [Hdec2.out], ⟨Hrel.out.upd.set _ (fun h => by simp at h; omega), Hrel.out.d.setOther (by simp; omega) _, Hrel.out.res.setOther (by simp; omega) _, Hrel.out.len⟩, hb2⟩, by simp [intOf]; omega⟩
              · have Hdec2 : Hid (decide (hi M (k + 1) ≠ 0) = true) := by show _ = _; rw [decide_eq_true_iff]; exact Hov.out.2 (Or.inr hy)
                have hyb : (y != 0) = true := by simp [hy]
                clear hov hdec Hov
                go_wp2
                have hb2 := Hbk.out.set k (.int .u64 x)
                rw [numsA_set, Hset.out] at hb2
                exact ⟨⟨k + 1, by omega, by go_num, by rw [Hdec2.out], ⟨Hrel.out.upd.set _ (fun h => by simp at h; omega), Hrel.out.d.setOther (by simp; omega) _, Hrel.out.res.setOther (by simp; omega) _, Hrel.out.len⟩, hb2⟩, by simp [intOf]; omega⟩
          · obtain rfl : k = 16 := by omega
            have Hrel := Lib.hid hrel
            have Hbk := Lib.hid hbk
            have hd16 : decide (((16 : Nat) : Int) < 16) = false := by decide
            clear hrel hbk hfr hfb
            by_cases hov : hi M 16 = 0
            · have hdec : decide (hi M 16 ≠ 0) = false := by simp [hov]
              have hlow := low_digits HDg.out Hrel.out.len hov
              rw [HE.out] at hlow
              have Hok : Hid (0 ≤ dig 65536 L ∧ dig 65536 L < 65536 ^ 16) := ⟨by rw [← HE.out]; exact small40_nonneg HSM.out, hlow.2⟩
              have hbn := Hbk.out
              rw [hlow.1] at hbn
              have Hbn := Lib.hid hbn
              have HN := Lib.hid (numN_size (dig 65536 L))
              rw [hdec]
              clear hov hdec hlow hbn Hbk
              go_wp2_with (first
                | (refine wpList_loadBlk rfl 45 _ rfl b 0 16 rfl 45 (numN (dig 65536 L)) _ Hbn.out Tryd.underlying45 rfl sizeNum (by rw [HN.out]; omega) ?_; rw [extract_all _ _ HN.out])
                | (refine wpList_storeBlk2 rfl 45 _ _ rfl (w.heap.size + 1) 0 16 rfl (numN (dig 65536 L)) rfl 45 _ Hrel.out.res sizeNum HN.out (by rw [zeroN_size]; omega) (numsA_one _ _) ?_; intro wz hbz huz hzz; rw [splice_all _ _ 16 zeroN_size HN.out] at hbz; have Hbz := Lib.hid hbz; have Huz := Lib.hid huz; clear hbz huz hzz))
              have hok := Hok.out
              rw [pow16] at hok
              exact bodyPost_ret (v := .agg (numN (dig 65536 L))) (results_cell_row (fn := Tryd.f89) (p := 2) (ty := 45) rfl _ _ (w.heap.size + 1) 45 _ (0, 0) _ rfl Hbz.out Tryd.underlying45 rfl (by rw [HN.out]; exact sizeNum)) rfl ⟨_, hok.1, hok.2, HC.out, rfl, Hrel.out.upd.step Huz.out (fun i hi h => by omega)⟩
            · have hdec : decide (hi M 16 ≠ 0) = true := by simp [hov]
              have Hov := Lib.hid hov
              rw [hdec]
              clear hov hdec Hbk
              go_wp2
              go_loopw [9] (fun i w4 => ∃ (k : Nat) (N : List Int), k ≤ 16 ∧ i = .int .i64 k ∧ Folds M N k ∧ FRel w w4 N) (fun i _ => 16 - (intOf i).toNat)
              case atStart => exact ⟨0, M, by omega, rfl, Folds.start Hrel.out.len HSM.out, Hrel.out⟩
              case round =>
                clear Hrel
                obtain ⟨k, N, hk, rfl, hfold, hrel⟩ := hrel
                have hfr := hrel.d.frozen
                by_cases hlt : k < 16
                · have c1 := hrel.cell k (by omega)
                  have c2 : wr.cell? ⟨w.heap.size, k + 16, none⟩ = some (.int .u64 (N.getD (16 + k) 0)) := by rw [Nat.add_comm k 16]; exact hrel.cell (16 + k) (by omega)
                  have Hrel := Lib.hid hrel
                  have Hnext := Lib.hid (hfold.step HDg.out hlt)
                  have hs1 := hfold.small k
                  have hs2 := hfold.small (16 + k)
                  generalize N.getD k 0 = x at *
                  generalize N.getD (16 + k) 0 = y at *
                  have q1 : IntKind.i64.wrap ((k : Int) + 16) = (k : Int) + 16 := IntWalk.i64_in _ (by omega)
                  have q2 : ((k : Int) + 16).toNat = k + 16 := by omega
                  have q3 : (0 : Int) ≤ (k : Int) + 16 := by omega
                  have q4 : IntKind.u64.wrap (38 * y) = 38 * y := IntWalk.u64_in _ (by omega)
                  have q5 : IntKind.u64.wrap (x + 38 * y) = x + 38 * y := IntWalk.u64_in _ (by omega)
                  clear hrel hfold
                  go_wp2
                  go_region
                  clear q4 q5
                  go_wp2
                  have hn := (Hrel.out.set 1 k (x + 38 * y)).set 0 (16 + k) 0
                  rw [Nat.add_comm 16 k] at hn
                  have hn2 := Hnext.out
                  rw [Nat.add_comm 16 k] at hn2
                  exact ⟨⟨k + 1, _, by omega, by go_num, hn2, hn⟩, by simp [intOf]; omega⟩
                · obtain rfl : k = 16 := by omega
                  have hd16' : decide (((16 : Nat) : Int) < 16) = false := by decide
                  have Hrel := Lib.hid hrel
                  have Hf := Lib.hid hfold
                  clear hrel hfold hfr
                  go_wp2
                  have hn0 := small40_nonneg Hf.out.small
                  have hless := Hf.out.less HSM.out Hov.out hn0
                  have hdm : dig 65536 N ≤ dig 65536 M := by
                    have := Hf.out.eq
                    have := hi_nonneg HSM.out 16 (by omega)
                    omega
                  refine ⟨⟨N, Hrel.out, Hf.out.small, ?_, ?_⟩, ?_⟩
                  · exact Int.lt_of_le_of_lt hdm (by rw [HE.out]; exact HD.out)
                  · rw [← HE.out] at HC
                    exact Hf.out.cong.trans HC.out
                  · rw [numAt_nums Hrel.out.d, Hm.out, ← HE.out]
                    exact hless
end Go.Proofs.YtdpafemcpbhlfaaDoor
namespace Go.Proofs.YtdpafemcpbhlfaaDoor
set_option maxRecDepth 100000
open Go.RowKit

/-- The number of the first k digits of sixteen. -/
def part (A : List Int) (k : Nat) : Int := dig 65536 (fillTo (fun j => A.getD j 0) 16 k)
theorem part_zero (A : List Int) : part A 0 = 0 := by unfold part; rw [fillTo_zero]; decide
theorem part_succ (A : List Int) (k : Nat) (hk : k < 16) : part A (k + 1) = part A k + 65536 ^ k * A.getD k 0 := by
  unfold part
  rw [← fillTo_succ, dig_set _ _ _ _ (by rw [fillTo_length]; exact hk), fillTo_get _ _ _ _ hk, if_neg (by omega), Int.sub_zero]
theorem part_all (A : List Int) (h : A.length = 16) : part A 16 = dig 65536 A := by
  unfold part
  congr 1
  apply List.ext_getElem (by simp [fillTo, h])
  intro j h1 h2
  simp [fillTo, List.getD_eq_getElem?_getD, List.getElem?_eq_getElem h2]
  omega
/-- The digits of a sum, k of them. -/
structure AddR (A B D : List Int) (k : Nat) : Prop where
  len : D.length = 32
  small : Small40 D
  rest : ∀ j, k ≤ j → D.getD j 0 = 0
  eq : dig 65536 D = part A k + part B k
theorem small40_zero (n : Nat) : Small40 (List.replicate n 0) := fun j => by
  have e : (List.replicate n (0 : Int)).getD j 0 = 0 := by
    rw [List.getD_eq_getElem?_getD]
    by_cases h : j < n
    · simp [h]
    · simp [h]
  rw [e]; omega
theorem getD_zeros (n j : Nat) : (List.replicate n (0 : Int)).getD j 0 = 0 := by
  rw [List.getD_eq_getElem?_getD]
  by_cases h : j < n
  · simp [h]
  · simp [h]
theorem AddR.start (A B : List Int) : AddR A B (List.replicate 32 0) 0 := ⟨by simp, small40_zero 32, fun j _ => getD_zeros 32 j, by rw [part_zero, part_zero]; decide⟩
theorem AddR.step {A B D : List Int} {k : Nat} (h : AddR A B D k) (hk : k < 16) (hA : Digs 65536 A) (hB : Digs 65536 B) : AddR A B (D.set k (A.getD k 0 + B.getD k 0)) (k + 1) := by
  have ha := hA.get (B := 65536) (by omega) k
  have hb := hB.get (B := 65536) (by omega) k
  refine ⟨by rw [List.length_set]; exact h.len, h.small.set k _ (by omega) (by omega), fun j hj => by rw [getD_set_ne _ _ _ _ (by omega)]; exact h.rest j (by omega), ?_⟩
  rw [dig_set _ _ _ _ (by rw [h.len]; omega), h.rest k (by omega), h.eq, part_succ _ _ hk, part_succ _ _ hk, Int.sub_zero, Int.mul_add]
  omega
theorem AddR.done {A B D : List Int} (h : AddR A B D 16) (hA : Digs 65536 A) (hB : Digs 65536 B) (la : A.length = 16) (lb : B.length = 16) : dig 65536 D = dig 65536 A + dig 65536 B ∧ dig 65536 D < 65536 ^ 32 := by
  have h1 := h.eq
  rw [part_all A la, part_all B lb] at h1
  have h2 := dig_lt (B := 65536) (by omega) hA
  have h3 := dig_lt (B := 65536) (by omega) hB
  rw [la] at h2
  rw [lb] at h3
  rw [pow16] at *
  rw [pow32]
  exact ⟨h1, by omega⟩
/-- The digits of a product, i rows and k more. -/
structure MulR (A B D : List Int) (i k : Nat) : Prop where
  len : D.length = 32
  b0 : ∀ j, 0 ≤ D.getD j 0
  b1 : ∀ j, D.getD j 0 ≤ (16 * i + k) * 4294836225
  eq : dig 65536 D = part A i * dig 65536 B + 65536 ^ i * A.getD i 0 * part B k
theorem MulR.start (A B : List Int) : MulR A B (List.replicate 32 0) 0 0 := by
  have hz : ∀ j, (List.replicate 32 (0 : Int)).getD j 0 = 0 := getD_zeros 32
  exact ⟨by simp, fun j => by rw [hz]; omega, fun j => by rw [hz]; omega, by rw [part_zero, part_zero, Int.zero_mul, Int.mul_zero]; decide⟩
theorem mul_bd16 {x y : Int} (hx : 0 ≤ x ∧ x < 65536) (hy : 0 ≤ y ∧ y < 65536) : 0 ≤ x * y ∧ x * y ≤ 4294836225 := by
  refine ⟨Int.mul_nonneg hx.1 hy.1, ?_⟩
  have h1 : x * y ≤ 65535 * y := Int.mul_le_mul_of_nonneg_right (by omega) hy.1
  have h2 : 65535 * y ≤ 65535 * 65535 := Int.mul_le_mul_of_nonneg_left (by omega) (by omega)
  omega
theorem MulR.step {A B D : List Int} {i k : Nat} (h : MulR A B D i k) (hi : i < 16) (hk : k < 16) (hA : Digs 65536 A) (hB : Digs 65536 B) : MulR A B (D.set (i + k) (D.getD (i + k) 0 + A.getD i 0 * B.getD k 0)) i (k + 1) := by
  have hp := mul_bd16 (hA.get (B := 65536) (by omega) i) (hB.get (B := 65536) (by omega) k)
  have hl : i + k < D.length := by rw [h.len]; omega
  refine ⟨by rw [List.length_set]; exact h.len, fun j => ?_, fun j => ?_, ?_⟩
  · have := h.b0 j
    have := h.b0 (i + k)
    by_cases e : j = i + k
    · subst e; rw [getD_set_eq _ _ _ hl]; omega
    · rw [getD_set_ne _ _ _ _ e]; omega
  · have := h.b1 j
    have := h.b1 (i + k)
    by_cases e : j = i + k
    · subst e; rw [getD_set_eq _ _ _ hl]; push_cast; omega
    · rw [getD_set_ne _ _ _ _ e]; push_cast; omega
  · rw [dig_set _ _ _ _ hl, h.eq, part_succ _ _ hk, Int.pow_add]
    generalize A.getD i 0 = x
    generalize B.getD k 0 = y
    generalize (65536 : Int) ^ i = u
    generalize (65536 : Int) ^ k = v
    generalize D.getD (i + k) 0 = z
    rw [show z + x * y - z = x * y by omega, Int.mul_add]
    have e : u * v * (x * y) = u * x * (v * y) := by
      rw [Int.mul_assoc, Int.mul_assoc, ← Int.mul_assoc v x y, Int.mul_comm v x, Int.mul_assoc]
    rw [e]
    omega
theorem MulR.row {A B D : List Int} {i : Nat} (h : MulR A B D i 16) (hi : i < 16) (lb : B.length = 16) : MulR A B D (i + 1) 0 := by
  refine ⟨h.len, h.b0, fun j => by have := h.b1 j; push_cast at *; omega, ?_⟩
  rw [h.eq, part_all B lb, part_zero, Int.mul_zero, part_succ _ _ hi, Int.add_mul]
  omega
theorem MulR.small {A B D : List Int} {i k : Nat} (h : MulR A B D i k) (hik : 16 * i + k ≤ 256) : ∀ j, 0 ≤ D.getD j 0 ∧ D.getD j 0 < 1099511627776 := fun j => by
  have h0 := h.b0 j
  have h1 := h.b1 j
  omega
theorem MulR.done {A B D : List Int} (h : MulR A B D 16 0) (hA : Digs 65536 A) (hB : Digs 65536 B) (la : A.length = 16) (lb : B.length = 16) : Small40 D ∧ dig 65536 D = dig 65536 A * dig 65536 B ∧ dig 65536 D < 65536 ^ 32 := by
  have h1 := h.eq
  rw [part_all A la, part_zero, Int.mul_zero, Int.add_zero] at h1
  have a1 := dig_lt (B := 65536) (by omega) hA
  have b1 := dig_lt (B := 65536) (by omega) hB
  have a0 := dig_nonneg (B := 65536) (by omega) hA
  have b0 := dig_nonneg (B := 65536) (by omega) hB
  rw [la] at a1
  rw [lb] at b1
  refine ⟨h.small (by omega), h1, ?_⟩
  rw [h1, show (65536 : Int) ^ 32 = 65536 ^ 16 * 65536 ^ 16 by decide]
  exact Int.lt_of_le_of_lt (Int.mul_le_mul_of_nonneg_right (Int.le_of_lt a1) b0) (Int.mul_lt_mul_of_pos_left b1 (by decide))
end Go.Proofs.YtdpafemcpbhlfaaDoor
namespace Go.Proofs.YtdpafemcpbhlfaaDoor
set_option maxRecDepth 100000
open Go.RowKit

/-- A number below 2^256 that is alike n. -/
def NumOk (r n : Int) : Prop := 0 ≤ r ∧ r < 115792089237316195423570985008687907853269984665640564039457584007913129639936 ∧ Cong r n
/-- A call's answer: a number alike n. -/
def RetN (n : Int) (w : World) (e : Ending) (w' : World) : Prop := ∃ r, NumOk r n ∧ e = .returned (.agg (numN r)) ∧ Upd (fun _ => False) w w'
theorem NumOk.to {r m n : Int} (h : NumOk r m) (g : Cong m n) : NumOk r n := ⟨h.1, h.2.1, h.2.2.trans g⟩
def zeroD : Array Value := numsA .u64 (List.replicate 32 0)
theorem zeroD_size : zeroD.size = 32 := by kernel_rfl
theorem zeroD_run (w : World) : (zeroValue 117).run Tryd.prog w = .ok (.agg zeroD) w := by kernel_rfl
theorem sizeD : (Tryd.prog.info? 117).map (·.size) = some 32 := by kernel_rfl
/-- The blocks of Add and Mul: both arguments, the result, the digits. -/
structure TwoRel (w wr : World) (u v : Int) (D : List Int) : Prop where
  upd : Upd (fun _ => False) w wr
  a : Blk wr w.heap.size 45 (numN u)
  b : Blk wr (w.heap.size + 1) 45 (numN v)
  res : Blk wr (w.heap.size + 1 + 1) 45 zeroN
  d : Blk wr (w.heap.size + 1 + 1 + 1) 117 (numsA .u64 D)
  len : D.length = 32
theorem TwoRel.set {w wr : World} {u v : Int} {D : List Int} (h : TwoRel w wr u v D) (n j : Nat) (x : Int) : TwoRel w ((wr.drewN n).setCell ⟨w.heap.size + 1 + 1 + 1, j, none⟩ (.int .u64 x)) u v (D.set j x) := by
  refine ⟨(h.upd.drewN n).set _ (fun hb => absurd hb (show ¬ w.heap.size + 1 + 1 + 1 < w.heap.size by omega)), (h.a.drewN n).setOther (show w.heap.size ≠ w.heap.size + 1 + 1 + 1 by omega) _, (h.b.drewN n).setOther (show w.heap.size + 1 ≠ w.heap.size + 1 + 1 + 1 by omega) _, (h.res.drewN n).setOther (show w.heap.size + 1 + 1 ≠ w.heap.size + 1 + 1 + 1 by omega) _, ?_, by simpa using h.len⟩
  rw [← numsA_set]
  exact (h.d.drewN n).set j _
theorem TwoRel.cell {w wr : World} {u v : Int} {D : List Int} (h : TwoRel w wr u v D) (j : Nat) (hj : j < 32) : wr.cell? ⟨w.heap.size + 1 + 1 + 1, j, none⟩ = some (.int .u64 (D.getD j 0)) := by
  rw [h.d.cell, numsA_get _ _ _ (by rw [h.len]; exact hj)]
theorem TwoRel.cellA {w wr : World} {u v : Int} {D : List Int} (h : TwoRel w wr u v D) (j : Nat) (hj : j < 16) : wr.cell? ⟨w.heap.size, j, none⟩ = some (.int .u64 ((digits 65536 16 u).getD j 0)) := by
  rw [h.a.cell]; unfold numN; rw [numsA_get _ _ _ (by rw [digits_length]; exact hj)]
theorem TwoRel.cellB {w wr : World} {u v : Int} {D : List Int} (h : TwoRel w wr u v D) (j : Nat) (hj : j < 16) : wr.cell? ⟨w.heap.size + 1, j, none⟩ = some (.int .u64 ((digits 65536 16 v).getD j 0)) := by
  rw [h.b.cell]; unfold numN; rw [numsA_get _ _ _ (by rw [digits_length]; exact hj)]
theorem TwoRel.start (w : World) (u v : Int) : TwoRel w ((((w.alloc (.cells (numN u) 45)).alloc (.cells (numN v) 45)).alloc (.cells zeroN 45)).alloc (.cells zeroD 117)) u v (List.replicate 32 0) :=
  ⟨((((Upd.refl (fun _ => False) w).alloc _).alloc _).alloc _).alloc _, (((Blk.at1 w _ _).alloc _).alloc _).alloc _, ((Blk.at2 w _ _ _).alloc _).alloc _, (Blk.at3 w _ _ _ _).alloc _, Blk.at4 w _ _ _ _ _, by simp⟩
set_option maxHeartbeats 2000000 in
theorem rMul_any (u v m n : Int) (w : World) (hu : NumOk u m) (hv : NumOk v n) : Calls Tryd.prog 58 #[.agg (numN u), .agg (numN v)] w (RetN (m * n) w) := by
  have hz := zeroN_run
  have hz2 := zeroD_run
  have HC := Lib.hid (Cong.mul hu.2.2 hv.2.2)
  have HU := Lib.hid (dig16 u hu.1 hu.2.1)
  have HV := Lib.hid (dig16 v hv.1 hv.2.1)
  have HGA := Lib.hid (digs16 u)
  have HGB := Lib.hid (digs16 v)
  clear hu hv
  go_enter Tryd.func58, Tryd.ntmps58
  go_wp2
  go_loopw [6] (fun i wr => ∃ (k : Nat) (D : List Int), k ≤ 16 ∧ i = .int .i64 k ∧ TwoRel w wr u v D ∧ MulR (digits 65536 16 u) (digits 65536 16 v) D k 0) (fun i _ => 16 - (intOf i).toNat)
  case atStart => exact ⟨0, _, by omega, rfl, TwoRel.start w u v, MulR.start _ _⟩
  case round =>
    obtain ⟨k, D, hk, rfl, hrel, hmul⟩ := hrel
    by_cases hlt : k < 16
    · have HR := Lib.hid hrel
      have HM := Lib.hid hmul
      clear hrel hmul
      go_wp2
      go_loopw [7] (fun i wr => ∃ (l : Nat) (D : List Int), l ≤ 16 ∧ i = .int .i64 l ∧ TwoRel w wr u v D ∧ MulR (digits 65536 16 u) (digits 65536 16 v) D k l) (fun i _ => 16 - (intOf i).toNat)
      case atStart => exact ⟨0, D, by omega, rfl, HR.out, HM.out⟩
      case round =>
        clear HR HM
        obtain ⟨l, E, hl, rfl, hrel, hmul⟩ := hrel
        have hfr := hrel.d.frozen
        by_cases hlt2 : l < 16
        · have c1 := hrel.cell (k + l) (by omega)
          have c2 := hrel.cellA k hlt
          have c3 := hrel.cellB l hlt2
          have hb := hmul.small (by omega) (k + l)
          have hp := mul_bd16 (HGA.out.get (B := 65536) (by omega) k) (HGB.out.get (B := 65536) (by omega) l)
          have Hrel := Lib.hid hrel
          have Hnext := Lib.hid (hmul.step hlt hlt2 HGA.out HGB.out)
          generalize (digits 65536 16 u).getD k 0 = x at *
          generalize (digits 65536 16 v).getD l 0 = y at *
          generalize E.getD (k + l) 0 = z at *
          have q1 : IntKind.i64.wrap ((k : Int) + (l : Int)) = (k : Int) + (l : Int) := IntWalk.i64_in _ (by omega)
          have q2 : ((k : Int) + (l : Int)).toNat = k + l := by omega
          have q3 : (0 : Int) ≤ (k : Int) + (l : Int) := by omega
          have q4 : IntKind.u64.wrap (x * y) = x * y := IntWalk.u64_in _ (by omega)
          have q5 : IntKind.u64.wrap (z + x * y) = z + x * y := IntWalk.u64_in _ (by omega)
          clear hrel hmul hb hp
          go_wp2
          go_region
          clear q1 q2 q3 q4 q5 c1 c2 c3
          go_wp2
          exact ⟨⟨l + 1, _, by omega, by go_num, Hrel.out.set 1 (k + l) _, Hnext.out⟩, by simp [intOf]; omega⟩
        · obtain rfl : l = 16 := by omega
          have Hrel := Lib.hid hrel
          have Hnext := Lib.hid (hmul.row hlt (digits_length _ _ _))
          clear hrel hmul hfr
          have hd16 : decide (((16 : Nat) : Int) < 16) = false := by decide
          go_wp2
          exact ⟨⟨k + 1, E, by omega, by go_num, Hrel.out, Hnext.out⟩, by simp [intOf]; omega⟩
    · obtain rfl : k = 16 := by omega
      have hdone := hmul.done HGA.out HGB.out (digits_length _ _ _) (digits_length _ _ _)
      rw [HU.out, HV.out] at hdone
      have Hrel := Lib.hid hrel
      have HD := Lib.hid hdone
      clear hrel hmul hdone
      have hd16 : decide (((16 : Nat) : Int) < 16) = false := by decide
      have HS : Hid ((numsA .u64 D).size = 32) := by show _ = _; rw [numsA_size]; exact Hrel.out.len
      go_wp2_with (refine wpList_loadBlk rfl 117 _ rfl (w.heap.size + 1 + 1 + 1) 0 32 rfl 117 (numsA .u64 D) _ Hrel.out.d Tryd.underlying117 rfl sizeD (by rw [HS.out]; omega) ?_; rw [extract_all _ _ HS.out])
      refine (rfold_any D _ Hrel.out.len HD.out.1 HD.out.2.2).mono ?_
      rintro e w1 ⟨r, hr0, hr1, hrc, rfl, hu⟩
      have HN := Lib.hid (numN_size r)
      have Hok : Hid (NumOk r (m * n)) := ⟨hr0, hr1, by rw [HD.out.2.1] at hrc; exact hrc.trans HC.out⟩
      have Hres := Lib.hid (hu.blk Hrel.out.res (fun h => h))
      have Hu := Lib.hid (Hrel.out.upd.trans hu)
      clear hu hr0 hr1 hrc
      go_wp2_with (refine wpList_storeBlk2 rfl 45 _ _ rfl (w.heap.size + 1 + 1) 0 16 rfl (numN r) rfl 45 _ Hres.out sizeNum HN.out (by rw [zeroN_size]; omega) (numsA_one _ _) ?_; intro wz hbz huz hzz; rw [splice_all _ _ 16 zeroN_size HN.out] at hbz; have Hbz := Lib.hid hbz; have Huz := Lib.hid huz; clear hbz huz hzz)
      exact bodyPost_ret (v := .agg (numN r)) (results_cell_row (fn := Tryd.f58) (p := 4) (ty := 45) rfl _ _ (w.heap.size + 1 + 1) 45 _ (0, 0) _ rfl Hbz.out Tryd.underlying45 rfl (by rw [HN.out]; exact sizeNum)) rfl ⟨r, Hok.out, rfl, Hu.out.step Huz.out (fun i hi h => by omega)⟩
end Go.Proofs.YtdpafemcpbhlfaaDoor
namespace Go.Proofs.YtdpafemcpbhlfaaDoor
set_option maxRecDepth 100000
open Go.RowKit

/-- A number alike n. -/
def LikeN (n : Int) (v : Value) : Prop := ∃ r, v = .agg (numN r) ∧ NumOk r n
theorem RetN.sp {n : Int} {w : World} {base : Nat} {e : Ending} {w' : World} (h : RetN n w e w') : ∃ v, e = .returned v ∧ (SP.like (LikeN n)).holds base v w' ∧ Upd (fun _ => False) w w' := by
  obtain ⟨r, hr, rfl, hu⟩ := h
  exact ⟨_, rfl, ⟨r, rfl, hr⟩, hu⟩
theorem okNum {n : Int} (h0 : 0 ≤ n) (h1 : n < 115792089237316195423570985008687907853269984665640564039457584007913129639936) : NumOk n n := ⟨h0, h1, Cong.refl n⟩
theorem okKey (l : List Int) : NumOk (keyNum l) (keyNum l) := okNum (by unfold keyNum; omega) (by unfold keyNum; omega)
theorem okPrime : NumOk pp pp := okNum (by decide) (by decide)
theorem okMod (n : Int) : NumOk (n % pp) n := by
  have h0 := Int.emod_nonneg n (b := pp) (by decide)
  have h1 := Int.emod_lt_of_pos n pp_pos
  exact ⟨h0, by unfold pp at *; omega, Cong.mod n⟩
theorem NumOk.mod {r n : Int} (h : NumOk r n) : r % pp = n % pp := (cong_iff r n).1 h.2.2
theorem rCanon_ok (r n : Int) (w : World) (h : NumOk r n) : Calls Tryd.prog 88 #[.agg (numN r)] w fun e w' => e = .returned (.agg (numN (n % pp))) ∧ Upd (fun _ => False) w w' := by
  rw [← h.mod]
  exact rCanon_any r w h.1 h.2.1
theorem rBytes_ok (r n : Int) (w : World) (h : NumOk r n) : Calls Tryd.prog 57 #[.agg (numN r)] w fun e w' => e = .returned (.agg (numsA .u8 (digits 256 32 (n % pp)))) ∧ Upd (fun _ => False) w w' := by
  rw [← h.mod]
  exact rBytes_any r w h.1 h.2.1
theorem enterrOf (vs : Array Value) (w : World) : (callFunc 53 vs).run Tryd.prog w = .ok (.enter 53 vs) w := run_enter Tryd.func53 (by kernel_rfl) (by kernel_rfl) vs w
theorem enterrMul (vs : Array Value) (w : World) : (callFunc 58 vs).run Tryd.prog w = .ok (.enter 58 vs) w := run_enter Tryd.func58 (by kernel_rfl) (by kernel_rfl) vs w
theorem enterrCanon (vs : Array Value) (w : World) : (callFunc 88 vs).run Tryd.prog w = .ok (.enter 88 vs) w := run_enter Tryd.func88 (by kernel_rfl) (by kernel_rfl) vs w
/-- Two keys that are the same list. -/
theorem run_sameKey {o : Oper} {a : Act} {p q : Operand} {A B : List Int} (ho : o.op = .binOp .eql 23 p q 23) (hp : a.eval p = .agg (numsA .u8 A)) (hq : a.eval q = .agg (numsA .u8 B)) (hA : A.length = 32) (hB : B.length = 32) (h : A = B) (w : World) :
    (execOp a.eval o).run Tryd.prog w = .ok (.value (.bool true)) w := by
  rw [run_eqlKey ho hp hq hA hB w, decide_eq_true h]
theorem bytes_same {m n : Int} (h : m = n) : digits 256 32 (m % pp) = digits 256 32 (n % pp) := by rw [h]
end Go.Proofs.YtdpafemcpbhlfaaDoor
