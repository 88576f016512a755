/-
  Walks of bytes and numberOf.
-/
import Derived.Test.YtdpafemcpbhlfaaDoorScWalk1
namespace Go.Proofs.YtdpafemcpbhlfaaDoor.Sc
set_option maxRecDepth 100000
open Go.RowKit

/-- The bytes of words. -/
def byteOf (M : List Int) (j : Nat) : Int := M.getD (j / 4) 0 / 2 ^ (8 * (j % 4)) % 256
theorem bytes_math : ∀ (M : List Int), Digs 4294967296 M → (List.range (4 * M.length)).map (byteOf M) = digits 256 (4 * M.length) (dig 4294967296 M)
  | [], _ => rfl
  | x :: M, h => by
    have hx := h x (by simp)
    have ih := bytes_math M (fun y hy => h y (by simp [hy]))
    have e : 4 * (x :: M).length = 4 * M.length + 1 + 1 + 1 + 1 := by simp; omega
    rw [e]
    have hsh : (byteOf (x :: M)) ∘ (fun j => j + 1 + 1 + 1 + 1) = byteOf M := by
      funext j
      show (x :: M).getD ((j + 1 + 1 + 1 + 1) / 4) 0 / 2 ^ (8 * ((j + 1 + 1 + 1 + 1) % 4)) % 256 = _
      rw [show (j + 1 + 1 + 1 + 1) / 4 = j / 4 + 1 by omega, show (j + 1 + 1 + 1 + 1) % 4 = j % 4 by omega, List.getD_cons_succ]
      rfl
    rw [List.range_succ_eq_map, List.range_succ_eq_map, List.range_succ_eq_map, List.range_succ_eq_map]
    simp only [List.map_cons, List.map_map]
    have hm : (List.range (4 * M.length)).map (byteOf (x :: M) ∘ Nat.succ ∘ Nat.succ ∘ Nat.succ ∘ Nat.succ) = (List.range (4 * M.length)).map (byteOf M) := by
      rw [← hsh]; rfl
    rw [hm, ih]
    simp only [digits, dig]
    have b0 : byteOf (x :: M) 0 = x % 256 := by simp [byteOf]
    have b1 : byteOf (x :: M) (Nat.succ 0) = x / 256 % 256 := by show byteOf (x :: M) 1 = _; simp [byteOf]
    have b2 : byteOf (x :: M) (Nat.succ 0).succ = x / 65536 % 256 := by show byteOf (x :: M) 2 = _; simp [byteOf]
    have b3 : byteOf (x :: M) (Nat.succ 0).succ.succ = x / 16777216 % 256 := by show byteOf (x :: M) 3 = _; simp [byteOf]
    rw [b0, b1, b2, b3]
    generalize dig 4294967296 M = D
    rw [show (x + 4294967296 * D) % 256 = x % 256 by omega, show (x + 4294967296 * D) / 256 % 256 = x / 256 % 256 by omega, show (x + 4294967296 * D) / 256 / 256 % 256 = x / 65536 % 256 by omega, show (x + 4294967296 * D) / 256 / 256 / 256 % 256 = x / 16777216 % 256 by omega, show (x + 4294967296 * D) / 256 / 256 / 256 / 256 = D by omega]
theorem info8z : (Tryd.prog.info? 5).map (fun i => (i.zero, i.size, i.bytes)) = some (some (.int .u8 0), 1, 1) := by kernel_rfl
theorem info32z : (Tryd.prog.info? 67).map (fun i => (i.zero, i.size, i.bytes)) = some (some (.int .u32 0), 1, 4) := by kernel_rfl
theorem numsA_replicate (k : IntKind) (n : Nat) (x : Int) : numsA k (List.replicate n x) = Array.replicate n (.int k x) := by
  unfold numsA
  rw [List.map_replicate, List.toArray_replicate]
/-- A block of bytes that is made, beside one of words. -/
structure BRel (w wr : World) (b : Nat) (t : TypeId) (M : List Int) (g : Nat) (u : TypeId) (l : List Int) : Prop where
  upd : Upd (fun _ => False) w wr
  m : Blk wr b t (numsA .u32 M)
  out : Blk wr g u (numsA .u8 l)
  ne : b ≠ g
  ge : w.heap.size ≤ g
theorem BRel.set {w wr : World} {b : Nat} {t : TypeId} {M : List Int} {g : Nat} {u : TypeId} {l : List Int} (h : BRel w wr b t M g u l) (n j : Nat) (x : Int) : BRel w ((wr.drewN n).setCell ⟨g, j, none⟩ (.int .u8 x)) b t M g u (l.set j x) := by
  refine ⟨(h.upd.drewN n).set _ (fun hb => absurd hb (by have := h.ge; simp; omega)), (h.m.drewN n).setOther h.ne _, ?_, h.ne, h.ge⟩
  rw [← numsA_set]
  exact (h.out.drewN n).set j _
theorem BRel.cellM {w wr : World} {b : Nat} {t : TypeId} {M : List Int} {g : Nat} {u : TypeId} {l : List Int} (h : BRel w wr b t M g u l) (n j : Nat) (hl : M.length = n) (hj : j < n) : wr.cell? ⟨b, j, none⟩ = some (.int .u32 (M.getD j 0)) := by
  rw [h.m.cell, numsA_get _ _ _ (by rw [hl]; exact hj)]
theorem BRel.cell {w wr : World} {b : Nat} {t : TypeId} {M : List Int} {g : Nat} {u : TypeId} {f : Nat → Int} {n k : Nat} (h : BRel w wr b t M g u (fillTo f n k)) (j : Nat) (hj : j < n) : wr.cell? ⟨g, j, none⟩ = some (.int .u8 ((fillTo f n k).getD j 0)) := by
  rw [h.out.cell, numsA_get _ _ _ (by rw [fillTo_length]; exact hj)]
set_option maxHeartbeats 2000000 in
theorem bytes_any (b cap n : Nat) (t : TypeId) (M : List Int) (w : World) (hb : Blk w b t (numsA .u32 M)) (hl : M.length = n) (hd : Digs 4294967296 M) (hn : n ≤ 1000) :
    Calls Tryd.prog 76 #[.slice (some ⟨b, 0, none⟩) n cap] w fun e w' => ∃ t', e = .returned (.slice (some ⟨w.heap.size, 0, none⟩) (4 * n) (4 * n)) ∧ Blk w' w.heap.size t' (numsA .u8 (digits 256 (4 * n) (dig 4294967296 M))) ∧ Upd (fun _ => False) w w' := by
  have Hb := Lib.hid hb
  have Hl := Lib.hid hl
  have Hm := Lib.hid (bytes_math M hd)
  have Hd := Lib.hid hd
  clear hb hl hd
  go_enter Tryd.func76, Tryd.ntmps76
  go_wp2_with (refine wpList_makeBlk rfl _ _ 99 rfl 5 (.int .u8 0) 1 Tryd.underlying99 info8z rfl _ _ _ _ (4 * n) rfl rfl (by omega) (by omega) (by omega) (by omega) ?_; intro w1 hb1 hu1 hz1; have Hb1 := Lib.hid hb1; have Hu1 := Lib.hid hu1; clear hb1 hu1 hz1)
  have HR : Hid (BRel w w1 b t M w.heap.size 5 (fillTo (byteOf M) (4 * n) 0)) := ⟨Hu1.out, Hu1.out.blk Hb.out (fun h => h), by rw [fillTo_zero]; have := Hb1.out; rw [numsA_replicate]; exact this, Nat.ne_of_lt Hb.out.lt, Nat.le_refl _⟩
  clear Hb1 Hu1
  go_loopw [11] (fun i wr => ∃ k : Nat, k ≤ 4 * n ∧ i = .int .i64 k ∧ BRel w wr b t M w.heap.size 5 (fillTo (byteOf M) (4 * n) k)) (fun i _ => 4 * n - (intOf i).toNat)
  case atStart => exact ⟨0, by omega, rfl, HR.out⟩
  case round =>
    clear HR
    obtain ⟨k, hk, rfl, hrel⟩ := hrel
    have hfr := hrel.out.frozen
    by_cases hlt : k < 4 * n
    · have c1 := hrel.cellM n (k / 4) Hl.out (by omega)
      have c2 := hrel.cell k hlt
      have hg := Hd.out.get (B := 4294967296) (by omega) (k / 4)
      have Hrel := Lib.hid hrel
      have Hy : Hid (byteOf M k = M.getD (k / 4) 0 / 2 ^ (8 * (k % 4)) % 256) := rfl
      generalize M.getD (k / 4) 0 = y at *
      clear hrel
      go_wp2
      have hn2 := Hrel.out.set 0 k (byteOf M k)
      rw [fillTo_succ (byteOf M) (4 * n) k, Hy.out] at hn2
      exact ⟨⟨k + 1, by omega, by go_num, hn2⟩, by simp [intOf]; omega⟩
    · obtain rfl : k = 4 * n := by omega
      have hd8 : decide (((4 * n : Nat) : Int) < ((4 * n : Nat) : Int)) = false := by simp
      have hout := hrel.out
      rw [fillTo_all, show 4 * n = 4 * M.length by rw [Hl.out], Hm.out] at hout
      rw [Hl.out] at hout
      have Hout := Lib.hid hout
      have Hu := Lib.hid hrel.upd
      clear hrel hfr hout
      go_wp2
      go_ret
      exact ⟨_, rfl, Hout.out, Hu.out⟩
/-- The words of bytes, k of them in. -/
structure NumO (l M : List Int) (k : Nat) : Prop where
  len : M.length = 8
  digs : Digs 4294967296 M
  high : ∀ j, k < 4 * j + 4 → M.getD j 0 < 256 ^ (k - 4 * j)
  eq : dig 4294967296 M = dig 256 (l.take k)
theorem NumO.start (l : List Int) : NumO l (List.replicate 8 0) 0 := ⟨by simp, (fun x hx => by rw [List.mem_replicate] at hx; omega), (fun j _ => by
    have e : (List.replicate 8 (0 : Int)).getD j 0 = 0 := by
      rw [List.getD_eq_getElem?_getD]
      by_cases h : j < 8
      · rw [List.getElem?_replicate_of_lt h]; rfl
      · rw [List.getElem?_eq_none (by simp; omega)]; rfl
    rw [e]
    exact Int.pow_pos (by omega)), by rw [List.take_zero]; decide⟩
theorem pow_words (k : Nat) : (4294967296 : Int) ^ (k / 4) * 256 ^ (k % 4) = 256 ^ k := by
  rw [show (4294967296 : Int) = 256 ^ 4 by decide, ← Int.pow_mul, ← Int.pow_add]
  congr 1
  omega
theorem NumO.step {l M : List Int} {k : Nat} (h : NumO l M k) (hk : k < 32) (hl : l.length = 32) (hd : Digs 256 l) : NumO l (M.set (k / 4) (M.getD (k / 4) 0 + l.getD k 0 * 256 ^ (k % 4))) (k + 1) ∧ M.getD (k / 4) 0 < 256 ^ (k % 4) := by
  have hhi := h.high (k / 4) (by omega)
  rw [show k - 4 * (k / 4) = k % 4 by omega] at hhi
  have hg := h.digs.get (B := 4294967296) (by omega) (k / 4)
  have hb := hd.get (B := 256) (by omega) k
  have hpos : (0 : Int) < 256 ^ (k % 4) := Int.pow_pos (by omega)
  generalize hm : M.getD (k / 4) 0 = m at *
  generalize hx : l.getD k 0 = x at *
  have hx2 : 0 ≤ x * 256 ^ (k % 4) := Int.mul_nonneg hb.1 (Int.le_of_lt hpos)
  have hlt : m + x * 256 ^ (k % 4) < 256 ^ (k % 4 + 1) := by
    have : x * 256 ^ (k % 4) ≤ 255 * 256 ^ (k % 4) := Int.mul_le_mul_of_nonneg_right (by omega) (Int.le_of_lt hpos)
    rw [Int.pow_succ]
    omega
  have hp4 : (256 : Int) ^ (k % 4 + 1) ≤ 4294967296 := by
    have hr : k % 4 < 4 := Nat.mod_lt _ (by omega)
    generalize k % 4 = r at *
    have : r = 0 ∨ r = 1 ∨ r = 2 ∨ r = 3 := by omega
    rcases this with rfl | rfl | rfl | rfl <;> decide
  refine ⟨⟨by rw [List.length_set]; exact h.len, digs_set h.digs _ _ (by omega) (by omega), fun j hj => ?_, ?_⟩, hhi⟩
  · by_cases e : j = k / 4
    · subst e
      rw [getD_set_eq _ _ _ (by rw [h.len]; omega), show k + 1 - 4 * (k / 4) = k % 4 + 1 by omega]
      exact hlt
    · rw [getD_set_ne _ _ _ _ e]
      have h1 := h.high j (by omega)
      rw [show k - 4 * j = 0 by omega] at h1
      rw [show k + 1 - 4 * j = 0 by omega]
      exact h1
  · rw [dig_set _ _ _ _ (by rw [h.len]; omega), hm, h.eq, dig_take_succ _ _ _ (by omega), hx, show m + x * 256 ^ (k % 4) - m = x * 256 ^ (k % 4) by omega, Int.mul_left_comm, pow_words, Int.mul_comm x]
theorem NumO.done {l M : List Int} (h : NumO l M 32) (hl : l.length = 32) : M = digits 4294967296 8 (dig 256 l) := by
  have he := h.eq
  rw [dig_take_all _ _ _ (by omega)] at he
  exact words_eq h.len h.digs he
theorem idxK (l : List Int) (k : Nat) (hl : l.length = 32) (hk : k < 32) (w : World) : (Instr.index 23 (.agg (numsA .u8 l)) (.int .i64 k)).run Tryd.prog w = .ok (.int .u8 (l.getD k 0)) w :=
  run_index_agg w 23 5 32 (numsA .u8 l) .i64 k _ Tryd.underlying23 size5 (fun d hd => by rw [Tryd.underlying5] at hd; cases hd; rfl) (by rw [Tryd.underlying5]; rfl) hk (numsA_get _ _ _ (by rw [hl]; exact hk))
theorem orW (m x : Int) (r : Nat) (hr : r < 4) (hm : 0 ≤ m ∧ m < 256 ^ r) (hx : 0 ≤ x ∧ x < 256) : bits .or .u32 m (x * 2 ^ (8 * r) % 4294967296) = m + x * 256 ^ r := by
  obtain ⟨a, rfl⟩ := Int.eq_ofNat_of_zero_le hm.1
  obtain ⟨b, rfl⟩ := Int.eq_ofNat_of_zero_le hx.1
  have : r = 0 ∨ r = 1 ∨ r = 2 ∨ r = 3 := by omega
  rcases this with rfl | rfl | rfl | rfl
  all_goals simp only [Int.reducePow, Nat.reduceMul] at *
  · have e : (b : Int) * 1 % 4294967296 = ((2 ^ 0 * b : Nat) : Int) := by simp; omega
    rw [e, u32_or_nat _ _ (by omega) (by omega), Nat.or_comm, ← Nat.two_pow_add_eq_or_of_lt (by omega)]
    simp; omega
  · have e : (b : Int) * 256 % 4294967296 = ((2 ^ 8 * b : Nat) : Int) := by simp; omega
    rw [e, u32_or_nat _ _ (by omega) (by omega), Nat.or_comm, ← Nat.two_pow_add_eq_or_of_lt (by omega)]
    simp; omega
  · have e : (b : Int) * 65536 % 4294967296 = ((2 ^ 16 * b : Nat) : Int) := by simp; omega
    rw [e, u32_or_nat _ _ (by omega) (by omega), Nat.or_comm, ← Nat.two_pow_add_eq_or_of_lt (by omega)]
    simp; omega
  · have e : (b : Int) * 16777216 % 4294967296 = ((2 ^ 24 * b : Nat) : Int) := by simp; omega
    rw [e, u32_or_nat _ _ (by omega) (by omega), Nat.or_comm, ← Nat.two_pow_add_eq_or_of_lt (by omega)]
    simp; omega
set_option maxHeartbeats 2000000 in
theorem numberOf_any (l : List Int) (w : World) (hl : l.length = 32) (hd : Digs 256 l) :
    Calls Tryd.prog 73 #[.agg (numsA .u8 l)] w fun e w' => ∃ g, e = .returned (.slice (some ⟨g, 0, none⟩) 8 8) ∧ w.heap.size ≤ g ∧ Blk w' g 67 (numsA .u32 (digits 4294967296 8 (dig 256 l))) ∧ Upd (fun _ => False) w w' := by
  have HA : Hid ((numsA .u8 l).size = 32) := by show _ = _; rw [numsA_size]; exact hl
  have Hi := Lib.hid (fun k hk => idxK l k hl hk)
  have Hl := Lib.hid hl
  have Hd := Lib.hid hd
  clear hl hd
  have Hb0 := Lib.hid (Blk.at1 w (numsA .u8 l) 23)
  go_enter Tryd.func73, Tryd.ntmps73
  go_wp2_with (first
    | (refine wpList_makeBlk rfl _ _ 95 rfl 67 (.int .u32 0) 4 Tryd.underlying95 info32z rfl _ _ _ _ 8 rfl rfl (by omega) (by omega) (by omega) (by omega) ?_; intro w1 hb1 hu1 hz1; have Hb1 := Lib.hid hb1; have Hu1 := Lib.hid hu1; have Hk1 := Lib.hid (hu1.blk Hb0.out (fun h => h)); clear hb1 hu1 hz1)
    | (refine wpList_loadBlk rfl 23 _ rfl w.heap.size 0 32 rfl 23 (numsA .u8 l) _ Hk1.out Tryd.underlying23 rfl sizeKey (by rw [HA.out]; omega) ?_; rw [extract_all _ _ HA.out]))
  have hlt1 : w.heap.size < w1.heap.size := by have := Hb1.out.lt; simp at this; omega
  have HR : Hid (Upd (fun _ => False) w w1 ∧ Blk w1 (w.heap.size + 1) 67 (numsA .u32 (List.replicate 8 0))) := ⟨((Upd.refl (fun _ => False) w).alloc _).trans Hu1.out, by rw [numsA_replicate]; have := Hb1.out; simpa using this⟩
  clear Hb1 Hu1 Hk1 Hb0
  go_loopw [8] (fun i wr => ∃ (k : Nat) (M : List Int), k ≤ 32 ∧ i = .int .i64 k ∧ NumO l M k ∧ Upd (fun _ => False) w wr ∧ Blk wr (w.heap.size + 1) 67 (numsA .u32 M)) (fun i _ => 32 - (intOf i).toNat)
  case atStart => exact ⟨0, _, by omega, rfl, NumO.start l, HR.out.1, HR.out.2⟩
  case round =>
    clear HR
    obtain ⟨k, M, hk, rfl, hnum, hupd, hblk⟩ := hrel
    have hfr := hblk.frozen
    by_cases hlt : k < 32
    · have c1 : wr.cell? ⟨w.heap.size + 1, k / 4, none⟩ = some (.int .u32 (M.getD (k / 4) 0)) := by rw [hblk.cell, numsA_get _ _ _ (by rw [hnum.len]; omega)]
      have hi := Hi.out k hlt
      obtain ⟨hnext, hm⟩ := hnum.step hlt Hl.out Hd.out
      have hg := hnum.digs.get (B := 4294967296) (by omega) (k / 4)
      have hb := Hd.out.get (B := 256) (by omega) k
      have Hnext := Lib.hid hnext
      have HU := Lib.hid hupd
      have HB := Lib.hid hblk
      generalize M.getD (k / 4) 0 = m at *
      generalize l.getD k 0 = x at *
      clear hnum hupd hblk hnext
      go_wp2
      go_region
      go_wp2
      have hb2 := HB.out.set (k / 4) (.int .u32 (bits .or .u32 m (x * 2 ^ (8 * (k % 4)) % 4294967296)))
      rw [numsA_set, orW m x (k % 4) (by omega) ⟨hg.1, hm⟩ hb] at hb2
      rw [orW m x (k % 4) (by omega) ⟨hg.1, hm⟩ hb]
      exact ⟨⟨k + 1, _, by omega, by go_num, Hnext.out, (HU.out.set _ (fun h => absurd h (by simp))).drew, hb2⟩, by simp [intOf]; omega⟩
    · obtain rfl : k = 32 := by omega
      have hd8 : decide (((32 : Nat) : Int) < 32) = false := by decide
      have hb2 := hblk
      rw [hnum.done Hl.out] at hb2
      have HB := Lib.hid hb2
      have HU := Lib.hid hupd
      clear hnum hupd hblk hb2 hfr
      go_wp2
      go_ret
      exact ⟨w.heap.size + 1, rfl, by omega, HB.out, HU.out⟩
end Go.Proofs.YtdpafemcpbhlfaaDoor.Sc
