/-
  Walks of addOrder and push.
-/
import Derived.Test.YtdpafemcpbhlfaaDoorScScMath
namespace Go.Proofs.YtdpafemcpbhlfaaDoor.Sc
set_option maxRecDepth 100000
open Go.RowKit

theorem i64_or_nat (a b : Nat) (ha : a < 4294967296) (hb : b < 4294967296) : bits .or .i64 (a : Int) (b : Int) = ((a ||| b : Nat) : Int) := by
  have hx : a ||| b < 2 ^ 32 := Nat.or_lt_two_pow (by omega) (by omega)
  show IntKind.i64.wrap ((BitVec.ofInt 64 (a : Int) ||| BitVec.ofInt 64 (b : Int)).toNat : Int) = _
  rw [BitVec.toNat_or, ofInt_u64 a (by omega), ofInt_u64 b (by omega)]
  exact IntWalk.i64_in _ (by omega)
theorem or64 (q c : Int) (hq : 0 ≤ q) (hq2 : q ≤ 256) (hc : 0 ≤ c ∧ c < 16) : bits .or .i64 (q * 16) c = q * 16 + c := by
  obtain ⟨x, rfl⟩ := Int.eq_ofNat_of_zero_le hq
  obtain ⟨y, rfl⟩ := Int.eq_ofNat_of_zero_le hc.1
  have e1 : (x : Int) * 16 = ((2 ^ 4 * x : Nat) : Int) := by simp; omega
  rw [e1, i64_or_nat _ _ (by omega) (by omega), ← Nat.two_pow_add_eq_or_of_lt (by omega)]
  simp
/-- The table of the order, as the program's text has it. -/
def Tab (w : World) : Prop := ∀ j, j < 8 → w.cell? ⟨1, j, none⟩ = some (.int .u32 (ordL.getD j 0))
theorem Tab.upd {S : Nat → Prop} {w w' : World} (h : Tab w) (hu : Upd S w w') (h0 : ¬ S 1) : Tab w' := fun j hj => hu.cell (h j hj) h0
/-- A block of eight words. -/
structure WRel (w wr : World) (b : Nat) (t : TypeId) (M : List Int) : Prop where
  upd : Upd (· = b) w wr
  d : Blk wr b t (numsA .u32 M)
theorem WRel.set {w wr : World} {b : Nat} {t : TypeId} {M : List Int} (h : WRel w wr b t M) (j : Nat) (x : Int) : WRel w (wr.setCell ⟨b, j, none⟩ (.int .u32 x)) b t (M.set j x) := by
  refine ⟨h.upd.set _ (fun _ => rfl), ?_⟩
  rw [← numsA_set]
  exact h.d.set j _
theorem WRel.cell {w wr : World} {b : Nat} {t : TypeId} {M : List Int} (h : WRel w wr b t M) (n j : Nat) (hl : M.length = n) (hj : j < n) : wr.cell? ⟨b, j, none⟩ = some (.int .u32 (M.getD j 0)) := by
  rw [h.d.cell, numsA_get _ _ _ (by rw [hl]; exact hj)]
set_option maxHeartbeats 2000000 in
theorem addOrder_any (b cap : Nat) (t : TypeId) (L : List Int) (tm : Int) (w : World) (hT : Tab w) (hb0 : b ≠ 1) (hb : Blk w b t (numsA .u32 L)) (hl : L.length = 8) (hd : Digs 4294967296 L) (ht : -4096 ≤ tm ∧ tm ≤ 4096) :
    Calls Tryd.prog 104 #[.slice (some ⟨b, 0, none⟩) 8 cap, .int .i64 tm] w fun e w' => ∃ (M : List Int) (c : Int), e = .returned (.int .i64 c) ∧ WRel w w' b t M ∧ M.length = 8 ∧ Digs 4294967296 M ∧ -5000 ≤ c ∧ c ≤ 5000 ∧ dig 4294967296 M + 115792089237316195423570985008687907853269984665640564039457584007913129639936 * c = dig 4294967296 L + tm * oo := by
  have HT := Lib.hid hT
  have Hs := Lib.hid (AddO.start hl hd tm)
  have Hb := Lib.hid hb
  have Ht := Lib.hid ht
  clear hT hb hl hd
  go_enter Tryd.func104, Tryd.ntmps104
  go_wp2
  go_loopw [5, 11] (fun c i wr => ∃ (k : Nat) (M : List Int) (cc : Int), k ≤ 8 ∧ i = .int .i64 k ∧ c = .int .i64 cc ∧ AddO L M tm k cc ∧ WRel w wr b t M) (fun _ i _ => 8 - (intOf i).toNat)
  case atStart => exact ⟨0, L, 0, by omega, rfl, rfl, Hs.out, ⟨Upd.refl _ w, Hb.out⟩⟩
  case round =>
    clear Hs Hb
    obtain ⟨k, M, cc, hk, rfl, rfl, hadd, hrel⟩ := hrel
    have hfr := hrel.d.frozen
    by_cases hlt : k < 8
    · have c1 := hrel.cell 8 k hadd.len hlt
      have c2 := (HT.out.upd hrel.upd (by omega)) k hlt
      rw [hadd.same k (by omega)] at c1
      have hm := mul_bd4 ht (ordL_bd k)
      have ho := ordL_bd k
      have hg := hadd.digs.get (B := 4294967296) (by omega) k
      rw [hadd.same k (by omega)] at hg
      have h0 := hadd.c0
      have h1 := hadd.c1
      have Hrel := Lib.hid hrel
      have Hnext := Lib.hid (hadd.step hlt Ht.out)
      generalize L.getD k 0 = x at *
      generalize ordL.getD k 0 = o at *
      have q1 : IntKind.i64.wrap (tm * o) = tm * o := IntWalk.i64_in _ (by omega)
      have q2 : IntKind.i64.wrap (x + tm * o) = x + tm * o := IntWalk.i64_in _ (by omega)
      have q3 : IntKind.i64.wrap (x + tm * o + cc) = x + tm * o + cc := IntWalk.i64_in _ (by omega)
      clear hrel hadd ht
      go_wp2
      exact ⟨⟨k + 1, _, _, by omega, by go_num, rfl, Hnext.out, Hrel.out.set k _⟩, by simp [intOf]; omega⟩
    · obtain rfl : k = 8 := by omega
      have hd8 : decide (((8 : Nat) : Int) < 8) = false := by decide
      have Hrel := Lib.hid hrel
      have Hadd := Lib.hid hadd
      clear hrel hadd hfr
      go_wp2
      go_ret
      have he := Hadd.out.eq
      rw [bw8, dig_take_all _ _ _ (show ordL.length ≤ 8 by decide), dig_ordL] at he
      exact ⟨M, cc, rfl, Hrel.out, Hadd.out.len, Hadd.out.digs, Hadd.out.c0, Hadd.out.c1, he⟩
theorem words_eq {M : List Int} (hl : M.length = 8) (hd : Digs 4294967296 M) {v : Int} (h : dig 4294967296 M = v) : M = digits 4294967296 8 v := by
  rw [← h, ← hl, digits_dig (by omega) hd]
theorem dig_bd8 {M : List Int} (hl : M.length = 8) (hd : Digs 4294967296 M) : 0 ≤ dig 4294967296 M ∧ dig 4294967296 M < 115792089237316195423570985008687907853269984665640564039457584007913129639936 := by
  have h0 := dig_nonneg (B := 4294967296) (by omega) hd
  have h1 := dig_lt (B := 4294967296) (by omega) hd
  rw [hl, bw8] at h1
  exact ⟨h0, h1⟩
theorem WRel.trans {w w1 w2 : World} {b : Nat} {t : TypeId} {M N : List Int} (h : WRel w w1 b t M) (g : WRel w1 w2 b t N) : WRel w w2 b t N := ⟨h.upd.trans g.upd, g.d⟩
set_option maxHeartbeats 2000000 in
theorem push_any (b cap : Nat) (t : TypeId) (L : List Int) (x : Int) (w : World) (hT : Tab w) (hb0 : b ≠ 1) (hb : Blk w b t (numsA .u32 L)) (hl : L.length = 8) (hd : Digs 4294967296 L) (hlt : dig 4294967296 L < oo) (hx : 0 ≤ x ∧ x < 256) :
    Calls Tryd.prog 96 #[.slice (some ⟨b, 0, none⟩) 8 cap, .int .u8 x] w fun e w' => e = .returned (.tuple #[]) ∧ WRel w w' b t (digits 4294967296 8 ((256 * dig 4294967296 L + x) % oo)) := by
  have HT := Lib.hid hT
  have Hs := Lib.hid (PushR.start hl hd x hx)
  have Hb := Lib.hid hb
  have Hl := Lib.hid hl
  have Hx := Lib.hid hx
  have Hlt := Lib.hid hlt
  have Hd := Lib.hid hd
  clear hT hb hl hd hlt
  obtain ⟨hx0, hx1⟩ := hx
  go_enter Tryd.func96, Tryd.ntmps96
  go_wp2
  go_loopw [4, 12] (fun c i wr => ∃ (k : Nat) (M : List Int) (cc : Int), k ≤ 8 ∧ i = .int .i64 k ∧ c = .int .u32 cc ∧ PushR L M x k cc ∧ WRel w wr b t M) (fun _ i _ => 8 - (intOf i).toNat)
  case atStart => exact ⟨0, L, x, by omega, rfl, rfl, Hs.out, ⟨Upd.refl _ w, Hb.out⟩⟩
  case round =>
    clear Hs Hb
    obtain ⟨k, M, cc, hk, rfl, rfl, hpush, hrel⟩ := hrel
    have hfr := hrel.d.frozen
    by_cases hlt : k < 8
    · have c1 := hrel.cell 8 k hpush.len hlt
      rw [hpush.same k (by omega)] at c1
      have hg := hpush.digs.get (B := 4294967296) (by omega) k
      rw [hpush.same k (by omega)] at hg
      have h0 := hpush.c0
      have h1 := hpush.c1
      have Hrel := Lib.hid hrel
      have Hnext := Lib.hid (hpush.step hlt Hl.out)
      generalize L.getD k 0 = y at *
      have hor : bits .or .u32 (y * 256 % 4294967296) cc = y * 256 % 4294967296 + cc := by
        have e : y * 256 % 4294967296 = 256 * (y % 16777216) := by omega
        rw [e]
        exact or32 _ _ (by omega) (by omega) ⟨h0, h1⟩
      clear hrel hpush
      go_wp2
      exact ⟨⟨k + 1, _, _, by omega, by go_num, rfl, Hnext.out, Hrel.out.set k _⟩, by simp [intOf]; omega⟩
    · obtain rfl : k = 8 := by omega
      have hd8 : decide (((8 : Nat) : Int) < 8) = false := by decide
      obtain ⟨ht1, ht2, ht3⟩ := push_times hpush Hl.out Hx.out Hlt.out
      have c7 := hrel.cell 8 7 hpush.len (by omega)
      have hg := hpush.digs.get (B := 4294967296) (by omega) 7
      have h0 := hpush.c0
      have hL0 := dig_nonneg (B := 4294967296) (by omega) Hd.out
      have hV : 256 * dig 4294967296 L + x < 256 * oo := by have := Hlt.out; omega
      obtain ⟨hq0, hq1, hneg, hpos⟩ := push_left (V := 256 * dig 4294967296 L + x) (by omega) hV ht3
      have Hneg := Lib.hid hneg
      have Hpos := Lib.hid hpos
      have Hrel := Lib.hid hrel
      have Hpush := Lib.hid hpush
      have Ht2 := Lib.hid ht2
      generalize M.getD 7 0 = m at *
      have hor : bits .or .i64 (cc * 16) (m / 268435456) = cc * 16 + m / 268435456 := or64 _ _ h0 (by omega) (by omega)
      generalize hq : cc * 16 + m / 268435456 = q at *
      clear hrel hpush hfr hneg hpos ht2 ht3
      go_wp2_with fail
      refine (addOrder_any b cap t M (-q) _ (HT.out.upd Hrel.out.upd (by omega)) hb0 Hrel.out.d Hpush.out.len Hpush.out.digs (by omega)).mono ?_
      rintro e w1 ⟨N, c, rfl, hN, hNl, hNd, hc0, hc1, hNe⟩
      have HN := Lib.hid hN
      have HNl := Lib.hid hNl
      have HNd := Lib.hid hNd
      have HNb := Lib.hid (dig_bd8 hNl hNd)
      have HNe : Hid (dig 4294967296 N + 115792089237316195423570985008687907853269984665640564039457584007913129639936 * (cc + c) = 256 * dig 4294967296 L + x - q * oo) := by
        show _ = _
        have := Ht2.out
        rw [Int.neg_mul] at hNe
        omega
      clear hN hNl hNd hNe
      have q1 : IntKind.i64.wrap (cc + c) = cc + c := IntWalk.i64_in _ (by omega)
      by_cases hs : cc + c < 0
      · have Hfin := Hneg.out (by have := HNe.out; have := HNb.out; omega)
        have hdec : decide (cc + c < 0) = true := by simp [hs]
        go_wp2_with fail
        refine (addOrder_any b cap t N 1 _ ((HT.out.upd Hrel.out.upd (by omega)).upd HN.out.upd (by omega)) hb0 HN.out.d HNl.out HNd.out (by omega)).mono ?_
        rintro e w2 ⟨O, c2, rfl, hO, hOl, hOd, hd0, hd1, hOe⟩
        have hOb := dig_bd8 hOl hOd
        have hval : dig 4294967296 O = (256 * dig 4294967296 L + x) % oo := by
          have h1 := HNe.out
          have h2 := Int.emod_lt_of_pos (256 * dig 4294967296 L + x) oo_pos
          have h3 := Int.emod_nonneg (256 * dig 4294967296 L + x) (b := oo) (by decide)
          rw [Int.one_mul] at hOe
          unfold oo at *
          omega
        have hfin2 := ((Hrel.out.trans HN.out).trans hO)
        rw [words_eq hOl hOd hval] at hfin2
        have Hfin2 := Lib.hid hfin2
        clear hO hOl hOd hOe hOb hval hfin2
        go_wp2
        exact bodyPost_end (results_none rfl _ _ _) rfl ⟨rfl, Hfin2.out⟩
      · have Hfin := Hpos.out (by have := HNe.out; have := HNb.out; omega)
        have hdec : decide (cc + c < 0) = false := by simp [hs]
        have hval : dig 4294967296 N = (256 * dig 4294967296 L + x) % oo := by
          have h1 := HNe.out
          have h2 := Int.emod_lt_of_pos (256 * dig 4294967296 L + x) oo_pos
          have h3 := HNb.out
          unfold oo at *
          omega
        have hfin2 := Hrel.out.trans HN.out
        rw [words_eq HNl.out HNd.out hval] at hfin2
        have Hfin2 := Lib.hid hfin2
        clear hval hfin2
        go_wp2
        exact bodyPost_end (results_none rfl _ _ _) rfl ⟨rfl, Hfin2.out⟩
end Go.Proofs.YtdpafemcpbhlfaaDoor.Sc
