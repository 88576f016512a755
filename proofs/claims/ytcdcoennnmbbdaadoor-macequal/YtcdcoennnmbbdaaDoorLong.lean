/-
  The walk of MacLong.
-/
import Derived.Test.YtcdcoennnmbbdaaDoorCounts
import Derived.Test.YtcdcoennnmbbdaaDoorZeros
namespace Go.Proofs.YtcdcoennnmbbdaaDoor
open Go.RowKit

theorem long_key (key b : List Int) (h : 64 < key.length) : hmac (sha key) b = hmac key b := by
  have e : fillK (sha key) = fillK key := by
    have h1 : shortK key = sha key := by rw [shortK, if_pos h]
    have h2 : shortK (sha key) = sha key := by rw [shortK, if_neg (by rw [sha_length]; omega)]
    rw [fillK, fillK, h1, h2]
  rw [hmac, hmac, e]
theorem zeros_key (key b : List Int) (n : Nat) (h : key.length + n ≤ 64) : hmac (key ++ List.replicate n 0) b = hmac key b := by
  have e : fillK (key ++ List.replicate n 0) = fillK key := by
    have h1 : shortK key = key := by rw [shortK, if_neg (by omega)]
    have h2 : shortK (key ++ List.replicate n 0) = key ++ List.replicate n 0 := by rw [shortK, if_neg (by simp; omega)]
    rw [fillK, fillK, h1, h2, List.append_assoc, List.replicate_append_replicate]
    congr 2
    simp
    omega
  rw [hmac, hmac, e]
theorem SlS.one {w : World} {S : Nat → Prop} {g : Nat} {v : Value} {p : List Int} (hc : w.cell? ⟨g, 0, none⟩ = some v) (h : Sl w S v p) (hs : ¬ S g) : SlS w S (.slice (some ⟨g, 0, none⟩) 1 1) [p] := by
  refine ⟨_, 1, rfl, Nat.le_refl _, by simp, fun _ => ⟨g, 0, rfl, hs, fun j hj => ?_⟩⟩
  obtain rfl : j = 0 := by simp at hj; omega
  exact ⟨v, hc, h⟩
/-- mac.Sum of one part that lies in a new block. -/
theorem macsum_one (key b : List Int) (v vb : Value) (w0 : World) (hT : Tabs w0) (hw : 2 ≤ w0.heap.size) (hv : Sl w0 (fun k => w0.heap.size ≤ k) v key) (hb : Sl w0 (fun k => w0.heap.size ≤ k) vb b) (hl : b.length ≤ 140737488355328) (X : World) (g : Nat) (u : Upd (fun _ => False) w0 X)
    (hc : X.cell? ⟨g, 0, none⟩ = some vb) : Calls Tryd.prog 14 #[v, .slice (some ⟨g, 0, none⟩) 1 1] X fun e w' => e = .returned (.agg (bytesA (hmac key b))) ∧ Upd (fun _ => False) w0 w' ∧ Upd (fun _ => False) X w' := by
  have hg : g < X.heap.size := block_lt_of_cell hc
  have hz := u.size
  have := macsum_any key [b] v (.slice (some ⟨g, 0, none⟩) 1 1) X (by rw [List.flatten_cons, List.flatten_nil, List.append_nil]; omega) (hT.upd u (fun h => h) (fun h => h)) (by omega)
    ((hv.upd u (fun k h => h.elim)).mono (fun k _ h => by omega)) (SlS.one hc ((hb.upd u (fun k h => h.elim)).mono (fun k _ h => by omega)) (by omega))
  rw [List.flatten_cons, List.flatten_nil, List.append_nil] at this
  exact this.mono fun e w' ⟨he, hu⟩ => ⟨he, u.trans hu, hu⟩

set_option maxHeartbeats 2000000 in
theorem macLong_any (key b : List Int) (v vb : Value) (n : Int) (w : World) (hT : Tabs w) (hw : 2 ≤ w.heap.size) (hv : Sl w (fun k => w.heap.size ≤ k) v key) (hb : Sl w (fun k => w.heap.size ≤ k) vb b) (hn : -9223372036854775808 ≤ n) (hn' : n ≤ 9223372036854775807) :
    Calls Tryd.prog 8 #[v, vb, .int .i64 n] w fun e w' => e = .returned (.bool true) ∧ Upd (fun _ => False) w w' := by
  have HT := Lib.hid hT
  have Hv := Lib.hid hv
  have Hb := Lib.hid hb
  have Hbl := Lib.hid hb.len
  have hlen := hv.len
  obtain ⟨sp, cap, rfl, hpl, hpc, _⟩ := hv
  obtain ⟨bsp, bcap, rfl, _, _, _⟩ := hb
  obtain ⟨bl, hbl⟩ : ∃ bl, bl = b.length := ⟨_, rfl⟩
  rw [← hbl] at Hb ⊢
  obtain ⟨kl, hkl⟩ : ∃ kl, kl = key.length := ⟨_, rfl⟩
  rw [← hkl] at hpl hlen ⊢
  have Hkl := Lib.hid hkl
  have Hgd := Lib.hid guard25
  clear hT hkl hbl
  go_enter Tryd.func8, Tryd.ntmps8
  go_wp2_with fail
  refine (known_any w HT.out hw).mono ?_
  rintro e w1 ⟨rfl, hu1⟩
  have Hu1 := Lib.hid hu1
  have hz1 := hu1.size
  have HT1 : Hid (Tabs w1) := HT.out.upd hu1 (fun h => h) (fun h => h)
  have Hv1 : Hid (Sl w1 (fun k => w1.heap.size ≤ k) (.slice sp kl cap) key) := by
    rw [Hkl.out]
    exact (Hv.out.upd hu1 (fun k h => h.elim)).mono (fun k _ h => by omega)
  have Hb1 : Hid (Sl w1 (fun k => w1.heap.size ≤ k) (.slice bsp bl bcap) b) := (Hb.out.upd hu1 (fun k h => h.elim)).mono (fun k _ h => by omega)
  clear hu1 HT Hv Hb
  by_cases hlong : 64 < kl
  · go_wp2_with fail
    have hps : SlS (w1.alloc (.cells #[.slice sp kl cap] 22)) (fun k => (w1.alloc (.cells #[.slice sp kl cap] 22)).heap.size ≤ k) (.slice (some ⟨w1.heap.size, 0, none⟩) 1 1) [key] := SlS.fresh1 22 (Hv1.out.mono (fun k _ h => by rw [World.size_alloc] at h; omega)) (by rw [World.size_alloc]; omega)
    refine (sum256_any [key] _ _ (by rw [List.flatten_cons, List.flatten_nil, List.append_nil, ← Hkl.out]; omega) (HT1.out.upd ((Upd.refl (fun _ => False) w1).alloc _) (fun h => h) (fun h => h)) (by rw [World.size_alloc]; omega) hps).mono ?_
    rintro e w2 ⟨rfl, hu2⟩
    rw [List.flatten_cons, List.flatten_nil, List.append_nil]
    have Hu2 : Hid (Upd (fun _ => False) w1 w2) := ((Upd.refl _ w1).alloc _).trans hu2
    have hSl := sha_length key
    have HSA : Hid ((bytesA (sha key)).size = 32) := by show _ = _; rw [bytesA_size, hSl]
    have HSone := Lib.hid (bytesA_one (sha key))
    have HSl := Lib.hid hSl
    clear hps hu2 hSl
    go_wp2_with (refine wpList_storeBlk2 rfl 25 _ _ rfl w2.heap.size 0 32 rfl (bytesA (sha key)) rfl 25 _ (Blk.new w2 _ 25) info25 HSA.out (by simp) HSone.out ?_; intro w3 hb3 hu3 hz3; rw [splice_all _ _ 32 rfl HSA.out] at hb3)
    dsimp only [Act.put]
    have hz2 := Hu2.out.size
    have hu13 : Upd (fun _ => False) w1 w3 := (Hu2.out.alloc _).step hu3 (fun i hi h => by omega)
    have hT3 := HT1.out.upd hu13 (fun h => h) (fun h => h)
    have hz13 := hu13.size
    have hv3 : Sl w3 (fun k => w3.heap.size ≤ k) (.slice sp kl cap) key := (Hv1.out.upd hu13 (fun k h => h.elim)).mono (fun k _ h => by omega)
    have hb3' : Sl w3 (fun k => w3.heap.size ≤ k) (.slice bsp bl bcap) b := (Hb1.out.upd hu13 (fun k h => h.elim)).mono (fun k _ h => by omega)
    have hk3 : Sl w3 (fun k => w3.heap.size ≤ k) (.slice (some ⟨w2.heap.size, 0, none⟩) 32 32) (sha key) := by
      have := Sl.ofBlk (S := fun k => w3.heap.size ≤ k) (cap := 32) hb3 (bytesA_get (sha key)) (by have := hb3.lt; omega) (Nat.le_of_eq HSl.out) (by omega)
      rwa [HSl.out] at this
    have HC1 := Lib.hid (macsum_one key b (.slice sp kl cap) (.slice bsp bl bcap) w3 hT3 (by omega) hv3 hb3' Hbl.out)
    have HC2 := macsum_one (sha key) b (.slice (some ⟨w2.heap.size, 0, none⟩) 32 32) (.slice bsp bl bcap) w3 hT3 (by omega) hk3 hb3' Hbl.out
    rw [long_key key b (by rw [← Hkl.out]; exact hlong)] at HC2
    have HC2 := Lib.hid HC2
    have heq := fun w => run_eql_self w (hmac key b) (hmac_length _ _)
    have heq2 := fun w => run_equalIn_self w 9998 25 32 (hmac key b) Tryd.underlying25 (hmac_length _ _)
    have hgd := Hgd.out
    have Hu13 := Lib.hid hu13
    clear hu13 hT3 hv3 hb3' hk3 hu3 hb3 hz3
    go_region_with (first | (go_at_call_of 14 (Value.slice sp kl cap); refine (HC1.out _ _ (by repeat (first | assumption | exact Upd.refl _ _ | apply Upd.drew | apply Upd.alloc)) (by simp)).mono ?_; rintro e w5 ⟨rfl, hu5, hx5⟩) | (go_at_call_of 14 (Value.slice (some ⟨w2.heap.size, 0, none⟩) 32 32); refine (HC2.out _ _ (by repeat (first | assumption | exact Upd.refl _ _ | apply Upd.drew | apply Upd.alloc)) (by first | (simp; done) | exact Upd.cell hx5 (by simp) (fun h => h))).mono ?_; rintro e w6 ⟨rfl, hu6, hx6⟩))
    all_goals
      have Hu6 := Lib.hid hu6
      clear hu5 hu6 hx5 hx6 heq heq2 hgd
      go_wp2
      go_ret
      exact ⟨rfl, (Hu1.out.trans Hu13.out).trans Hu6.out⟩
  · by_cases hneg : n < 0
    · go_wp2_with fail
      go_ret
      exact ⟨rfl, Hu1.out⟩
    · by_cases hbig : 64 - (kl : Int) < n
      · go_wp2_with fail
        go_ret
        exact ⟨rfl, Hu1.out⟩
      · obtain ⟨m, rfl⟩ := Int.eq_ofNat_of_zero_le (show 0 ≤ n by omega)
        go_wp2_with fail
        refine (macsum_one key b (.slice sp kl cap) (.slice bsp bl bcap) w1 HT1.out (by omega) Hv1.out Hb1.out Hbl.out _ _ ((Upd.refl _ w1).alloc _) (by simp)).mono ?_
        rintro e w2 ⟨rfl, hu2, _⟩
        have Hu2 := Lib.hid hu2
        have hz2 := hu2.size
        clear hu2
        have HO : Hid (Own (w2.alloc (.cells #[] 5)) w2.heap.size (.slice (some ⟨w2.heap.size, 0, none⟩) 0 0) []) := Own.empty w2 _ (Nat.le_refl _)
        have HK : Hid (Sl (w2.alloc (.cells #[] 5)) (fun k => w2.heap.size ≤ k) (.slice sp kl cap) key) := ((Hv1.out.upd Hu2.out (fun k h => h.elim)).mono (fun k _ h => by omega)).alloc _
        go_wp2_with (first | (refine wpList_appendSl rfl (.tmp 38) (.tmp 39) rfl w2.heap.size _ [] rfl HO.out (.slice sp kl cap) rfl key HK.out (by simp; omega) (by simp) ?_; intro v3 w3 hO3 hu3; rw [List.nil_append] at hO3; have HO3 := Lib.hid hO3; have Hu3 := Lib.hid hu3; have hz3 := hu3.size; clear hO3 hu3) | (refine wpList_appendZeros rfl (.tmp 40) (.tmp 41) rfl w2.heap.size v3 key rfl HO3.out m rfl (by have := Hkl.out; omega) (by rw [World.size_alloc] at hz3; omega) ?_; intro v4 w4 hO4 hu4; have HO4 := Lib.hid hO4; have Hu4 := Lib.hid hu4; clear hO4 hu4))
        have hu14 : Upd (fun _ => False) w1 w4 := (((Hu2.out.alloc _).step Hu3.out (fun i hi h => by omega)).step Hu4.out (fun i hi h => by omega))
        have hz14 := hu14.size
        have hvl : Sl w4 (fun k => w4.heap.size ≤ k) v4 (key ++ List.replicate m 0) := HO4.out.sl (fun k _ h1 h2 => by omega) (by rw [List.length_append, List.length_replicate, ← Hkl.out]; omega)
        have HC := macsum_one (key ++ List.replicate m 0) b v4 (.slice bsp bl bcap) w4 (HT1.out.upd hu14 (fun h => h) (fun h => h)) (by omega) hvl ((Hb1.out.upd hu14 (fun k h => h.elim)).mono (fun k _ h => by omega)) Hbl.out _ w4.heap.size ((Upd.refl _ w4).alloc (.cells #[.slice bsp bl bcap] 22)) (by simp)
        rw [zeros_key key b m (by rw [← Hkl.out]; omega)] at HC
        refine HC.mono ?_
        rintro e w5 ⟨rfl, hu5, _⟩
        have Hu15 : Hid (Upd (fun _ => False) w1 w5) := hu14.trans hu5
        have heq := fun w => run_eql_self w (hmac key b) (hmac_length _ _)
        have heq2 := fun w => run_equalIn_self w 9998 25 32 (hmac key b) Tryd.underlying25 (hmac_length _ _)
        have hgd := Hgd.out
        clear hu14 hvl HC hu5
        go_wp2
        go_ret
        exact ⟨rfl, Hu1.out.trans Hu15.out⟩
end Go.Proofs.YtcdcoennnmbbdaaDoor
