/-
  mac: fill, masked.
-/
import Derived.Test.YtcdcoennnmbbdaaDoorSum
namespace Go.Proofs.YtcdcoennnmbbdaaDoor
open Go.RowKit

/-- A key of as many bytes as a block has. -/
def shortK (key : List Int) : List Int := if 64 < key.length then sha key else key
def fillK (key : List Int) : List Int := shortK key ++ List.replicate (64 - (shortK key).length) 0
def maskK (x : Int) (l : List Int) : List Int := l.map fun b => bits .xor .u8 b x
theorem shortK_length (key : List Int) : (shortK key).length ≤ 64 := by
  unfold shortK; split
  · rw [sha_length]; omega
  · omega
theorem fillK_length (key : List Int) : (fillK key).length = 64 := by
  have := shortK_length key
  simp [fillK]; omega
theorem maskK_length (x : Int) (l : List Int) : (maskK x l).length = l.length := by simp [maskK]
theorem info31 : (Tryd.prog.info? 31).map (·.size) = some 64 := by kernel_rfl
theorem ret_blk31 {fn : Func} {p : Tmp} {R : Ending → World → Prop} (hf : fn.results = #[.cell p 31]) {a : Act} {w : World} {g : Nat} {A : Array Value} (hp : a.tmps.getD p undef = .pointer (some ⟨g, 0, none⟩)) (hd : a.defers = []) (hb : Blk w g 31 A) (hA : A.size = 64) (hR : R (.returned (.agg A)) w) :
    bodyPost Tryd.prog fn R .ret a w :=
  bodyPost_ret (v := .agg A) (results_cell_row (P := Tryd.prog) hf _ _ g 31 A (0, 0) _ hp hb Tryd.underlying31 rfl (by rw [hA]; exact info31)) hd hR

/-- What a key is copied to. -/
theorem fill_splice (key : List Int) (h : key.length ≤ 64) : splice (Array.replicate 64 (.int .u8 0)) 0 (key.map (Value.int .u8)) = bytesA (key ++ List.replicate (64 - key.length) 0) := by
  apply Array.ext_getElem?
  intro j
  rw [splice_get _ _ _ (by simp; omega)]
  simp only [List.length_map, Nat.zero_add, Nat.zero_le, true_and, Nat.sub_zero]
  by_cases c : j < key.length
  · rw [if_pos c, bytesA_get _ _ (by simp; omega), List.getElem?_map, List.getD_eq_getElem?_getD, List.getElem?_append_left c, List.getElem?_eq_getElem c]; rfl
  · rw [if_neg c]
    by_cases c2 : j < 64
    · rw [bytesA_get _ _ (by simp; omega), List.getD_eq_getElem?_getD, List.getElem?_append_right (by omega), Array.getElem?_replicate, if_pos c2, List.getElem?_replicate, if_pos (by omega)]; rfl
    · rw [Array.getElem?_eq_none (by simp; omega), Array.getElem?_eq_none (by rw [bytesA_size]; simp; omega)]

theorem Sl.src {w : World} {S : Nat → Prop} {sp : Option Addr} {n cap : Nat} {p : List Int} (h : Sl w S (.slice sp n cap) p) : p.length = n ∧ (0 < n → ∃ ad, sp = some ad ∧ ∀ j v, (p.map (Value.int .u8))[j]? = some v → w.cell? (ad.add j) = some v) := by
  obtain ⟨sp', cap', h1, h2, h3, h4⟩ := h
  simp only [Value.slice.injEq] at h1
  obtain ⟨rfl, rfl, rfl⟩ := h1
  refine ⟨rfl, fun h0 => ?_⟩
  obtain ⟨pb, po, rfl, _, hc⟩ := h4 h0
  exact ⟨_, rfl, src_cells hc⟩

set_option maxHeartbeats 1000000 in
theorem fill_any (key : List Int) (v : Value) (w : World) (hT : Tabs w) (hv : Sl w (fun k => w.heap.size ≤ k) v key) :
    Calls Tryd.prog 26 #[v] w fun e w' => e = .returned (.agg (bytesA (fillK key))) ∧ Upd (fun _ => False) w w' := by
  have Hv := Lib.hid hv
  have HT := Lib.hid hT
  have hlen := hv.len
  obtain ⟨sp, cap, rfl, hlc, hcb, _⟩ := hv
  clear hT
  have hA : (bytesA (fillK key)).size = 64 := by rw [bytesA_size, fillK_length]
  have hone := bytesA_one (fillK key)
  have Hfill := Lib.hid (fill_splice (shortK key) (shortK_length key))
  have hdef : fillK key = shortK key ++ List.replicate (64 - (shortK key).length) 0 := rfl
  by_cases hlong : 64 < key.length
  · have hsk : shortK key = sha key := by rw [shortK, if_pos hlong]
    rw [hsk] at Hfill hdef
    rw [← hdef] at Hfill
    generalize hAA : bytesA (fillK key) = A at *
    obtain ⟨kl, hkl⟩ : ∃ kl, kl = key.length := ⟨_, rfl⟩
    rw [← hkl] at hlong hlc hlen ⊢
    have Hkl := Lib.hid hkl
    have HA := Lib.hid hA
    have Hone := Lib.hid hone
    have HAA := Lib.hid hAA
    clear hkl hA hone hAA hdef hsk
    go_enter Tryd.func26, Tryd.ntmps26
    go_wp2_with fail
    have hps : ∀ o1 o2, SlS (((w.alloc o1).alloc o2).alloc (.cells #[.slice sp kl cap] 22)) (fun k => (((w.alloc o1).alloc o2).alloc (.cells #[.slice sp kl cap] 22)).heap.size ≤ k) (.slice (some ⟨w.heap.size + 1 + 1, 0, none⟩) 1 1) [key] := fun o1 o2 => by
      have h1 : Sl ((w.alloc o1).alloc o2) (fun k => (((w.alloc o1).alloc o2).alloc (.cells #[.slice sp kl cap] 22)).heap.size ≤ k) (.slice sp kl cap) key := by
        rw [Hkl.out]
        exact (Hv.out.upd (((Upd.refl (fun _ => False) w).alloc o1).alloc o2) (fun k h => h.elim)).mono (fun k _ h => by simp at h; omega)
      have := SlS.fresh1 22 h1 (by simp)
      simpa using this
    refine (sum256_any [key] _ _ (by rw [List.flatten_cons, List.flatten_nil, List.append_nil, ← Hkl.out]; omega) (HT.out.upd ((((Upd.refl (fun _ => False) w).alloc _).alloc _).alloc _) (fun h => h) (fun h => h)) (by simp) (hps _ _)).mono ?_
    rintro e w1 ⟨rfl, hu1⟩
    rw [List.flatten_cons, List.flatten_nil, List.append_nil]
    have hu01 := ((((Upd.refl (fun _ => False) w).alloc _).alloc _).alloc _).trans hu1
    have hz1 := hu1.size
    rw [World.size_alloc, World.size_alloc, World.size_alloc] at hz1
    have hra1 := hu1.blk (((Blk.new w _ 31).alloc _).alloc _) (fun h => h)
    have hfb1 := hu1.blk ((Blk.new (w.alloc _) _ 31).alloc _) (fun h => h)
    rw [World.size_alloc] at hfb1
    have hSl : (sha key).length = 32 := sha_length key
    have hSA : (bytesA (sha key)).size = 32 := by rw [bytesA_size, hSl]
    have hSone := bytesA_one (sha key)
    have hSget := bytesA_get (sha key)
    generalize hSS : bytesA (sha key) = B at *
    have Hu01 := Lib.hid hu01
    have Hra1 := Lib.hid hra1
    have Hfb1 := Lib.hid hfb1
    have HSl := Lib.hid hSl
    have HSA := Lib.hid hSA
    have HSone := Lib.hid hSone
    have HSget := Lib.hid hSget
    clear hps hu1 hu01 hra1 hfb1 hSl hSA hSone hSget hSS
    go_wp2_with (first | (refine wpList_storeBlk2 rfl 25 _ _ rfl w1.heap.size 0 32 rfl B rfl 25 _ (Blk.new w1 _ 25) info25 HSA.out (by simp) HSone.out ?_; intro w2 hb2 hu2 hz2; rw [splice_all _ _ 32 rfl HSA.out] at hb2; have hfb2 := hu2.blk (Hfb1.out.alloc _) (by omega)) | (refine wpList_copyBlk rfl (.tmp 12) (.tmp 13) 22 22 rfl 5 Tryd.underlying22 info5 (w.heap.size + 1) 0 64 64 (some ⟨w1.heap.size, 0, none⟩) 32 32 rfl rfl 31 _ hfb2 32 ((sha key).map (Value.int .u8)) (by simp [HSl.out]) (by simp) (fun _ => ⟨_, rfl, src_cells (fun j hj => by rw [hb2.cell, Nat.zero_add]; exact HSget.out j hj)⟩) (by simp) (one_map .u8 _) ?_; intro w3 hb3 hu3 hz3; have hb3 := Hfill.out.subst (motive := fun x => Blk w3 (w.heap.size + 1) 31 x) hb3; have hra := hu3.blk (hu2.blk (Hra1.out.alloc _) (by omega)) (by omega)) | (refine wpList_loadBlk rfl 31 _ rfl (w.heap.size + 1) 0 64 rfl 31 A _ hb3 Tryd.underlying31 rfl info31 (by have := HA.out; omega) ?_; rw [extract_all _ _ HA.out]) | (refine wpList_storeBlk2 rfl 31 _ _ rfl w.heap.size 0 64 rfl A rfl 31 _ hra info31 HA.out (by simp) Hone.out ?_; intro w7 hb7 hu7 hz7; rw [splice_all _ _ 64 rfl HA.out] at hb7))
    exact ret_blk31 rfl rfl rfl hb7 HA.out ⟨rfl, (((Hu01.out.alloc _).step hu2 (fun i hi h => by omega)).step hu3 (fun i hi h => by omega)).step hu7 (fun i hi h => by omega)⟩
  · have hsk : shortK key = key := by rw [shortK, if_neg hlong]
    rw [hsk] at Hfill hdef
    rw [← hdef] at Hfill
    generalize hAA : bytesA (fillK key) = A at *
    obtain ⟨kl, hkl⟩ : ∃ kl, kl = key.length := ⟨_, rfl⟩
    rw [← hkl] at hlong hlc hlen ⊢
    have Hkl := Lib.hid hkl
    have HA := Lib.hid hA
    have Hone := Lib.hid hone
    have HAA := Lib.hid hAA
    clear hkl hA hone hAA hdef hsk
    go_enter Tryd.func26, Tryd.ntmps26
    have Hpos : Hid (∀ o1 o2, 0 < kl → ∃ ad, sp = some ad ∧ ∀ j v, (key.map (Value.int .u8))[j]? = some v → ((w.alloc o1).alloc o2).cell? (ad.add j) = some v) := fun o1 o2 => by
      have := (Hv.out.upd (((Upd.refl (fun _ => False) w).alloc o1).alloc o2) (fun k h => h.elim)).src.2
      rw [← Hkl.out] at this
      exact this
    go_wp2_with (first | (refine wpList_copyBlk rfl (.tmp 12) (.tmp 13) 22 22 rfl 5 Tryd.underlying22 info5 (w.heap.size + 1) 0 64 64 sp kl cap rfl rfl 31 _ (by simpa using Blk.new (w.alloc _) _ 31) kl (key.map (Value.int .u8)) (by simp [Hkl.out]) (by simp only [Nat.min_def]; split <;> omega) (Hpos.out _ _) (by simp; omega) (one_map .u8 _) ?_; intro w2 hb2 hu2 hz2; have hb2 := Hfill.out.subst (motive := fun x => Blk w2 (w.heap.size + 1) 31 x) hb2; have hra := hu2.blk ((Blk.new w _ 31).alloc _) (by omega)) | (refine wpList_loadBlk rfl 31 _ rfl (w.heap.size + 1) 0 64 rfl 31 A _ hb2 Tryd.underlying31 rfl info31 (by have := HA.out; omega) ?_; rw [extract_all _ _ HA.out]) | (refine wpList_storeBlk2 rfl 31 _ _ rfl w.heap.size 0 64 rfl A rfl 31 _ hra info31 HA.out (by simp) Hone.out ?_; intro w7 hb7 hu7 hz7; rw [splice_all _ _ 64 rfl HA.out] at hb7))
    exact ret_blk31 rfl rfl rfl hb7 HA.out ⟨rfl, ((((Upd.refl (fun _ => False) w).alloc _).alloc _).step hu2 (fun i hi h => by omega)).step hu7 (fun i hi h => by omega)⟩
structure MRel (w wr : World) (l : List Int) (x : Int) (k : Nat) : Prop where
  upd : Upd (fun _ => False) w wr
  res : ∃ ra, Blk wr (w.heap.size + 1) 31 ra ∧ ra.size = 64
  blk : ∃ arr, Blk wr w.heap.size 31 arr ∧ arr.size = 64 ∧ Nums arr .u8 0 64 (fun j => if j < k then bits .xor .u8 (l.getD j 0) x else l.getD j 0)
theorem MRel.next {w wr : World} {l : List Int} {x : Int} {k : Nat} (h : MRel w wr l x k) (hk : k < 64) : MRel w (wr.setCell ⟨w.heap.size, k, none⟩ (.int .u8 (bits .xor .u8 (l.getD k 0) x))) l x (k + 1) := by
  obtain ⟨arr, h1, h2, h3⟩ := h.blk
  obtain ⟨ra, h4, h5⟩ := h.res
  refine ⟨h.upd.set _ (by simp), ⟨ra, h4.setOther (by simp) _, h5⟩, _, h1.set _ _, by simpa using h2, ?_⟩
  have := h3.setIn k hk (bits .xor .u8 (l.getD k 0) x)
  rw [Nat.zero_add] at this
  refine this.congr fun j hj => ?_
  by_cases e : j = k
  · simp [e]
  · by_cases c : j < k
    · simp [e, c, show j < k + 1 by omega]
    · simp [e, c, show ¬ j < k + 1 by omega]

set_option maxHeartbeats 1000000 in
theorem masked_any (l : List Int) (x : Int) (w : World) (hl : l.length = 64) :
    Calls Tryd.prog 27 #[.agg (bytesA l), .int .u8 x] w fun e w' => e = .returned (.agg (bytesA (maskK x l))) ∧ Upd (fun _ => False) w w' := by
  have hA : (bytesA l).size = 64 := by rw [bytesA_size, hl]
  have hget := bytesA_get l
  generalize bytesA l = A at *
  have HA := Lib.hid hA
  have Hget := Lib.hid hget
  have Hl := Lib.hid hl
  clear hA hget hl
  go_enter Tryd.func27, Tryd.ntmps27
  go_wp2
  go_loopw [6] (fun i wr => ∃ k : Nat, k ≤ 64 ∧ i = .int .i64 k ∧ MRel w wr l x k) (fun i _ => 64 - (intOf i).toNat)
  case atStart =>
    refine ⟨0, by omega, rfl, ((Upd.refl _ w).alloc _).alloc _, ⟨_, by simpa using Blk.new (w.alloc _) _ 31, rfl⟩, A, (Blk.new w A 31).alloc _, HA.out, fun j hj => ?_⟩
    rw [Nat.zero_add, Hget.out j (by rw [Hl.out]; exact hj)]
    simp
  case round =>
    obtain ⟨k, hk, rfl, hrel⟩ := hrel
    obtain ⟨arr, h1, h2, h3⟩ := hrel.blk
    by_cases hlt : k < 64
    · have hc : wr.cell? ⟨w.heap.size, k, none⟩ = some (.int .u8 (l.getD k 0)) := by
        rw [h1.cell]
        have := h3 k hlt
        rw [Nat.zero_add] at this
        rw [this]; simp
      have hf := h1.frozen k
      have HR := Lib.hid (hrel.next hlt)
      generalize l.getD k 0 = y at *
      clear h1 h2 h3
      go_wp2
      go_roundw
      case rel => exact ⟨k + 1, by omega, by go_num, HR.out⟩
      case measure => simp [intOf]; omega
    · have hex : arr = bytesA (maskK x l) := by
        apply Array.ext_getElem?
        intro j
        by_cases hj : j < 64
        · have := h3 j hj
          rw [Nat.zero_add] at this
          rw [this, bytesA_get _ _ (by rw [maskK_length, Hl.out]; exact hj)]
          show some (Value.int .u8 (if j < k then _ else _)) = _
          rw [if_pos (by omega)]
          congr 2
          simp [maskK, Hl.out, hj]
        · rw [Array.getElem?_eq_none (by omega), Array.getElem?_eq_none (by rw [bytesA_size, maskK_length, Hl.out]; omega)]
      obtain ⟨ra, h4, h5⟩ := hrel.res
      have hone := h3.one h2
      have Hex := Lib.hid hex
      have H2 := Lib.hid h2
      have H5 := Lib.hid h5
      have Hone := Lib.hid hone
      have Hu := Lib.hid hrel.upd
      clear hex h2 h3 h5 hone hrel
      go_wp2_with (first | (refine wpList_loadBlk rfl 31 _ rfl w.heap.size 0 64 rfl 31 arr _ h1 Tryd.underlying31 rfl info31 (by have := H2.out; omega) ?_; rw [extract_all _ _ H2.out]) | (refine wpList_storeBlk2 rfl 31 _ _ rfl (w.heap.size + 1) 0 64 rfl arr rfl 31 ra h4 info31 H2.out (by have := H5.out; omega) Hone.out ?_; intro w7 hb7 hu7 hz7; rw [splice_all _ _ 64 H5.out H2.out] at hb7))
      exact ret_blk31 rfl rfl rfl hb7 H2.out ⟨by rw [Hex.out], Hu.out.step hu7 (fun i hi h => by omega)⟩
end Go.Proofs.YtcdcoennnmbbdaaDoor
