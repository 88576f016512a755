/-
  Hash256.Sum, Sum256.
-/
import Derived.Test.YtcdcoennnmbbdaaDoorNew
namespace Go.Proofs.YtcdcoennnmbbdaaDoor
open Go.RowKit

/-- Bytes as the cells of an array. -/
def bytesA (l : List Int) : Array Value := (l.map (Value.int .u8)).toArray
theorem bytesA_size (l : List Int) : (bytesA l).size = l.length := by simp [bytesA]
theorem bytesA_get (l : List Int) (j : Nat) (h : j < l.length) : (bytesA l)[j]? = some (.int .u8 (l.getD j 0)) := by simp [bytesA, h]
theorem bytesA_one (l : List Int) : ∀ v ∈ (bytesA l).toList, v.oneCell' = true := by
  intro v hv; simp [bytesA] at hv; obtain ⟨x, _, rfl⟩ := hv; rfl
theorem HashAt.blk {w : World} {hb : Nat} {m : List Int} (h : HashAt w hb m) : ∃ arr, Blk w hb 67 arr ∧ arr.size = 137 ∧ (∀ v ∈ arr.toList, v.oneCell' = true) ∧ ∀ w' hb', Blk w' hb' 67 arr → HashAt w' hb' m := by
  obtain ⟨arr, r, h1, h2, h3, h4, h5, h6⟩ := h.ex
  refine ⟨arr, h1, h2, ?_, fun w' hb' hb => ⟨arr, r, hb, h2, h3, h4, h5, h6⟩⟩
  intro v hv
  obtain ⟨j, hj, rfl⟩ := List.mem_iff_getElem.1 hv
  have hj' : j < 137 := by simpa [h2] using hj
  have key : ∀ u, arr[j]? = some u → u.oneCell' = true → (arr.toList[j]).oneCell' = true := by
    intro u hu ho
    have h2 : arr.toList[j]? = some u := by simpa using hu
    rw [List.getElem?_eq_getElem hj] at h2
    rw [Option.some.inj h2]; exact ho
  by_cases c1 : j < 128
  · have := h3 j c1; rw [Nat.zero_add] at this; exact key _ this rfl
  · by_cases c2 : j = 128
    · subst c2; exact key _ h5 rfl
    · have := h6 (j - 129) (by omega); rw [show 129 + (j - 129) = j by omega] at this; exact key _ this rfl
theorem HashAt.upd {S : Nat → Prop} {w w' : World} {hb : Nat} {m : List Int} (h : HashAt w hb m) (u : Upd S w w') (hs : ¬ S hb) : HashAt w' hb m := by
  obtain ⟨arr, r, h1, h2⟩ := h.ex
  exact ⟨arr, r, u.blk h1 hs, h2⟩
theorem Sl.ofBlk {w : World} {S : Nat → Prop} {b : Nat} {t : TypeId} {arr : Array Value} {l : List Int} {cap : Nat} (h : Blk w b t arr) (hl : ∀ j, j < l.length → arr[j]? = some (.int .u8 (l.getD j 0))) (hs : ¬ S b) (h1 : l.length ≤ cap) (h2 : cap ≤ 140737488355328) :
    Sl w S (.slice (some ⟨b, 0, none⟩) l.length cap) l :=
  ⟨_, cap, rfl, h1, by omega, fun _ => ⟨b, 0, rfl, hs, fun j hj => by rw [h.cell, Nat.zero_add]; exact hl j hj⟩⟩
theorem SlS.fresh1 {w : World} {S : Nat → Prop} {v : Value} {p : List Int} (t : TypeId) (h : Sl w S v p) (hs : ¬ S w.heap.size) : SlS (w.alloc (.cells #[v] t)) S (.slice (some ⟨w.heap.size, 0, none⟩) 1 1) [p] := by
  refine ⟨_, 1, rfl, Nat.le_refl _, by simp, fun _ => ⟨w.heap.size, 0, rfl, hs, fun j hj => ?_⟩⟩
  obtain rfl : j = 0 := by simp at hj; omega
  refine ⟨v, by rw [(Blk.new w #[v] t).cell]; rfl, ?_⟩
  have := h.upd (((Upd.refl (fun _ => False) w).alloc (.cells #[v] t))) (fun k hk => hk.elim)
  simpa using this
theorem SlS.fresh2 {w : World} {S : Nat → Prop} {v v' : Value} {p p' : List Int} (t : TypeId) (h : Sl w S v p) (h' : Sl w S v' p') (hs : ¬ S w.heap.size) : SlS (w.alloc (.cells #[v, v'] t)) S (.slice (some ⟨w.heap.size, 0, none⟩) 2 2) [p, p'] := by
  refine ⟨_, 2, rfl, Nat.le_refl _, by simp, fun _ => ⟨w.heap.size, 0, rfl, hs, fun j hj => ?_⟩⟩
  have u := ((Upd.refl (fun _ => False) w).alloc (.cells #[v, v'] t))
  match j, hj with
  | 0, _ => exact ⟨v, by rw [(Blk.new w #[v, v'] t).cell]; rfl, by simpa using h.upd u (fun k hk => hk.elim)⟩
  | 1, _ => exact ⟨v', by rw [(Blk.new w #[v, v'] t).cell]; rfl, by simpa using h'.upd u (fun k hk => hk.elim)⟩
theorem info67 : (Tryd.prog.info? 67).map (·.size) = some 137 := by kernel_rfl
theorem info25 : (Tryd.prog.info? 25).map (·.size) = some 32 := by kernel_rfl

def flat (st : Nat → Int) (k : Nat) : List Int := (List.range k).flatMap fun i => be32 (st i)
theorem flat_length (st : Nat → Int) (k : Nat) : (flat st k).length = 4 * k := by
  induction k with
  | zero => rfl
  | succ k ih => rw [flat, List.range_succ, List.flatMap_append, List.length_append]; rw [flat] at ih; rw [ih]; simp [be32_length]; omega
theorem flat_succ (st : Nat → Int) (k : Nat) : flat st (k + 1) = flat st k ++ be32 (st k) := by simp [flat, List.range_succ, List.flatMap_append]
structure SRel (w wr : World) (g : Nat) (ra : Array Value) (st : Nat → Int) (k : Nat) : Prop where
  upd : Upd (fun _ => False) w wr
  res : Blk wr w.heap.size 25 ra
  blk : ∃ arr, Blk wr g 25 arr ∧ arr.size = 32 ∧ ∀ j, j < 4 * k → arr[j]? = some (.int .u8 ((flat st k).getD j 0))
theorem SRel.next {w wr w' : World} {g : Nat} {ra arr : Array Value} {st : Nat → Int} {k : Nat} (h : SRel w wr g ra st k) (hg : w.heap.size < g) (hk : k < 8) (hb : Blk wr g 25 arr) (u : Upd (fun k => k = g) wr w')
    (hb' : Blk w' g 25 (splice arr (4 * k) ((be32 (st k)).map (Value.int .u8)))) : SRel w w' g ra st (k + 1) := by
  obtain ⟨arr0, h1, h2, h3⟩ := h.blk
  obtain ⟨rfl, _⟩ := h1.inj hb
  have hf : 4 * k + ((be32 (st k)).map (Value.int .u8)).length ≤ arr0.size := by simp [be32_length]; omega
  refine ⟨h.upd.step u (fun i hi e => by omega), u.blk h.res (by omega), _, hb', by rw [splice_size _ _ _ hf]; exact h2, fun j hj => ?_⟩
  rw [splice_get _ _ _ hf, flat_succ]
  simp only [List.length_map, be32_length]
  have hl := flat_length st k
  by_cases c : 4 * k ≤ j
  · rw [if_pos ⟨c, by omega⟩, List.getD_eq_getElem?_getD, List.getElem?_append_right (by omega), hl, List.getElem?_map]
    have : j - 4 * k < (be32 (st k)).length := by rw [be32_length]; omega
    rw [List.getElem?_eq_getElem this]
    rfl
  · rw [if_neg (by omega), h3 j (by omega), List.getD_eq_getElem?_getD, List.getD_eq_getElem?_getD, List.getElem?_append_left (by omega)]

set_option maxHeartbeats 1000000 in
set_option maxRecDepth 100000 in
theorem hsum256_any (hb : Nat) (m : List Int) (w : World) (hm : m.length ≤ 1152921504606846976) (hT : Tabs w) (hw : 2 ≤ w.heap.size) (hH : HashAt w hb m) :
    Calls Tryd.prog 31 #[.pointer (some ⟨hb, 0, none⟩)] w fun e w' => e = .returned (.agg (bytesA (sha m))) ∧ Upd (fun _ => False) w w' := by
  obtain ⟨arr, hblk, hsz, hone, hback⟩ := hH.blk
  have Hblk := Lib.hid hblk
  have Hsz := Lib.hid hsz
  have Hone := Lib.hid hone
  have Hback := Lib.hid hback
  have HH := Lib.hid hH
  have hlt := hblk.lt
  clear hblk hsz hone hback hH
  have hz67 : ∀ w, (zeroValue 67).run Tryd.prog w = .ok (.agg zero67) w := fun _ => by kernel_rfl
  have hs67 : zero67.size = 137 := by simp [zero67]
  go_enter Tryd.func31, Tryd.ntmps31
  go_wp2_with (first | (refine wpList_loadBlk rfl 67 _ rfl hb 0 137 rfl 67 arr _ (Hblk.out.alloc _) Tryd.underlying67 rfl info67 (by have := Hsz.out; omega) ?_; rw [extract_all _ _ Hsz.out]) | (refine wpList_storeBlk2 rfl 67 _ _ rfl (w.heap.size + 1) 0 137 rfl arr rfl 67 zero67 (by simpa using Blk.new (w.alloc _) zero67 67) info67 Hsz.out (by have := hs67; omega) Hone.out ?_; intro w2 hb2 hu2 hz2; rw [splice_all _ _ 137 hs67 Hsz.out] at hb2) | fail)
  have hu02 : Upd (fun _ => False) w w2 := (((Upd.refl (fun _ => False) w).alloc _).alloc _).step hu2 (fun i hi h => by omega)
  have hres : ∃ ra, Blk w2 w.heap.size 25 ra ∧ ra.size = 32 := ⟨_, hu2.blk ((Blk.new w _ 25).alloc _) (by omega), rfl⟩
  have hz : w2.heap.size = w.heap.size + 2 := by rw [hz2]; simp
  have Hres := Lib.hid hres
  have Hu02 := Lib.hid hu02
  have Hz := Lib.hid hz
  have HH2 : Hid (HashAt w2 (w.heap.size + 1) m) := Hback.out _ _ hb2
  have HH0 : Hid (HashAt w2 hb m) := HH.out.upd hu02 (fun h => h)
  have HT2 : Hid (Tabs w2) := hT.upd hu02 (fun h => h) (fun h => h)
  clear hu2 hb2 hz2 hu02 hres hz Hback HH Hblk hz67
  refine (padding_any hb m _ hm HH0.out).mono ?_
  rintro e w3 ⟨rfl, hu3, hb3⟩
  obtain ⟨n, hn⟩ : ∃ n, n = (padBytes m.length).length := ⟨_, rfl⟩
  have hn72 : n ≤ 72 := by rw [hn, padBytes_length]; omega
  rw [← hn]
  have Hn := Lib.hid hn
  have Hb3 := Lib.hid hb3
  have Hu3 := Lib.hid hu3
  clear hn hb3 hu3
  have hz3 := Hu3.out.size
  have hz2 := Hz.out
  have hps : SlS (w3.alloc (.cells #[.slice (some ⟨w2.heap.size, 0, none⟩) n n] 22)) (fun k => k = w.heap.size + 1) (.slice (some ⟨w3.heap.size, 0, none⟩) 1 1) [padBytes m.length] := by
    refine SlS.fresh1 22 ?_ (by omega)
    rw [Hn.out]
    exact Sl.ofBlk Hb3.out (fun j hj => by simp [hj]) (by omega) (Nat.le_refl _) (by rw [← Hn.out]; omega)
  have hu04 : Upd (fun _ => False) w (w3.alloc (.cells #[.slice (some ⟨w2.heap.size, 0, none⟩) n n] 22)) := (Hu02.out.trans Hu3.out).alloc _
  have hT4 := hT.upd hu04 (fun h => h) (fun h => h)
  have hH4 : HashAt (w3.alloc (.cells #[.slice (some ⟨w2.heap.size, 0, none⟩) n n] 22)) (w.heap.size + 1) m := HH2.out.upd (Hu3.out.alloc _) (fun h => h)
  have hr4 : ∃ ra, Blk (w3.alloc (.cells #[.slice (some ⟨w2.heap.size, 0, none⟩) n n] 22)) w.heap.size 25 ra ∧ ra.size = 32 := by
    obtain ⟨ra, h1, h2⟩ := Hres.out
    exact ⟨ra, (Hu3.out.blk h1 (fun h => h)).alloc _, h2⟩
  have HW := Lib.hid (write256_any (w.heap.size + 1) m [padBytes m.length] _ _ (by simp only [List.flatten_cons, List.flatten_nil, List.append_nil]; rw [← Hn.out]; omega) hps hT4 (by omega) hH4)
  have Hu04 := Lib.hid hu04
  have Hr4 := Lib.hid hr4
  clear hps hu04 hT4 hH4 hr4 hz2 hz3
  go_wp2_with fail
  refine HW.out.mono ?_
  rintro e w5 ⟨rfl, hu5, hH5⟩
  rw [List.flatten_cons, List.flatten_nil, List.append_nil] at hH5
  have hu05 : Upd (fun _ => False) w w5 := Hu04.out.step hu5 (fun i hi h => by omega)
  obtain ⟨ra, hra, sra⟩ := Hr4.out
  have hra5 := hu5.blk hra (by omega)
  obtain ⟨arr5, r5, hb5, hsz5, _, _, _, hst5⟩ := hH5.ex
  obtain ⟨M, hM⟩ : ∃ M, M = m ++ padBytes m.length := ⟨_, rfl⟩
  have Hsha : Hid (sha m = (List.range 8).flatMap fun i => be32 (stAt M (M.length / 64) i)) := by rw [hM]; rfl
  rw [← hM] at hst5
  generalize stAt M (M.length / 64) = st at *
  have Hu05 := Lib.hid hu05
  have Hra5 := Lib.hid hra5
  have Hsz5 := Lib.hid hsz5
  have Hst5 := Lib.hid hst5
  clear hM hu5 hH5 hu05 hra hra5 hsz5 hst5 HW Hr4 Hu04 Hres
  go_wp2_with (refine wpList_loadBlk rfl 65 _ rfl (w.heap.size + 1) 129 8 rfl 67 arr5 _ (hb5.alloc _) Tryd.underlying65 rfl info65 (by have := Hsz5.out; omega) ?_)
  have hz5 := Hu05.out.size
  have hgz : w.heap.size < w5.heap.size := by have := hb5.lt; omega
  go_loopw [18] (fun i wr => ∃ k : Nat, k ≤ 8 ∧ i = .int .i64 k ∧ SRel w wr w5.heap.size ra st k) (fun i _ => 8 - (intOf i).toNat)
  case atStart => exact ⟨0, by omega, rfl, Hu05.out.alloc _, Hra5.out.alloc _, _, Blk.new w5 _ 25, rfl, fun j hj => absurd hj (by omega)⟩
  case round =>
    obtain ⟨k, hk, rfl, hrel⟩ := hrel
    obtain ⟨arrk, h1, h2, h3⟩ := hrel.blk
    by_cases hlt : k < 8
    · have hidx : ∀ w, (Instr.index 65 (.agg (arr5.extract 129 137)) (.int .i64 k)).run Tryd.prog w = .ok (.int .u32 (st k)) w := fun w =>
        run_index_agg w 65 64 8 _ .i64 k _ Tryd.underlying65 info64 (fun d hd => by rw [Tryd.underlying64] at hd; cases hd; rfl) (by rw [Tryd.underlying64]; rfl) hlt (by
          rw [Array.getElem?_extract_of_lt (by have := Hsz5.out; omega)]
          rw [← Array.getElem?_eq_getElem]
          exact Hst5.out k hlt)
      have hsl : ∀ w', (Instr.sliceAt 25 (.pointer (some ⟨w5.heap.size, 0, none⟩)) (some (.int .i64 (4 * (k : Int)))) none none).run Tryd.prog w' = .ok (.slice (some ⟨w5.heap.size, 4 * k, none⟩) (32 - 4 * k) (32 - 4 * k)) w' := fun w' => by
        have := run_sliceArrL (P := Tryd.prog) w' 25 5 32 w5.heap.size 0 .i64 (4 * k) (4 * (k : Int)) (by omega) Tryd.underlying25 info5 (by omega)
        rw [Nat.zero_add] at this
        exact this
      have HP := Lib.hid (put32_any w5.heap.size (4 * k) (32 - 4 * k) (32 - 4 * k) (st k) 25 arrk wr (by omega) h1 (by omega))
      have H1 := Lib.hid h1
      clear h1 h2 h3
      go_wp2_with fail
      refine HP.out.mono ?_
      rintro e w6 ⟨rfl, hu6, hz6, hb6⟩
      have HR := Lib.hid (hrel.next hgz hlt H1.out hu6 hb6)
      clear hu6 hz6 hb6 hidx HP hsl
      go_wp2
      go_roundw
      case rel => exact ⟨k + 1, by omega, by go_num, HR.out⟩
      case measure => simp [intOf]; omega
    · have h8 : k = 8 := by omega
      have hex : arrk = bytesA (sha m) := by
        have hl : (sha m).length = 32 := by rw [Hsha.out]; exact flat_length st 8
        apply Array.ext_getElem?
        intro j
        by_cases hj : j < 32
        · rw [h3 j (by omega), bytesA_get _ _ (by omega), Hsha.out, h8]; rfl
        · rw [Array.getElem?_eq_none (by omega), Array.getElem?_eq_none (by rw [bytesA_size]; omega)]
      subst hex
      have Hu := Lib.hid hrel.upd
      have Hres := Lib.hid hrel.res
      have H2 := Lib.hid h2
      have Hsra := Lib.hid sra
      clear h3 h2 hrel sra
      generalize hA : bytesA (sha m) = A at *
      have hAone : ∀ v ∈ A.toList, v.oneCell' = true := by rw [← hA]; exact bytesA_one _
      have HA := Lib.hid hA
      have HAone := Lib.hid hAone
      clear hA hAone
      go_wp2_with (first | (refine wpList_loadBlk rfl 25 _ rfl w5.heap.size 0 32 rfl 25 A _ h1 Tryd.underlying25 rfl info25 (by have := H2.out; omega) ?_; rw [extract_all _ _ H2.out]) | (refine wpList_storeBlk2 rfl 25 _ _ rfl w.heap.size 0 32 rfl A rfl 25 ra Hres.out info25 H2.out (by have := Hsra.out; omega) HAone.out ?_; intro w7 hb7 hu7 hz7; rw [splice_all _ _ 32 Hsra.out H2.out] at hb7))
      refine bodyPost_ret (v := .agg A) (results_cell_row (fn := Tryd.f31) (p := 2) (ty := 25) rfl _ _ w.heap.size 25 A (0, 0) _ rfl hb7 Tryd.underlying25 rfl (by rw [H2.out]; exact info25)) rfl ⟨by rw [HA.out], Hu.out.step hu7 (fun i hi h => by omega)⟩
theorem sha_length (m : List Int) : (sha m).length = 32 := flat_length _ 8

/-- Where a call has laid its result. -/
theorem ret_blk {fn : Func} {p : Tmp} {R : Ending → World → Prop} (hf : fn.results = #[.cell p 25]) {a : Act} {w : World} {g : Nat} {A : Array Value} (hp : a.tmps.getD p undef = .pointer (some ⟨g, 0, none⟩)) (hd : a.defers = []) (hb : Blk w g 25 A) (hA : A.size = 32) (hR : R (.returned (.agg A)) w) :
    bodyPost Tryd.prog fn R .ret a w :=
  bodyPost_ret (v := .agg A) (results_cell_row (P := Tryd.prog) hf _ _ g 25 A (0, 0) _ hp hb Tryd.underlying25 rfl (by rw [hA]; exact info25)) hd hR

set_option maxHeartbeats 1000000 in
theorem sum256_any (ps : List (List Int)) (v : Value) (w : World) (hm : ps.flatten.length ≤ 1152921504606846976) (hT : Tabs w) (hw : 2 ≤ w.heap.size) (hv : SlS w (fun k => w.heap.size ≤ k) v ps) :
    Calls Tryd.prog 22 #[v] w fun e w' => e = .returned (.agg (bytesA (sha ps.flatten))) ∧ Upd (fun _ => False) w w' := by
  have Hv := Lib.hid hv
  have HT := Lib.hid hT
  clear hv hT
  go_enter Tryd.func22, Tryd.ntmps22
  go_wp2_with fail
  refine (new256_any _ (HT.out.upd ((Upd.refl (fun _ => False) w).alloc _) (fun h => h) (fun h => h))).mono ?_
  rintro e w2 ⟨rfl, hu2, hH2⟩
  have hu02 := ((Upd.refl (fun _ => False) w).alloc _).trans hu2
  rw [World.size_alloc] at hH2 ⊢
  have hres := hu2.blk (Blk.new w _ 25) (fun h => h)
  have Hu02 := Lib.hid hu02
  have HH2 := Lib.hid hH2
  have Hres := Lib.hid hres
  clear hu2 hu02 hH2 hres
  go_wp2_with fail
  refine (write256_any (w.heap.size + 1) [] ps v w2 (by rw [List.length_nil, Nat.zero_add]; omega) ((Hv.out.upd Hu02.out (fun k h => h.elim)).mono' (fun k h => by omega)) (HT.out.upd Hu02.out (fun h => h) (fun h => h)) (by omega) HH2.out).mono ?_
  rintro e w3 ⟨rfl, hu3, hH3⟩
  rw [List.nil_append] at hH3
  have hu03 : Upd (fun _ => False) w w3 := Hu02.out.step hu3 (fun i hi h => by omega)
  have hres3 := hu3.blk Hres.out (by omega)
  have Hu03 := Lib.hid hu03
  have HH3 := Lib.hid hH3
  have Hres3 := Lib.hid hres3
  clear hu3 hH3 hu03 hres3 Hu02 HH2 Hres
  go_wp2_with fail
  refine (hsum256_any (w.heap.size + 1) ps.flatten w3 hm (HT.out.upd Hu03.out (fun h => h) (fun h => h)) (by have := Hu03.out.size; omega) HH3.out).mono ?_
  rintro e w4 ⟨rfl, hu4⟩
  have hu04 := Hu03.out.trans hu4
  have hres4 := hu4.blk Hres3.out (fun h => h)
  have hsA : (bytesA (sha ps.flatten)).size = 32 := by rw [bytesA_size, sha_length]
  have hone := bytesA_one (sha ps.flatten)
  generalize hA : bytesA (sha ps.flatten) = A at *
  have HA := Lib.hid hA
  clear hA
  have Hu04 := Lib.hid hu04
  have HsA := Lib.hid hsA
  have Hone := Lib.hid hone
  clear hu4 hu04 hsA hone Hres3 HH3
  go_wp2_with (refine wpList_storeBlk2 rfl 25 _ _ rfl w.heap.size 0 32 rfl A rfl 25 _ hres4 info25 HsA.out (by simp) Hone.out ?_; intro w7 hb7 hu7 hz7; rw [splice_all _ _ 32 rfl HsA.out] at hb7)
  exact ret_blk rfl rfl rfl hb7 HsA.out ⟨by rw [HA.out], Hu04.out.step hu7 (fun i hi h => by omega)⟩
end Go.Proofs.YtcdcoennnmbbdaaDoor
