/-
  mac.Expand.
-/
import Derived.Test.YtcdcoennnmbbdaaDoorCounts
import Derived.Test.YtcdcoennnmbbdaaDoorLong
namespace Go.Proofs.YtcdcoennnmbbdaaDoor
open Go.RowKit

/-- The k-th sum; the sums one behind the other. -/
def tN (key info : List Int) : Nat → List Int
  | 0 => []
  | k + 1 => hmac key (tN key info k ++ (info ++ [(k : Int) + 1]))
def okm (key info : List Int) : Nat → List Int
  | 0 => []
  | k + 1 => okm key info k ++ tN key info (k + 1)
theorem okm_length (key info : List Int) (k : Nat) : (okm key info k).length = 32 * k := by
  induction k with
  | zero => rfl
  | succ k ih => rw [okm, List.length_append, ih, tN, hmac_length]; omega
theorem tN_length (key info : List Int) (k : Nat) : (tN key info k).length ≤ 32 := by
  cases k with
  | zero => simp [tN]
  | succ k => rw [tN, hmac_length]; omega

theorem Own.upd2 {w w' : World} {base : Nat} {v : Value} {xs : List Int} {S : Nat → Prop} (h : Own w base v xs) (u : Upd S w w') (hs : ∀ k, v.ownBlock = some k → ¬ S k) : Own w' base v xs := by
  obtain ⟨h1, h2⟩ := h
  refine ⟨h1, ?_⟩
  rcases h2 with h2 | ⟨g, cap, cur, hv, hg, hh, r⟩
  · exact Or.inl h2
  · exact Or.inr ⟨g, cap, cur, hv, hg, u.blk (b := g) (t := 5) hh (hs g (by rw [hv]; rfl)), r⟩
theorem Own.block {w : World} {base : Nat} {v : Value} {xs : List Int} (h : Own w base v xs) {k : Nat} (hk : v.ownBlock = some k) : base ≤ k ∧ ∃ cur, Blk w k 5 cur := by
  rcases h.2 with ⟨rfl, _⟩ | ⟨g, cap, cur, rfl, hg, hh, _⟩
  · cases hk
  · simp only [Value.ownBlock, Option.some.injEq] at hk
    subst hk
    exact ⟨hg, cur, hh⟩
theorem run_appendSl2 (w : World) (ty : TypeId) (base : Nat) (v : Value) (xs : List Int) (hown : Own w base v xs) {S : Nat → Prop} (u : Value) (p : List Int) (hu : Sl w S u p) (hb : xs.length + p.length ≤ 140737488355328) (hbase : base ≤ w.heap.size) :
    ∃ v' w', (Builtin.append_ #[22, 22] ty #[v, u]).run Tryd.prog w = .ok v' w' ∧ Own w' base v' (xs ++ p) ∧ Upd (fun k => v.ownBlock = some k) w w' := by
  obtain ⟨sp, cap, rfl, h1, h2, h3⟩ := hu
  by_cases h0 : 0 < p.length
  · obtain ⟨pb, po, rfl, _, hc⟩ := h3 h0
    obtain ⟨i, hi, hz, hs, hby⟩ := info5i
    obtain ⟨v', w', hr, ho, hg, _⟩ := run_append_own (P := Tryd.prog) w base 22 ty 5 i (.int .u8 0) 1 1 Tryd.underlying22 hi hz hs hby rfl (by omega) v xs.length (xs.map (Value.int .u8)) hown ⟨pb, po, none⟩ p.length cap (p.map (Value.int .u8)) (by simp) (src_cells hc) (one_map .u8 p) (by unfold maxLen; omega) (by omega) hbase
    refine ⟨v', w', hr, ?_, ⟨hg.os, hg.tape, hg.output, hg.size, fun k hk hs => hg.block k hk (fun e => hs e.symm)⟩⟩
    unfold Own
    rw [List.length_append, List.map_append]
    exact ho
  · obtain rfl : p = [] := List.eq_nil_of_length_eq_zero (by omega)
    refine ⟨v, w, ?_, by simpa using hown, Upd.refl _ w⟩
    exact run_append_empty w ty base v xs hown sp cap
theorem wpList_appendSl2 {ops : Array Oper} {rest : List Oper} {o : Oper} {a : Act} {w : World} {Q : Exit → Act → World → Prop} (hgd : o.guard = none) (s x : Operand)
    (ho : o.op = .call { callee := .builtin .append, args := #[s, x], argTypes := #[22, 22] }) (base : Nat) (v : Value) (xs : List Int) (hs : a.eval s = v) (hown : Own w base v xs) {S : Nat → Prop} (u : Value) (hx : a.eval x = u) (p : List Int) (hu : Sl w S u p)
    (hb : xs.length + p.length ≤ 140737488355328) (hbase : base ≤ w.heap.size)
    (h : ∀ v' w', Own w' base v' (xs ++ p) → Upd (fun k => v.ownBlock = some k) w w' → wpList Tryd.prog ops Q rest (a.put o.dst v') w') : wpList Tryd.prog ops Q (o :: rest) a w := by
  obtain ⟨v', w', hr, h1, h2⟩ := run_appendSl2 w o.type base v xs hown u p hu hb hbase
  refine wpList_plain hgd fun K hK => ?_
  unfold Oper.wp
  simp [execOp, ho, resolve, invoke, builtin, hs, hx, hr, Result.andThen]
  exact hK _ _ (h _ _ h1 h2)

theorem okm_take (key info : List Int) (n : Nat) : ∀ (d k : Nat), n ≤ 32 * k → (okm key info (k + d)).take n = (okm key info k).take n := by
  intro d
  induction d with
  | zero => intro k _; rfl
  | succ d ih =>
    intro k h
    rw [← Nat.add_assoc, okm, List.take_append_of_le_length (by rw [okm_length]; omega)]
    exact ih k h
/-- All that Expand can give. -/
def okmAll (key info : List Int) : List Int := okm key info 255
theorem okmAll_take (key info : List Int) (n k : Nat) (h : n ≤ 32 * k) (hk : k ≤ 255) : (okm key info k).take n = (okmAll key info).take n := by
  have := okm_take key info n (255 - k) k h
  rw [← this, okmAll, show k + (255 - k) = 255 by omega]
theorem okmAll_length (key info : List Int) : (okmAll key info).length = 8160 := by rw [okmAll, okm_length]
attribute [irreducible] okmAll
/-- A slice's head, its capacity cut too. -/
theorem Sl.take3 {w : World} {S : Nat → Prop} {sp : Option Addr} {n cap k : Nat} {p : List Int} (h : Sl w S (.slice sp n cap) p) (hk : k ≤ n) : Sl w S (.slice sp k k) (p.take k) := by
  obtain ⟨sp', cap', h1, h2, h3, h4⟩ := h
  simp only [Value.slice.injEq] at h1
  obtain ⟨rfl, rfl, rfl⟩ := h1
  have hl : (p.take k).length = k := by simp; omega
  refine ⟨sp, k, by rw [hl], by omega, by omega, fun h0 => ?_⟩
  obtain ⟨pb, po, e, hs, hc⟩ := h4 (by omega)
  refine ⟨pb, po, e, hs, fun j hj => ?_⟩
  rw [hc j (by omega), List.getD_eq_getElem?_getD, List.getD_eq_getElem?_getD, List.getElem?_take_of_lt (by omega)]
theorem Own.cap {w : World} {base : Nat} {sp : Option Addr} {n cap : Nat} {xs : List Int} (h : Own w base (.slice sp n cap) xs) : n ≤ cap ∧ n = xs.length := by
  rcases h.2 with ⟨h1, h2⟩ | ⟨g, cap', cur, h1, _, _, h3, _⟩
  · simp only [Value.slice.injEq] at h1
    omega
  · simp only [Value.slice.injEq] at h1
    omega

structure EX (key info : List Int) (w wr : World) (made last : Value) (k : Nat) : Prop where
  upd : Upd (fun _ => False) w wr
  kblk : Blk wr w.heap.size 25 (bytesA key)
  own : Own wr (w.heap.size + 1) made (okm key info k)
  lst : (k = 0 ∧ last = .slice none 0 0) ∨ ∃ lb, last = .slice (some ⟨lb, 0, none⟩) 32 32 ∧ w.heap.size < lb ∧ Blk wr lb 25 (bytesA (tN key info k)) ∧ 0 < k
theorem EX.last {key info : List Int} {w wr : World} {made last : Value} {k : Nat} (h : EX key info w wr made last k) {S : Nat → Prop} (hs : ∀ k, k < wr.heap.size → ¬ S k) : Sl wr S last (tN key info k) := by
  rcases h.lst with ⟨rfl, rfl⟩ | ⟨lb, rfl, _, hb, hk⟩
  · exact ⟨none, 0, rfl, by simp [tN], by simp [tN], fun h => absurd h (by simp [tN])⟩
  · have hl : (tN key info k).length = 32 := by
      cases k with
      | zero => omega
      | succ k => rw [tN, hmac_length]
    have := Sl.ofBlk (S := S) (cap := 32) hb (bytesA_get _) (hs lb hb.lt) (by omega) (by omega)
    rwa [hl] at this

set_option maxHeartbeats 4000000 in
theorem expand_some (key : List Int) (ps : List (List Int)) (vp : Value) (n : Nat) (w : World) (hk : key.length = 32) (hn : n ≤ 8160) (hT : Tabs w) (hw : 2 ≤ w.heap.size) (hp : SlS w (fun k => w.heap.size ≤ k) vp ps) (hpl : ps.flatten.length ≤ 1152921504606840000) :
    Calls Tryd.prog 17 #[.agg (bytesA key), .int .i64 n, vp] w fun e w' => ∃ v, e = .returned (.tuple #[v, .int .i64 0]) ∧ Upd (fun _ => False) w w' ∧ Sl w' (fun _ => False) v ((okmAll key ps.flatten).take n) := by
  have HT := Lib.hid hT
  have Hp := Lib.hid hp
  have Hk := Lib.hid hk
  clear hT hp hk
  obtain ⟨info, hinfo⟩ : ∃ info, info = ps.flatten := ⟨_, rfl⟩
  rw [← hinfo] at hpl ⊢
  have Hinfo := Lib.hid hinfo
  clear hinfo
  go_enter Tryd.func17, Tryd.ntmps17
  go_wp2
  go_loopw [8, 9, 10] (fun made last num wr => ∃ k : Nat, k ≤ 255 ∧ num = .int .i64 ((k : Int) + 1) ∧ EX key info w wr made last k) (fun made _ _ _ => 8192 - sliceLen made)
  case atStart => exact ⟨0, by omega, rfl, (Upd.refl _ w).alloc _, Blk.new w _ 25, Own.nil _ _, Or.inl ⟨rfl, rfl⟩⟩
  case round =>
    obtain ⟨k, hk, rfl, hE⟩ := hrel
    have hol := okm_length key info k
    obtain ⟨sp8, cap8, hv8⟩ := hE.own.len
    obtain ⟨sp9, n9, cap9, hv9⟩ : ∃ sp m cap, u9 = .slice sp m cap := by
      rcases hE.lst with ⟨_, h⟩ | ⟨lb, h, _⟩
      · exact ⟨_, _, _, h⟩
      · exact ⟨_, _, _, h⟩
    rw [hol] at hv8
    rw [hv8, hv9] at hE ⊢
    clear hv8 hv9
    have hz := hE.upd.size
    have hcap := hE.own.cap.1
    have HE := Lib.hid hE
    by_cases hlt : 32 * k < n
    · have HL9 : Hid (Sl wr (fun k => wr.heap.size ≤ k) (.slice sp9 n9 cap9) (tN key info k)) := hE.last (fun k hk h => by omega)
      have HKs : Hid (Sl wr (fun k => wr.heap.size ≤ k) (.slice (some ⟨w.heap.size, 0, none⟩) 32 32) key) := by
        have := Sl.ofBlk (S := fun k => wr.heap.size ≤ k) (cap := 32) hE.kblk (bytesA_get key) (by have := hE.kblk.lt; omega) (by have := Hk.out; omega) (by omega)
        rwa [Hk.out] at this
      have hTl := tN_length key info k
      have Hsucc : Hid (okm key info (k + 1) = okm key info k ++ tN key info (k + 1)) := rfl
      have Hnext : Hid (tN key info (k + 1) = hmac key (tN key info k ++ (info ++ [(k : Int) + 1]))) := rfl
      have hwr : 2 ≤ wr.heap.size := by omega
      clear hE hol
      generalize hTk : tN key info k = T at *
      have HTk := Lib.hid hTk
      clear hTk
      go_wp2_with fail
      refine (mnew_any key _ wr (HT.out.upd HE.out.upd (fun h => h) (fun h => h)) hwr HKs.out).mono ?_
      rintro e w2 ⟨mb, hb, rfl, hmb, hhb, hu2, hM2⟩
      have hc2 := hM2.cell0
      have hz2 := hu2.size
      have hhlt := hM2.hash.lt
      have HM2 := Lib.hid hM2
      have Hu2 := Lib.hid hu2
      clear hM2 hu2
      go_wp2_with fail
      have hua : Upd (fun _ => False) w2 (w2.alloc (.cells #[.slice sp9 n9 cap9] 22)) := (Upd.refl _ w2).alloc _
      have hps : SlS (w2.alloc (.cells #[.slice sp9 n9 cap9] 22)) (fun k => k = hb) (.slice (some ⟨w2.heap.size, 0, none⟩) 1 1) [T] := SlS.fresh1 22 ((HL9.out.upd Hu2.out (fun k h => h.elim)).mono (fun k _ h => by omega)) (by omega)
      have hura : Upd (fun _ => False) wr (w2.alloc (.cells #[.slice sp9 n9 cap9] 22)) := Hu2.out.trans hua
      refine (write256_any hb _ [T] _ _ (by rw [List.flatten_cons, List.flatten_nil, List.append_nil, maskK_length, fillK_length]; omega) hps (HT.out.upd (HE.out.upd.trans hura) (fun h => h) (fun h => h)) (by omega) (HM2.out.hash.upd hua (fun h => h))).mono ?_
      rintro e w3 ⟨rfl, hu3, hH3⟩
      rw [List.flatten_cons, List.flatten_nil, List.append_nil] at hH3
      have hM3 : MacAt w3 mb hb (maskK 92 (fillK key)) (maskK 54 (fillK key) ++ T) := by
        obtain ⟨marr, h1, h2⟩ := HM2.out.blk
        exact ⟨⟨marr, hu3.blk (hua.blk h1 (fun h => h)) HM2.out.ne, h2⟩, hH3, HM2.out.ne⟩
      have Hu3 : Hid (Upd (fun _ => False) wr w3) := hura.step hu3 (fun i hi h => by omega)
      have hz3 := Hu3.out.size
      have hc3 := hM3.cell0
      have HM3 := Lib.hid hM3
      clear hc2 HM2 hua hps hura hu3 hH3 hM3
      go_wp2_with fail
      refine (write256_any hb _ ps vp w3 (by rw [List.length_append, maskK_length, fillK_length, ← Hinfo.out]; omega) ((Hp.out.upd (HE.out.upd.trans Hu3.out) (fun k h => h.elim)).mono' (fun k h => by omega)) (HT.out.upd (HE.out.upd.trans Hu3.out) (fun h => h) (fun h => h)) (by omega) HM3.out.hash).mono ?_
      rintro e w4 ⟨rfl, hu4, hH4⟩
      rw [← Hinfo.out] at hH4
      have hM4 : MacAt w4 mb hb (maskK 92 (fillK key)) (maskK 54 (fillK key) ++ T ++ info) := by
        obtain ⟨marr, h1, h2⟩ := HM3.out.blk
        exact ⟨⟨marr, hu4.blk h1 HM3.out.ne, h2⟩, hH4, HM3.out.ne⟩
      have Hu4 : Hid (Upd (fun _ => False) wr w4) := Hu3.out.step hu4 (fun i hi h => by omega)
      have hz4 := Hu4.out.size
      have hc4 := hM4.cell0
      have hh4 := hM4.hash.lt
      have HM4 := Lib.hid hM4
      clear hc3 HM3 Hu3 hu4 hH4 hM4
      go_wp2_with fail
      have hS1 : Sl (w4.alloc (.cells #[.int .u8 ((k : Int) + 1)] 5)) (fun k => k = hb) (.slice (some ⟨w4.heap.size, 0, none⟩) 1 1) [(k : Int) + 1] :=
        ⟨_, 1, rfl, Nat.le_refl _, by simp, fun _ => ⟨w4.heap.size, 0, rfl, by omega, fun j hj => by obtain rfl : j = 0 := (by simp at hj; omega); simp⟩⟩
      have hua : Upd (fun _ => False) w4 ((w4.alloc (.cells #[.int .u8 ((k : Int) + 1)] 5)).alloc (.cells #[.slice (some ⟨w4.heap.size, 0, none⟩) 1 1] 22)) := ((Upd.refl _ w4).alloc _).alloc _
      have hps : SlS ((w4.alloc (.cells #[.int .u8 ((k : Int) + 1)] 5)).alloc (.cells #[.slice (some ⟨w4.heap.size, 0, none⟩) 1 1] 22)) (fun k => k = hb) (.slice (some ⟨w4.heap.size + 1, 0, none⟩) 1 1) [[(k : Int) + 1]] := by
        have := SlS.fresh1 22 hS1 (by rw [World.size_alloc]; omega)
        rwa [World.size_alloc] at this
      refine (write256_any hb _ [[(k : Int) + 1]] _ _ (by simp only [List.flatten_cons, List.flatten_nil, List.append_nil, List.length_append, List.length_cons, List.length_nil, maskK_length, fillK_length]; omega) hps (HT.out.upd (HE.out.upd.trans (Hu4.out.trans hua)) (fun h => h) (fun h => h)) (by omega) (HM4.out.hash.upd hua (fun h => h))).mono ?_
      rintro e w5 ⟨rfl, hu5, hH5⟩
      rw [List.flatten_cons, List.flatten_nil, List.append_nil, List.append_assoc, List.append_assoc] at hH5
      have hM5 : MacAt w5 mb hb (maskK 92 (fillK key)) (maskK 54 (fillK key) ++ (T ++ (info ++ [(k : Int) + 1]))) := by
        obtain ⟨marr, h1, h2⟩ := HM4.out.blk
        exact ⟨⟨marr, hu5.blk (hua.blk h1 (fun h => h)) HM4.out.ne, h2⟩, hH5, HM4.out.ne⟩
      have Hu5 : Hid (Upd (fun _ => False) wr w5) := (Hu4.out.trans hua).step hu5 (fun i hi h => by omega)
      have hz5 := Hu5.out.size
      have HM5 := Lib.hid hM5
      clear hc4 HM4 Hu4 hu5 hH5 hM5 hS1 hua hps
      go_wp2_with fail
      refine (msum_any mb hb _ _ w5 (by simp only [List.length_append, List.length_cons, List.length_nil, maskK_length, fillK_length]; omega) (by rw [maskK_length, fillK_length]) (HT.out.upd (HE.out.upd.trans Hu5.out) (fun h => h) (fun h => h)) (by omega) HM5.out).mono ?_
      rintro e w6 ⟨rfl, hu6⟩
      have e1 : sha (maskK 92 (fillK key) ++ sha (maskK 54 (fillK key) ++ (T ++ (info ++ [(k : Int) + 1])))) = tN key info (k + 1) := Hnext.out.symm
      rw [e1]
      have HSl : Hid ((tN key info (k + 1)).length = 32) := by show _ = _; rw [Hnext.out, hmac_length]
      generalize hN : tN key info (k + 1) = N at *
      have HN := Lib.hid hN
      have HNA : Hid ((bytesA N).size = 32) := by show _ = _; rw [bytesA_size, HSl.out]
      have HNone := Lib.hid (bytesA_one N)
      have Hu6 : Hid (Upd (fun _ => False) wr w6) := Hu5.out.trans hu6
      have hz6 := Hu6.out.size
      clear e1 hN hu6 Hu5 HM5 Hnext
      have H7 : Hid (∀ w7, Blk w7 w6.heap.size 25 (bytesA N) → Upd (fun k => k = w6.heap.size) (w6.alloc (.cells (Array.replicate 32 (Value.int .u8 0)) 25)) w7 → w7.heap.size = (w6.alloc (.cells (Array.replicate 32 (Value.int .u8 0)) 25)).heap.size → Upd (fun _ => False) wr w7 ∧ Own w7 (w.heap.size + 1) (.slice sp8 (32 * k) cap8) (okm key info k) ∧ Sl w7 (fun _ => False) (.slice (some ⟨w6.heap.size, 0, none⟩) 32 32) N ∧ w7.heap.size = w6.heap.size + 1) := by
        intro w7 hb7 hu7 hz7
        have hur7 : Upd (fun _ => False) wr w7 := (Hu6.out.alloc _).step hu7 (fun i hi h => by omega)
        refine ⟨hur7, HE.out.own.upd hur7 (fun _ _ h => h), ?_, by rw [hz7, World.size_alloc]⟩
        have := Sl.ofBlk (S := fun _ => False) (cap := 32) hb7 (bytesA_get N) (fun h => h) (Nat.le_of_eq HSl.out) (by omega)
        rwa [HSl.out] at this
      go_wp2_with (first | (refine wpList_storeBlk2 rfl 25 _ _ rfl w6.heap.size 0 32 rfl (bytesA N) rfl 25 _ (Blk.new w6 _ 25) info25 HNA.out (by simp) HNone.out ?_; intro w7 hb7 hu7 hz7; rw [splice_all _ _ 32 rfl HNA.out] at hb7; have Hb7 := Lib.hid hb7; have H7' := Lib.hid (H7.out w7 hb7 hu7 hz7); clear hb7 hu7 hz7) | (refine wpList_appendSl2 rfl (.tmp 52) (.tmp 53) rfl (w.heap.size + 1) (.slice sp8 (32 * k) cap8) (okm key info k) rfl H7'.out.2.1 (.slice (some ⟨w6.heap.size, 0, none⟩) 32 32) rfl N H7'.out.2.2.1 (by rw [okm_length, HSl.out]; omega) (by rw [H7'.out.2.2.2]; have := HE.out.kblk.lt; omega) ?_; intro v8 w8 hO8 hu8; have HO8 := Lib.hid hO8; have Hu8 := Lib.hid hu8; clear hO8 hu8))
      obtain ⟨hur7, _, _, _⟩ := H7'.out
      have Hur7 := Lib.hid hur7
      go_roundw
      case rel =>
        have hblk : ∀ j, (Value.slice sp8 (32 * k) cap8).ownBlock = some j → w.heap.size + 1 ≤ j ∧ j < wr.heap.size := fun j hj => by
          obtain ⟨h1, cur, h2⟩ := HE.out.own.block hj
          exact ⟨h1, h2.lt⟩
        refine ⟨k + 1, by omega, by go_num, (HE.out.upd.trans Hur7.out).step Hu8.out (fun i hi h => by have := hblk i h; omega), Hu8.out.blk (Hur7.out.blk HE.out.kblk (fun h => h)) (fun h => by have := hblk _ h; omega), ?_, Or.inr ⟨w6.heap.size, rfl, by have := HE.out.kblk.lt; omega, ?_, by omega⟩⟩
        · rw [Hsucc.out]; exact HO8.out
        · rw [HN.out]; exact Hu8.out.blk Hb7.out (fun h => by have := hblk _ h; omega)
      case measure => 
        obtain ⟨s8, c8, rfl⟩ := HO8.out.len
        simp [sliceLen, okm_length, HSl.out]
        omega
    · clear hE
      go_wp2_with fail
      go_ret2
      refine ⟨_, rfl, HE.out.upd, ?_⟩
      rw [← okmAll_take key info n k (by omega) hk]
      exact Sl.take3 (HE.out.own.sl (fun _ _ _ h => h) (by rw [hol]; omega)) (by omega)

theorem expand_none (key : List Int) (vp : Value) (n : Int) (w : World) (hn : n < 0 ∨ 8160 < n) (hl : -9223372036854775808 ≤ n ∧ n ≤ 9223372036854775807) :
    Calls Tryd.prog 17 #[.agg (bytesA key), .int .i64 n, vp] w fun e w' => e = .returned (.tuple #[.slice none 0 0, .int .i64 1]) ∧ Upd (fun _ => False) w w' := by
  go_enter Tryd.func17, Tryd.ntmps17
  by_cases h0 : n < 0
  · go_wp2
    go_ret2
    exact ⟨rfl, (Upd.refl _ w).alloc _⟩
  · have h1 : 8160 < n := by omega
    go_wp2
    go_ret2
    exact ⟨rfl, (Upd.refl _ w).alloc _⟩
/-- mac.Expand at any number. -/
theorem expand_any (key : List Int) (ps : List (List Int)) (vp : Value) (n : Int) (w : World) (hk : key.length = 32) (hl : -9223372036854775808 ≤ n ∧ n ≤ 9223372036854775807) (hT : Tabs w) (hw : 2 ≤ w.heap.size) (hp : SlS w (fun k => w.heap.size ≤ k) vp ps) (hpl : ps.flatten.length ≤ 1152921504606840000) :
    Calls Tryd.prog 17 #[.agg (bytesA key), .int .i64 n, vp] w fun e w' => Upd (fun _ => False) w w' ∧ ∃ v er, e = .returned (.tuple #[v, .int .i64 er]) ∧
      (((n < 0 ∨ 8160 < n) ∧ er = 1 ∧ v = .slice none 0 0) ∨ ((0 ≤ n ∧ n ≤ 8160) ∧ er = 0 ∧ Sl w' (fun _ => False) v ((okmAll key ps.flatten).take n.toNat))) := by
  by_cases h : n < 0 ∨ 8160 < n
  · exact (expand_none key vp n w h hl).mono fun e w' ⟨he, hu⟩ => ⟨hu, _, _, he, Or.inl ⟨h, rfl, rfl⟩⟩
  · obtain ⟨m, rfl⟩ := Int.eq_ofNat_of_zero_le (show 0 ≤ n by omega)
    exact (expand_some key ps vp m w hk (by omega) hT hw hp hpl).mono fun e w' ⟨v, he, hu, hs⟩ => ⟨hu, v, _, he, Or.inr ⟨by omega, rfl, hs⟩⟩
end Go.Proofs.YtcdcoennnmbbdaaDoor
