/-
  The walk of MacEqual.
-/
import Derived.Test.YtcdcoennnmbbdaaDoorMore
import Derived.Deep.RegionHeldLaw
import Derived.Test.YtcdcoennnmbbdaaDoorEqual
namespace Go.Proofs.YtcdcoennnmbbdaaDoor
open Go.RowKit

theorem strOfNums_inj {p q : List Int} (hp : Byt p) (hq : Byt q) (h : strOfNums p = strOfNums q) : p = q := by
  have hl : p.length = q.length := by
    have := congrArg ByteArray.size h
    rwa [strOfNums_size, strOfNums_size] at this
  refine list_ext_getD hl fun j hj => ?_
  have e : (p.map fun n => UInt8.ofNat n.toNat)[j]? = (q.map fun n => UInt8.ofNat n.toNat)[j]? := by rw [← strOfNums_data, ← strOfNums_data, h]
  have hj' : j < q.length := by omega
  simp only [List.getElem?_map, List.getElem?_eq_getElem hj, List.getElem?_eq_getElem hj', Option.map_some, Option.some.injEq] at e
  have e2 := congrArg UInt8.toNat e
  simp only [UInt8.toNat_ofNat'] at e2
  have bp := hp j
  have bq := hq j
  rw [List.getD_eq_getElem?_getD, List.getElem?_eq_getElem hj, Option.getD_some] at bp ⊢
  rw [List.getD_eq_getElem?_getD, List.getElem?_eq_getElem hj', Option.getD_some] at bq ⊢
  omega
theorem strs_eq {p q : List Int} (hp : Byt p) (hq : Byt q) : ((strOfNums p).toList == (strOfNums q).toList) = decide (p = q) := by
  by_cases h : p = q
  · subst h; simp
  · have : ¬ (strOfNums p).toList = (strOfNums q).toList := fun e => h (strOfNums_inj hp hq (by
      rw [ByteArray.toList_eq, ByteArray.toList_eq] at e
      have := Array.toList_inj.1 e
      cases hx : strOfNums p; cases hy : strOfNums q
      rw [hx, hy] at this
      exact congrArg ByteArray.mk this))
    simp [h, this]
theorem Byt.snoc {p : List Int} (h : Byt p) : Byt (p ++ [0]) := fun j => by
  by_cases hj : j < p.length
  · have := h j
    rw [List.getD_eq_getElem?_getD] at this ⊢
    rwa [List.getElem?_append_left hj]
  · rw [List.getD_eq_getElem?_getD, List.getElem?_append_right (by omega)]
    by_cases e : j - p.length = 0
    · simp [e]
    · rw [List.getElem?_eq_none (by simp; omega)]; simp
theorem Byt.take {p : List Int} (h : Byt p) (n : Nat) : Byt (p.take n) := fun j => by
  by_cases hj : j < n
  · have := h j
    rw [List.getD_eq_getElem?_getD] at this ⊢
    rwa [List.getElem?_take_of_lt hj]
  · rw [List.getD_eq_getElem?_getD, List.getElem?_eq_none (by simp; omega)]; simp
theorem Byt.set {p : List Int} (h : Byt p) (i : Nat) (x : Int) (hx : 0 ≤ x ∧ x < 256) : Byt (p.set i x) := fun j => by
  have := h j
  rw [List.getD_eq_getElem?_getD] at this ⊢
  rw [List.getElem?_set]
  split
  · split
    · exact hx
    · simp
  · exact this
theorem snoc_ne (p : List Int) : decide (p = p ++ [0]) = false := by
  rw [decide_eq_false_iff_not]
  intro h
  have := congrArg List.length h
  simp at this
/-- An empty slice of bytes whose block is known. -/
theorem Own.blank {w : World} {G base : Nat} (hb : Blk w G 5 #[]) (h : base ≤ G) : Own w base (.slice (some ⟨G, 0, none⟩) 0 0) [] :=
  ⟨rfl, Or.inr ⟨G, 0, #[], rfl, h, hb, by simp, by simp, rfl, rfl⟩⟩
theorem step_appendSl {ops : Array Oper} {o : Oper} {a : Act} {w : World} {K : Act → World → Prop} {Q : Exit → Act → World → Prop} {E : Prop} (hgd : Region.wanted o (yielded ops a.tmps) = true) (s x : Operand)
    (ho : o.op = .call { callee := .builtin .append, args := #[s, x], argTypes := #[22, 22] }) (base : Nat) (v : Value) (xs : List Int) (hs : a.eval s = v) (hown : Own w base v xs) {S : Nat → Prop} (u : Value) (hx : a.eval x = u) (p : List Int) (hu : Sl w S u p)
    (hb : xs.length + p.length ≤ 140737488355328) (hbase : base ≤ w.heap.size)
    (h : ∀ v' w', Own w' base v' (xs ++ p) → Upd (fun k => v.ownBlock = some k) w w' → K (a.put o.dst v') w') : if Region.wanted o (yielded ops a.tmps) = true then Oper.wp Tryd.prog o a w K Q else E := by
  obtain ⟨v', w', hr, h1, h2⟩ := run_appendSl2 w o.type base v xs hown u p hu hb hbase
  rw [if_pos hgd]
  unfold Oper.wp
  simp [execOp, ho, resolve, invoke, builtin, hs, hx, hr, Result.andThen]
  exact h _ _ h1 h2
/-- mac.Equal seen from an elder world. -/
theorem equal_at (p q : List Int) (v u : Value) (X : World) (S : Nat → Prop) (b : Bool) (hv : Sl X S v p) (hu : Sl X S u q) (hp : Byt p) (hq : Byt q) (hb : decide (p = q) = b) :
    Calls Tryd.prog 21 #[v, u] X fun e w' => e = .returned (.bool b) ∧ X = w' := by
  rw [← hb]; exact equal_any p q v u X S hv hu hp hq

theorem Sl.one1 {w : World} {S : Nat → Prop} {g : Nat} {x : Int} (hc : w.cell? ⟨g, 0, none⟩ = some (.int .u8 x)) (hs : ¬ S g) : Sl w S (.slice (some ⟨g, 0, none⟩) 1 1) [x] :=
  ⟨_, 1, rfl, Nat.le_refl _, by simp, fun _ => ⟨g, 0, rfl, hs, fun j hj => by obtain rfl : j = 0 := (by simp at hj; omega); simpa using hc⟩⟩

theorem Own.parts {w : World} {base : Nat} {v : Value} {xs : List Int} (h : Own w base v xs) (h0 : 0 < xs.length) : ∃ g cap cur, v = .slice (some ⟨g, 0, none⟩) xs.length cap ∧ base ≤ g ∧ Blk w g 5 cur ∧ (xs.length ≤ cap ∧ cap ≤ 9223372036854775807) ∧ ∀ j, j < xs.length → cur[j]? = some (.int .u8 (xs.getD j 0)) := by
  rcases h.2 with ⟨_, h1⟩ | ⟨g, cap, cur, hv, hg, hh, hn, hc, hcs, ht⟩
  · omega
  · refine ⟨g, cap, cur, hv, hg, hh, ⟨hn, by simpa [maxLen] using hc⟩, fun j hj => ?_⟩
    have e : (cur.toList.take (xs.length * 1))[j]? = (xs.map (Value.int .u8))[j]? := by rw [ht]
    rw [List.getElem?_take_of_lt (by omega), Array.getElem?_toList] at e
    rw [e]
    simp [hj]
theorem xor_one (x : Int) (hx : 0 ≤ x ∧ x < 256) : (0 ≤ bits .xor .u8 x 1 ∧ bits .xor .u8 x 1 < 256) ∧ bits .xor .u8 x 1 ≠ x := by
  have h1 := xor8_zero x 1 hx (by omega)
  refine ⟨⟨h1.1, h1.2.1⟩, fun e => ?_⟩
  obtain ⟨n, rfl⟩ := Int.eq_ofNat_of_zero_le hx.1
  rw [show (1 : Int) = ((1 : Nat) : Int) from rfl, u8_xor_nat n 1 (by omega) (by omega)] at e
  have e2 : n ^^^ 1 = n := by omega
  have e3 : n ^^^ (n ^^^ 1) = n ^^^ n := by rw [e2]
  rw [← Nat.xor_assoc, Nat.xor_self, Nat.zero_xor] at e3
  omega
theorem set_ne (p : List Int) (m : Nat) (y : Int) (hm : m < p.length) (hy : y ≠ p.getD m 0) : decide (p = p.set m y) = false := by
  rw [decide_eq_false_iff_not]
  intro h
  apply hy
  have : p.getD m 0 = (p.set m y).getD m 0 := congrArg (fun l => l.getD m 0) h
  rw [this, List.getD_eq_getElem?_getD, List.getElem?_set_self hm]
  rfl
theorem take_ne (p : List Int) (m : Nat) (hm : m < p.length) : decide (p.take m = p) = false := by
  rw [decide_eq_false_iff_not]
  intro h
  have := congrArg List.length h
  simp at this
  omega

set_option maxHeartbeats 4000000 in
theorem macEqual_any (p q : List Int) (v u : Value) (n : Int) (w : World) (hT : Tabs w) (hw : 2 ≤ w.heap.size) (hv : Sl w (fun k => w.heap.size ≤ k) v p) (hu : Sl w (fun k => w.heap.size ≤ k) u q) (hp : Byt p) (hq : Byt q) (hpl : p.length ≤ 140737488351232) (hn : -9223372036854775808 ≤ n) (hn' : n ≤ 9223372036854775807) :
    Calls Tryd.prog 7 #[v, u, .int .i64 n] w fun e w' => e = .returned (.bool true) ∧ Upd (fun _ => False) w w' := by
  have HT := Lib.hid hT
  have Hv := Lib.hid hv
  have Hu := Lib.hid hu
  have Hp := Lib.hid hp
  have Hq := Lib.hid hq
  obtain ⟨sp, cap, rfl, hpc, hpc2, _⟩ := hv
  obtain ⟨sq, caq, rfl, hqc, hqc2, _⟩ := hu
  obtain ⟨pl, hpl'⟩ : ∃ pl, pl = p.length := ⟨_, rfl⟩
  obtain ⟨ql, hql'⟩ : ∃ ql, ql = q.length := ⟨_, rfl⟩
  rw [← hpl'] at hpc hpc2 hpl Hv ⊢
  rw [← hql'] at hqc hqc2 Hu ⊢
  have Hpl := Lib.hid hpl'
  clear hT hp hq hpl' hql'
  go_enter Tryd.func7, Tryd.ntmps7
  go_wp2_with fail
  refine (known_any w HT.out hw).mono ?_
  rintro e w1 ⟨rfl, hu1⟩
  have Hu1 := Lib.hid hu1
  have hz1 := hu1.size
  have Hv1 : Hid (Sl w1 (fun k => w1.heap.size ≤ k) (.slice sp pl cap) p) := (Hv.out.upd hu1 (fun k h => h.elim)).mono (fun k _ h => by omega)
  have Hq1 : Hid (Sl w1 (fun k => w1.heap.size ≤ k) (.slice sq ql caq) q) := (Hu.out.upd hu1 (fun k h => h.elim)).mono (fun k _ h => by omega)
  clear hu1 HT Hv Hu
  go_wp2_with fail
  go_cut [35] (fun v' wr => v' = .bool false ∧ Upd (fun _ => False) w1 wr)
  case first =>
    have hd : Upd (fun _ => False) w1 w1.drew := (Upd.refl _ w1).drew
    have HKeep : Hid (∀ w', Upd (fun _ => False) w1 w' → (convert 22 9 (.slice sp pl cap)).run Tryd.prog w' = .ok (.string (strOfNums p)) w' ∧ (convert 22 9 (.slice sq ql caq)).run Tryd.prog w' = .ok (.string (strOfNums q)) w') := fun w' h => ⟨(Hv1.out.upd h (fun k h => h.elim)).string, (Hq1.out.upd h (fun k h => h.elim)).string⟩
    have hZ := strs_eq Hp.out Hq.out
    have HA : ∀ b, decide (p = q) = b → Hid (Calls Tryd.prog 21 #[.slice sp pl cap, .slice sq ql caq] w1.drew fun e w' => e = .returned (.bool b) ∧ w1.drew = w') := fun b hb => equal_at p q _ _ _ (fun k => w1.heap.size ≤ k) b (Hv1.out.upd hd (fun k h => h.elim)) (Hq1.out.upd hd (fun k h => h.elim)) Hp.out Hq.out hb
    have HB : Hid (∀ v3 X, Upd (fun _ => False) w1 X → Own X w1.heap.size v3 p → Calls Tryd.prog 21 #[.slice sp pl cap, v3] X fun e w' => e = .returned (.bool true) ∧ X = w') := fun v3 X hX hO => equal_at p p _ _ _ (fun _ => False) true ((Hv1.out.upd hX (fun k h => h.elim)).mono (fun k _ h => h.elim)) (hO.sl (fun _ _ _ h => h) (by have := Hpl.out; omega)) Hp.out Hp.out (by simp)
    have HC : Hid (∀ v3 X, Upd (fun _ => False) w1 X → Own X w1.heap.size v3 (p ++ [0]) → Calls Tryd.prog 21 #[.slice sp pl cap, v3] X fun e w' => e = .returned (.bool false) ∧ X = w') := fun v3 X hX hO => equal_at p (p ++ [0]) _ _ _ (fun _ => False) false ((Hv1.out.upd hX (fun k h => h.elim)).mono (fun k _ h => h.elim)) (hO.sl (fun _ _ _ h => h) (by have := Hpl.out; simp; omega)) Hp.out Hp.out.snoc (snoc_ne p)
    have Hd := Lib.hid hd
    clear hd
    generalize hbe : decide (p = q) = b at *
    generalize strOfNums p = Zp at *
    generalize strOfNums q = Zq at *
    have HA := HA b rfl
    clear hbe
    have hO0 : Own (w1.alloc (.cells #[] 5)).drew w1.heap.size (.slice (some ⟨w1.heap.size, 0, none⟩) 0 0) [] := (Own.empty w1 _ (Nat.le_refl _)).upd ((Upd.refl (fun _ => False) _).drew) (fun _ _ h => h)
    have hX0 : Upd (fun _ => False) w1 (w1.alloc (.cells #[] 5)).drew := ((Upd.refl _ w1).alloc _).drew
    have HO0 := Lib.hid hO0
    have HX0 := Lib.hid hX0
    have HS0 := Lib.hid (Hv1.out.upd hX0 (fun k h => h.elim))
    have HL0 : Hid (([] : List Int).length + p.length ≤ 140737488355328) := by show _ ≤ _; have := Hpl.out; simp; omega
    have HL1 : Hid (p.length + [(0 : Int)].length ≤ 140737488355328) := by show _ ≤ _; have := Hpl.out; simp; omega
    have HE3 : Hid (∀ v3 w3, Own w3 w1.heap.size v3 ([] ++ p) → Upd (fun k => (Value.slice (some ⟨w1.heap.size, 0, none⟩) 0 0).ownBlock = some k) (w1.alloc (.cells #[] 5)).drew w3 → Upd (fun _ => False) w1 w3 ∧ Own w3 w1.heap.size v3 p) := fun v3 w3 h1 h2 => ⟨HX0.out.step h2 (fun i hi h => by simp [Value.ownBlock] at h; omega), by rwa [List.nil_append] at h1⟩
    have HE4 : Hid (∀ X G v4 w4, w1.heap.size ≤ G → Upd (fun _ => False) w1 X → Own w4 w1.heap.size v4 ([] ++ p) → Upd (fun k => (Value.slice (some ⟨G, 0, none⟩) 0 0).ownBlock = some k) X w4 → Upd (fun _ => False) w1 w4 ∧ Own w4 w1.heap.size v4 p) := fun X G v4 w4 hG hX h1 h2 => ⟨hX.step h2 (fun i hi h => by simp [Value.ownBlock] at h; omega), by rwa [List.nil_append] at h1⟩
    have HE5 : Hid (∀ w4 X v4 w5, Own w4 w1.heap.size v4 p → Upd (fun _ => False) w1 X → Upd (fun k => v4.ownBlock = some k) X w5 → Upd (fun _ => False) w1 w5) := fun w4 X v4 w5 h1 hX h2 => hX.step h2 (fun i hi h => by have := (h1.block h).1; omega)
    clear hO0 hX0
    have HF0 : Hid (∀ w3 : World, Blk (w3.alloc (.cells #[] 5)) w3.heap.size 5 #[] ∧ Blk ((w3.alloc (.cells #[] 5)).alloc (.cells #[.int .u8 0] 5)) w3.heap.size 5 #[] ∧ Blk ((w3.alloc (.cells #[.int .u8 0] 5)).alloc (.cells #[] 5)) (w3.heap.size + 1) 5 #[]) := fun w3 => ⟨Blk.new w3 #[] 5, (Blk.new w3 #[] 5).alloc _, by have := Blk.new (w3.alloc (.cells #[.int .u8 0] 5)) #[] 5; rwa [World.size_alloc] at this⟩
    have HG0 : Hid (∀ w4 : World, (w4.alloc (.cells #[.int .u8 0] 5)).cell? ⟨w4.heap.size, 0, none⟩ = some (.int .u8 0)) := fun w4 => by rw [(Blk.new w4 #[.int .u8 0] 5).cell]; rfl
    have HG1 : Hid (∀ w3 w4 : World, Upd (fun k => (Value.slice (some ⟨w3.heap.size, 0, none⟩) 0 0).ownBlock = some k) ((w3.alloc (.cells #[] 5)).alloc (.cells #[.int .u8 0] 5)) w4 → w4.cell? ⟨w3.heap.size + 1, 0, none⟩ = some (.int .u8 0)) := fun w3 w4 h => by
      have := Blk.new (w3.alloc (.cells #[] 5)) #[.int .u8 0] 5
      rw [World.size_alloc] at this
      rw [(h.blk this (fun e => by simp [Value.ownBlock] at e)).cell]; rfl
    have HG2 : Hid (∀ w3 w4 : World, Upd (fun k => (Value.slice (some ⟨w3.heap.size + 1, 0, none⟩) 0 0).ownBlock = some k) ((w3.alloc (.cells #[.int .u8 0] 5)).alloc (.cells #[] 5)) w4 → w4.cell? ⟨w3.heap.size, 0, none⟩ = some (.int .u8 0)) := fun w3 w4 h => by
      rw [(h.blk ((Blk.new w3 #[.int .u8 0] 5).alloc _) (fun e => by simp [Value.ownBlock] at e)).cell]; rfl
    cases b
    · go_region_held_law (fun w' => (convert 22 9 (.slice sp pl cap)).run Tryd.prog w' = .ok (.string Zp) w' ∧ (convert 22 9 (.slice sq ql caq)).run Tryd.prog w' = .ok (.string Zq) w') ((refine HKeep.out _ ?_; repeat (first | exact HU5.out | exact H4.out.1 | exact H3.out.1 | exact Upd.refl _ _ | apply Upd.drew | apply Upd.alloc))) (first
        | (refine step_appendSl rfl (.tmp 21) (.tmp 22) rfl w1.heap.size (.slice (some ⟨w1.heap.size, 0, none⟩) 0 0) [] rfl HO0.out (.slice sp pl cap) rfl p HS0.out HL0.out HX0.out.size ?_; intro v3 w3 hO3 hu3; have H3 := Lib.hid (HE3.out v3 w3 hO3 hu3); have HF := Lib.hid (HF0.out w3); clear hO3 hu3)
        | (refine step_appendSl rfl (.tmp 29) (.tmp 30) rfl w1.heap.size (.slice (some ⟨w3.heap.size, 0, none⟩) 0 0) [] rfl (Own.blank HF.out.1 H3.out.1.size) (.slice sp pl cap) rfl p (Hv1.out.upd (H3.out.1.alloc _) (fun k h => h.elim)) HL0.out (H3.out.1.alloc _).size ?_; intro v4 w4 hO4 hu4; have H4 := Lib.hid (HE4.out _ _ v4 w4 H3.out.1.size (H3.out.1.alloc _) hO4 hu4); clear hO4 hu4)
        | (refine step_appendSl rfl (.tmp 29) (.tmp 30) rfl w1.heap.size (.slice (some ⟨w3.heap.size, 0, none⟩) 0 0) [] rfl (Own.blank HF.out.2.1 H3.out.1.size) (.slice sp pl cap) rfl p (Hv1.out.upd ((H3.out.1.alloc _).alloc _) (fun k h => h.elim)) HL0.out ((H3.out.1.alloc _).alloc _).size ?_; intro v4 w4 hO4 hu4; have H4 := Lib.hid (HE4.out _ _ v4 w4 H3.out.1.size ((H3.out.1.alloc _).alloc _) hO4 hu4); have hu4c := Lib.hid hu4; clear hO4 hu4)
        | (refine step_appendSl rfl (.tmp 29) (.tmp 30) rfl w1.heap.size (.slice (some ⟨w3.heap.size + 1, 0, none⟩) 0 0) [] rfl (Own.blank HF.out.2.2 (Nat.le_succ_of_le H3.out.1.size)) (.slice sp pl cap) rfl p (Hv1.out.upd ((H3.out.1.alloc _).alloc _) (fun k h => h.elim)) HL0.out ((H3.out.1.alloc _).alloc _).size ?_; intro v4 w4 hO4 hu4; have H4 := Lib.hid (HE4.out _ _ v4 w4 (Nat.le_succ_of_le H3.out.1.size) ((H3.out.1.alloc _).alloc _) hO4 hu4); have hu4d := Lib.hid hu4; clear hO4 hu4)
        | (refine step_appendSl (S := fun _ => False) rfl (.tmp 31) (.tmp 32) rfl w1.heap.size v4 p rfl (H4.out.2.upd ((Upd.refl (fun _ => False) w4).alloc _) (fun _ _ h => h)) (.slice (some ⟨w4.heap.size, 0, none⟩) 1 1) rfl [0] (Sl.one1 (HG0.out w4) (fun h => h)) HL1.out (H4.out.1.alloc _).size ?_; intro v5 w5 hO5 hu5; have HU5 := Lib.hid (HE5.out w4 _ v4 w5 H4.out.2 (H4.out.1.alloc _) hu5); have HO5 := Lib.hid hO5; clear hO5 hu5)
        | (refine step_appendSl (S := fun _ => False) rfl (.tmp 31) (.tmp 32) rfl w1.heap.size v4 p rfl H4.out.2 (.slice (some ⟨w3.heap.size + 1, 0, none⟩) 1 1) rfl [0] (Sl.one1 (HG1.out w3 w4 hu4c.out) (fun h => h)) HL1.out H4.out.1.size ?_; intro v5 w5 hO5 hu5; have HU5 := Lib.hid (HE5.out w4 _ v4 w5 H4.out.2 H4.out.1 hu5); have HO5 := Lib.hid hO5; clear hO5 hu5)
        | (refine step_appendSl (S := fun _ => False) rfl (.tmp 31) (.tmp 32) rfl w1.heap.size v4 p rfl H4.out.2 (.slice (some ⟨w3.heap.size, 0, none⟩) 1 1) rfl [0] (Sl.one1 (HG2.out w3 w4 hu4d.out) (fun h => h)) HL1.out H4.out.1.size ?_; intro v5 w5 hO5 hu5; have HU5 := Lib.hid (HE5.out w4 _ v4 w5 H4.out.2 H4.out.1 hu5); have HO5 := Lib.hid hO5; clear hO5 hu5)
        | (go_at_call 21; first | (refine (HC.out v5 w5 HU5.out HO5.out).mono ?_; rintro e wd ⟨rfl, rfl⟩) | (refine (HB.out v3 w3 H3.out.1 H3.out.2).mono ?_; rintro e wb ⟨rfl, rfl⟩) | (refine HA.out.mono ?_; rintro e wa ⟨rfl, rfl⟩)))
      all_goals
        go_wp2
        go_meet
        exact ⟨rfl, HU5.out⟩
    · go_region_held_law (fun w' => (convert 22 9 (.slice sp pl cap)).run Tryd.prog w' = .ok (.string Zp) w' ∧ (convert 22 9 (.slice sq ql caq)).run Tryd.prog w' = .ok (.string Zq) w') ((refine HKeep.out _ ?_; repeat (first | exact HU5.out | exact H4.out.1 | exact H3.out.1 | exact Upd.refl _ _ | apply Upd.drew | apply Upd.alloc))) (first
        | (refine step_appendSl rfl (.tmp 21) (.tmp 22) rfl w1.heap.size (.slice (some ⟨w1.heap.size, 0, none⟩) 0 0) [] rfl HO0.out (.slice sp pl cap) rfl p HS0.out HL0.out HX0.out.size ?_; intro v3 w3 hO3 hu3; have H3 := Lib.hid (HE3.out v3 w3 hO3 hu3); have HF := Lib.hid (HF0.out w3); clear hO3 hu3)
        | (refine step_appendSl rfl (.tmp 29) (.tmp 30) rfl w1.heap.size (.slice (some ⟨w3.heap.size, 0, none⟩) 0 0) [] rfl (Own.blank HF.out.1 H3.out.1.size) (.slice sp pl cap) rfl p (Hv1.out.upd (H3.out.1.alloc _) (fun k h => h.elim)) HL0.out (H3.out.1.alloc _).size ?_; intro v4 w4 hO4 hu4; have H4 := Lib.hid (HE4.out _ _ v4 w4 H3.out.1.size (H3.out.1.alloc _) hO4 hu4); clear hO4 hu4)
        | (refine step_appendSl rfl (.tmp 29) (.tmp 30) rfl w1.heap.size (.slice (some ⟨w3.heap.size, 0, none⟩) 0 0) [] rfl (Own.blank HF.out.2.1 H3.out.1.size) (.slice sp pl cap) rfl p (Hv1.out.upd ((H3.out.1.alloc _).alloc _) (fun k h => h.elim)) HL0.out ((H3.out.1.alloc _).alloc _).size ?_; intro v4 w4 hO4 hu4; have H4 := Lib.hid (HE4.out _ _ v4 w4 H3.out.1.size ((H3.out.1.alloc _).alloc _) hO4 hu4); have hu4c := Lib.hid hu4; clear hO4 hu4)
        | (refine step_appendSl rfl (.tmp 29) (.tmp 30) rfl w1.heap.size (.slice (some ⟨w3.heap.size + 1, 0, none⟩) 0 0) [] rfl (Own.blank HF.out.2.2 (Nat.le_succ_of_le H3.out.1.size)) (.slice sp pl cap) rfl p (Hv1.out.upd ((H3.out.1.alloc _).alloc _) (fun k h => h.elim)) HL0.out ((H3.out.1.alloc _).alloc _).size ?_; intro v4 w4 hO4 hu4; have H4 := Lib.hid (HE4.out _ _ v4 w4 (Nat.le_succ_of_le H3.out.1.size) ((H3.out.1.alloc _).alloc _) hO4 hu4); have hu4d := Lib.hid hu4; clear hO4 hu4)
        | (refine step_appendSl (S := fun _ => False) rfl (.tmp 31) (.tmp 32) rfl w1.heap.size v4 p rfl (H4.out.2.upd ((Upd.refl (fun _ => False) w4).alloc _) (fun _ _ h => h)) (.slice (some ⟨w4.heap.size, 0, none⟩) 1 1) rfl [0] (Sl.one1 (HG0.out w4) (fun h => h)) HL1.out (H4.out.1.alloc _).size ?_; intro v5 w5 hO5 hu5; have HU5 := Lib.hid (HE5.out w4 _ v4 w5 H4.out.2 (H4.out.1.alloc _) hu5); have HO5 := Lib.hid hO5; clear hO5 hu5)
        | (refine step_appendSl (S := fun _ => False) rfl (.tmp 31) (.tmp 32) rfl w1.heap.size v4 p rfl H4.out.2 (.slice (some ⟨w3.heap.size + 1, 0, none⟩) 1 1) rfl [0] (Sl.one1 (HG1.out w3 w4 hu4c.out) (fun h => h)) HL1.out H4.out.1.size ?_; intro v5 w5 hO5 hu5; have HU5 := Lib.hid (HE5.out w4 _ v4 w5 H4.out.2 H4.out.1 hu5); have HO5 := Lib.hid hO5; clear hO5 hu5)
        | (refine step_appendSl (S := fun _ => False) rfl (.tmp 31) (.tmp 32) rfl w1.heap.size v4 p rfl H4.out.2 (.slice (some ⟨w3.heap.size, 0, none⟩) 1 1) rfl [0] (Sl.one1 (HG2.out w3 w4 hu4d.out) (fun h => h)) HL1.out H4.out.1.size ?_; intro v5 w5 hO5 hu5; have HU5 := Lib.hid (HE5.out w4 _ v4 w5 H4.out.2 H4.out.1 hu5); have HO5 := Lib.hid hO5; clear hO5 hu5)
        | (go_at_call 21; first | (refine (HC.out v5 w5 HU5.out HO5.out).mono ?_; rintro e wd ⟨rfl, rfl⟩) | (refine (HB.out v3 w3 H3.out.1 H3.out.2).mono ?_; rintro e wb ⟨rfl, rfl⟩) | (refine HA.out.mono ?_; rintro e wa ⟨rfl, rfl⟩)))
      all_goals
        go_wp2
        go_meet
        exact ⟨rfl, HU5.out⟩
  case rest =>
    obtain ⟨rfl, huc⟩ := hcut
    have Huc : Hid (Upd (fun _ => False) w wc) := Hu1.out.trans huc
    have hzc := Huc.out.size
    have Hvc : Hid (Sl wc (fun k => wc.heap.size ≤ k) (.slice sp pl cap) p) := (Hv1.out.upd huc (fun k h => h.elim)).mono (fun k _ h => by have := huc.size; omega)
    clear huc Hv1 Hq1 Hu1
    by_cases hneg : n < 0
    · go_wp2_with fail
      go_ret
      exact ⟨rfl, Huc.out⟩
    · obtain ⟨m, rfl⟩ := Int.eq_ofNat_of_zero_le (show 0 ≤ n by omega)
      by_cases hbig : pl ≤ m
      · have hge : (pl : Int) ≤ m := by omega
        go_wp2_with fail
        go_ret
        exact ⟨rfl, Huc.out⟩
      · have hlt : ¬ (pl : Int) ≤ m := by omega
        have HO : Hid (Own (wc.alloc (.cells #[] 5)) wc.heap.size (.slice (some ⟨wc.heap.size, 0, none⟩) 0 0) []) := Own.empty wc _ (Nat.le_refl _)
        have HK : Hid (Sl (wc.alloc (.cells #[] 5)) (fun k => wc.heap.size ≤ k) (.slice sp pl cap) p) := Hvc.out.alloc _
        have HL : Hid (([] : List Int).length + p.length ≤ 140737488355328) := by show _ ≤ _; have := Hpl.out; simp; omega
        obtain ⟨x, hx⟩ : ∃ x, x = p.getD m 0 := ⟨_, rfl⟩
        have hxb := Hp.out m
        rw [← hx] at hxb
        have Hxo := Lib.hid (xor_one x hxb)
        have Hpar : Hid (∀ v3 w3, Own w3 wc.heap.size v3 ([] ++ p) → Upd (fun k => wc.heap.size ≤ k) (wc.alloc (.cells #[] 5)) w3 → ∃ g cap3 cur, v3 = .slice (some ⟨g, 0, none⟩) pl cap3 ∧ w3.cell? ⟨g, m, none⟩ = some (.int .u8 x) ∧ w3.frozen? ⟨g, m, none⟩ = false ∧ Upd (fun _ => False) wc (w3.setCell ⟨g, m, none⟩ (.int .u8 (bits .xor .u8 x 1))) ∧
            Calls Tryd.prog 21 #[.slice sp pl cap, .slice (some ⟨g, 0, none⟩) pl cap3] (w3.setCell ⟨g, m, none⟩ (.int .u8 (bits .xor .u8 x 1))) (fun e w' => e = .returned (.bool false) ∧ w3.setCell ⟨g, m, none⟩ (.int .u8 (bits .xor .u8 x 1)) = w') ∧
            Calls Tryd.prog 21 #[.slice sp m cap, .slice sp pl cap] (w3.setCell ⟨g, m, none⟩ (.int .u8 (bits .xor .u8 x 1))) (fun e w' => e = .returned (.bool false) ∧ w3.setCell ⟨g, m, none⟩ (.int .u8 (bits .xor .u8 x 1)) = w') ∧ cur = 0) := by
          intro v3 w3 hO hu
          rw [List.nil_append] at hO
          have hP := Hpl.out
          obtain ⟨g, cap3, cur, hv, hg, hb, hc, hcs⟩ := hO.parts (by omega)
          have hU : Upd (fun _ => False) wc w3 := ((Upd.refl _ wc).alloc _).step hu (fun i hi h => by omega)
          have hU2 : Upd (fun _ => False) wc (w3.setCell ⟨g, m, none⟩ (.int .u8 (bits .xor .u8 x 1))) := hU.set _ (fun h => by simp only at h; omega)
          have hsv : Sl (w3.setCell ⟨g, m, none⟩ (.int .u8 (bits .xor .u8 x 1))) (fun _ => False) (.slice sp pl cap) p := (Hvc.out.upd hU2 (fun k h => h.elim)).mono (fun _ _ h => h.elim)
          have hset : Sl (w3.setCell ⟨g, m, none⟩ (.int .u8 (bits .xor .u8 x 1))) (fun _ => False) (.slice (some ⟨g, 0, none⟩) pl cap3) (p.set m (bits .xor .u8 x 1)) := by
            refine ⟨_, cap3, by rw [List.length_set, hP], by rw [List.length_set]; exact hc.1, ⟨hc.2, by rw [List.length_set]; omega⟩, fun _ => ⟨g, 0, rfl, fun h => h, fun j hj => ?_⟩⟩
            rw [List.length_set] at hj
            rw [(hb.set m _).cell, Nat.zero_add]
            by_cases e : j = m
            · subst e
              have : j < cur.size := by
                by_cases h : j < cur.size
                · exact h
                · have := hcs j hj
                  rw [Array.getElem?_eq_none (by omega)] at this
                  cases this
              rw [Array.getElem?_setIfInBounds_self_of_lt this, List.getD_eq_getElem?_getD, List.getElem?_set_self hj]
              rfl
            · rw [Array.getElem?_setIfInBounds_ne (by omega), hcs j hj, List.getD_eq_getElem?_getD, List.getD_eq_getElem?_getD, List.getElem?_set_ne (by omega)]
          refine ⟨g, cap3, 0, by rw [hv, hP], by rw [hb.cell, hcs m (by omega), hx], hb.frozen m, hU2, ?_, ?_, rfl⟩
          · exact equal_at p (p.set m (bits .xor .u8 x 1)) _ _ _ _ false hsv hset Hp.out (Hp.out.set _ _ Hxo.out.1) (set_ne p m _ (by omega) (by rw [← hx]; exact Hxo.out.2))
          · exact equal_at (p.take m) p _ _ _ _ false (Sl.take hsv (by omega)) hsv (Hp.out.take m) Hp.out (take_ne p m (by omega))
        clear hx hxb
        go_wp2_with (refine wpList_appendSl rfl (.tmp 44) (.tmp 45) rfl wc.heap.size _ [] rfl HO.out (.slice sp pl cap) rfl p HK.out HL.out (by simp) ?_; intro v3 w3 hO3 hu3; obtain ⟨g, cap3, cur, hv3, hcell, hfr, hU2, hC1, hC2, _⟩ := Hpar.out v3 w3 hO3 hu3; rw [hv3]; have HU2 := Lib.hid hU2; have HC1 := Lib.hid hC1; have HC2 := Lib.hid hC2; clear hO3 hu3 hv3 hU2 hC1 hC2)
        refine HC1.out.mono ?_
        rintro e wx ⟨rfl, rfl⟩
        go_wp2_with fail
        refine HC2.out.mono ?_
        rintro e wx ⟨rfl, rfl⟩
        go_wp2
        go_ret
        exact ⟨rfl, Huc.out.trans HU2.out⟩
end Go.Proofs.YtcdcoennnmbbdaaDoor
