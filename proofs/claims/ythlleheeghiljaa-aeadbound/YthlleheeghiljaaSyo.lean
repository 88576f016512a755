/-
  Operations by evaluation: append to a slice of slices. For any program.
-/
import Derived.Test.YthlleheeghiljaaSye
namespace Go.Proofs.Ythlleheeghiljaa
open Go.RowKit

/-- What is appended: how many, and which cells. -/
def srcS : C → Option MB → Option (Nat × List Seg × List Prop)
  | .rss ls, _ => some (ls.length, [.rsv ls], [])
  | .os _ es m, some (.gs _ s) => cond (Nat.beq es 1) (some (m, s, [m = segsLen s])) none
  | .v (.slice none 0 0), _ => some (0, [], [])
  | _, _ => none
def evAppendS (P : Program) (t : TypeId) (base : Nat) : List (Option AV) → List (Option MB) → Option Rec
  | [some (.o (.c (.os i es n))), some (.o (.c s))], some (.gs ty sg) :: cts => match elemT P t with
    | some (e, inf, _) => cond (Nat.beq inf.size 1 && Nat.beq es 1 && Nat.beq ty e) (match srcS s (match cts with | x :: _ => x | [] => none) with
      | some (m, u, obl) => some ⟨.o (.c (.os base 1 (n + m))), 0, [.gs e (sg ++ u)], [(i, .dead)], [], obl ++ [segsLen sg = n, (n + m) * inf.bytes ≤ 140737488355328, n + m ≤ mx]⟩
      | none => none) none
    | none => none
  | [some (.o (.c (.v (.slice none 0 0)))), some (.o (.c s))], cts => match elemT P t with
    | some (e, inf, _) => cond (Nat.beq inf.size 1) (match srcS s (match cts with | x :: _ => x | [] => none) with
      | some (m, u, obl) => some ⟨.o (.c (.os base 1 m)), 0, [.gs e u], [], [], obl ++ [m * inf.bytes ≤ 140737488355328, m ≤ mx]⟩
      | none => none) none
    | none => none
  | _, _ => none
theorem liesS_list {cx : Cx} {w : World} (hu : Upd cx.W cx.w0 w) {b : Nat} : ∀ {ls : List (List Int)} {q : Nat}, LiesS cx b q ls → ∃ vs : List Value, RBs cx ls vs ∧ ∀ (j : Nat) (u : Value), vs[j]? = some u → w.cell? ⟨b, q + j, none⟩ = some u
  | [], _, _ => ⟨[], trivial, fun j u h => by cases h⟩
  | l :: ls, q, h => by
    obtain ⟨v, h1, h2⟩ := h.now hu 0 l rfl
    obtain ⟨vs, h3, h4⟩ := liesS_list (ls := ls) (q := q + 1) hu ⟨h.1, h.2.1, fun j x hj => by
      obtain ⟨v, e1, e2⟩ := h.2.2 (j + 1) x hj
      exact ⟨v, by rw [Nat.add_assoc, Nat.add_comm 1 j]; exact e1, e2⟩⟩
    refine ⟨v :: vs, ⟨h2, h3⟩, fun j u hj => ?_⟩
    cases j with
    | zero => cases hj; exact h1
    | succ j => rw [show q + (j + 1) = q + 1 + j by omega]; exact h4 j u hj
section
variable {E : Ev} {o : Oper} {gs : Nat → Option AV} {gm : Nat → Option MB} {base : Nat} {tg : List Nat} {r : Rec}
theorem srcS_ok {cx : Cx} {β : Be} {w : World} {s : C} {ct : Option MB} {m : Nat} {t : List Seg} {obl : List Prop} (hu : Upd cx.W cx.w0 w) (h : srcS s ct = some (m, t, obl)) (ho : allP obl) {v : Value} (d : DC cx β s v) (hct : ∀ i ∈ s.idx, ∀ mb, ct = some mb → ObjAt cx β w i mb) :
    ∃ sp cap vs, v = .slice sp m cap ∧ DL cx β t vs ∧ vs.length = m ∧ (0 < m → ∃ b q, sp = some ⟨b, q, none⟩ ∧ ∀ (j : Nat) (u : Value), vs[j]? = some u → w.cell? ⟨b, q + j, none⟩ = some u) := by
  unfold srcS at h
  split at h
  · rename_i ls
    cases h
    obtain ⟨sp, cap, d1, d2, d3, d4⟩ := d
    by_cases h0 : 0 < ls.length
    · obtain ⟨b, q, d5, d6⟩ := d4 h0
      obtain ⟨vs, e1, e2⟩ := liesS_list hu d6
      exact ⟨sp, cap, vs, d1, ⟨vs, [], by simp, e1, rfl⟩, e1.len, fun _ => ⟨b, q, d5, e2⟩⟩
    · have : ls = [] := List.eq_nil_of_length_eq_zero (by omega)
      subst this
      exact ⟨sp, cap, [], d1, ⟨[], [], rfl, trivial, rfl⟩, rfl, fun h => absurd h h0⟩
  · rename_i i es m' ty s'
    cases hb : Nat.beq es 1 with
    | false => rw [hb] at h; cases h
    | true =>
      rw [hb] at h; cases h
      obtain rfl := Nat.eq_of_beq_eq_true hb
      have hm : m = segsLen t := ho
      have hO := hct i (by simp [C.idx]) _ rfl
      rcases d with ⟨d1, d2, d3⟩ | ⟨g, k, cap, d1, d2, d3, d4, d5⟩
      · rcases hO with ⟨o1, o2⟩ | ⟨g', n', arr, k', o1, _⟩
        · exact ⟨none, 0, [], by rw [d3, d2], o2, d2.symm, fun h => by omega⟩
        · rw [d1] at o1; cases o1
      · rcases hO with ⟨o1, _⟩ | ⟨g', n', arr, k', o1, o2, o3, o4, o5, o6⟩
        · rw [d1] at o1; cases o1
        · rw [d1] at o1; cases o1
          refine ⟨_, cap, _, d2, o6, by rw [DL_len o6, hm], fun _ => ⟨g, 0, rfl, fun j u hj => ?_⟩⟩
          rw [List.getElem?_take] at hj
          split at hj
          · rw [o3.cell, Nat.zero_add]; simpa using hj
          · cases hj
  · cases h
    have e : v = .slice none 0 0 := d
    exact ⟨none, 0, [], e, rfl, rfl, fun h => absurd h (Nat.lt_irrefl 0)⟩
  · cases h
theorem srcS_names {s : C} {ct : Option MB} {m : Nat} {t : List Seg} {obl : List Prop} (h : srcS s ct = some (m, t, obl)) : ∀ j ∈ idxL t, ∃ i ∈ s.idx, ∃ mb, ct = some mb ∧ j ∈ mb.idx := by
  intro j hj
  unfold srcS at h
  split at h
  · cases h; simp [idxL] at hj
  · rename_i i es m' ty s'
    cases hb : Nat.beq es 1 with
    | false => rw [hb] at h; cases h
    | true => rw [hb] at h; cases h; exact ⟨i, by simp [C.idx], _, rfl, hj⟩
  · cases h; simp [idxL] at hj
  · cases h
theorem idxL_append : ∀ (s t : List Seg), idxL (s ++ t) = idxL s ++ idxL t
  | [], _ => rfl
  | .one c :: r, t => by simp [idxL, idxL_append r t]
  | .many _ _ :: r, t => by simp [idxL, idxL_append r t]
  | .rsv _ :: r, t => by simp [idxL, idxL_append r t]
theorem ok_appendS {t : TypeId} {x y : Operand} (ho : o.op = .call { callee := .builtin .append, args := #[x, y], argTypes := #[t, t] }) (htg : objsOf [opnd E gs x, opnd E gs y] = tg) (h : evAppendS E.P t base [opnd E gs x, opnd E gs y] (tg.map gm) = some r) (hobl : allP r.obl) : OpOK E o gs gm base { r with base := base, tg := tg } := by
  have hx : x ∈ o.op.operands := by simp [ho, Op.operands, Call.operands]
  have hy : y ∈ o.op.operands := by simp [ho, Op.operands, Call.operands]
  have newB : ∀ {cx : Cx} {w : World} {β : Be} {e : TypeId} {inf : TypeInfo} {z : Value} {n old : Nat} {sg : List Seg} {xs : List Value}, Upd cx.W cx.w0 w → z.cells.size = 1 → DL cx (upB β base (some (w.heap.size, grownCap w n old e * 1))) sg xs → xs.length = n → n ≤ mx →
      DA cx (upB β base (some (w.heap.size, grownCap w n old e * 1))) (.o (.c (.os base 1 n))) (.slice (some ⟨w.heap.size, 0, none⟩) n (grownCap w n old e)) ∧
      ObjAt cx (upB β base (some (w.heap.size, grownCap w n old e * 1))) (w.drew.alloc (.cells (xs.toArray ++ Builtin.zeroCells z.cells (grownCap w n old e - n)) e)) base (.gs e sg) := by
    intro cx w β e inf z n old sg xs hu hz hd hl hmx
    have hge := grownCap_ge w n old e
    have hcm := grownCap_le_maxLen w n old e (by unfold mx at hmx; unfold maxLen; omega)
    refine ⟨.inr ⟨_, _, _, upB_self _ _ _, rfl, hge, by unfold maxLen at hcm; unfold mx; omega, rfl⟩, .inr ⟨_, _, _, n, upB_self _ _ _, .inl hu.size, Bk.new w.drew _ e, ?_, ?_, ?_⟩⟩
    · rw [Array.size_append, size_zeroCells, List.size_toArray, hl, hz]; omega
    · omega
    · rw [Array.toList_append, List.take_left' (by simpa using hl)]
      exact hd
  unfold evAppendS at h
  split at h
  · rename_i i es n s ty sg cts he hcts
    simp only [List.cons.injEq, and_true] at he
    obtain ⟨h1, h2⟩ := he
    have htg' : tg = i :: s.idx := by rw [← htg, h1, h2]; simp [objsOf, C.idx]
    split at h
    · rename_i e inf z hel
      cases hb : (Nat.beq inf.size 1 && Nat.beq es 1 && Nat.beq ty e) with
      | false => rw [hb] at h; cases h
      | true =>
        rw [hb, cond_true] at h
        simp only [Bool.and_eq_true] at hb
        obtain ⟨⟨b1, b2⟩, b3⟩ := hb
        have b1' := Nat.eq_of_beq_eq_true b1
        obtain rfl := Nat.eq_of_beq_eq_true b2
        obtain rfl := Nat.eq_of_beq_eq_true b3
        split at h
        · rename_i m u obl hsrc
          cases h
          rw [allP_append] at hobl
          obtain ⟨hob, hl, hby, hmx⟩ := hobl
          have hl' : segsLen sg = n := hl
          have hby' : (n + m) * inf.bytes ≤ 140737488355328 := hby
          have hmx' : n + m ≤ mx := hmx
          obtain ⟨q1, q2, q3, q4, q5⟩ := elemT_ok hel
          have q4' : z.cells.size = 1 := by rw [q4, b1']
          have hgi : gm i = some (.gs ty sg) := by rw [htg'] at hcts; simp at hcts; exact hcts.1
          refine okApp (i := i) (mb0 := .gs ty sg) (by rw [htg']; simp) hgi rfl fun cx β a w hp => ?_
          have dD := (hp.ops x hx _ h1).1
          have dS := (hp.ops y hy _ h2).1
          have hib : i < base := (hp.obj i (by rw [htg']; simp) _ hgi).2.1
          have hsgb : ∀ j ∈ idxL sg, j < base := (hp.obj i (by rw [htg']; simp) _ hgi).2.2
          have hctm : ∀ j ∈ s.idx, ∀ mb, (match cts with | x :: _ => x | [] => none) = some mb → gm j = some mb := by
            intro j hj mb hmb
            have hc : cts = s.idx.map gm := by rw [htg'] at hcts; simp at hcts; exact hcts.2.symm
            have hjs : s.idx = [j] := by cases s <;> first | (simp only [C.idx, List.mem_singleton] at hj ⊢; rw [hj]) | (simp [C.idx] at hj; done) | (simp [srcS] at hsrc; done)
            rw [hc, hjs] at hmb
            exact hmb
          have hub : ∀ j ∈ idxL u, j < base := fun j hj => by
            obtain ⟨k, hk, mb, h3, h4⟩ := srcS_names hsrc j hj
            exact (hp.obj k (by rw [htg']; simp [hk]) mb (hctm k hk mb h3)).2.2 j h4
          obtain ⟨sp, cap, vs, s1, s2, s3, s4⟩ := srcS_ok hp.upd hsrc hob dS (fun j hj mb hmb => (hp.obj j (by rw [htg']; simp [hj]) mb (hctm j hj mb hmb)).1)
          have hO := (hp.obj i (by rw [htg']; simp) _ hgi).1
          have up : ∀ {x : Option (Nat × Nat)} {q : List Seg} {zs : List Value}, (∀ j ∈ idxL q, j < base) → DL cx β q zs → DL cx (upB β base x) q zs := fun hq d => d.congr (fun j hj => upB_low (hq j hj))
          by_cases hm : m = 0
          · subst hm
            have hvs : vs = [] := List.eq_nil_of_length_eq_zero s3
            subst hvs
            rcases dD with ⟨d1, d2, d3⟩ | ⟨g, k, cp, d1, d2, d3, d4, d5⟩
            · rcases hO with ⟨o1, o2⟩ | ⟨g', k', arr, k2, o1, _⟩
              · exact ⟨_, w, β i, run_appB ho d3 s1 (run_app0 q1 q2 (Nat.le_refl _)), (fun g' n' hg => by rw [d1] at hg; cases hg), .inl ⟨by rw [upB_self, d1], by omega, rfl⟩, .inl ⟨by rw [upB_self, o1], DL_append (up (x := β i) hsgb o2) (up (x := β i) hub s2)⟩, Upd.refl _ w⟩
              · rw [d1] at o1; cases o1
            · rcases hO with ⟨o1, o2⟩ | ⟨g', k', arr, k2, o1, o2, o3, o4, o5, o6⟩
              · rw [d1] at o1; cases o1
              · refine ⟨_, w, β i, run_appB ho d2 s1 (run_app0 q1 q2 d3), fun g' n' hg => .inr ⟨n', hg⟩, .inr ⟨g, k, cp, by rw [upB_self, d1], rfl, d3, d4, d5⟩, .inr ⟨g', k', arr, k2, by rw [upB_self, o1], o2, o3, o4, o5, ?_⟩, Upd.refl _ w⟩
                have := DL_append (up (x := β i) hsgb o6) (up (x := β i) hub s2)
                rwa [List.append_nil] at this
          · obtain ⟨b, q, s5, s6⟩ := s4 (by omega)
            rw [s5] at s1
            have hnl : vs.length = m * inf.size := by rw [s3, b1', Nat.mul_one]
            have hnews : ∀ (j : Nat) (u : Value), vs[j]? = some u → w.cell? ((⟨b, q, none⟩ : Addr).add j) = some u := fun j u hj => by rw [Addr.add_lit]; exact s6 j u hj
            have hone : ∀ v ∈ vs, v.oneCell' = true := DL_one s2
            have hsm : n + m ≤ 9223372036854775807 := hmx'
            rcases dD with ⟨d1, d2, d3⟩ | ⟨g, k, cp, d1, d2, d3, d4, d5⟩
            · subst d2
              rcases hO with ⟨o1, o2⟩ | ⟨g', k', arr, k2, o1, _⟩
              · have hr := run_append_nil (P := E.P) w t o.type ty inf z q1 q2 q3 ⟨b, q, none⟩ m cap vs hnl hnews (by omega) (by omega) (by simp only [Nat.zero_add] at hby'; omega)
                obtain ⟨g1, g2⟩ := newB (cx := cx) (w := w) (β := β) (e := ty) (inf := inf) (z := z) (n := m) (old := 0) (sg := sg ++ u) hp.upd q4' (DL_append (up hsgb o2) (up hub s2)) s3 (by rw [Nat.zero_add] at hmx'; exact hmx')
                refine ⟨_, _, some (w.heap.size, grownCap w m 0 ty * 1), run_appB ho d3 s1 hr, (fun g' n' hg => by cases hg; exact .inl (Nat.le_refl _)), ?_, ?_, ((Upd.refl _ w).drew).alloc _⟩
                · rw [Nat.zero_add]; exact g1
                · exact g2
              · rw [d1] at o1; cases o1
            · rcases hO with ⟨o1, _⟩ | ⟨g', k', arr, k2, o1, o2, o3, o4, o5, o6⟩
              · rw [d1] at o1; cases o1
              · rw [d1] at o1; cases o1
                have hk2 : k2 = n := by
                  have h3 := DL_len o6
                  rw [List.length_take, hl'] at h3
                  simp at h3; omega
                subst hk2
                have hsz : arr.size = cp := by rw [o4, d5, Nat.mul_one]
                by_cases hroom : k2 + m ≤ cp
                · have hfit : k2 * inf.size + vs.length ≤ arr.size := by rw [b1', hsz, s3]; omega
                  have hr := append_room_bk (P := E.P) w t o.type ty inf q1 q2 g k2 cp arr o3 ⟨b, q, none⟩ m cap vs hnl hnews hone hroom hfit
                  refine ⟨_, _, some (g, k), run_appB ho d2 s1 hr, (fun g' n' hg => by cases hg; exact .inr ⟨k, d1⟩), .inr ⟨g, k, cp, upB_self _ _ _, rfl, hroom, d4, d5⟩, .inr ⟨g, k, _, k2 + m, upB_self _ _ _, o2, o3.row _ ?_, ?_, ?_, ?_⟩, (Upd.refl _ w).row _ (fun _ => ⟨k, d1⟩)⟩
                  · simp only [List.size_toArray, List.length_append, List.length_take, List.length_drop, Array.length_toList]
                    omega
                  · simp only [List.size_toArray, List.length_append, List.length_take, List.length_drop, Array.length_toList]
                    omega
                  · omega
                  · simp only [b1', Nat.mul_one]
                    rw [List.take_left' (by simp only [List.length_append, List.length_take, Array.length_toList]; omega)]
                    exact DL_append (up hsgb o6) (up hub s2)
                · have holds : ∀ (j : Nat) (u : Value), (arr.toList.take k2)[j]? = some u → w.cell? ((⟨g, 0, none⟩ : Addr).add j) = some u := fun j u hj => by
                    rw [List.getElem?_take] at hj
                    split at hj
                    · rw [Addr.add_lit, o3.cell, Nat.zero_add]; simpa using hj
                    · cases hj
                  have hr := run_append_grow (P := E.P) w t o.type ty inf z q1 q2 q3 ⟨g, 0, none⟩ k2 cp (arr.toList.take k2) (by rw [b1', Nat.mul_one, List.length_take, Array.length_toList]; omega) holds ⟨b, q, none⟩ m cap vs hnl hnews (by omega) (by omega) (growslice_fits (by omega) hby')
                  obtain ⟨g1, g2⟩ := newB (cx := cx) (w := w) (β := β) (e := ty) (inf := inf) (z := z) (n := k2 + m) (old := cp) (sg := sg ++ u) hp.upd q4' (DL_append (up hsgb o6) (up hub s2)) (by rw [List.length_append, s3, List.length_take, Array.length_toList]; omega) hmx'
                  refine ⟨_, _, some (w.heap.size, grownCap w (k2 + m) cp ty * 1), run_appB ho d2 s1 hr, (fun g' n' hg => by cases hg; exact .inl (Nat.le_refl _)), g1, ?_, ((Upd.refl _ w).drew).alloc _⟩
                  have e9 : (arr.toList.take k2).toArray ++ vs.toArray = (arr.toList.take k2 ++ vs).toArray := by simp
                  rw [e9]; exact g2
        · cases h
    · cases h
  · rename_i cts s he
    simp only [List.cons.injEq, and_true] at he
    obtain ⟨h1, h2⟩ := he
    have htg' : tg = s.idx := by rw [← htg, h1, h2]; simp [objsOf, C.idx]
    split at h
    · rename_i e inf z hel
      cases hb : Nat.beq inf.size 1 with
      | false => rw [hb] at h; cases h
      | true =>
        rw [hb, cond_true] at h
        have b1' := Nat.eq_of_beq_eq_true hb
        split at h
        · rename_i m u obl hsrc
          cases h
          rw [allP_append] at hobl
          obtain ⟨hob, hby, hmx⟩ := hobl
          have hby' : m * inf.bytes ≤ 140737488355328 := hby
          have hmx' : m ≤ mx := hmx
          obtain ⟨q1, q2, q3, q4, q5⟩ := elemT_ok hel
          have q4' : z.cells.size = 1 := by rw [q4, b1']
          refine okNew fun cx β a w hp => ?_
          have dD : a.eval x = .slice none 0 0 := hp.v hx h1
          have dS := (hp.ops y hy _ h2).1
          have hctm : ∀ j ∈ s.idx, ∀ mb, (match tg.map gm with | x :: _ => x | [] => none) = some mb → gm j = some mb := by
            intro j hj mb hmb
            have hjs : s.idx = [j] := by cases s <;> first | (simp only [C.idx, List.mem_singleton] at hj ⊢; rw [hj]) | (simp [C.idx] at hj; done) | (simp [srcS] at hsrc; done)
            rw [htg', hjs] at hmb
            exact hmb
          have hub : ∀ j ∈ idxL u, j < base := fun j hj => by
            obtain ⟨k, hk, mb, h3, h4⟩ := srcS_names hsrc j hj
            exact (hp.obj k (by rw [htg']; exact hk) mb (hctm k hk mb h3)).2.2 j h4
          obtain ⟨sp, cap, vs, s1, s2, s3, s4⟩ := srcS_ok hp.upd hsrc hob dS (fun j hj mb hmb => (hp.obj j (by rw [htg']; exact hj) mb (hctm j hj mb hmb)).1)
          have up : ∀ {x : Option (Nat × Nat)} {q : List Seg} {zs : List Value}, (∀ j ∈ idxL q, j < base) → DL cx β q zs → DL cx (upB β base x) q zs := fun hq d => d.congr (fun j hj => upB_low (hq j hj))
          by_cases hm : m = 0
          · subst hm
            have hvs : vs = [] := List.eq_nil_of_length_eq_zero s3
            subst hvs
            exact ⟨_, w, none, run_appB ho dD s1 (run_app0 q1 q2 (Nat.le_refl _)), (fun g n hg => by cases hg), .inl ⟨upB_self _ _ _, rfl, rfl⟩, .inl ⟨upB_self _ _ _, up hub s2⟩, Upd.refl _ w⟩
          · obtain ⟨b, q, s5, s6⟩ := s4 (by omega)
            rw [s5] at s1
            have hsm : m ≤ 9223372036854775807 := hmx'
            have hnl : vs.length = m * inf.size := by rw [s3, b1', Nat.mul_one]
            have hr := run_append_nil (P := E.P) w t o.type e inf z q1 q2 q3 ⟨b, q, none⟩ m cap vs hnl (fun j u hj => by rw [Addr.add_lit]; exact s6 j u hj) (by omega) (by omega) (by omega)
            obtain ⟨g1, g2⟩ := newB (cx := cx) (w := w) (β := β) (e := e) (inf := inf) (z := z) (n := m) (old := 0) (sg := u) hp.upd q4' (up hub s2) s3 hmx'
            exact ⟨_, _, some (w.heap.size, grownCap w m 0 e * 1), run_appB ho dD s1 hr, (fun g n hg => by cases hg; exact Nat.le_refl _), g1, g2, ((Upd.refl _ w).drew).alloc _⟩
        · cases h
    · cases h
  · cases h
end
end Go.Proofs.Ythlleheeghiljaa
