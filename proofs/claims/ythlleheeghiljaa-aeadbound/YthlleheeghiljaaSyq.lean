/-
  Slices of slices put together: what is known of a callee that copies cells of any kind says what it does with slices. For any program.
-/
import Derived.Test.YthlleheeghiljaaSyk
namespace Go.Proofs.Ythlleheeghiljaa
open Go.RowKit

def ctG (lk : Nat → Option MB) : C → Option MB
  | .os i _ _ => lk i
  | _ => none
def mCatV : List AV → (Nat → Option MB) → Option (List Nat × (Nat × Nat × Nat × List Value × List Value))
  | [.o (.c (.os i 1 2))], lk => match lk i with
    | some (.gs ty [.one (.rs 1 n (.v x)), .one (.rs 1 m (.v y))]) => some ([i], ty, n, m, x, y)
    | _ => none
  | _, _ => none
def kCatV (e : TypeId) : Nat × Nat × Nat × List Value × List Value → ClN := fun (ty, n, m, x, y) => ⟨[.o (.c (.os 0 1 2))], [.gs ty [.one (.rs 1 n (.v x)), .one (.rs 1 m (.v y))]], .o (.c (.os 1 1 (n + m))), [.dead, .grow e 1 (.v (x ++ y))], [0, 3], [x.length = n, y.length = m, 0 < n + m, n + m ≤ 5000000000000]⟩
/-- slices.Concat of two. -/
def catS (f : FuncId) (e : TypeId) : Spec where
  f := f
  tg avs gm := namesG avs gm
  app avs cts base := match avs with
    | [.o (.c (.os i 1 2))] => match lkG (namesC avs cts) cts i with
      | some (.gs _ [.one c, .one d]) => match srcS c (ctG (lkG (namesC avs cts) cts) c), srcS d (ctG (lkG (namesC avs cts) cts) d) with
        | some (n, s, o), some (m, t, o') => cond (memB i (c.idx ++ d.idx)) none (some ⟨.o (.c (.os base 1 (n + m))), 0, [.gs e (s ++ t)], [(i, .dead)], [], o ++ o' ++ [0 < n + m, n + m ≤ 5000000000000]⟩)
        | _, _ => none
      | _ => none
    | _ => none
theorem srcS_cap {cx : Cx} {β : Be} {s : C} {ct : Option MB} {m : Nat} {t : List Seg} {obl : List Prop} (h : srcS s ct = some (m, t, obl)) {sp : Option Addr} {cap : Nat} (d : DC cx β s (.slice sp m cap)) : m ≤ cap ∧ cap ≤ mx := by
  unfold srcS at h
  split at h
  · cases h
    obtain ⟨sp', cap', d1, d2, d3, d4⟩ := d
    cases d1; exact ⟨d2, d3⟩
  · rename_i i es m' ty s'
    cases hb : Nat.beq es 1 with
    | false => rw [hb] at h; cases h
    | true =>
      rw [hb] at h; cases h
      rcases d with ⟨d1, d2, d3⟩ | ⟨g, k, cap', d1, d2, d3, d4, d5⟩
      · cases d3; exact ⟨Nat.le_refl _, Nat.zero_le _⟩
      · cases d2; exact ⟨d3, d4⟩
  · cases h
    have e : Value.slice sp 0 cap = .slice none 0 0 := d
    cases e; exact ⟨Nat.le_refl _, Nat.zero_le _⟩
  · cases h
/-- A slice of cells does not lie in a block that is somebody's own. -/
theorem srcS_blk {cx : Cx} {β : Be} {s : C} {ct : Option MB} {m : Nat} {t : List Seg} {obl : List Prop} (h : srcS s ct = some (m, t, obl)) {b q cap : Nat} (d : DC cx β s (.slice (some ⟨b, q, none⟩) m cap)) (hm : 0 < m) {g : Nat} (hg : Mine cx g) (hne : ∀ j ∈ s.idx, ∀ n, β j = some (b, n) → b ≠ g) : b ≠ g := by
  unfold srcS at h
  split at h
  · cases h
    obtain ⟨sp', cap', d1, d2, d3, d4⟩ := d
    cases d1
    obtain ⟨b', q', e, hL⟩ := d4 hm
    cases e
    rintro rfl
    rcases hg with hg | hg
    · exact absurd hL.1 (by omega)
    · exact hL.2.1 hg
  · rename_i i es m' ty s'
    cases hb : Nat.beq es 1 with
    | false => rw [hb] at h; cases h
    | true =>
      rw [hb] at h; cases h
      rcases d with ⟨d1, d2, d3⟩ | ⟨g', k, cap', d1, d2, d3, d4, d5⟩
      · cases d3
      · cases d2; exact hne i (by simp [C.idx]) k d1
  · cases h; omega
  · cases h
theorem catS_ok {P : Program} {f : FuncId} {n0 : Nat} {e : TypeId} (hc : SpecOK P (callG f n0 mCatV (kCatV e))) (hn : lenB [AV.o (.c (.os 0 1 2))] n0 = true) : SpecOK P (catS f e) := by
  intro avs gm base r hr hobl
  have hid := namesC_eq avs gm
  simp only [catS, hid] at hr ⊢
  split at hr
  · rename_i i
    generalize hl : namesG [AV.o (.c (.os i 1 2))] gm = l at *
    split at hr
    · rename_i ty c d hgi0
      obtain ⟨hil, hgi⟩ := lkG_some hgi0
      split at hr
      · rename_i n s o m t o' hs ht
        cases hmem : memB i (c.idx ++ d.idx) with
        | true => rw [hmem] at hr; cases hr
        | false =>
        rw [hmem, cond_false] at hr
        cases hr
        rw [allP_append, allP_append] at hobl
        obtain ⟨⟨ho, ho'⟩, hpos, hle⟩ := hobl
        have hpos' : 0 < n + m := hpos
        have hle' : n + m ≤ 5000000000000 := hle
        have hput : ∀ z, (Rec.put ⟨.o (.c (.os base 1 (n + m))), base, [.gs e (s ++ t)], [(i, .dead)], l, o ++ o' ++ [0 < n + m, n + m ≤ 5000000000000]⟩ z) = if i = z then some .dead else if z = base then some (.gs e (s ++ t)) else none := by
          intro z
          unfold Rec.put lookL
          by_cases e1 : i = z
          · subst e1; simp
          · simp only [beqF e1, cond_false, lookL, if_neg e1]
            by_cases e2 : z = base
            · subst e2; simp only [if_true, show Nat.ble z z = true from bleT (Nat.le_refl z), cond_true, Nat.sub_self, getL]
            · rw [if_neg e2]
              by_cases e3 : base ≤ z
              · rw [show Nat.ble base z = true from bleT e3, cond_true, show z - base = (z - base - 1) + 1 by omega]
                rfl
              · rw [bleF e3]; rfl
        have hlk : ∀ z, lookL z [(i, MB.dead)] = if i = z then some .dead else none := fun z => by
          unfold lookL
          by_cases e1 : i = z
          · subst e1; simp
          · simp [beqF e1, lookL, e1]
        refine ⟨fun z x hz => ?_, fun cx β w vs hu hgl hD hobj hap => ?_⟩
        · rw [hlk] at hz
          split at hz
          · rename_i e1; subst e1; exact ⟨hil, _, hgi, rfl⟩
          · cases hz
        · match vs, hD with
          | [v], ⟨⟨hv, hvi⟩, _⟩ =>
            have hib : i < base := hvi i (by simp [AV.idx, T1.idx, C.idx])
            obtain ⟨hO, _, hidx⟩ := hobj i hil _ hgi
            rcases hv with ⟨_, h2, _⟩ | ⟨g, kk, cap, b1, b2, b3, b4, b5⟩
            · omega
            · rcases hO with ⟨h1, _⟩ | ⟨g', n', arr, k, p1, p2, p3, p4, p5, p6⟩
              · rw [b1] at h1; cases h1
              · rw [b1] at p1; cases p1
                have p6' := p6
                obtain ⟨u1, l1, q1, q2, q3, u2, l2, q4, q5, q6, q7⟩ := p6'
                have q7' : l2 = [] := q7
                have hct : ∀ {x : C} {j : Nat} {mb : MB}, j ∈ x.idx → ctG (lkG l (l.map gm)) x = some mb → ∃ y, gm j = some mb ∧ j ∈ l ∧ y = mb := by
                  intro x j mb hj hx
                  cases x <;> first | (simp [ctG] at hx; done) | skip
                  simp only [C.idx, List.mem_singleton] at hj
                  subst hj
                  obtain ⟨h1, h2⟩ := lkG_some hx
                  exact ⟨mb, h2, h1, rfl⟩
                have hone : ∀ {x : C} {j : Nat} {n1 : Nat} {sx : List Seg} {ox : List Prop}, srcS x (ctG (lkG l (l.map gm)) x) = some (n1, sx, ox) → j ∈ x.idx → ∃ ty' s', gm j = some (.gs ty' s') ∧ j ∈ l := by
                  intro x j n1 sx ox hx hj
                  unfold srcS at hx
                  split at hx
                  · simp [C.idx] at hj
                  · rename_i i2 es2 m2 ty2 s2 hc2
                    simp only [C.idx, List.mem_singleton] at hj
                    subst hj
                    obtain ⟨h1, h2⟩ := lkG_some (show lkG l (l.map gm) j = _ from hc2)
                    exact ⟨ty2, s2, h2, h1⟩
                  · simp [C.idx] at hj
                  · cases hx
                have src : ∀ {x : C} {n1 : Nat} {sx : List Seg} {ox : List Prop} {u : Value}, srcS x (ctG (lkG l (l.map gm)) x) = some (n1, sx, ox) → allP ox → DC cx β x u → (∀ j ∈ x.idx, j ≠ i) → u.oneCell' = true →
                    ∃ xs : List Value, xs.length = n1 ∧ DL cx β sx xs ∧ RS ⟨w, fun b => b = g, [], 0, fun _ => none⟩ 1 n1 (.v xs) u := by
                  intro x n1 sx ox u hx hox hu1 hni h1c
                  obtain ⟨sp, cp, xs, s1, s2, s3, s4⟩ := srcS_ok hu hx hox hu1 (fun j hj mb hmb => let ⟨_, h1, h2, _⟩ := hct hj hmb; (hobj j h2 mb h1).1)
                  subst s1
                  obtain ⟨c1, c2⟩ := srcS_cap hx hu1
                  refine ⟨xs, s3, s2, sp, cp, rfl, c1, c2, by show xs.length = 1 * n1; omega, fun h0 => ?_⟩
                  obtain ⟨b, q, e1, e2⟩ := s4 h0
                  subst e1
                  have hbg : b ≠ g := srcS_blk hx hu1 h0 p2 (fun j hj nn hbj => by
                    obtain ⟨ty', s', h1, h2⟩ := hone hx hj
                    exact hap j h2 i hil _ _ (hni j hj) h1 hgi rfl rfl b nn g kk hbj b1)
                  have hlt : b < w.heap.size := by
                    have h3 : xs[0]? = some xs[0] := List.getElem?_eq_getElem (by omega)
                    have h4 := e2 0 _ h3
                    exact World.block_lt_of_cell? w _ h4
                  exact ⟨b, q, rfl, hlt, hbg, DL_one s2, fun j hj => by
                    have hj' : j < xs.length := hj
                    rw [show (L.v xs).c = xs from rfl, List.getElem?_eq_getElem hj']
                    exact e2 j _ (List.getElem?_eq_getElem hj')⟩
                have hni : ∀ j ∈ c.idx ++ d.idx, j ≠ i := fun j hj e => by
                  subst e
                  rw [memB_iff.2 hj] at hmem; cases hmem
                obtain ⟨xs, x1, x2, x3⟩ := src hs ho q2 (fun j hj => hni j (by simp [hj])) q3
                obtain ⟨ys, y1, y2, y3⟩ := src ht ho' q5 (fun j hj => hni j (by simp [hj])) q6
                have key := (hc [.o (.c (.os 0 1 2))] (fun j => match j with | 0 => some (.gs ty [.one (.rs 1 n (.v xs)), .one (.rs 1 m (.v ys))]) | _ => none) 1 ⟨.o (.c (.os 1 1 (n + m))), 0, [.grow e 1 (.v (xs ++ ys))], [(0, .dead)], [], _⟩ (by
                  show _ = some _
                  exact rfl) (by
                  rw [allP_append]
                  refine ⟨?_, x1, y1, hpos', hle'⟩
                  rw [viewP, allP_append, allP_append]
                  refine ⟨⟨?_, rfl, rfl, rfl⟩, ?_⟩
                  · show (_ && _ && wfG n0 _) = true
                    unfold wfG
                    rw [show lenB (kCatV e (ty, n, m, xs, ys)).avs n0 = true from hn]
                    rfl
                  · show allP (viewM _ _ _ _ _ ++ _)
                    refine allP_append.2 ⟨?_, trivial⟩
                    rw [viewM, allP_cons]
                    refine ⟨rfl, ?_⟩
                    simp only [viewL, viewC, rsV, Nat.beq_refl, cond_true, eqLL, allP, allP_append, C.idx, List.all_nil, and_self, List.append_nil])).2 ⟨w, fun b => b = g, [], 0, fun _ => none⟩ (fun j => match j with | 0 => some (g, kk) | _ => none) w [v] (Upd.refl _ w) (fun _ _ h => by cases h) ⟨⟨.inr ⟨g, kk, cap, rfl, b2, b3, b4, b5⟩, fun j hj => by simp [AV.idx, T1.idx, C.idx] at hj; omega⟩, trivial⟩ (fun j hj mb hmb => by
                      match j, hmb with
                      | 0, hmb =>
                        cases hmb
                        refine ⟨.inr ⟨g, kk, arr, k, rfl, .inr rfl, p3, p4, p5, ?_⟩, by omega, fun j hj => by simp [MB.idx, idxL, C.idx] at hj⟩
                        rw [q1]
                        exact ⟨u1, l1, rfl, x3, q3, u2, l2, q4, y3, q6, q7'⟩) (fun i1 _ j1 _ x y hij hx hy _ _ => by
                      match i1, hx with
                      | 0, _ => match j1, hy with
                        | 0, _ => exact absurd rfl hij)
                refine key.mono ?_
                rintro ex w' ⟨v', β', rfl, a1, a2, a3, a4, a5, a6, a7⟩
                have hob := a4 1 (.grow e 1 (.v (xs ++ ys))) rfl
                have hup : Upd (fun g' => ∃ m' x' n', lookL m' [(i, MB.dead)] = some x' ∧ β m' = some (g', n')) w w' := a7.mono (fun g' _ ⟨m', x', n', h1, h2⟩ => by
                  match m', h2 with
                  | 0, h2 => cases h2; exact ⟨i, .dead, kk, by simp [lookL], b1⟩)
                refine ⟨v', upB β base (β' 1), rfl, fun z hz1 hz2 => ?_, fun z x hz => ?_, ?_, fun z mb hz => ?_, fun z mb hz1 hz2 g2 n2 hg2 => ?_, fun i1 j1 x y hij hx hy hrx hly => ?_, hup⟩
                · unfold upB
                  rw [if_neg]
                  intro e2
                  subst e2
                  rw [hput] at hz2
                  rw [if_neg (by omega), if_pos rfl] at hz2
                  cases hz2
                · rw [hlk] at hz
                  split at hz
                  · rename_i e1; subst e1; exact upB_low hib
                  · cases hz
                · rcases a3 with ⟨h1, h2, h3⟩ | ⟨g2, k2, cap2, h1, h2⟩
                  · exact .inl ⟨by rw [upB_self]; exact h1, h2, h3⟩
                  · exact .inr ⟨g2, k2, cap2, by rw [upB_self]; exact h1, h2⟩
                · rw [hput] at hz
                  split at hz
                  · cases hz; trivial
                  · split at hz
                    · rename_i e2
                      cases hz
                      subst e2
                      have hst : ∀ j ∈ idxL (s ++ t), j < z := by
                        intro j hj
                        rw [idxL_append, List.mem_append] at hj
                        rcases hj with hj | hj
                        · obtain ⟨k3, hk3, mb3, h3, h4⟩ := srcS_names hs j hj
                          obtain ⟨_, h5, h6, _⟩ := hct hk3 h3
                          exact (hobj k3 h6 mb3 h5).2.2 j h4
                        · obtain ⟨k3, hk3, mb3, h3, h4⟩ := srcS_names ht j hj
                          obtain ⟨_, h5, h6, _⟩ := hct hk3 h3
                          exact (hobj k3 h6 mb3 h5).2.2 j h4
                      have hDL : DL cx (upB β z (β' 1)) (s ++ t) (xs ++ ys) := (DL_append x2 y2).congr (fun j hj => upB_low (hst j hj))
                      rcases hob with ⟨h1, h2⟩ | ⟨g2, k2, arr2, h1, h2, h3, h4, h5, h6, h7⟩
                      · have h2' : (xs ++ ys).length = 0 := h2
                        rw [List.length_append] at h2'; omega
                      · refine .inr ⟨g2, k2, arr2, (xs ++ ys).length, by rw [upB_self]; exact h1, ?_, h3, h4, h5, ?_⟩
                        · rcases h2 with h2 | h2
                          · exact .inl (Nat.le_trans hu.size h2)
                          · have h2' : g2 = g := h2
                            rw [h2']; exact p2
                        · have h6' : arr2.toList.take (xs ++ ys).length = xs ++ ys := h6
                          rw [h6']; exact hDL
                    · cases hz
                · rw [hput] at hz2
                  rw [hlk] at hz1
                  split at hz1
                  · cases hz1
                  · rename_i e1
                    rw [if_neg e1] at hz2
                    split at hz2
                    · rename_i e2
                      subst e2
                      rw [upB_self] at hg2
                      rcases a5 1 _ rfl rfl g2 n2 hg2 with h | ⟨m', n', h1, h2⟩
                      · exact .inl h
                      · match m', h2 with
                        | 0, h2 => cases h2; exact .inr ⟨i, _, by rw [hlk, if_pos rfl], b1⟩
                    · cases hz2
                · rw [hput] at hx hy
                  split at hx
                  · cases hx; cases hrx
                  · split at hx
                    · rename_i e2
                      split at hy
                      · cases hy; cases hly
                      · split at hy
                        · rename_i e3; exact absurd (e2.trans e3.symm) hij
                        · cases hy
                    · cases hx
      · cases hr
    · cases hr
  · cases hr
end Go.Proofs.Ythlleheeghiljaa
