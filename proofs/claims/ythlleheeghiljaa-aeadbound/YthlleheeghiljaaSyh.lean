/-
  What a callee does that is given several objects, or makes new ones. For any program.
-/
import Derived.Test.YthlleheeghiljaaSyg
namespace Go.Proofs.Ythlleheeghiljaa
open Go.RowKit

def C.map (f : Nat → Nat) : C → C
  | .ptr i b k => .ptr (f i) b k
  | .sub i b k n => .sub (f i) b k n
  | .os i es n => .os (f i) es n
  | .fn g caps => .fn g (caps.map fun p => (f p.1, p.2))
  | .fm g i b => .fm g (f i) b
  | c => c
def mapL (f : Nat → Nat) : List Seg → List Seg
  | [] => []
  | .one c :: r => .one (c.map f) :: mapL f r
  | .many n l :: r => .many n l :: mapL f r
  | .rsv l :: r => .rsv l :: mapL f r
def T1.map (f : Nat → Nat) : T1 → T1
  | .c x => .c (x.map f)
  | .g s => .g (mapL f s)
def mapT (f : Nat → Nat) : List T1 → List T1
  | [] => []
  | x :: r => x.map f :: mapT f r
def AV.map (f : Nat → Nat) : AV → AV
  | .o x => .o (x.map f)
  | .t l => .t (mapT f l)
def MB.map (f : Nat → Nat) : MB → MB
  | .fix t s => .fix t (mapL f s)
  | .ro t s => .ro t (mapL f s)
  | .gs t s => .gs t (mapL f s)
  | m => m
section
variable {cx cx' : Cx} {β β' : Be} {f : Nat → Nat}
theorem DC_map {c : C} (ho : c.own = true) (h : ∀ i ∈ c.idx, β' (f i) = β i) {v : Value} (d : DC cx β c v) : DC cx' β' (c.map f) v := by
  cases c with
  | v x => exact d
  | ptr i b k => obtain ⟨g, s, h1, h2⟩ := d; exact ⟨g, s, (h i (by simp [C.idx])).trans h1, h2⟩
  | sub i b k n =>
    obtain ⟨sp, cap, h1, h2, h3, h4⟩ := d
    exact ⟨sp, cap, h1, h2, h3, fun hn => let ⟨g, s, h5, h6⟩ := h4 hn; ⟨g, s, (h i (by simp [C.idx])).trans h5, h6⟩⟩
  | os i es n =>
    rcases d with ⟨h1, h2⟩ | ⟨g, s, cap, h1, h2⟩
    · exact .inl ⟨(h i (by simp [C.idx])).trans h1, h2⟩
    · exact .inr ⟨g, s, cap, (h i (by simp [C.idx])).trans h1, h2⟩
  | rs es n l => cases ho
  | rp l k => cases ho
  | rss l => cases ho
  | rsp l => cases ho
  | fm g i b => obtain ⟨g', s, h1, h2⟩ := d; exact ⟨g', s, (h i (by simp [C.idx])).trans h1, h2⟩
  | q φ => exact d
  | fn g caps =>
    obtain ⟨vs, h1, h2, h3⟩ := d
    refine ⟨vs, h1, by simpa using h2, fun j p hp => ?_⟩
    rw [List.getElem?_map] at hp
    obtain ⟨q, hq, rfl⟩ := Option.map_eq_some_iff.1 hp
    obtain ⟨g', s, h4, h5⟩ := h3 j q hq
    exact ⟨g', s, (h q.1 (List.mem_map.2 ⟨q, List.mem_of_getElem? hq, rfl⟩)).trans h4, h5⟩
theorem DL_map : ∀ {s : List Seg}, ownL s = true → (∀ i ∈ idxL s, β' (f i) = β i) → ∀ {l : List Value}, DL cx β s l → DL cx' β' (mapL f s) l
  | [], _, _, _, d => d
  | .one c :: r, ho, h, _, ⟨v, l', h1, h2, h3, h4⟩ => by
    rw [ownL, Bool.and_eq_true] at ho
    exact ⟨v, l', h1, DC_map ho.1 (fun i hi => h i (by simp [idxL, hi])) h2, h3, DL_map ho.2 (fun i hi => h i (by simp [idxL, hi])) h4⟩
  | .many _ _ :: r, ho, h, _, ⟨l', h1, h2, h3, h4⟩ => ⟨l', h1, h2, h3, DL_map (s := r) ho (fun i hi => h i (by simpa [idxL] using hi)) h4⟩
  | .rsv _ :: _, ho, _, _, _ => by cases ho
theorem D1_map {x : T1} (ho : x.own = true) (h : ∀ i ∈ x.idx, β' (f i) = β i) {v : Value} (d : D1 cx β x v) : D1 cx' β' (x.map f) v := by
  cases x with
  | c x => exact DC_map (c := x) ho h d
  | g s => obtain ⟨arr, h1, h2⟩ := d; exact ⟨arr, h1, DL_map (s := s) ho h h2⟩
theorem DT_map : ∀ {s : List T1}, ownT s = true → (∀ i ∈ idxT s, β' (f i) = β i) → ∀ {l : List Value}, DT cx β s l → DT cx' β' (mapT f s) l
  | [], _, _, _, d => d
  | x :: r, ho, h, _, ⟨v, l', h1, h2, h3⟩ => by
    rw [ownT, Bool.and_eq_true] at ho
    exact ⟨v, l', h1, D1_map ho.1 (fun i hi => h i (by simp [idxT, hi])) h2, DT_map ho.2 (fun i hi => h i (by simp [idxT, hi])) h3⟩
theorem DA_map {x : AV} (ho : x.own = true) (h : ∀ i ∈ x.idx, β' (f i) = β i) {v : Value} (d : DA cx β x v) : DA cx' β' (x.map f) v := by
  cases x with
  | o x => exact D1_map (x := x) ho h d
  | t l => obtain ⟨vs, h1, h2⟩ := d; exact ⟨vs, h1, DT_map (s := l) ho h h2⟩
theorem ObjAt_map {w : World} {i m : Nat} {mb : MB} (ho : mb.own = true) (hm : β' m = β i) (h : ∀ j ∈ mb.idx, β' (f j) = β j) (hmine : ∀ g n, β i = some (g, n) → mb.live = true → Mine cx g) (hw : mb.rw = true ∨ mb = .dead) (d : ObjAt cx' β w i mb) : ObjAt cx β' w m (mb.map f) := by
  cases mb with
  | fix ty s => obtain ⟨g, n, arr, h1, h2, h3, h4, h5⟩ := d; exact ⟨g, n, arr, hm.trans h1, hmine g n h1 rfl, h3, h4, DL_map (s := s) ho h h5⟩
  | ro ty s => rcases hw with hw | hw <;> cases hw
  | grow ty es l =>
    rcases d with ⟨h1, h2⟩ | ⟨g, n, arr, h1, h2, h3⟩
    · exact .inl ⟨hm.trans h1, h2⟩
    · exact .inr ⟨g, n, arr, hm.trans h1, hmine g n h1 rfl, h3⟩
  | gs ty s =>
    rcases d with ⟨h1, h2⟩ | ⟨g, n, arr, k, h1, h2, h3, h4, h5, h6⟩
    · exact .inl ⟨hm.trans h1, DL_map (s := s) ho h h2⟩
    · exact .inr ⟨g, n, arr, k, hm.trans h1, hmine g n h1 rfl, h3, h4, h5, DL_map (s := s) ho h h6⟩
  | dead => trivial
end
theorem MB.map_rw (f : Nat → Nat) (mb : MB) : (mb.map f).rw = mb.rw := by cases mb <;> rfl
theorem MB.map_live (f : Nat → Nat) (mb : MB) : (mb.map f).live = mb.live := by cases mb <;> rfl
/-- A call as the callee sees it: what it is given; its objects, those of the caller in their order; what it yields and all objects at its end, those of the caller first, then new ones (numbered so); which of its own they are; what it asks. -/
structure ClN where
  avs : List AV
  mem : List MB
  av : AV
  tau : List MB
  ren : List Nat
  obl : List Prop
def nameN (l : List Nat) (base j : Nat) : Nat := match getL l j with
  | some i => i
  | none => Nat.add base (j - l.length)
def wrN (f : Nat → Nat) : List Nat → List MB → List MB → List (Nat × MB)
  | i :: l, m :: ms, t :: ts => bif m.rw then (i, t.map f) :: wrN f l ms ts else wrN f l ms ts
  | _, _, _ => []
def mapM (f : Nat → Nat) : List MB → List MB
  | [] => []
  | m :: r => m.map f :: mapM f r
def dropN : Nat → List MB → List MB
  | 0, l => l
  | _, [] => []
  | n + 1, _ :: r => dropN n r
/-- Those that stand in objects. -/
def behind : Nat → List (Option MB) → List Nat
  | n + 1, some mb :: r => mb.idx ++ behind n r
  | n + 1, none :: r => behind n r
  | _, _ => []
theorem behind_app : ∀ (l : List Nat) (gm : Nat → Option MB) (r : List (Option MB)), behind l.length (l.map gm ++ r) = behind l.length (l.map gm)
  | [], _, r => by cases r <;> rfl
  | i :: l, gm, r => by
    simp only [List.map_cons, List.cons_append, List.length_cons]
    cases gm i <;> simp only [behind, behind_app l gm r]
def seeN (l : List Nat) (β : Be) : Be := fun j => match getL l j with | some i => β i | none => none
def postN (k : ClN) (av : AV) (σ : St) : Prop := allP (impP k.mem.length (reN σ k.ren) σ ⟨σ.n, [], k.tau⟩ ++ eqA (reN σ k.ren) av k.av)
theorem mapM_get (f : Nat → Nat) : ∀ (l : List MB) (j : Nat), getL (mapM f l) j = (getL l j).map (MB.map f)
  | [], _ => rfl
  | _ :: _, 0 => rfl
  | _ :: r, j + 1 => by simp only [mapM, getL]; exact mapM_get f r j
theorem mapM_length (f : Nat → Nat) : ∀ (l : List MB), (mapM f l).length = l.length
  | [] => rfl
  | _ :: r => by simp [mapM, mapM_length f r]
theorem dropN_get : ∀ (n : Nat) (l : List MB) (j : Nat), getL (dropN n l) j = getL l (n + j)
  | 0, l, j => by simp [dropN]
  | n + 1, [], j => by simp [dropN, getL]
  | n + 1, x :: r, j => by rw [dropN, dropN_get n r j, show n + 1 + j = (n + j) + 1 by omega]; rfl
theorem wrN_look {f : Nat → Nat} {m : Nat} {z : MB} : ∀ {l : List Nat} {ms ts : List MB}, lookL m (wrN f l ms ts) = some z → ∃ j mb t, getL l j = some m ∧ getL ms j = some mb ∧ mb.rw = true ∧ getL ts j = some t ∧ z = t.map f
  | [], _, _, h => by simp [wrN, lookL] at h
  | _ :: _, [], _, h => by simp [wrN, lookL] at h
  | _ :: _, _ :: _, [], h => by simp [wrN, lookL] at h
  | i :: l, mb :: ms, t :: ts, h => by
    have up : lookL m (wrN f l ms ts) = some z → ∃ j mb' t', getL (i :: l) j = some m ∧ getL (mb :: ms) j = some mb' ∧ mb'.rw = true ∧ getL (t :: ts) j = some t' ∧ z = t'.map f := fun h => by
      obtain ⟨j, mb', t', h1, h2, h3, h4, h5⟩ := wrN_look h
      exact ⟨j + 1, mb', t', h1, h2, h3, h4, h5⟩
    unfold wrN at h
    cases hr : mb.rw with
    | false => rw [hr] at h; exact up h
    | true =>
      rw [hr, cond_true] at h
      unfold lookL at h
      by_cases e : i = m
      · subst e
        simp only [Nat.beq_refl, cond_true, Option.some.injEq] at h
        exact ⟨0, mb, t, rfl, rfl, hr, rfl, h.symm⟩
      · rw [beqF e, cond_false] at h; exact up h
/-- Every one that may be written is there. -/
theorem wrN_there {f : Nat → Nat} {m : Nat} : ∀ {l : List Nat} {ms ts : List MB} {j : Nat} {mb t : MB}, getL l j = some m → getL ms j = some mb → mb.rw = true → getL ts j = some t → ∃ z, lookL m (wrN f l ms ts) = some z
  | i :: l, mb0 :: ms, t0 :: ts, j, mb, t, h1, h2, h3, h4 => by
    unfold wrN
    cases j with
    | zero =>
      cases h1; cases h2; cases h4
      rw [h3, cond_true]
      exact ⟨t0.map f, by simp [lookL]⟩
    | succ j =>
      obtain ⟨z, hz⟩ := wrN_there (f := f) (l := l) (ms := ms) (ts := ts) h1 h2 h3 h4
      cases hr : mb0.rw with
      | false => exact ⟨z, hz⟩
      | true =>
        rw [cond_true]
        by_cases e : i = m
        · subst e; exact ⟨t0.map f, by simp [lookL]⟩
        · exact ⟨z, by rw [lookL, beqF e, cond_false]; exact hz⟩
  | [], _, _, _, _, _, h1, _, _, _ => by cases h1
  | _ :: _, [], _, _, _, _, _, h2, _, _ => by cases h2
  | _ :: _, _ :: _, [], _, _, _, _, _, _, h4 => by cases h4
end Go.Proofs.Ythlleheeghiljaa
