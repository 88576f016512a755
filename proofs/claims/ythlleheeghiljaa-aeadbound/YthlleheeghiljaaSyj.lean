/-
  What a callee does that is given objects and slices of any kind, and makes new ones. For any program.
-/
import Derived.Test.YthlleheeghiljaaSyh
namespace Go.Proofs.Ythlleheeghiljaa
open Go.RowKit

/-- A slice as one that is only read: how many, its cells, what is asked. -/
def rsV (lk : Nat → Option MB) (es : Nat) : C → Option (Nat × L × List Prop)
  | .rs es' m l => cond (Nat.beq es es') (some (m, l, [])) none
  | .sub i b k m => match lk i with
    | some (.grow _ _ l) => cond (Nat.beq b 0) (some (m, l.cut k (mulN es m), [k + mulN es m ≤ l.len])) none
    | some (.fix _ s) => match getPart s b (some k) (mulN es m) with
      | some ([.many _ l], obl) => some (m, l, obl)
      | _ => none
    | some (.ro _ s) => match getPart s b (some k) (mulN es m) with
      | some ([.many _ l], obl) => some (m, l, obl)
      | _ => none
    | _ => none
  | .os i es' m => match lk i with
    | some (.grow _ _ l) => cond (Nat.beq es es') (some (m, l, [l.len = mulN es m])) none
    | _ => none
  | _ => none
/-- Cells that are slices of bytes, as lists. -/
def partsS (lk : Nat → Option MB) : List Seg → Option (List (List Int) × List Prop)
  | [] => some ([], [])
  | .one c :: r => match partsS lk r with
    | some (ls, o) => match c with
      | .v (.slice none 0 0) => some ([] :: ls, o)
      | c => match rsV lk 1 c with
        | some (_, .i .u8 l, obl) => some (l :: ls, obl ++ o)
        | _ => none
    | none => none
  | .rsv x :: r => match partsS lk r with
    | some (ls, o) => some (x ++ ls, o)
    | none => none
  | .many _ _ :: _ => none
def partAt (lk : Nat → Option MB) (i b k n : Nat) (s : List Seg) : Option (List Nat × List (List Int) × List Prop) := match getPart s (Nat.add b k) none n with
  | some (t, obl) => match partsS lk t with
    | some (ls, o) => some (i :: idxL t, ls, (ls.length = n) :: (obl ++ o))
    | none => none
  | none => none
/-- A slice of slices of bytes as one that is only read: the objects that it hangs on, what it reads as, what is asked. -/
def ssV (lk : Nat → Option MB) : C → Option (List Nat × List (List Int) × List Prop)
  | .rss l => some ([], l, [])
  | .v (.slice none 0 0) => some ([], [], [])
  | .sub i b k n => match lk i with
    | some (.fix _ s) => partAt lk i b k n s
    | some (.ro _ s) => partAt lk i b k n s
    | _ => none
  | .os i es n => match lk i with
    | some (.gs _ s) => match partsS lk s with
      | some (ls, o) => cond (Nat.beq es 1) (some (i :: idxL s, ls, (n = ls.length) :: o)) none
      | none => none
    | _ => none
  | _ => none
/-- What the caller has, as the callee sees it: its objects are those of nm; those of wr may be written. -/
def viewC (lk : Nat → Option MB) (nm wr : List Nat) : C → C → List Prop
  | .v x, .v y => [x = y]
  | .v x, .q φ => [φ x]
  | .q φ, .q ψ => [∀ v, φ v → ψ v]
  | .ptr i b k, .ptr j b' k' => [getL nm j = some i, b + kz k = b' + kz k']
  | .sub i b k n, .sub j b' k' n' => [getL nm j = some i, b + k = b' + k', n = n']
  | .os i es n, .os j es' n' => [getL nm j = some i, es = es', n = n']
  | .rp l k, .rp l' k' => (k = k') :: eqLL l l'
  | .fn f caps, .fn f' caps' => (f = f') :: eqCaps nm caps caps'
  | .v (.slice none 0 0), .rs _ n l => [n = 0, l.len = 0]
  | c, .rs es n l => match rsV lk es c with
    | some (m, l', obl) => [c.idx.all (fun i => !memB i wr) = true, m = n] ++ eqLL l' l ++ obl
    | none => [False]
  | c, .rss ls => match ssV lk c with
    | some (is, l', obl) => [is.all (fun i => !memB i wr) = true, l' = ls] ++ obl
    | none => [False]
  | .rsp l, .rsp l' => [l = l']
  | .fm f i b, .fm f' j b' => [f = f', getL nm j = some i, b = b']
  | _, _ => [False]
def viewL (lk : Nat → Option MB) (nm wr : List Nat) : List Seg → List Seg → List Prop
  | [], [] => []
  | .one c :: r, .one d :: s => viewC lk nm wr c d ++ viewL lk nm wr r s
  | .many n l :: r, .many m k :: s => (n = m) :: (eqLL l k ++ viewL lk nm wr r s)
  | .rsv x :: r, .rsv y :: s => (x = y) :: viewL lk nm wr r s
  | _, _ => [False]
def viewT (lk : Nat → Option MB) (nm wr : List Nat) : T1 → T1 → List Prop
  | .c x, .c y => viewC lk nm wr x y
  | .g s, .g t => viewL lk nm wr s t
  | _, _ => [False]
def viewA (lk : Nat → Option MB) (nm wr : List Nat) : AV → AV → List Prop
  | .o x, .o y => viewT lk nm wr x y
  | _, _ => [False]
def viewM (lk : Nat → Option MB) (nm wr : List Nat) : MB → MB → List Prop
  | _, .dead => []
  | .fix t s, .fix t' s' => (t = t') :: viewL lk nm wr s s'
  | .fix t s, .ro t' s' => (t = t') :: viewL lk nm wr s s'
  | .ro t s, .ro t' s' => (t = t') :: viewL lk nm wr s s'
  | .grow t es l, .grow t' es' l' => [t = t', es = es'] ++ eqLL l l'
  | .gs t s, .gs t' s' => (t = t') :: viewL lk nm wr s s'
  | _, _ => [False]
def viewsA (lk : Nat → Option MB) (nm wr : List Nat) : List AV → List AV → List Prop
  | [], [] => []
  | x :: r, y :: s => viewA lk nm wr x y ++ viewsA lk nm wr r s
  | _, _ => [False]
def viewsM (lk : Nat → Option MB) (nm wr : List Nat) : List Nat → List MB → List Prop
  | [], [] => []
  | i :: l, y :: s => (match lk i with | some x => viewM lk nm wr x y | none => [False]) ++ viewsM lk nm wr l s
  | _, _ => [False]
def wrsG : List Nat → List MB → List Nat
  | i :: l, m :: ms => bif m.rw then i :: wrsG l ms else wrsG l ms
  | _, _ => []
def outB : List MB → List MB → Bool
  | m :: ms, t :: ts => (!m.rw || t.rw || !t.live) && outB ms ts
  | _, _ => true
def allL {α : Type} (p : α → Bool) : List α → Bool
  | [] => true
  | x :: r => p x && allL p r
theorem allL_mem {α : Type} {p : α → Bool} : ∀ {l : List α}, allL p l = true → ∀ x ∈ l, p x = true
  | [], _, _, h => by cases h
  | y :: r, h, x, hx => by
    rw [allL, Bool.and_eq_true] at h
    rcases List.mem_cons.1 hx with rfl | hx
    · exact h.1
    · exact allL_mem h.2 x hx
def lenB : List AV → Nat → Bool
  | [], _ => true
  | _ :: r, n + 1 => lenB r n
  | _, _ => false
theorem lenB_le : ∀ {l : List AV} {n : Nat}, lenB l n = true → l.length ≤ n
  | [], _, _ => Nat.zero_le _
  | _ :: r, n + 1, h => Nat.succ_le_succ (lenB_le (l := r) h)
  | _ :: _, 0, h => by cases h
/-- Whether it is well said. -/
def wfG (n : Nat) (k : ClN) : Bool :=
  lenB k.avs n && k.av.own && allL MB.own k.tau && allN (fun i => Nat.blt i k.tau.length) k.av.idx && allL (fun mb => allN (fun i => Nat.blt i k.tau.length) mb.idx) k.tau && Nat.ble k.mem.length k.tau.length && outB k.mem k.tau && allL MB.rw (dropN k.mem.length k.tau)
def idxO : Option MB → List Nat
  | some mb => mb.idx
  | none => []
def idxAs : List AV → List Nat
  | [] => []
  | x :: r => x.idx ++ idxAs r
def behindG (gm : Nat → Option MB) : List Nat → List Nat
  | [] => []
  | i :: r => idxO (gm i) ++ behindG gm r
/-- All objects that are named in it, in what these hold, and in what those hold. -/
def namesG (avs : List AV) (gm : Nat → Option MB) : List Nat := idxAs avs ++ behindG gm (idxAs avs ++ behindG gm (idxAs avs))
def namesC (avs : List AV) (cts : List (Option MB)) : List Nat := idxAs avs ++ behind (idxAs avs ++ behind (idxAs avs).length cts).length cts
theorem behind_map (gm : Nat → Option MB) : ∀ l : List Nat, behind l.length (l.map gm) = behindG gm l
  | [] => rfl
  | i :: l => by
    simp only [List.map_cons, List.length_cons, behindG]
    cases hg : gm i <;> simp only [behind, behind_map gm l, idxO, List.nil_append]
theorem behindG_app (gm : Nat → Option MB) : ∀ k l : List Nat, behindG gm (k ++ l) = behindG gm k ++ behindG gm l
  | [], _ => rfl
  | i :: k, l => by simp only [List.cons_append, behindG, behindG_app gm k l, List.append_assoc]
theorem namesC_eq (avs : List AV) (gm : Nat → Option MB) : namesC avs ((namesG avs gm).map gm) = namesG avs gm := by
  have h1 : behind (idxAs avs).length ((namesG avs gm).map gm) = behindG gm (idxAs avs) := by
    unfold namesG
    rw [List.map_append, behind_app, behind_map]
  unfold namesC
  rw [h1]
  have h2 : namesG avs gm = (idxAs avs ++ behindG gm (idxAs avs)) ++ behindG gm (behindG gm (idxAs avs)) := by
    unfold namesG
    rw [behindG_app, List.append_assoc]
  rw [h2, List.map_append, behind_app, behind_map, behindG_app, List.append_assoc]
def lkG : List Nat → List (Option MB) → Nat → Option MB
  | j :: l, c :: r, i => bif Nat.beq j i then c else lkG l r i
  | _, _, _ => none
theorem lkG_some {gm : Nat → Option MB} {i : Nat} {mb : MB} : ∀ {l : List Nat}, lkG l (l.map gm) i = some mb → i ∈ l ∧ gm i = some mb
  | [], h => by cases h
  | j :: l, h => by
    rw [List.map_cons, lkG] at h
    by_cases e : j = i
    · subst e; rw [Nat.beq_refl, cond_true] at h; exact ⟨by simp, h⟩
    · rw [beqF e, cond_false] at h
      obtain ⟨h1, h2⟩ := lkG_some h
      exact ⟨List.mem_cons_of_mem _ h1, h2⟩
def viewP (lk : Nat → Option MB) (l nm : List Nat) (n : Nat) (avs : List AV) (k : ClN) : List Prop :=
  [(allN (fun i => memB i l) nm && nodupB nm && wfG n k) = true] ++ viewsA lk nm (wrsG nm k.mem) avs k.avs ++ viewsM lk nm (wrsG nm k.mem) nm k.mem
def callG {α : Type} (f : FuncId) (n : Nat) (m : List AV → (Nat → Option MB) → Option (List Nat × α)) (k : α → ClN) (gl : List (Nat × L) := []) : Spec where
  f := f
  tg avs gm := namesG avs gm
  app avs cts base := match m avs (lkG (namesC avs cts) cts) with
    | some (nm, x) => some ⟨(k x).av.map (nameN nm base), 0, mapM (nameN nm base) (dropN nm.length (k x).tau), wrN (nameN nm base) nm (k x).mem (k x).tau, [], viewP (lkG (namesC avs cts) cts) (namesC avs cts) nm n avs (k x) ++ (k x).obl⟩
    | none => none
  gl := gl
/-- A block's cells in a slice. -/
theorem rsV_ok {cx cx' : Cx} {β : Be} {lk : Nat → Option MB} {es m : Nat} {c : C} {l : L} {obl : List Prop} (h : rsV lk es c = some (m, l, obl)) (ho : allP obl) {v : Value} (d : DC cx β c v)
    (hto : ∀ b q l, Lies cx b q l → Lies cx' b q l) (hO : ∀ i ∈ c.idx, ∀ mb, lk i = some mb → ObjAt cx β cx'.w0 i mb ∧ ∀ g n, β i = some (g, n) → mb.live = true → ¬ cx'.W g) : RS cx' es m l v := by
  have part : ∀ {i b k m' ty : Nat} {s : List Seg} {mb : MB}, DC cx β (.sub i b k m') v → (ObjAt cx β cx'.w0 i mb ∧ ∀ g n, β i = some (g, n) → mb.live = true → ¬ cx'.W g) → (mb = .fix ty s ∨ mb = .ro ty s) → (match getPart s b (some k) (mulN es m') with | some ([.many _ l], obl) => some (m', l, obl) | _ => none) = some (m, l, obl) → RS cx' es m l v := by
    intro i b k m' ty s mb d hO' hmb h'
    split at h'
    · rename_i q l' obl' hg
      cases h'
      obtain ⟨sp, cap, d1, d2, d3, d4⟩ := d
      obtain ⟨hobj, hnw⟩ := hO'
      obtain ⟨g0, n0, arr, h1, h3, h4, h5, hlive⟩ : ∃ g0 n0 arr, β i = some (g0, n0) ∧ Bk cx'.w0 g0 ty arr ∧ arr.size = n0 ∧ DL cx β s arr.toList ∧ mb.live = true := by
        rcases hmb with rfl | rfl
        · obtain ⟨g0, n0, arr, h1, h2, h3, h4, h5⟩ := hobj; exact ⟨g0, n0, arr, h1, h3, h4, h5, rfl⟩
        · obtain ⟨g0, n0, arr, h1, h2, h2', h3, h4, h5⟩ := hobj; exact ⟨g0, n0, arr, h1, h3, h4, h5, rfl⟩
      obtain ⟨e1, l2, e2, e3, e4, e5⟩ := getPart_ok hg ho h5
      have e5' : l2 = [] := e5
      subst e5'
      rw [List.append_nil] at e2
      have hlen : l.len = mulN es m := by
        rw [← L.len_c, ← e2, List.length_take, List.length_drop]; omega
      refine ⟨sp, cap, d1, d2, d3, by rw [hlen, mulN_eq], fun h0 => ?_⟩
      obtain ⟨g, s', d5, d6⟩ := d4 h0
      rw [h1] at d5; cases d5
      refine ⟨g0, b + k, d6, h3.lt, hnw g0 n0 h1 hlive, e4, fun j hj => ?_⟩
      rw [h3.cell, ← e2, List.getElem?_take, if_pos (by omega), List.getElem?_drop]
      simp [kz]
    · cases h'
  unfold rsV at h
  split at h
  · rename_i es' m' l'
    cases hb : Nat.beq es es' with
    | false => rw [hb] at h; cases h
    | true =>
      rw [hb] at h; cases h
      obtain rfl := Nat.eq_of_beq_eq_true hb
      obtain ⟨sp, cap, d1, d2, d3, d4, d5⟩ := d
      exact ⟨sp, cap, d1, d2, d3, d4, fun h0 => let ⟨b, q, h6, h7⟩ := d5 h0; ⟨b, q, h6, hto _ _ _ h7⟩⟩
  · rename_i i b k m'
    split at h
    · rename_i ty es' l' hl
      cases hb : Nat.beq b 0 with
      | false => rw [hb] at h; cases h
      | true =>
        rw [hb] at h; cases h
        obtain rfl := Nat.eq_of_beq_eq_true hb
        have hle : k + mulN es m ≤ l'.len := ho
        have hle' := hle
        rw [mulN_eq] at hle'
        obtain ⟨sp, cap, d1, d2, d3, d4⟩ := d
        obtain ⟨hobj, hnw⟩ := hO i (by simp [C.idx]) _ hl
        refine ⟨sp, cap, d1, d2, d3, by rw [L.cut_len _ _ _ hle, mulN_eq], fun h0 => ?_⟩
        obtain ⟨g, s, d5, d6⟩ := d4 h0
        rcases hobj with ⟨h1, _⟩ | ⟨g', n, arr, h1, h2, h3, h4, h5, h6, h7⟩
        · rw [d5] at h1; cases h1
        · rw [d5] at h1; cases h1
          refine ⟨g, 0 + k, d6, h3.lt, hnw g s d5 rfl, fun x hx => ?_, fun j hj => ?_⟩
          · rw [L.cut_c] at hx
            exact h7 x (List.mem_of_mem_drop (List.mem_of_mem_take hx))
          · rw [L.cut_len _ _ _ hle] at hj
            rw [L.cut_c, List.getElem?_take, if_pos hj, List.getElem?_drop, ← h6, List.getElem?_take, if_pos (by omega), h3.cell, Nat.zero_add]
            simp
    · rename_i ty s hl; exact part d (hO i (by simp [C.idx]) _ hl) (.inl rfl) h
    · rename_i ty s hl; exact part d (hO i (by simp [C.idx]) _ hl) (.inr rfl) h
    · cases h
  · rename_i i es' m'
    split at h
    · rename_i ty es2 l' hl
      cases hb : Nat.beq es es' with
      | false => rw [hb] at h; cases h
      | true =>
        rw [hb] at h; cases h
        obtain rfl := Nat.eq_of_beq_eq_true hb
        have hle : l.len = mulN es m := ho
        obtain ⟨hobj, hnw⟩ := hO i (by simp [C.idx]) _ hl
        rcases d with ⟨e1, e2, e3⟩ | ⟨g, s, cap, e1, e2, e3, e4, e5⟩
        · subst e2
          exact ⟨none, 0, e3, Nat.le_refl _, Nat.zero_le _, by rw [hle, mulN_eq], fun h0 => absurd h0 (Nat.lt_irrefl 0)⟩
        · refine ⟨some ⟨g, 0, none⟩, cap, e2, e3, e4, by rw [hle, mulN_eq], fun h0 => ?_⟩
          rcases hobj with ⟨h1, _⟩ | ⟨g', n, arr, h1, h2, h3, h4, h5, h6, h7⟩
          · rw [e1] at h1; cases h1
          · rw [e1] at h1; cases h1
            refine ⟨g, 0, rfl, h3.lt, hnw g s e1 rfl, h7, fun j hj => ?_⟩
            rw [← h6, List.getElem?_take, if_pos hj, h3.cell, Nat.zero_add]
            simp
    · cases h
  · cases h
/-- Slices of bytes, each as it is seen. -/
theorem partsS_ok {cx cx' : Cx} {β : Be} {lk : Nat → Option MB} (hto : ∀ b q l, Lies cx b q l → Lies cx' b q l) (htb : ∀ l v, RB cx l v → RB cx' l v) : ∀ {s : List Seg} {ls : List (List Int)} {o : List Prop}, partsS lk s = some (ls, o) → allP o → ∀ {vs : List Value}, DL cx β s vs →
    (∀ i ∈ idxL s, ∀ mb, lk i = some mb → ObjAt cx β cx'.w0 i mb ∧ ∀ g n, β i = some (g, n) → mb.live = true → ¬ cx'.W g) → RBs cx' ls vs
  | [], _, _, h, _, _, d, _ => by cases h; cases d; trivial
  | .one c :: r, ls, o, h, ho, _, ⟨v, l', e1, e2, e3, e4⟩, hO => by
    subst e1
    unfold partsS at h
    split at h
    · rename_i ls' o' hr
      split at h
      · cases h
        have e : v = .slice none 0 0 := e2
        subst e
        exact ⟨⟨rfl, none, 0, rfl, Nat.le_refl _, Nat.zero_le _, rfl, fun h0 => absurd h0 (Nat.lt_irrefl 0)⟩, partsS_ok hto htb hr ho e4 (fun i hi => hO i (by simp [idxL, hi]))⟩
      · split at h
        · rename_i m l obl hv
          cases h
          rw [allP_append] at ho
          have hRS := rsV_ok hv ho.1 e2 hto (fun i hi => hO i (by simp [idxL, hi]))
          obtain ⟨sp, cap, q1, q2, q3, q4, q5⟩ := hRS
          have hm : m = l.length := by have : l.length = 1 * m := q4; omega
          subst hm
          exact ⟨⟨e3, sp, cap, q1, q2, q3, q4, q5⟩, partsS_ok hto htb hr ho.2 e4 (fun i hi => hO i (by simp [idxL, hi]))⟩
        · cases h
    · cases h
  | .rsv x :: r, ls, o, h, ho, _, ⟨vs, l', e1, e2, e3⟩, hO => by
    subst e1
    unfold partsS at h
    split at h
    · rename_i ls' o' hr
      cases h
      exact RBs.app (e2.imp htb) (partsS_ok hto htb hr ho e3 (fun i hi => hO i (by simpa [idxL] using hi)))
    · cases h
theorem ssV_ok {cx cx' : Cx} {β : Be} {lk : Nat → Option MB} {c : C} {is : List Nat} {ls : List (List Int)} {obl : List Prop} (h : ssV lk c = some (is, ls, obl)) (ho : allP obl) {v : Value} (d : DC cx β c v)
    (hto : ∀ b q l, Lies cx b q l → Lies cx' b q l) (htb : ∀ l v, RB cx l v → RB cx' l v) (hts : ∀ b q l, LiesS cx b q l → LiesS cx' b q l) (hO : ∀ i ∈ is, ∀ mb, lk i = some mb → ObjAt cx β cx'.w0 i mb ∧ ∀ g n, β i = some (g, n) → mb.live = true → ¬ cx'.W g) {β' : Be} : DC cx' β' (.rss ls) v := by
  have part : ∀ {i b k n ty : Nat} {s : List Seg} {mb : MB}, lk i = some mb → (mb = .fix ty s ∨ mb = .ro ty s) → DC cx β (.sub i b k n) v → partAt lk i b k n s = some (is, ls, obl) → DC cx' β' (.rss ls) v := by
    intro i b k n ty s mb hl hmb d hp
    unfold partAt at hp
    split at hp
    · rename_i t ob hg
      split at hp
      · rename_i ls' o hps
        cases hp
        rw [allP_cons, allP_append] at ho
        obtain ⟨rfl, ho1, ho2⟩ := ho
        obtain ⟨hobj, hnw⟩ := hO i (by simp) mb hl
        obtain ⟨sp, cap, d1, d2, d3, d4⟩ := d
        obtain ⟨g0, n0, arr, h1, h3, h5, hlive⟩ : ∃ g0 n0 arr, β i = some (g0, n0) ∧ Bk cx'.w0 g0 ty arr ∧ DL cx β s arr.toList ∧ mb.live = true := by
          rcases hmb with rfl | rfl
          · obtain ⟨g0, n0, arr, h1, h2, h3, h4, h5⟩ := hobj; exact ⟨g0, n0, arr, h1, h3, h5, rfl⟩
          · obtain ⟨g0, n0, arr, h1, h2, h2', h3, h4, h5⟩ := hobj; exact ⟨g0, n0, arr, h1, h3, h5, rfl⟩
        obtain ⟨e1, e2⟩ := getPart_ok hg ho1 h5
        have hR := partsS_ok hto htb hps ho2 e2 (fun j hj => hO j (by simp [hj]))
        refine ⟨sp, cap, d1, d2, d3, fun h0 => ?_⟩
        obtain ⟨g, s', d5, d6⟩ := d4 h0
        rw [h1] at d5; cases d5
        refine ⟨g0, b + k, d6, h3.lt, hnw g0 n0 h1 hlive, fun j l hj => ?_⟩
        obtain ⟨u, hu1, hu2⟩ := hR.get j l hj
        refine ⟨u, ?_, hu2⟩
        rw [List.getElem?_take] at hu1
        split at hu1
        · rw [List.getElem?_drop] at hu1
          rw [h3.cell]
          simpa [kz] using hu1
        · cases hu1
      · cases hp
    · cases hp
  unfold ssV at h
  split at h
  · cases h
    obtain ⟨sp, cap, h1, h2, h3, h4⟩ := d
    exact ⟨sp, cap, h1, h2, h3, fun h0 => let ⟨b, q, h6, h7⟩ := h4 h0; ⟨b, q, h6, hts _ _ _ h7⟩⟩
  · cases h
    have e : v = .slice none 0 0 := d
    subst e
    exact ⟨none, 0, rfl, Nat.le_refl _, Nat.zero_le _, fun h0 => absurd h0 (Nat.lt_irrefl 0)⟩
  · split at h
    · rename_i hl; exact part hl (.inl rfl) d h
    · rename_i hl; exact part hl (.inr rfl) d h
    · cases h
  · rename_i i es n
    split at h
    · rename_i ty s hl
      split at h
      · rename_i ls' o hps
        cases hb : Nat.beq es 1 with
        | false => rw [hb] at h; cases h
        | true =>
          rw [hb] at h; cases h
          obtain rfl := Nat.eq_of_beq_eq_true hb
          rw [allP_cons] at ho
          obtain ⟨rfl, ho⟩ := ho
          obtain ⟨hobj, hnw⟩ := hO i (by simp) _ hl
          rcases d with ⟨e1, e2, e3⟩ | ⟨g, m, cap, e1, e2, e3, e4, e5⟩
          · exact ⟨none, 0, by rw [e3, e2], by omega, Nat.zero_le _, fun h0 => by omega⟩
          · rcases hobj with ⟨h1, _⟩ | ⟨g', n', arr, k, h1, h2, h3, h4, h5, h6⟩
            · rw [e1] at h1; cases h1
            · rw [e1] at h1; cases h1
              have hR := partsS_ok hto htb hps ho h6 (fun j hj => hO j (by simp [hj]))
              refine ⟨_, cap, e2, e3, e4, fun h0 => ⟨g, 0, rfl, h3.lt, hnw g m e1 rfl, fun j l hj => ?_⟩⟩
              obtain ⟨u, hu1, hu2⟩ := hR.get j l hj
              refine ⟨u, ?_, hu2⟩
              rw [List.getElem?_take] at hu1
              split at hu1
              · rw [h3.cell, Nat.zero_add]; simpa using hu1
              · cases hu1
      · cases h
    · cases h
  · cases h
section
variable {cx cx' : Cx} {β : Be} {lk : Nat → Option MB} {nm wr : List Nat}
/-- What is seen is so. -/
theorem viewRS {c : C} {es n : Nat} {l : L} (h : allP (match rsV lk es c with | some (m, l', obl) => [c.idx.all (fun i => !memB i wr) = true, m = n] ++ eqLL l' l ++ obl | none => [False])) {v : Value} (d : DC cx β c v)
    (hto : ∀ b q l, Lies cx b q l → Lies cx' b q l) (hO : ∀ i mb, lk i = some mb → memB i wr = false → ObjAt cx β cx'.w0 i mb ∧ ∀ g n, β i = some (g, n) → mb.live = true → ¬ cx'.W g) : RS cx' es n l v := by
  split at h
  · rename_i m l' obl hr
    rw [allP_append, allP_append] at h
    obtain ⟨⟨⟨h1, rfl⟩, h2⟩, h3⟩ := h
    obtain rfl := eqLL_eq h2
    refine rsV_ok hr h3 d hto (fun i hi mb hl => hO i mb hl ?_)
    have := List.all_eq_true.1 h1 i hi
    cases hb : memB i wr with
    | false => rfl
    | true => rw [hb] at this; cases this
  · exact h.elim
theorem viewC_ok {x y : C} (h : allP (viewC lk nm wr x y)) {v : Value} (d : DC cx β x v)
    (hto : ∀ b q l, Lies cx b q l → Lies cx' b q l) (htb : ∀ l v, RB cx l v → RB cx' l v) (hts : ∀ b q l, LiesS cx b q l → LiesS cx' b q l) (hO : ∀ i mb, lk i = some mb → memB i wr = false → ObjAt cx β cx'.w0 i mb ∧ ∀ g n, β i = some (g, n) → mb.live = true → ¬ cx'.W g) : DC cx' (seeN nm β) y v := by
  unfold viewC at h
  split at h
  · have h' : _ = _ := h
    subst h'; exact d
  · have e : v = _ := d
    subst e; exact h
  · exact h v d
  · obtain ⟨h1, h2⟩ := h
    obtain ⟨g, s, h3, h4⟩ := d
    exact ⟨g, s, by simp [seeN, h1, h3], by rw [h4, h2]⟩
  · obtain ⟨h1, h2, rfl⟩ := h
    obtain ⟨sp, cap, h3, h4, h5, h6⟩ := d
    refine ⟨sp, cap, h3, h4, h5, fun hn => ?_⟩
    obtain ⟨g, s, h7, h8⟩ := h6 hn
    exact ⟨g, s, by simp [seeN, h1, h7], by rw [h8, h2]⟩
  · obtain ⟨h1, rfl, rfl⟩ := h
    rcases d with ⟨h3, h4⟩ | ⟨g, s, cap, h3, h4⟩
    · exact .inl ⟨by simp [seeN, h1, h3], h4⟩
    · exact .inr ⟨g, s, cap, by simp [seeN, h1, h3], h4⟩
  · rw [allP_cons] at h
    obtain ⟨rfl, h2⟩ := h
    obtain rfl := eqLL_eq h2
    obtain ⟨b, o, h3, h4⟩ := d
    exact ⟨b, o, h3, hto _ _ _ h4⟩
  · rw [allP_cons] at h
    obtain ⟨rfl, h2⟩ := h
    obtain ⟨h3, h4⟩ := eqCaps_ok h2
    obtain ⟨vs, d1, d2, d3⟩ := d
    refine ⟨vs, d1, by omega, fun j p hp => ?_⟩
    obtain ⟨i, h5, h6⟩ := h4 j p hp
    obtain ⟨g, s, h7, h8⟩ := d3 j (i, p.2) h5
    exact ⟨g, s, by simp [seeN, h6, h7], h8⟩
  · obtain ⟨rfl, h2⟩ := h
    have e : v = _ := d
    subst e
    exact ⟨none, 0, rfl, Nat.le_refl _, Nat.zero_le _, by rw [h2]; simp, fun h0 => absurd h0 (Nat.lt_irrefl 0)⟩
  · exact viewRS h d hto hO
  · split at h
    · rename_i is l' obl hs
      rw [allP_append] at h
      obtain ⟨⟨h1, h2⟩, h3⟩ := h
      have h2' : _ = _ := h2
      subst h2'
      refine ssV_ok hs h3 d hto htb hts (fun i hi mb hl => hO i mb hl ?_)
      have := List.all_eq_true.1 h1 i hi
      cases hb : memB i wr with
      | false => rfl
      | true => rw [hb] at this; cases this
    · exact h.elim
  · have h' : _ = _ := h
    subst h'
    obtain ⟨b, q, h1, h2⟩ := d
    exact ⟨b, q, h1, hts _ _ _ h2⟩
  · obtain ⟨rfl, h1, rfl⟩ := h
    obtain ⟨g, s, h3, h4⟩ := d
    exact ⟨g, s, by simp [seeN, h1, h3], h4⟩
  · exact h.elim
theorem viewL_ok (hto : ∀ b q l, Lies cx b q l → Lies cx' b q l) (htb : ∀ l v, RB cx l v → RB cx' l v) (hts : ∀ b q l, LiesS cx b q l → LiesS cx' b q l) (hO : ∀ i mb, lk i = some mb → memB i wr = false → ObjAt cx β cx'.w0 i mb ∧ ∀ g n, β i = some (g, n) → mb.live = true → ¬ cx'.W g) :
    ∀ {s t : List Seg}, allP (viewL lk nm wr s t) → ∀ {l : List Value}, DL cx β s l → DL cx' (seeN nm β) t l
  | [], [], _, _, d => d
  | .one c :: r, .one e :: s, h, _, ⟨v, l', h1, h2, h3, h4⟩ => by
    rw [viewL, allP_append] at h
    exact ⟨v, l', h1, viewC_ok h.1 h2 hto htb hts hO, h3, viewL_ok hto htb hts hO h.2 h4⟩
  | .many n l :: r, .many m k :: s, h, _, ⟨l', h1, h2, h3, h4⟩ => by
    rw [viewL, allP_cons, allP_append] at h
    obtain ⟨rfl, h5, h6⟩ := h
    obtain rfl := eqLL_eq h5
    exact ⟨l', h1, h2, h3, viewL_ok hto htb hts hO h6 h4⟩
  | [], _ :: _, h, _, _ => by simp [viewL, allP] at h
  | .one _ :: _, [], h, _, _ => by simp [viewL, allP] at h
  | .many _ _ :: _, [], h, _, _ => by simp [viewL, allP] at h
  | .one _ :: _, .many _ _ :: _, h, _, _ => by simp [viewL, allP] at h
  | .many _ _ :: _, .one _ :: _, h, _, _ => by simp [viewL, allP] at h
  | .rsv _ :: _, .rsv _ :: _, h, _, ⟨vs, l', h1, h2, h3⟩ => by
    rw [viewL, allP_cons] at h
    obtain ⟨rfl, h⟩ := h
    exact ⟨vs, l', h1, h2.imp htb, viewL_ok hto htb hts hO h h3⟩
  | .rsv _ :: _, [], h, _, _ => by simp [viewL, allP] at h
  | .rsv _ :: _, .one _ :: _, h, _, _ => by simp [viewL, allP] at h
  | .rsv _ :: _, .many _ _ :: _, h, _, _ => by simp [viewL, allP] at h
  | .one _ :: _, .rsv _ :: _, h, _, _ => by simp [viewL, allP] at h
  | .many _ _ :: _, .rsv _ :: _, h, _, _ => by simp [viewL, allP] at h
theorem viewA_ok (hto : ∀ b q l, Lies cx b q l → Lies cx' b q l) (htb : ∀ l v, RB cx l v → RB cx' l v) (hts : ∀ b q l, LiesS cx b q l → LiesS cx' b q l) (hO : ∀ i mb, lk i = some mb → memB i wr = false → ObjAt cx β cx'.w0 i mb ∧ ∀ g n, β i = some (g, n) → mb.live = true → ¬ cx'.W g)
    {x y : AV} (h : allP (viewA lk nm wr x y)) {v : Value} (d : DA cx β x v) : DA cx' (seeN nm β) y v := by
  cases x <;> cases y <;> first | exact h.elim | skip
  rename_i x y
  cases x <;> cases y <;> first | exact h.elim | skip
  · exact viewC_ok (x := _) h d hto htb hts hO
  · obtain ⟨arr, h1, h2⟩ := d
    exact ⟨arr, h1, viewL_ok hto htb hts hO h h2⟩
theorem viewsA_ok (hto : ∀ b q l, Lies cx b q l → Lies cx' b q l) (htb : ∀ l v, RB cx l v → RB cx' l v) (hts : ∀ b q l, LiesS cx b q l → LiesS cx' b q l) (hO : ∀ i mb, lk i = some mb → memB i wr = false → ObjAt cx β cx'.w0 i mb ∧ ∀ g n, β i = some (g, n) → mb.live = true → ¬ cx'.W g) {base : Nat} :
    ∀ {l m : List AV} {vs : List Value}, allP (viewsA lk nm wr l m) → All2 (fun av v => DA cx β av v ∧ ∀ j ∈ av.idx, j < base) l vs → All2 (DA cx' (seeN nm β)) m vs
  | [], [], [], _, _ => trivial
  | x :: l, y :: m, v :: vs, h, hd => by
    rw [viewsA, allP_append] at h
    exact ⟨viewA_ok hto htb hts hO h.1 hd.1.1, viewsA_ok hto htb hts hO h.2 hd.2⟩
  | [], _ :: _, _, h, _ => h.elim
  | _ :: _, [], _, h, _ => h.elim
  | [], [], _ :: _, _, hd => hd.elim
  | _ :: _, _ :: _, [], _, hd => hd.elim
end
theorem viewsM_get {lk : Nat → Option MB} {nm wr : List Nat} : ∀ {l : List Nat} {ms : List MB}, allP (viewsM lk nm wr l ms) → l.length = ms.length ∧ ∀ j y, getL ms j = some y → ∃ i x, getL l j = some i ∧ lk i = some x ∧ allP (viewM lk nm wr x y)
  | [], [], _ => ⟨rfl, fun j y h => by cases h⟩
  | i :: l, y :: ms, h => by
    rw [viewsM, allP_append] at h
    obtain ⟨h1, h2⟩ := viewsM_get h.2
    refine ⟨by simp [h1], fun j z hj => ?_⟩
    cases j with
    | zero =>
      cases hj
      have h3 := h.1
      split at h3
      · rename_i x hx; exact ⟨i, x, rfl, hx, h3⟩
      · exact h3.elim
    | succ j => exact h2 j z hj
  | [], _ :: _, h => h.elim
  | _ :: _, [], h => h.elim
theorem viewM_rw {lk : Nat → Option MB} {nm wr : List Nat} {x y : MB} (h : allP (viewM lk nm wr x y)) (hr : y.rw = true) : x.rw = true := by
  cases x <;> cases y <;> first | rfl | exact h.elim | cases hr
theorem viewM_live {lk : Nat → Option MB} {nm wr : List Nat} {x y : MB} (h : allP (viewM lk nm wr x y)) (hr : y.live = true) : x.live = true := by
  cases x <;> cases y <;> first | rfl | exact h.elim | cases hr
theorem wrsG_mem : ∀ {l : List Nat} {ms : List MB} {i : Nat}, i ∈ wrsG l ms ↔ ∃ j mb, getL l j = some i ∧ getL ms j = some mb ∧ mb.rw = true
  | [], _, _ => by simp [wrsG, getL]
  | _ :: _, [], _ => by simp [wrsG, getL]
  | x :: l, m :: ms, i => by
    have ih := wrsG_mem (l := l) (ms := ms) (i := i)
    unfold wrsG
    cases hr : m.rw with
    | false =>
      rw [cond_false, ih]
      constructor
      · rintro ⟨j, mb, h1, h2, h3⟩; exact ⟨j + 1, mb, h1, h2, h3⟩
      · rintro ⟨j, mb, h1, h2, h3⟩
        cases j with
        | zero => cases h2; rw [hr] at h3; cases h3
        | succ j => exact ⟨j, mb, h1, h2, h3⟩
    | true =>
      rw [cond_true, List.mem_cons, ih]
      constructor
      · rintro (rfl | ⟨j, mb, h1, h2, h3⟩)
        · exact ⟨0, m, rfl, rfl, hr⟩
        · exact ⟨j + 1, mb, h1, h2, h3⟩
      · rintro ⟨j, mb, h1, h2, h3⟩
        cases j with
        | zero => cases h1; exact .inl rfl
        | succ j => exact .inr ⟨j, mb, h1, h2, h3⟩
theorem outB_get : ∀ {ms ts : List MB}, outB ms ts = true → ∀ j m t, getL ms j = some m → getL ts j = some t → m.rw = true → t.rw = true ∨ t = .dead
  | [], _, _, _, _, _, h, _, _ => by cases h
  | _ :: _, [], _, _, _, _, _, h, _ => by cases h
  | m :: ms, t :: ts, h, j, m', t', h1, h2, h3 => by
    rw [outB, Bool.and_eq_true] at h
    cases j with
    | zero =>
      cases h1; cases h2
      have := h.1
      rw [h3] at this
      cases t <;> first | exact .inl rfl | exact .inr rfl | cases this
    | succ j => exact outB_get h.2 j m' t' h1 h2 h3
theorem callG_ok {P : Program} {α : Type} {f : FuncId} {n : Nat} {m : List AV → (Nat → Option MB) → Option (List Nat × α)} {kk : α → ClN} {gl : List (Nat × L)} {fn : Func} {c : Code} (hm : P.follows .mixedOrders = true) (hf : P.funcs[f]? = some fn) (hb : fn.body = some c) (hn : n = fn.ntmps)
    (hw : ∀ x, allP (kk x).obl → ∃ F : FnE, F.E.P = P ∧ EvOK F.E ∧ F.E.gl = gl ∧ F.E.pins = (kk x).mem.length ∧ wpE F c ⟨fn.ntmps, slotsOf 0 (kk x).avs, (kk x).mem⟩ (finK P fn.results.toList (postN (kk x)))) : SpecOK P (callG f n m kk gl) := by
  subst hn
  intro avs gm base r hr hobl
  simp only [callG] at hr ⊢
  have hid := namesC_eq avs gm
  simp only [hid] at hr
  split at hr
  · rename_i nm x hk
    cases hr
    obtain ⟨hv0, hobl'⟩ := allP_append.1 hobl
    obtain ⟨F, rfl, hE, hFgl, hpn, hv⟩ := hw x hobl'
    rw [viewP, allP_append, allP_append] at hv0
    obtain ⟨⟨hch, hva⟩, hvm⟩ := hv0
    have hch' : (allN (fun i => memB i (namesG avs gm)) nm && nodupB nm && wfG fn.ntmps (kk x)) = true := hch
    rw [Bool.and_eq_true, Bool.and_eq_true] at hch'
    obtain ⟨⟨hsub, hnd⟩, hwf⟩ := hch'
    unfold wfG at hwf
    simp only [Bool.and_eq_true] at hwf
    obtain ⟨⟨⟨⟨⟨⟨⟨w1, w2⟩, w3⟩, w4⟩, w5⟩, w6⟩, w7⟩, w8⟩ := hwf
    generalize kk x = k at *
    generalize hl : namesG avs gm = l at *
    have nd : ∀ p q i, getL nm p = some i → getL nm q = some i → p = q := nodupB_get hnd
    obtain ⟨hln, hget⟩ := viewsM_get hvm
    have inl : ∀ {j i : Nat}, getL nm j = some i → i ∈ l := fun h => memB_iff.1 (allN_mem hsub _ (getL_mem h).1)
    have cof : ∀ j mb', getL k.mem j = some mb' → ∃ i mb, getL nm j = some i ∧ gm i = some mb ∧ allP (viewM (lkG l (l.map gm)) nm (wrsG nm k.mem) mb mb') := by
      intro j mb' hj
      obtain ⟨i, mb, h1, h2, h3⟩ := hget j mb' hj
      exact ⟨i, mb, h1, (lkG_some h2).2, h3⟩
    have Sown : ∀ mb ∈ k.tau, mb.own = true := allL_mem w3
    have Snames1 : ∀ i ∈ k.av.idx, i < k.tau.length := fun i hi => blt_iff.1 (allN_mem w4 i hi)
    have Snames2 : ∀ mb ∈ k.tau, ∀ i ∈ mb.idx, i < k.tau.length := fun mb hmb i hi => blt_iff.1 (allN_mem (allL_mem w5 mb hmb) i hi)
    have Slong : k.mem.length ≤ k.tau.length := Nat.le_of_ble_eq_true w6
    have Sout := outB_get w7
    have Snews : ∀ j mb, k.mem.length ≤ j → getL k.tau j = some mb → mb.rw = true := by
      intro j mb hj hg
      refine allL_mem w8 mb (getL_mem (m := j - k.mem.length) ?_).1
      rw [dropN_get, show k.mem.length + (j - k.mem.length) = j by omega]; exact hg
    refine ⟨fun m z hz => ?_, fun cx β w vs hu hgl hD hobj hap => ?_⟩
    · obtain ⟨j, mb', t, h1, h2, h3, h4, h5⟩ := wrN_look hz
      obtain ⟨i, mb, g1, g2, g3⟩ := cof j mb' h2
      rw [h1] at g1; cases g1
      exact ⟨inl h1, mb, g2, viewM_rw g3 h3⟩
    · have hlow : ∀ {j i : Nat}, getL nm j = some i → i < base := fun {j i} hj => by
        obtain ⟨mb', hmb'⟩ : ∃ mb', getL k.mem j = some mb' := by
          have := (getL_mem hj).2
          exact ⟨k.mem[j]'(by omega), by rw [getL_eq]; exact List.getElem?_eq_getElem _⟩
        obtain ⟨i', mb, g1, g2, g3⟩ := cof j mb' hmb'
        rw [hj] at g1; cases g1
        exact (hobj i (inl hj) mb g2).2.1
      let W' : Nat → Prop := fun g => ∃ j i mb' n, getL nm j = some i ∧ getL k.mem j = some mb' ∧ mb'.rw = true ∧ β i = some (g, n)
      have mineOf : ∀ {i : Nat} {mb : MB}, i ∈ l → gm i = some mb → mb.rw = true → ∀ g n, β i = some (g, n) → Mine cx g := by
        intro i mb hi hg hrw g n hbi
        have hO := (hobj i hi mb hg).1
        cases mb with
        | fix ty s => obtain ⟨g', n', arr, o1, o2, _⟩ := hO; rw [hbi] at o1; cases o1; exact o2
        | grow ty es x =>
          rcases hO with ⟨o1, _⟩ | ⟨g', n', arr, o1, o2, _⟩
          · rw [hbi] at o1; cases o1
          · rw [hbi] at o1; cases o1; exact o2
        | gs ty x =>
          rcases hO with ⟨o1, _⟩ | ⟨g', n', arr, m', o1, o2, _⟩
          · rw [hbi] at o1; cases o1
          · rw [hbi] at o1; cases o1; exact o2
        | ro ty s => cases hrw
        | dead => cases hrw
      have hmine : ∀ g, W' g → Mine cx g := by
        rintro g ⟨j, i, mb', n, h1, h2, h3, h4⟩
        obtain ⟨i', mb, g1, g2, g3⟩ := cof j mb' h2
        rw [h1] at g1; cases g1
        exact mineOf (inl h1) g2 (viewM_rw g3 h3) g n h4
      have hW : ∀ b, b < cx.w0.heap.size → ¬ cx.W b → ¬ W' b := by
        intro b h1 h2 h3
        rcases hmine b h3 with h4 | h4
        · omega
        · exact h2 h4
      have notWi : ∀ {i : Nat} {mb : MB} {g n : Nat}, i ∈ l → gm i = some mb → mb.live = true → memB i (wrsG nm k.mem) = false → β i = some (g, n) → ¬ W' g := by
        rintro i mb g n hi h4 h5 hwi h6 ⟨j2, i2, mb2, n2, e1, e2, e3, e4⟩
        obtain ⟨i', mbc, g1, g2, g3⟩ := cof j2 mb2 e2
        rw [e1] at g1; cases g1
        have hne : i2 ≠ i := fun e => by
          subst e
          rw [memB_iff.2 (wrsG_mem.2 ⟨j2, mb2, e1, e2, e3⟩)] at hwi
          cases hwi
        exact hap i2 (inl e1) i hi mbc mb hne g2 h4 (viewM_rw g3 e3) h5 g n2 g n e4 h6 rfl
      have notW : ∀ {j i : Nat} {mb' mb : MB} {g n : Nat}, getL nm j = some i → getL k.mem j = some mb' → mb'.rw = false → gm i = some mb → mb.live = true → β i = some (g, n) → ¬ W' g := by
        intro j i mb' mb g n h1 h2 h3 h4 h5 h6
        refine notWi (inl h1) h4 h5 ?_ h6
        cases hb : memB i (wrsG nm k.mem) with
        | false => rfl
        | true =>
          obtain ⟨j2, mb2, e1, e2, e3⟩ := wrsG_mem.1 (memB_iff.1 hb)
          have := nd j2 j i e1 h1
          subst this
          rw [h2] at e2; cases e2
          rw [h3] at e3; cases e3
      let cx1 : Cx := ⟨w, W', F.E.gl, F.E.pins, seeN nm β⟩
      have hto : ∀ b q l, Lies cx b q l → Lies cx1 b q l := fun b q l h => h.to hu hW
      have htb : ∀ l v, RB cx l v → RB cx1 l v := fun l v h => h.to hu hW
      have hts : ∀ b q l, LiesS cx b q l → LiesS cx1 b q l := fun b q l h => h.to hu hW
      have hO1 : ∀ i mb, lkG l (l.map gm) i = some mb → memB i (wrsG nm k.mem) = false → ObjAt cx β cx1.w0 i mb ∧ ∀ g n, β i = some (g, n) → mb.live = true → ¬ cx1.W g := by
        intro i mb hi hwi
        obtain ⟨h1, h2⟩ := lkG_some hi
        exact ⟨(hobj i h1 mb h2).1, fun g n hg hlv => notWi h1 h2 hlv hwi hg⟩
      have entry : ∀ j mb', getL k.mem j = some mb' → ObjAt cx1 (seeN nm β) w j mb' := by
        intro j mb' hj
        obtain ⟨i, mb, g1, g2, g3⟩ := cof j mb' hj
        have hse : seeN nm β j = β i := by simp [seeN, g1]
        have hO := (hobj i (inl g1) mb g2).1
        have hn : ∀ {g n}, mb'.rw = false → mb'.live = true → β i = some (g, n) → ¬ W' g := fun h1 h1' h2 => notW g1 hj h1 g2 (viewM_live g3 h1') h2
        cases mb <;> cases mb' <;> first | trivial | exact g3.elim | skip
        · rw [viewM, allP_cons] at g3
          obtain ⟨rfl, g3⟩ := g3
          obtain ⟨g, n, arr, o1, o2, o3, o4, o5⟩ := hO
          exact ⟨g, n, arr, hse.trans o1, .inr ⟨j, i, _, n, g1, hj, rfl, o1⟩, o3, o4, viewL_ok hto htb hts hO1 g3 o5⟩
        · rw [viewM, allP_cons] at g3
          obtain ⟨rfl, g3⟩ := g3
          obtain ⟨g, n, arr, o1, o2, o3, o4, o5⟩ := hO
          exact ⟨g, n, arr, hse.trans o1, o3.lt, hn rfl rfl o1, o3, o4, viewL_ok hto htb hts hO1 g3 o5⟩
        · rw [viewM, allP_cons] at g3
          obtain ⟨rfl, g3⟩ := g3
          obtain ⟨g, n, arr, o1, o2, o2', o3, o4, o5⟩ := hO
          exact ⟨g, n, arr, hse.trans o1, o3.lt, hn rfl rfl o1, o3, o4, viewL_ok hto htb hts hO1 g3 o5⟩
        · rw [viewM, allP_append] at g3
          obtain ⟨⟨rfl, rfl⟩, g3⟩ := g3
          obtain rfl := eqLL_eq g3
          rcases hO with ⟨o1, o2⟩ | ⟨g, n, arr, o1, o2, o3, o4⟩
          · exact .inl ⟨hse.trans o1, o2⟩
          · exact .inr ⟨g, n, arr, hse.trans o1, .inr ⟨j, i, _, n, g1, hj, rfl, o1⟩, o3, o4⟩
        · rename_i t s t' s'
          rw [viewM, allP_cons] at g3
          obtain ⟨rfl, g3⟩ := g3
          rcases hO with ⟨o1, o2⟩ | ⟨g, n, arr, m, o1, o2, o3, o4, o5, o6⟩
          · exact .inl ⟨hse.trans o1, viewL_ok hto htb hts hO1 g3 o2⟩
          · exact .inr ⟨g, n, arr, m, hse.trans o1, .inr ⟨j, i, _, n, g1, hj, rfl, o1⟩, o3, o4, o5, viewL_ok hto htb hts hO1 g3 o6⟩
      have hDv := viewsA_ok (cx' := cx1) hto htb hts hO1 hva hD
      have hlen : vs.length ≤ fn.ntmps := by
        have h1 := hDv.get.1
        have h3 := lenB_le w1
        omega
      have hcall := fn_calls (F := F) (cx := cx1) (β := seeN nm β) (mem := k.mem) hE hm ⟨rfl, rfl⟩ hf hb (Upd.refl _ w) (fun g l hg => hto _ _ _ (hgl g l (hFgl ▸ hg))) (fun _ _ => rfl) hDv hlen entry (fun p q x y hpq hx hy hrx hly g n g' n' hg hg' => by
        obtain ⟨ip, mp, g1, g2, g3⟩ := cof p x hx
        obtain ⟨iq, mq, e1, e2, e3⟩ := cof q y hy
        have hg2 : β ip = some (g, n) := by simpa [seeN, g1] using hg
        have hg2' : β iq = some (g', n') := by simpa [seeN, e1] using hg'
        exact hap ip (inl g1) iq (inl e1) mp mq (fun e => hpq (nd p q ip g1 (e ▸ e1))) g2 e2 (viewM_rw g3 hrx) (viewM_live e3 hly) g n g' n' hg2 hg2') hv
      refine hcall.mono ?_
      rintro e w' ⟨v, av, σ', β', a', rfl, d, hp, H⟩
      have hp' : allP (impP k.mem.length (reN σ' k.ren) σ' ⟨σ'.n, [], k.tau⟩ ++ eqA (reN σ' k.ren) av k.av) := hp
      rw [allP_append] at hp'
      have H2 := imp_ok (cx := cx1) (by show allP (impP F.E.pins _ _ _); rw [hpn]; exact hp'.1) H
      have d2 := eqA_ok hp'.2 d
      generalize hβ2 : ren0 (reN σ' k.ren) β' = β2 at H2 d2
      have pinE : ∀ {j i : Nat}, getL nm j = some i → β2 j = β i := fun {j i} hj => by
        have hlt := (getL_mem hj).2
        have := H2.pin j (by show j < F.E.pins; omega)
        rw [this]
        simp [cx1, seeN, hj]
      have hT : ∀ j t, getL k.tau j = some t → ObjAt cx1 β2 w' j t := fun j t hj => H2.obj j t hj
      let fm := nameN nm base
      let βn : Be := fun m => if base ≤ m ∧ m < base + (k.tau.length - nm.length) then β2 (nm.length + (m - base)) else β m
      have hlong : nm.length ≤ k.tau.length := by omega
      have key : ∀ j, j < k.tau.length → βn (fm j) = β2 j := by
        intro j hj
        cases hg : getL nm j with
        | some i =>
          have hi := hlow hg
          have e1 : fm j = i := by simp [fm, nameN, hg]
          have e2 : βn i = β i := by simp only [βn]; rw [if_neg (by omega)]
          rw [e1, e2, pinE hg]
        | none =>
          have hge : nm.length ≤ j := by
            rw [getL_eq] at hg
            exact List.getElem?_eq_none_iff.1 hg
          have e1 : fm j = base + (j - nm.length) := by simp [fm, nameN, hg]
          simp only [e1, βn]
          rw [if_pos (by omega), show nm.length + (base + (j - nm.length) - base) = j by omega]
      have old : ∀ m, m < base → βn m = β m := fun m hm => by simp only [βn]; rw [if_neg (by omega)]
      have putIdx : ∀ m z, Rec.put ⟨k.av.map fm, base, mapM fm (dropN nm.length k.tau), wrN fm nm k.mem k.tau, l, viewP (lkG l (l.map gm)) l nm fn.ntmps avs k ++ k.obl⟩ m = some z → ∃ p t, getL k.tau p = some t ∧ z = t.map fm ∧ m = fm p ∧ (t.rw = true ∨ t = .dead) ∧ (lookL m (wrN fm nm k.mem k.tau) = none → nm.length ≤ p ∧ t.rw = true) := by
        intro m z hz
        rcases put_cases hz with h1 | ⟨h0, h2, h1⟩
        · obtain ⟨j, mb', t, g1, g2, g3, g4, g5⟩ := wrN_look h1
          exact ⟨j, t, g4, g5, by simp [fm, nameN, g1], Sout j mb' t g2 g4 g3, fun hn => by rw [h1] at hn; cases hn⟩
        · have h1' : getL (mapM fm (dropN nm.length k.tau)) (m - base) = some z := by rw [getL_eq]; exact h1
          rw [mapM_get, dropN_get] at h1'
          obtain ⟨t, ht, rfl⟩ := Option.map_eq_some_iff.1 h1'
          have hbm : base ≤ m := by simp [Rec.made] at h2; exact h2.1
          have hn : getL nm (nm.length + (m - base)) = none := by rw [getL_eq]; exact List.getElem?_eq_none (by omega)
          have hrw := Snews (nm.length + (m - base)) t (by omega) ht
          refine ⟨nm.length + (m - base), t, ht, rfl, ?_, .inl hrw, fun _ => ⟨by omega, hrw⟩⟩
          simp only [fm, nameN, hn]
          show m = base + (nm.length + (m - base) - nm.length)
          omega
      have tlt : ∀ {j t}, getL k.tau j = some t → j < k.tau.length ∧ t ∈ k.tau := fun h => ⟨(getL_mem h).2, (getL_mem h).1⟩
      have mineT : ∀ {p t}, getL k.tau p = some t → (t.rw = true ∨ t = .dead) → ∀ g n, β2 p = some (g, n) → t.live = true → w.heap.size ≤ g ∨ W' g := by
        intro p t hp hr g n hg hlv
        have hO := hT p t hp
        cases t with
        | fix ty s => obtain ⟨g', n', arr, o1, o2, _⟩ := hO; rw [hg] at o1; cases o1; exact o2
        | grow ty es x =>
          rcases hO with ⟨o1, _⟩ | ⟨g', n', arr, o1, o2, _⟩
          · rw [hg] at o1; cases o1
          · rw [hg] at o1; cases o1; exact o2
        | gs ty x =>
          rcases hO with ⟨o1, _⟩ | ⟨g', n', arr, m', o1, o2, _⟩
          · rw [hg] at o1; cases o1
          · rw [hg] at o1; cases o1; exact o2
        | ro ty s => rcases hr with hr | hr <;> cases hr
        | dead => cases hlv
      refine ⟨v, βn, rfl, fun m hn hput => ?_, fun m x hx => ?_, DA_map w2 (fun i hi => key i (Snames1 i hi)) d2, fun m mb hput => ?_, fun m mb hn hput g n hg => ?_, fun p q x y hpq hx hy hrx hly g n g' n' hg hg' => ?_, H2.upd.mono (fun g _ hg => ?_)⟩
      · simp only [βn]
        by_cases hr : base ≤ m ∧ m < base + (k.tau.length - nm.length)
        · have hput' : Rec.put ⟨k.av.map fm, base, mapM fm (dropN nm.length k.tau), wrN fm nm k.mem k.tau, l, viewP (lkG l (l.map gm)) l nm fn.ntmps avs k ++ k.obl⟩ m = none := hput
          have hn' : lookL m (wrN fm nm k.mem k.tau) = none := hn
          unfold Rec.put at hput'
          simp only [hn'] at hput'
          rw [show Nat.ble base m = true from bleT hr.1, cond_true, mapM_get, dropN_get, getL_eq, List.getElem?_eq_getElem (by omega)] at hput'
          cases hput'
        · rw [if_neg hr]
      · obtain ⟨j, mb', t, g1, g2, g3, g4, g5⟩ := wrN_look hx
        exact old m (hlow g1)
      · obtain ⟨p, t, h1, rfl, rfl, h3, _⟩ := putIdx m mb hput
        obtain ⟨tl, tm⟩ := tlt h1
        refine ObjAt_map (Sown t tm) (key p tl) (fun j hj => key j (Snames2 t tm j hj)) (fun g n hg hlv => ?_) h3 (hT p t h1)
        rcases mineT h1 h3 g n hg hlv with h4 | h4
        · exact .inl (Nat.le_trans hu.size h4)
        · exact hmine g h4
      · obtain ⟨p, t, h1, rfl, rfl, h3, h4⟩ := putIdx m mb hput
        obtain ⟨h5, h6⟩ := h4 hn
        obtain ⟨tl, tm⟩ := tlt h1
        rw [key p tl] at hg
        rcases mineT h1 h3 g n hg (by cases t <;> first | rfl | cases h6) with h7 | ⟨j, i, mb', n', e1, e2, e3, e4⟩
        · exact .inl h7
        · have hjl : j < k.tau.length := by have := (getL_mem e1).2; omega
          obtain ⟨tj, htj⟩ : ∃ tj, getL k.tau j = some tj := ⟨k.tau[j], by rw [getL_eq]; exact List.getElem?_eq_getElem hjl⟩
          rcases Sout j mb' tj e2 htj e3 with h8 | h8
          · refine absurd rfl (H2.apart p j t tj ?_ h1 htj h6 (by cases tj <;> first | rfl | cases h8) g n g n' hg ((pinE e1).trans e4))
            have := (getL_mem e1).2
            omega
          · obtain ⟨z, hz⟩ := wrN_there (f := fm) e1 e2 e3 htj
            obtain ⟨j3, mb3, t3, q1, q2, q3, q4, q5⟩ := wrN_look hz
            have := nd j3 j i q1 e1
            subst this
            rw [htj] at q4; cases q4
            exact .inr ⟨i, n', by rw [hz, q5, h8]; rfl, e4⟩
      · obtain ⟨a1, t1, h1, rfl, rfl, h3, _⟩ := putIdx p x hx
        obtain ⟨a2, t2, e1, rfl, rfl, e3, _⟩ := putIdx q y hy
        rw [key a1 (tlt h1).1] at hg
        rw [key a2 (tlt e1).1] at hg'
        rw [MB.map_rw] at hrx
        rw [MB.map_live] at hly
        exact H2.apart a1 a2 t1 t2 (fun e => hpq (by rw [e])) h1 e1 hrx hly g n g' n' hg hg'
      · obtain ⟨j, i, mb', n, e1, e2, e3, e4⟩ := hg
        have hjl : j < k.tau.length := by have := (getL_mem e1).2; omega
        obtain ⟨z, hz⟩ := wrN_there (f := fm) (ts := k.tau) (t := k.tau[j]) e1 e2 e3 (by rw [getL_eq]; exact List.getElem?_eq_getElem hjl)
        exact ⟨i, z, n, hz, e4⟩
  · cases hr
end Go.Proofs.Ythlleheeghiljaa
