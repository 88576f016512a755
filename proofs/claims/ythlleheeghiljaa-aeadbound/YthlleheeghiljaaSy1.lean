/-
  Abstract values, abstract memory and what they mean. For any program.
-/
import Derived.Test.YthlleheeghiljaaBk
namespace Go.Proofs.Ythlleheeghiljaa
open Go.RowKit

/-- A list of cells: numbers of one kind, or whatever. -/
inductive L where
  | i (k : IntKind) (l : List Int)
  | v (l : List Value)
def L.c : L → List Value
  | .i k l => l.map (Value.int k)
  | .v l => l
def L.len : L → Nat
  | .i _ l => l.length
  | .v l => l.length
theorem L.len_c (l : L) : l.c.length = l.len := by cases l <;> simp [L.c, L.len]
/-- A cell (rss: a slice of slices of bytes, all of what came in; rsp: a pointer to a cell of such a one; Seg.rsv: such slices, one a cell; MB.gs: what a slice owns, by its cells): this value; a pointer into object i; a part of object i as a slice; the slice that owns object i; a slice of what came in, which reads as l; a pointer to the k-th cell of what came in; any value of which φ holds. -/
inductive C where
  | v (x : Value)
  | ptr (i b : Nat) (k : Option Nat)
  | sub (i b k n : Nat)
  | os (i es n : Nat)
  | rs (es n : Nat) (l : L)
  | rp (l : L) (k : Nat)
  | q (φ : Value → Prop)
  | fn (f : Nat) (caps : List (Nat × Nat))
  | rss (ls : List (List Int))
  | rsp (l : List Int)
  | fm (f i b : Nat)
inductive Seg where
  | one (c : C)
  | many (n : Nat) (l : L)
  | rsv (ls : List (List Int))
inductive T1 where
  | c (x : C)
  | g (s : List Seg)
inductive AV where
  | o (x : T1)
  | t (l : List T1)
/-- An object: a variable; one that is only read; what a slice owns; nothing any more. -/
inductive MB where
  | fix (ty : TypeId) (s : List Seg)
  | ro (ty : TypeId) (s : List Seg)
  | grow (ty : TypeId) (es : Nat) (l : L)
  | gs (ty : TypeId) (s : List Seg)
  | dead
/-- The world at the beginning, the blocks of it that may be written, what package-level variables hold (which nobody writes), and which ones stay the blocks that they are. -/
structure Cx where
  w0 : World
  W : Nat → Prop
  gl : List (Nat × L)
  pins : Nat := 0
  pin : Nat → Option (Nat × Nat) := fun _ => none
/-- Which block an object is, and how many cells it has. -/
def Be := Nat → Option (Nat × Nat)
def kz : Option Nat → Nat
  | none => 0
  | some k => k
def mx : Nat := 9223372036854775807

/-- What came in lies there, and is not written. -/
def Lies (cx : Cx) (b o : Nat) (l : L) : Prop := b < cx.w0.heap.size ∧ ¬ cx.W b ∧ (∀ x ∈ l.c, x.oneCell' = true) ∧ ∀ j, j < l.len → cx.w0.cell? ⟨b, o + j, none⟩ = l.c[j]?
def RS (cx : Cx) (es n : Nat) (l : L) (v : Value) : Prop :=
  ∃ sp cap, v = .slice sp n cap ∧ n ≤ cap ∧ cap ≤ mx ∧ l.len = es * n ∧ (0 < n → ∃ b o, sp = some ⟨b, o, none⟩ ∧ Lies cx b o l)
/-- A slice of bytes that came in. -/
def RB (cx : Cx) (l : List Int) (v : Value) : Prop := v.oneCell' = true ∧ RS cx 1 l.length (.i .u8 l) v
def LiesS (cx : Cx) (b o : Nat) (ls : List (List Int)) : Prop := b < cx.w0.heap.size ∧ ¬ cx.W b ∧ ∀ (j : Nat) (l : List Int), ls[j]? = some l → ∃ v, cx.w0.cell? ⟨b, o + j, none⟩ = some v ∧ RB cx l v
def RBs (cx : Cx) : List (List Int) → List Value → Prop
  | [], [] => True
  | l :: ls, v :: vs => RB cx l v ∧ RBs cx ls vs
  | _, _ => False
theorem RBs.len {cx : Cx} : ∀ {ls : List (List Int)} {vs : List Value}, RBs cx ls vs → vs.length = ls.length
  | [], [], _ => rfl
  | _ :: _, _ :: _, h => congrArg (· + 1) h.2.len
  | [], _ :: _, h => h.elim
  | _ :: _, [], h => h.elim
theorem RBs.get {cx : Cx} : ∀ {ls : List (List Int)} {vs : List Value}, RBs cx ls vs → ∀ (j : Nat) (l : List Int), ls[j]? = some l → ∃ v, vs[j]? = some v ∧ RB cx l v
  | [], [], _, _, _, h => by cases h
  | _ :: _, _ :: _, h, 0, _, hl => by cases hl; exact ⟨_, rfl, h.1⟩
  | _ :: _, _ :: _, h, j + 1, _, hl => h.2.get j _ hl
  | [], _ :: _, h, _, _, _ => h.elim
  | _ :: _, [], h, _, _, _ => h.elim
theorem RBs.one {cx : Cx} : ∀ {ls : List (List Int)} {vs : List Value}, RBs cx ls vs → ∀ v ∈ vs, v.oneCell' = true
  | [], [], _, _, h => by cases h
  | _ :: _, _ :: _, h, v, hv => by
    rcases List.mem_cons.1 hv with rfl | hv
    · exact h.1.1
    · exact h.2.one v hv
  | [], _ :: _, h, _, _ => h.elim
  | _ :: _, [], h, _, _ => h.elim
theorem RBs.imp {cx cx' : Cx} (h : ∀ l v, RB cx l v → RB cx' l v) : ∀ {ls : List (List Int)} {vs : List Value}, RBs cx ls vs → RBs cx' ls vs
  | [], [], _ => trivial
  | _ :: _, _ :: _, d => ⟨h _ _ d.1, RBs.imp h d.2⟩
  | [], _ :: _, d => d.elim
  | _ :: _, [], d => d.elim
theorem RBs.app {cx : Cx} : ∀ {ls : List (List Int)} {vs : List Value}, RBs cx ls vs → ∀ {ls' : List (List Int)} {vs' : List Value}, RBs cx ls' vs' → RBs cx (ls ++ ls') (vs ++ vs')
  | [], [], _, _, _, h => h
  | _ :: _, _ :: _, h, _, _, h' => ⟨h.1, h.2.app h'⟩
  | [], _ :: _, h, _, _, _ => h.elim
  | _ :: _, [], h, _, _, _ => h.elim
def DC (cx : Cx) (β : Be) : C → Value → Prop
  | .v x, v => v = x
  | .ptr i b k, v => ∃ g s, β i = some (g, s) ∧ v = .pointer (some ⟨g, b + kz k, none⟩)
  | .sub i b k n, v => ∃ sp cap, v = .slice sp n cap ∧ n ≤ cap ∧ cap ≤ mx ∧ (0 < n → ∃ g s, β i = some (g, s) ∧ sp = some ⟨g, b + k, none⟩)
  | .os i es n, v => (β i = none ∧ n = 0 ∧ v = .slice none 0 0) ∨ ∃ g s cap, β i = some (g, s) ∧ v = .slice (some ⟨g, 0, none⟩) n cap ∧ n ≤ cap ∧ cap ≤ mx ∧ s = cap * es
  | .rs es n l, v => RS cx es n l v
  | .rp l k, v => ∃ b o, v = .pointer (some ⟨b, o + k, none⟩) ∧ Lies cx b o l
  | .q φ, v => φ v
  | .rss ls, v => ∃ sp cap, v = .slice sp ls.length cap ∧ ls.length ≤ cap ∧ cap ≤ mx ∧ (0 < ls.length → ∃ b o, sp = some ⟨b, o, none⟩ ∧ LiesS cx b o ls)
  | .rsp l, v => ∃ b o, v = .pointer (some ⟨b, o, none⟩) ∧ LiesS cx b o [l]
  | .fm f i b, v => ∃ g s, β i = some (g, s) ∧ v = .func (.func f) #[.pointer (some ⟨g, b, none⟩)] #[]
  | .fn f caps, v => ∃ vs : List Value, v = .func (.func f) #[] vs.toArray ∧ vs.length = caps.length ∧ ∀ (j : Nat) (p : Nat × Nat), caps[j]? = some p → ∃ g s, β p.1 = some (g, s) ∧ vs[j]? = some (.pointer (some ⟨g, p.2, none⟩))
def DL (cx : Cx) (β : Be) : List Seg → List Value → Prop
  | [], l => l = []
  | .one c :: r, l => ∃ v l', l = v :: l' ∧ DC cx β c v ∧ v.oneCell' = true ∧ DL cx β r l'
  | .many n xs :: r, l => ∃ l', l = xs.c ++ l' ∧ xs.len = n ∧ (∀ x ∈ xs.c, x.oneCell' = true) ∧ DL cx β r l'
  | .rsv ls :: r, l => ∃ vs l', l = vs ++ l' ∧ RBs cx ls vs ∧ DL cx β r l'
def D1 (cx : Cx) (β : Be) : T1 → Value → Prop
  | .c x, v => DC cx β x v
  | .g s, v => ∃ arr : Array Value, v = .agg arr ∧ DL cx β s arr.toList
def DT (cx : Cx) (β : Be) : List T1 → List Value → Prop
  | [], l => l = []
  | x :: r, l => ∃ v l', l = v :: l' ∧ D1 cx β x v ∧ DT cx β r l'
def DA (cx : Cx) (β : Be) : AV → Value → Prop
  | .o x, v => D1 cx β x v
  | .t l, v => ∃ vs : Array Value, v = .tuple vs ∧ DT cx β l vs.toList
def Mine (cx : Cx) (g : Nat) : Prop := cx.w0.heap.size ≤ g ∨ cx.W g
def ObjAt (cx : Cx) (β : Be) (w : World) (i : Nat) : MB → Prop
  | .fix ty s => ∃ g n arr, β i = some (g, n) ∧ Mine cx g ∧ Bk w g ty arr ∧ arr.size = n ∧ DL cx β s arr.toList
  | .ro ty s => ∃ g n arr, β i = some (g, n) ∧ g < cx.w0.heap.size ∧ ¬ cx.W g ∧ Bk w g ty arr ∧ arr.size = n ∧ DL cx β s arr.toList
  | .grow ty _ l => (β i = none ∧ l.len = 0) ∨ ∃ g n arr, β i = some (g, n) ∧ Mine cx g ∧ Bk w g ty arr ∧ arr.size = n ∧ l.len ≤ n ∧ arr.toList.take l.len = l.c ∧ ∀ x ∈ l.c, x.oneCell' = true
  | .gs ty s => (β i = none ∧ DL cx β s []) ∨ ∃ g n arr m, β i = some (g, n) ∧ Mine cx g ∧ Bk w g ty arr ∧ arr.size = n ∧ m ≤ n ∧ DL cx β s (arr.toList.take m)
  | .dead => True
/-- Is it one that may be written? -/
def MB.rw : MB → Bool
  | .fix _ _ => true
  | .grow _ _ _ => true
  | .gs _ _ => true
  | _ => false
def MB.live : MB → Bool
  | .dead => false
  | _ => true

/-- The objects that are named in it. -/
def C.idx : C → List Nat
  | .ptr i _ _ => [i]
  | .sub i _ _ _ => [i]
  | .os i _ _ => [i]
  | .fn _ caps => caps.map Prod.fst
  | .fm _ i _ => [i]
  | _ => []
def idxL : List Seg → List Nat
  | [] => []
  | .one c :: r => c.idx ++ idxL r
  | .many _ _ :: r => idxL r
  | .rsv _ :: r => idxL r
def T1.idx : T1 → List Nat
  | .c x => x.idx
  | .g s => idxL s
def idxT : List T1 → List Nat
  | [] => []
  | x :: r => x.idx ++ idxT r
def AV.idx : AV → List Nat
  | .o x => x.idx
  | .t l => idxT l
def MB.idx : MB → List Nat
  | .fix _ s => idxL s
  | .ro _ s => idxL s
  | .gs _ s => idxL s
  | _ => []

section
variable {cx : Cx} {β β' : Be}
theorem DC.congr {c : C} {v : Value} (h : ∀ i ∈ c.idx, β' i = β i) (d : DC cx β c v) : DC cx β' c v := by
  cases c with
  | v x => exact d
  | ptr i b k => obtain ⟨g, s, h1, h2⟩ := d; exact ⟨g, s, (h i (by simp [C.idx])).trans h1, h2⟩
  | sub i b k n =>
    obtain ⟨sp, cap, h1, h2, h3, h4⟩ := d
    exact ⟨sp, cap, h1, h2, h3, fun hn => let ⟨g, s, h5, h6⟩ := h4 hn; ⟨g, s, (h i (by simp [C.idx])).trans h5, h6⟩⟩
  | os i es n =>
    rcases d with ⟨h1, h2⟩ | ⟨g, s, cap, h1, h2⟩
    · exact .inl ⟨(h i (by simp [C.idx])).trans h1, h2⟩
    · exact .inr ⟨g, s, cap, (h i (by simp [C.idx])).trans h1, h2⟩
  | rs es n l => exact d
  | rp l k => exact d
  | q φ => exact d
  | rss ls => exact d
  | rsp l => exact d
  | fm f i b => obtain ⟨g, s, h1, h2⟩ := d; exact ⟨g, s, (h i (by simp [C.idx])).trans h1, h2⟩
  | fn f caps =>
    obtain ⟨vs, h1, h2, h3⟩ := d
    refine ⟨vs, h1, h2, fun j p hp => ?_⟩
    obtain ⟨g, s, h4, h5⟩ := h3 j p hp
    exact ⟨g, s, (h p.1 (List.mem_map.2 ⟨p, List.mem_of_getElem? hp, rfl⟩)).trans h4, h5⟩
theorem DL.congr : ∀ {s : List Seg} {l : List Value}, (∀ i ∈ idxL s, β' i = β i) → DL cx β s l → DL cx β' s l
  | [], _, _, d => d
  | .one c :: r, _, h, ⟨v, l', h1, h2, h3, h4⟩ => ⟨v, l', h1, h2.congr (fun i hi => h i (by simp [idxL, hi])), h3, h4.congr (fun i hi => h i (by simp [idxL, hi]))⟩
  | .many _ _ :: _, _, h, ⟨l', h1, h2, h3, h4⟩ => ⟨l', h1, h2, h3, h4.congr (fun i hi => h i (by simpa [idxL] using hi))⟩
  | .rsv _ :: _, _, h, ⟨vs, l', h1, h2, h3⟩ => ⟨vs, l', h1, h2, h3.congr (fun i hi => h i (by simpa [idxL] using hi))⟩
theorem D1.congr {x : T1} {v : Value} (h : ∀ i ∈ x.idx, β' i = β i) (d : D1 cx β x v) : D1 cx β' x v := by
  cases x with
  | c x => exact DC.congr h d
  | g s => obtain ⟨arr, h1, h2⟩ := d; exact ⟨arr, h1, h2.congr h⟩
theorem DT.congr : ∀ {s : List T1} {l : List Value}, (∀ i ∈ idxT s, β' i = β i) → DT cx β s l → DT cx β' s l
  | [], _, _, d => d
  | _ :: _, _, h, ⟨v, l', h1, h2, h3⟩ => ⟨v, l', h1, h2.congr (fun i hi => h i (by simp [idxT, hi])), h3.congr (fun i hi => h i (by simp [idxT, hi]))⟩
theorem DA.congr {x : AV} {v : Value} (h : ∀ i ∈ x.idx, β' i = β i) (d : DA cx β x v) : DA cx β' x v := by
  cases x with
  | o x => exact D1.congr h d
  | t l => obtain ⟨vs, h1, h2⟩ := d; exact ⟨vs, h1, h2.congr h⟩
/-- An object stays as it is while its block does, and the names in it. -/
theorem ObjAt.keep {w w' : World} {i : Nat} {mb : MB} (h : ObjAt cx β w i mb) (hi : β' i = β i) (hx : ∀ j ∈ mb.idx, β' j = β j) (hb : ∀ g n, β i = some (g, n) → mb.live = true → ∀ t arr, Bk w g t arr → Bk w' g t arr) : ObjAt cx β' w' i mb := by
  cases mb with
  | fix ty s => obtain ⟨g, n, arr, h1, h2, h3, h4, h5⟩ := h; exact ⟨g, n, arr, hi.trans h1, h2, hb g n h1 rfl _ _ h3, h4, h5.congr hx⟩
  | ro ty s => obtain ⟨g, n, arr, h1, h2, h2', h3, h4, h5⟩ := h; exact ⟨g, n, arr, hi.trans h1, h2, h2', hb g n h1 rfl _ _ h3, h4, h5.congr hx⟩
  | grow ty es l =>
    rcases h with ⟨h1, h2⟩ | ⟨g, n, arr, h1, h2, h3, h4⟩
    · exact .inl ⟨hi.trans h1, h2⟩
    · exact .inr ⟨g, n, arr, hi.trans h1, h2, hb g n h1 rfl _ _ h3, h4⟩
  | gs ty s =>
    rcases h with ⟨h1, h2⟩ | ⟨g, n, arr, m, h1, h2, h3, h4, h5, h6⟩
    · exact .inl ⟨hi.trans h1, h2.congr hx⟩
    · exact .inr ⟨g, n, arr, m, hi.trans h1, h2, hb g n h1 rfl _ _ h3, h4, h5, h6.congr hx⟩
  | dead => trivial
theorem ObjAt.blk {w : World} {i : Nat} {mb : MB} (h : ObjAt cx β w i mb) (hl : mb.live = true) {g n : Nat} (hg : β i = some (g, n)) : ∃ t arr, Bk w g t arr := by
  cases mb with
  | fix ty s => obtain ⟨g', n', arr, h1, h2, h3, h4, h5⟩ := h; rw [hg] at h1; cases h1; exact ⟨_, _, h3⟩
  | ro ty s => obtain ⟨g', n', arr, h1, h2, h2', h3, h4, h5⟩ := h; rw [hg] at h1; cases h1; exact ⟨_, _, h3⟩
  | grow ty es l =>
    rcases h with ⟨h1, h2⟩ | ⟨g', n', arr, h1, h2, h3, h4⟩
    · rw [hg] at h1; cases h1
    · rw [hg] at h1; cases h1; exact ⟨_, _, h3⟩
  | gs ty s =>
    rcases h with ⟨h1, h2⟩ | ⟨g', n', arr, m, h1, h2, h3, h4⟩
    · rw [hg] at h1; cases h1
    · rw [hg] at h1; cases h1; exact ⟨_, _, h3⟩
  | dead => cases hl
end

/-- What is known of a frame and a world: of the slots gs, of the objects gm. -/
structure Holds (cx : Cx) (β : Be) (n : Nat) (gs : Nat → Option AV) (gm : Nat → Option MB) (a : Act) (w : World) : Prop where
  upd : Upd cx.W cx.w0 w
  glob : ∀ g l, (g, l) ∈ cx.gl → Lies cx g 0 l
  pin : ∀ j, j < cx.pins → β j = cx.pin j
  defers : a.defers = []
  size : a.tmps.size = n
  slot : ∀ t av, gs t = some av → ∃ v, a.tmps[t]? = some v ∧ DA cx β av v
  obj : ∀ i mb, gm i = some mb → ObjAt cx β w i mb
  apart : ∀ i j x y, i ≠ j → gm i = some x → gm j = some y → x.rw = true → y.live = true → ∀ g n g' n', β i = some (g, n) → β j = some (g', n') → g ≠ g'

/-- What an operation does: what it yields, the objects that it makes (from base on), those that it writes, those that it looks at, and what it asks. -/
structure Rec where
  av : AV
  base : Nat
  news : List MB
  wr : List (Nat × MB)
  tg : List Nat
  obl : List Prop
/-- All of them. -/
def allP : List Prop → Prop
  | [] => True
  | [p] => p
  | p :: q :: r => p ∧ allP (q :: r)
theorem allP_cons {p : Prop} {l : List Prop} : allP (p :: l) ↔ p ∧ allP l := by cases l <;> simp [allP]
theorem allP_append {k l : List Prop} : allP (k ++ l) ↔ allP k ∧ allP l := by
  induction k with
  | nil => simp [allP]
  | cons p k ih => rw [List.cons_append, allP_cons, allP_cons, ih, and_assoc]
def lookL {α : Type} (m : Nat) : List (Nat × α) → Option α
  | [] => none
  | (k, x) :: r => bif Nat.beq k m then some x else lookL m r
def getL {α : Type} : List α → Nat → Option α
  | [], _ => none
  | x :: _, 0 => some x
  | _ :: r, n + 1 => getL r n
theorem getL_eq {α : Type} : ∀ (l : List α) (n : Nat), getL l n = l[n]?
  | [], n => by simp [getL]
  | x :: _, 0 => by simp [getL]
  | x :: r, n + 1 => by simp [getL, getL_eq r n]
/-- What it makes of object m. -/
def Rec.put (r : Rec) (m : Nat) : Option MB := match lookL m r.wr with
  | some x => some x
  | none => bif Nat.ble r.base m then getL r.news (m - r.base) else none
/-- What one operation must keep to. -/
def Does (P : Program) (cx : Cx) (β : Be) (o : Oper) (r : Rec) (a : Act) (w : World) (Q : Exit → Act → World → Prop) : Prop :=
  ∀ K : Act → World → Prop, (∀ v w' β', (∀ m, lookL m r.wr = none → r.put m = none → β' m = β m) → (∀ m x, lookL m r.wr = some x → β' m = β m) → DA cx β' r.av v → (∀ m mb, r.put m = some mb → ObjAt cx β' w' m mb) →
    (∀ m mb, lookL m r.wr = none → r.put m = some mb → ∀ g n, β' m = some (g, n) → w.heap.size ≤ g ∨ ∃ m' n', lookL m' r.wr = some .dead ∧ β m' = some (g, n')) →
    (∀ i j x y, i ≠ j → r.put i = some x → r.put j = some y → x.rw = true → y.live = true → ∀ g n g' n', β' i = some (g, n) → β' j = some (g', n') → g ≠ g') →
    Upd (fun g => ∃ m x n, lookL m r.wr = some x ∧ β m = some (g, n)) w w' → K (a.put o.dst v) w') → Oper.wp P o a w K Q
end Go.Proofs.Ythlleheeghiljaa
