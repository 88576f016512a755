/-
  What a callee does, by evaluation of its body. For any program.
-/
import Derived.Test.YthlleheeghiljaaSyd
namespace Go.Proofs.Ythlleheeghiljaa
open Go.RowKit

/-- No slice of what came in. -/
def C.own : C → Bool
  | .rs _ _ _ => false
  | .rp _ _ => false
  | .rss _ => false
  | .rsp _ => false
  | _ => true
def ownL : List Seg → Bool
  | [] => true
  | .one c :: r => c.own && ownL r
  | .many _ _ :: r => ownL r
  | .rsv _ :: _ => false
def T1.own : T1 → Bool
  | .c x => x.own
  | .g s => ownL s
def ownT : List T1 → Bool
  | [] => true
  | x :: r => x.own && ownT r
def AV.own : AV → Bool
  | .o x => x.own
  | .t l => ownT l
def MB.own : MB → Bool
  | .fix _ s => ownL s
  | .ro _ s => ownL s
  | .gs _ s => ownL s
  | _ => true
section
variable {cx cx' : Cx} {β : Be}
theorem DC.via {c : C} (h : c.own = true) {v : Value} (d : DC cx β c v) : DC cx' β c v := by
  cases c <;> first | exact d | cases h
theorem DL.via : ∀ {s : List Seg}, ownL s = true → ∀ {l : List Value}, DL cx β s l → DL cx' β s l
  | [], _, _, d => d
  | .one c :: r, h, _, ⟨v, l', h1, h2, h3, h4⟩ => by
    rw [ownL, Bool.and_eq_true] at h
    exact ⟨v, l', h1, h2.via h.1, h3, DL.via h.2 h4⟩
  | .many _ _ :: r, h, _, ⟨l', h1, h2, h3, h4⟩ => ⟨l', h1, h2, h3, DL.via (s := r) h h4⟩
  | .rsv _ :: _, h, _, _ => by cases h
theorem D1.via {x : T1} (h : x.own = true) {v : Value} (d : D1 cx β x v) : D1 cx' β x v := by
  cases x with
  | c x => exact DC.via (c := x) h d
  | g s => obtain ⟨arr, h1, h2⟩ := d; exact ⟨arr, h1, DL.via (s := s) h h2⟩
theorem DT.via : ∀ {s : List T1}, ownT s = true → ∀ {l : List Value}, DT cx β s l → DT cx' β s l
  | [], _, _, d => d
  | x :: r, h, _, ⟨v, l', h1, h2, h3⟩ => by
    rw [ownT, Bool.and_eq_true] at h
    exact ⟨v, l', h1, h2.via h.1, DT.via h.2 h3⟩
theorem DA.via {x : AV} (h : x.own = true) {v : Value} (d : DA cx β x v) : DA cx' β x v := by
  cases x with
  | o x => exact D1.via (x := x) h d
  | t l => obtain ⟨vs, h1, h2⟩ := d; exact ⟨vs, h1, DT.via (s := l) h h2⟩
end
theorem Lies.to {cx : Cx} {w : World} {W : Nat → Prop} {gl : List (Nat × L)} {pn : Nat} {pi : Be} (hu : Upd cx.W cx.w0 w) (hW : ∀ b, b < cx.w0.heap.size → ¬ cx.W b → ¬ W b) {b q : Nat} {l : L} (h : Lies cx b q l) : Lies ⟨w, W, gl, pn, pi⟩ b q l :=
  ⟨Nat.lt_of_lt_of_le h.1 hu.size, hW b h.1 h.2.1, h.2.2.1, fun j hj => h.now hu j hj⟩
theorem RB.to {cx : Cx} {w : World} {W : Nat → Prop} {gl : List (Nat × L)} {pn : Nat} {pi : Be} (hu : Upd cx.W cx.w0 w) (hW : ∀ b, b < cx.w0.heap.size → ¬ cx.W b → ¬ W b) {l : List Int} {v : Value} (h : RB cx l v) : RB ⟨w, W, gl, pn, pi⟩ l v := by
  obtain ⟨h0, sp, cap, h1, h2, h3, h4, h5⟩ := h
  exact ⟨h0, sp, cap, h1, h2, h3, h4, fun hn => let ⟨b, q, h6, h7⟩ := h5 hn; ⟨b, q, h6, h7.to hu hW⟩⟩
theorem LiesS.to {cx : Cx} {w : World} {W : Nat → Prop} {gl : List (Nat × L)} {pn : Nat} {pi : Be} (hu : Upd cx.W cx.w0 w) (hW : ∀ b, b < cx.w0.heap.size → ¬ cx.W b → ¬ W b) {b q : Nat} {ls : List (List Int)} (h : LiesS cx b q ls) : LiesS ⟨w, W, gl, pn, pi⟩ b q ls :=
  ⟨Nat.lt_of_lt_of_le h.1 hu.size, hW b h.1 h.2.1, fun j l hj => let ⟨v, h1, h2⟩ := h.now hu j l hj; ⟨v, h1, h2.to hu hW⟩⟩
theorem RBs.to {cx : Cx} {w : World} {W : Nat → Prop} {gl : List (Nat × L)} {pn : Nat} {pi : Be} (hu : Upd cx.W cx.w0 w) (hW : ∀ b, b < cx.w0.heap.size → ¬ cx.W b → ¬ W b) : ∀ {ls : List (List Int)} {vs : List Value}, RBs cx ls vs → RBs ⟨w, W, gl, pn, pi⟩ ls vs
  | [], [], _ => trivial
  | _ :: _, _ :: _, h => ⟨h.1.to hu hW, RBs.to hu hW h.2⟩
  | [], _ :: _, h => h.elim
  | _ :: _, [], h => h.elim
theorem DC.to {cx : Cx} {β : Be} {w : World} {W : Nat → Prop} {gl : List (Nat × L)} {pn : Nat} {pi : Be} (hu : Upd cx.W cx.w0 w) (hW : ∀ b, b < cx.w0.heap.size → ¬ cx.W b → ¬ W b) {c : C} {v : Value} (d : DC cx β c v) : DC ⟨w, W, gl, pn, pi⟩ β c v := by
  cases c with
  | rs es n l =>
    obtain ⟨sp, cap, h1, h2, h3, h4, h5⟩ := d
    exact ⟨sp, cap, h1, h2, h3, h4, fun h0 => let ⟨b, q, h6, h7⟩ := h5 h0; ⟨b, q, h6, h7.to hu hW⟩⟩
  | rp l k => obtain ⟨b, q, h1, h2⟩ := d; exact ⟨b, q, h1, h2.to hu hW⟩
  | v x => exact d
  | ptr i b k => exact d
  | sub i b k n => exact d
  | os i es n => exact d
  | q φ => exact d
  | fn f caps => exact d
  | fm f i b => exact d
  | rss ls =>
    obtain ⟨sp, cap, h1, h2, h3, h4⟩ := d
    exact ⟨sp, cap, h1, h2, h3, fun h0 => let ⟨b, q, h6, h7⟩ := h4 h0; ⟨b, q, h6, h7.to hu hW⟩⟩
  | rsp l => obtain ⟨b, q, h1, h2⟩ := d; exact ⟨b, q, h1, h2.to hu hW⟩
theorem DL.to {cx : Cx} {β : Be} {w : World} {W : Nat → Prop} {gl : List (Nat × L)} {pn : Nat} {pi : Be} (hu : Upd cx.W cx.w0 w) (hW : ∀ b, b < cx.w0.heap.size → ¬ cx.W b → ¬ W b) : ∀ {s : List Seg} {l : List Value}, DL cx β s l → DL ⟨w, W, gl, pn, pi⟩ β s l
  | [], _, d => d
  | .one _ :: _, _, ⟨v, l', h1, h2, h3, h4⟩ => ⟨v, l', h1, h2.to hu hW, h3, DL.to hu hW h4⟩
  | .many _ _ :: r, _, ⟨l', h1, h2, h3, h4⟩ => ⟨l', h1, h2, h3, DL.to (s := r) hu hW h4⟩
  | .rsv _ :: r, _, ⟨vs, l', h1, h2, h3⟩ => ⟨vs, l', h1, h2.to hu hW, DL.to (s := r) hu hW h3⟩
theorem D1.to {cx : Cx} {β : Be} {w : World} {W : Nat → Prop} {gl : List (Nat × L)} {pn : Nat} {pi : Be} (hu : Upd cx.W cx.w0 w) (hW : ∀ b, b < cx.w0.heap.size → ¬ cx.W b → ¬ W b) {x : T1} {v : Value} (d : D1 cx β x v) : D1 ⟨w, W, gl, pn, pi⟩ β x v := by
  cases x with
  | c x => exact DC.to hu hW d
  | g s => obtain ⟨arr, h1, h2⟩ := d; exact ⟨arr, h1, DL.to hu hW h2⟩
theorem DT.to {cx : Cx} {β : Be} {w : World} {W : Nat → Prop} {gl : List (Nat × L)} {pn : Nat} {pi : Be} (hu : Upd cx.W cx.w0 w) (hW : ∀ b, b < cx.w0.heap.size → ¬ cx.W b → ¬ W b) : ∀ {s : List T1} {l : List Value}, DT cx β s l → DT ⟨w, W, gl, pn, pi⟩ β s l
  | [], _, d => d
  | _ :: _, _, ⟨v, l', h1, h2, h3⟩ => ⟨v, l', h1, h2.to hu hW, DT.to hu hW h3⟩
theorem DA.to {cx : Cx} {β : Be} {w : World} {W : Nat → Prop} {gl : List (Nat × L)} {pn : Nat} {pi : Be} (hu : Upd cx.W cx.w0 w) (hW : ∀ b, b < cx.w0.heap.size → ¬ cx.W b → ¬ W b) {x : AV} {v : Value} (d : DA cx β x v) : DA ⟨w, W, gl, pn, pi⟩ β x v := by
  cases x with
  | o x => exact D1.to hu hW d
  | t l => obtain ⟨vs, h1, h2⟩ := d; exact ⟨vs, h1, DT.to hu hW h2⟩
theorem All2.mono {α γ δ : Type} {p : α → γ → Prop} {q : δ → γ → Prop} {s : α → δ → Prop} : ∀ {l : List α} {l' : List δ} {m : List γ}, All2 p l m → All2 s l l' → (∀ x y z, p x y → s x z → q z y) → All2 q l' m
  | [], [], [], _, _, _ => trivial
  | x :: _, z :: _, y :: _, h, g, f => ⟨f x y z h.1 g.1, All2.mono h.2 g.2 f⟩
  | [], [], _ :: _, h, _, _ => h.elim
  | [], _ :: _, _, _, g, _ => g.elim
  | _ :: _, [], _, _, g, _ => g.elim
  | _ :: _, _ :: _, [], h, _, _ => h.elim
end Go.Proofs.Ythlleheeghiljaa
