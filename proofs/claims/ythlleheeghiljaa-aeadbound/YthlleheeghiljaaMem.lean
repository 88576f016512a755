/-
  Plain facts about blocks of memory: a block known whole, and worlds that agree outside some blocks. No program.
-/
import Derived.WalkKit
import Derived.WalkSpells
import Derived.WalkLawsBesides
import Derived.BigQuiet
import Derived.Deep.QuietTactic
namespace Go.Proofs.Ythlleheeghiljaa
open Go.RowKit

/-- Block b of the world is the row of cells arr, of type t, none of it frozen. -/
def Blk (w : World) (b : Nat) (t : TypeId) (arr : Array Value) : Prop := w.heap[b]? = some (.cells arr t (0, 0))

theorem Blk.cell {w : World} {b : Nat} {t : TypeId} {arr : Array Value} (h : Blk w b t arr) (j : Nat) : w.cell? ⟨b, j, none⟩ = arr[j]? := by
  have h' : w.heap[b]? = some (.cells arr t (0, 0)) := h
  simp [World.cell?, h']
theorem Blk.frozen {w : World} {b : Nat} {t : TypeId} {arr : Array Value} (h : Blk w b t arr) (j : Nat) : w.frozen? ⟨b, j, none⟩ = false := by
  have h' : w.heap[b]? = some (.cells arr t (0, 0)) := h
  simp [World.frozen?, h']
theorem Blk.lt {w : World} {b : Nat} {t : TypeId} {arr : Array Value} (h : Blk w b t arr) : b < w.heap.size := by
  have h' : w.heap[b]? = some (.cells arr t (0, 0)) := h
  by_cases hb : b < w.heap.size
  · exact hb
  · rw [Array.getElem?_eq_none (by omega)] at h'; cases h'
theorem Blk.set {w : World} {b : Nat} {t : TypeId} {arr : Array Value} (h : Blk w b t arr) (j : Nat) (v : Value) : Blk (w.setCell ⟨b, j, none⟩ v) b t (arr.setIfInBounds j v) := by
  have h' : w.heap[b]? = some (.cells arr t (0, 0)) := h
  show (w.setCell ⟨b, j, none⟩ v).heap[b]? = _
  simp [World.setCell, Array.getElem?_modify, h']
theorem Blk.setOther {w : World} {b : Nat} {t : TypeId} {arr : Array Value} (h : Blk w b t arr) {a : Addr} (ha : b ≠ a.block) (v : Value) : Blk (w.setCell a v) b t arr :=
  (Below.heap_setCell w a v b ha).trans h
theorem Blk.alloc {w : World} {b : Nat} {t : TypeId} {arr : Array Value} (h : Blk w b t arr) (o : Obj) : Blk (w.alloc o) b t arr :=
  (Below.heap_alloc w o b h.lt).trans h
theorem Blk.new (w : World) (arr : Array Value) (t : TypeId) : Blk (w.alloc (.cells arr t)) w.heap.size t arr := heap_alloc_new w _
theorem Blk.drewN {w : World} {b : Nat} {t : TypeId} {arr : Array Value} (h : Blk w b t arr) (n : Nat) : Blk (w.drewN n) b t arr := h
theorem Blk.inj {w : World} {b : Nat} {t t' : TypeId} {arr arr' : Array Value} (h : Blk w b t arr) (h' : Blk w b t' arr') : arr = arr' ∧ t = t' := by
  have := (show w.heap[b]? = _ from h).symm.trans h'
  simp only [Option.some.injEq, Obj.cells.injEq] at this
  exact ⟨this.1, this.2.1⟩

/-- w' is w but for the blocks in S, for new blocks and for draws. -/
structure Upd (S : Nat → Prop) (w w' : World) : Prop where
  os : w'.os = w.os
  tape : w'.tape = w.tape
  output : w'.output = w.output
  size : w.heap.size ≤ w'.heap.size
  block : ∀ k, k < w.heap.size → ¬ S k → w'.heap[k]? = w.heap[k]?

theorem Upd.refl (S : Nat → Prop) (w : World) : Upd S w w := ⟨rfl, rfl, rfl, Nat.le_refl _, fun _ _ _ => rfl⟩
theorem Upd.trans {S : Nat → Prop} {a b c : World} (h : Upd S a b) (k : Upd S b c) : Upd S a c :=
  ⟨k.os.trans h.os, k.tape.trans h.tape, k.output.trans h.output, Nat.le_trans h.size k.size, fun i hi hs => (k.block i (Nat.lt_of_lt_of_le hi h.size) hs).trans (h.block i hi hs)⟩
theorem Upd.mono {S T : Nat → Prop} {w w' : World} (h : Upd S w w') (hs : ∀ k, k < w.heap.size → S k → T k) : Upd T w w' :=
  ⟨h.os, h.tape, h.output, h.size, fun k hk ht => h.block k hk (fun s => ht (hs k hk s))⟩
/-- What was written lay in new blocks alone: seen from an elder world. -/
theorem Upd.step {S T : Nat → Prop} {a b c : World} (h : Upd S a b) (k : Upd T b c) (ht : ∀ i, i < a.heap.size → T i → S i) : Upd S a c :=
  ⟨k.os.trans h.os, k.tape.trans h.tape, k.output.trans h.output, Nat.le_trans h.size k.size,
    fun i hi hs => (k.block i (Nat.lt_of_lt_of_le hi h.size) (fun t => hs (ht i hi t))).trans (h.block i hi hs)⟩
theorem Upd.drewN {S : Nat → Prop} {a w : World} (h : Upd S a w) (n : Nat) : Upd S a (w.drewN n) := ⟨h.os, h.tape, h.output, h.size, h.block⟩
theorem Upd.drew {S : Nat → Prop} {a w : World} (h : Upd S a w) : Upd S a w.drew := ⟨h.os, h.tape, h.output, h.size, h.block⟩
theorem Upd.alloc {S : Nat → Prop} {a w : World} (h : Upd S a w) (o : Obj) : Upd S a (w.alloc o) :=
  ⟨h.os, h.tape, h.output, by simpa using Nat.le_succ_of_le h.size, fun k hk hs => (Below.heap_alloc w o k (Nat.lt_of_lt_of_le hk h.size)).trans (h.block k hk hs)⟩
theorem Upd.set {S : Nat → Prop} {a w : World} (h : Upd S a w) {p : Addr} (v : Value) (hp : p.block < a.heap.size → S p.block) : Upd S a (w.setCell p v) :=
  ⟨h.os, h.tape, h.output, by simpa [World.setCell] using h.size, fun k hk hs => (Below.heap_setCell w p v k (fun e => hs (e ▸ hp (e ▸ hk)))).trans (h.block k hk hs)⟩
theorem Upd.blk {S : Nat → Prop} {w w' : World} (h : Upd S w w') {b : Nat} {t : TypeId} {arr : Array Value} (hb : Blk w b t arr) (hs : ¬ S b) : Blk w' b t arr :=
  (h.block b hb.lt hs).trans hb
theorem Upd.cell {S : Nat → Prop} {w w' : World} (h : Upd S w w') {a : Addr} {v : Value} (hc : w.cell? a = some v) (hs : ¬ S a.block) : w'.cell? a = some v :=
  (World.cell?_of_block (w := w) (h.block a.block (block_lt_of_cell hc) hs)).trans hc
theorem Upd.below {w w' : World} (h : Upd (fun _ => False) w w') : Below w.heap.size w w' := ⟨h.os, h.tape, h.output, h.size, fun k hk => h.block k hk (fun f => f)⟩

/-- The cells of an array that are numbers of one kind, from place o on. -/
def Nums (arr : Array Value) (k : IntKind) (o n : Nat) (f : Nat → Int) : Prop := ∀ j, j < n → arr[o + j]? = some (.int k (f j))
theorem Nums.congr {arr : Array Value} {k : IntKind} {o n : Nat} {f g : Nat → Int} (h : Nums arr k o n f) (e : ∀ j, j < n → f j = g j) : Nums arr k o n g := fun j hj => e j hj ▸ h j hj
theorem Nums.setOut {arr : Array Value} {k : IntKind} {o n : Nat} {f : Nat → Int} (h : Nums arr k o n f) (i : Nat) (v : Value) (hi : i < o ∨ o + n ≤ i) : Nums (arr.setIfInBounds i v) k o n f := by
  intro j hj
  rw [Array.getElem?_setIfInBounds_ne (by omega)]
  exact h j hj
theorem Nums.setIn {arr : Array Value} {k : IntKind} {o n : Nat} {f : Nat → Int} (h : Nums arr k o n f) (i : Nat) (hi : i < n) (x : Int) :
    Nums (arr.setIfInBounds (o + i) (.int k x)) k o n (fun j => if j = i then x else f j) := by
  intro j hj
  by_cases e : j = i
  · subst e
    have hs := h j hj
    have : o + j < arr.size := by
      by_cases hlt : o + j < arr.size
      · exact hlt
      · rw [Array.getElem?_eq_none (by omega)] at hs; cases hs
    simp [Array.getElem?_setIfInBounds_self_of_lt this]
  · rw [Array.getElem?_setIfInBounds_ne (by omega), h j hj]; simp [e]
end Go.Proofs.Ythlleheeghiljaa
