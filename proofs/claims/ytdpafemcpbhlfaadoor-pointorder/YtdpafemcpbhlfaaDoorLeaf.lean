/-
  Plain facts about blocks of memory: a block known whole, and worlds that agree outside some blocks. No program.
-/
/-
  Numbers modulo 2^255 - 19 in five parts; congruence. No program.
-/
/-
  Laws of the walk over a block known whole: load and store of an array or struct, copy. For any program.
-/
/-
  Walks of field's leaves.
-/
import Derived.WalkKit
import Derived.WalkSpells
import Derived.WalkLawsBesides
import Derived.BigQuiet
import Derived.Deep.QuietTactic
import Derived.Laws.BitsAllLaws
import Derived.IntWalk
import Derived.Laws.CopyRow
import Derived.Laws.CopyOwn
import Derived.Deep.OwnRows
import Derived.Test.YtdpafemcpbhlfaaDoorProg
import Derived.Handy
import Derived.Lib.Hide
import Derived.Lib.Mul64
namespace Go.Proofs.YtdpafemcpbhlfaaDoor
set_option maxRecDepth 100000
open Go.RowKit

/-- Block b of the world is the row of cells arr, of type t, none of it frozen. -/
def Blk (w : World) (b : Nat) (t : TypeId) (arr : Array Value) : Prop := w.heap[b]? = some (.cells arr t (0, 0))

theorem Blk.cell {w : World} {b : Nat} {t : TypeId} {arr : Array Value} (h : Blk w b t arr) (j : Nat) : w.cell? ⟨b, j, none⟩ = arr[j]? := by
  have h' : w.heap[b]? = some (.cells arr t (0, 0)) := h
  simp [World.cell?, h']
theorem Blk.frozen {w : World} {b : Nat} {t : TypeId} {arr : Array Value} (h : Blk w b t arr) (j : Nat) : w.frozen? ⟨b, j, none⟩ = false := by
  have h' : w.heap[b]? = some (.cells arr t (0, 0)) := h
  simp [World.frozen?, h']
theorem Blk.lt {w : World} {b : Nat} {t : TypeId} {arr : Array Value} (h : Blk w b t arr) : b < w.heap.size := by
  have h' : w.heap[b]? = some (.cells arr t (0, 0)) := h
  by_cases hb : b < w.heap.size
  · exact hb
  · rw [Array.getElem?_eq_none (by omega)] at h'; cases h'
theorem Blk.set {w : World} {b : Nat} {t : TypeId} {arr : Array Value} (h : Blk w b t arr) (j : Nat) (v : Value) : Blk (w.setCell ⟨b, j, none⟩ v) b t (arr.setIfInBounds j v) := by
  have h' : w.heap[b]? = some (.cells arr t (0, 0)) := h
  show (w.setCell ⟨b, j, none⟩ v).heap[b]? = _
  simp [World.setCell, Array.getElem?_modify, h']
theorem Blk.setOther {w : World} {b : Nat} {t : TypeId} {arr : Array Value} (h : Blk w b t arr) {a : Addr} (ha : b ≠ a.block) (v : Value) : Blk (w.setCell a v) b t arr :=
  (Below.heap_setCell w a v b ha).trans h
theorem Blk.alloc {w : World} {b : Nat} {t : TypeId} {arr : Array Value} (h : Blk w b t arr) (o : Obj) : Blk (w.alloc o) b t arr :=
  (Below.heap_alloc w o b h.lt).trans h
theorem Blk.new (w : World) (arr : Array Value) (t : TypeId) : Blk (w.alloc (.cells arr t)) w.heap.size t arr := heap_alloc_new w _
theorem Blk.drewN {w : World} {b : Nat} {t : TypeId} {arr : Array Value} (h : Blk w b t arr) (n : Nat) : Blk (w.drewN n) b t arr := h
theorem Blk.inj {w : World} {b : Nat} {t t' : TypeId} {arr arr' : Array Value} (h : Blk w b t arr) (h' : Blk w b t' arr') : arr = arr' ∧ t = t' := by
  have := (show w.heap[b]? = _ from h).symm.trans h'
  simp only [Option.some.injEq, Obj.cells.injEq] at this
  exact ⟨this.1, this.2.1⟩

/-- w' is w but for the blocks in S, for new blocks and for draws. -/
structure Upd (S : Nat → Prop) (w w' : World) : Prop where
  os : w'.os = w.os
  tape : w'.tape = w.tape
  output : w'.output = w.output
  size : w.heap.size ≤ w'.heap.size
  block : ∀ k, k < w.heap.size → ¬ S k → w'.heap[k]? = w.heap[k]?

theorem Upd.refl (S : Nat → Prop) (w : World) : Upd S w w := ⟨rfl, rfl, rfl, Nat.le_refl _, fun _ _ _ => rfl⟩
theorem Upd.trans {S : Nat → Prop} {a b c : World} (h : Upd S a b) (k : Upd S b c) : Upd S a c :=
  ⟨k.os.trans h.os, k.tape.trans h.tape, k.output.trans h.output, Nat.le_trans h.size k.size, fun i hi hs => (k.block i (Nat.lt_of_lt_of_le hi h.size) hs).trans (h.block i hi hs)⟩
theorem Upd.mono {S T : Nat → Prop} {w w' : World} (h : Upd S w w') (hs : ∀ k, k < w.heap.size → S k → T k) : Upd T w w' :=
  ⟨h.os, h.tape, h.output, h.size, fun k hk ht => h.block k hk (fun s => ht (hs k hk s))⟩
/-- What was written lay in new blocks alone: seen from an elder world. -/
theorem Upd.step {S T : Nat → Prop} {a b c : World} (h : Upd S a b) (k : Upd T b c) (ht : ∀ i, i < a.heap.size → T i → S i) : Upd S a c :=
  ⟨k.os.trans h.os, k.tape.trans h.tape, k.output.trans h.output, Nat.le_trans h.size k.size,
    fun i hi hs => (k.block i (Nat.lt_of_lt_of_le hi h.size) (fun t => hs (ht i hi t))).trans (h.block i hi hs)⟩
theorem Upd.drewN {S : Nat → Prop} {a w : World} (h : Upd S a w) (n : Nat) : Upd S a (w.drewN n) := ⟨h.os, h.tape, h.output, h.size, h.block⟩
theorem Upd.drew {S : Nat → Prop} {a w : World} (h : Upd S a w) : Upd S a w.drew := ⟨h.os, h.tape, h.output, h.size, h.block⟩
theorem Upd.alloc {S : Nat → Prop} {a w : World} (h : Upd S a w) (o : Obj) : Upd S a (w.alloc o) :=
  ⟨h.os, h.tape, h.output, by simpa using Nat.le_succ_of_le h.size, fun k hk hs => (Below.heap_alloc w o k (Nat.lt_of_lt_of_le hk h.size)).trans (h.block k hk hs)⟩
theorem Upd.set {S : Nat → Prop} {a w : World} (h : Upd S a w) {p : Addr} (v : Value) (hp : p.block < a.heap.size → S p.block) : Upd S a (w.setCell p v) :=
  ⟨h.os, h.tape, h.output, by simpa [World.setCell] using h.size, fun k hk hs => (Below.heap_setCell w p v k (fun e => hs (e ▸ hp (e ▸ hk)))).trans (h.block k hk hs)⟩
theorem Upd.blk {S : Nat → Prop} {w w' : World} (h : Upd S w w') {b : Nat} {t : TypeId} {arr : Array Value} (hb : Blk w b t arr) (hs : ¬ S b) : Blk w' b t arr :=
  (h.block b hb.lt hs).trans hb
theorem Upd.cell {S : Nat → Prop} {w w' : World} (h : Upd S w w') {a : Addr} {v : Value} (hc : w.cell? a = some v) (hs : ¬ S a.block) : w'.cell? a = some v :=
  (World.cell?_of_block (w := w) (h.block a.block (block_lt_of_cell hc) hs)).trans hc
theorem Upd.below {w w' : World} (h : Upd (fun _ => False) w w') : Below w.heap.size w w' := ⟨h.os, h.tape, h.output, h.size, fun k hk => h.block k hk (fun f => f)⟩

/-- The cells of an array that are numbers of one kind, from place o on. -/
def Nums (arr : Array Value) (k : IntKind) (o n : Nat) (f : Nat → Int) : Prop := ∀ j, j < n → arr[o + j]? = some (.int k (f j))
theorem Nums.congr {arr : Array Value} {k : IntKind} {o n : Nat} {f g : Nat → Int} (h : Nums arr k o n f) (e : ∀ j, j < n → f j = g j) : Nums arr k o n g := fun j hj => e j hj ▸ h j hj
theorem Nums.setOut {arr : Array Value} {k : IntKind} {o n : Nat} {f : Nat → Int} (h : Nums arr k o n f) (i : Nat) (v : Value) (hi : i < o ∨ o + n ≤ i) : Nums (arr.setIfInBounds i v) k o n f := by
  intro j hj
  rw [Array.getElem?_setIfInBounds_ne (by omega)]
  exact h j hj
theorem Nums.setIn {arr : Array Value} {k : IntKind} {o n : Nat} {f : Nat → Int} (h : Nums arr k o n f) (i : Nat) (hi : i < n) (x : Int) :
    Nums (arr.setIfInBounds (o + i) (.int k x)) k o n (fun j => if j = i then x else f j) := by
  intro j hj
  by_cases e : j = i
  · subst e
    have hs := h j hj
    have : o + j < arr.size := by
      by_cases hlt : o + j < arr.size
      · exact hlt
      · rw [Array.getElem?_eq_none (by omega)] at hs; cases hs
    simp [Array.getElem?_setIfInBounds_self_of_lt this]
  · rw [Array.getElem?_setIfInBounds_ne (by omega), h j hj]; simp [e]
end Go.Proofs.YtdpafemcpbhlfaaDoor
namespace Go.Proofs.YtdpafemcpbhlfaaDoor
set_option maxRecDepth 100000
open Go.RowKit

/-- 2^255 - 19. -/
def pp : Int := 57896044618658097711785492504343953926634992332820282019728792003956564819949
theorem pp_pos : 0 < pp := by decide +kernel
/-- m and n differ by a multiple of p. -/
def Cong (m n : Int) : Prop := ∃ k, m = n + pp * k
theorem Cong.refl (m : Int) : Cong m m := ⟨0, by omega⟩
theorem Cong.symm {m n : Int} (h : Cong m n) : Cong n m := by
  obtain ⟨k, rfl⟩ := h
  exact ⟨-k, by rw [Int.mul_neg]; omega⟩
theorem Cong.trans {m n o : Int} (h : Cong m n) (g : Cong n o) : Cong m o := by
  obtain ⟨k, rfl⟩ := h
  obtain ⟨l, rfl⟩ := g
  exact ⟨k + l, by rw [Int.mul_add]; omega⟩
theorem Cong.add {m n o q : Int} (h : Cong m n) (g : Cong o q) : Cong (m + o) (n + q) := by
  obtain ⟨k, rfl⟩ := h
  obtain ⟨l, rfl⟩ := g
  exact ⟨k + l, by rw [Int.mul_add]; omega⟩
theorem Cong.sub {m n o q : Int} (h : Cong m n) (g : Cong o q) : Cong (m - o) (n - q) := by
  obtain ⟨k, rfl⟩ := h
  obtain ⟨l, rfl⟩ := g
  exact ⟨k - l, by rw [Int.mul_sub]; omega⟩
theorem Cong.mul {m n o q : Int} (h : Cong m n) (g : Cong o q) : Cong (m * o) (n * q) := by
  obtain ⟨k, rfl⟩ := h
  obtain ⟨l, rfl⟩ := g
  refine ⟨n * l + k * q + pp * k * l, ?_⟩
  simp only [Int.mul_add, Int.add_mul]
  have e1 : n * (pp * l) = pp * (n * l) := by rw [← Int.mul_assoc, Int.mul_comm n pp, Int.mul_assoc]
  have e2 : pp * k * q = pp * (k * q) := Int.mul_assoc _ _ _
  have e3 : pp * k * (pp * l) = pp * (pp * k * l) := by rw [← Int.mul_assoc, Int.mul_comm (pp * k) pp, Int.mul_assoc]
  rw [e1, e2, e3]
  omega
theorem cong_iff (m n : Int) : Cong m n ↔ m % pp = n % pp := by
  constructor
  · rintro ⟨k, rfl⟩
    rw [Int.add_mul_emod_self_left]
  · intro h
    refine ⟨m / pp - n / pp, ?_⟩
    have h1 := Int.mul_ediv_add_emod m pp
    have h2 := Int.mul_ediv_add_emod n pp
    rw [Int.mul_sub]
    omega
theorem Cong.mod (m : Int) : Cong (m % pp) m := (cong_iff _ _).2 (by rw [Int.emod_emod_of_dvd _ (Int.dvd_refl _)])

/-- The number of five parts. -/
def val5 (a0 a1 a2 a3 a4 : Int) : Int := a0 + 2251799813685248 * a1 + 5070602400912917605986812821504 * a2 + 11417981541647679048466287755595961091061972992 * a3 + 25711008708143844408671393477458601640355247900524685364822016 * a4
/-- Five parts as small as an Elem's, whose number is alike n. -/
structure Fits (a0 a1 a2 a3 a4 : Int) (n : Int) : Prop where
  l0 : 0 ≤ a0
  u0 : a0 < 2251799813947392
  l1 : 0 ≤ a1
  u1 : a1 < 2251799813947392
  l2 : 0 ≤ a2
  u2 : a2 < 2251799813947392
  l3 : 0 ≤ a3
  u3 : a3 < 2251799813947392
  l4 : 0 ≤ a4
  u4 : a4 < 2251799813947392
  cong : Cong (val5 a0 a1 a2 a3 a4) n
theorem Fits.to {a0 a1 a2 a3 a4 m n : Int} (h : Fits a0 a1 a2 a3 a4 m) (g : Cong m n) : Fits a0 a1 a2 a3 a4 n := { h with cong := h.cong.trans g }

/-- A call's answer: an Elem alike n. -/
def RetE (n : Int) (w : World) (e : Ending) (w' : World) : Prop :=
  ∃ a0 a1 a2 a3 a4 : Int, Fits a0 a1 a2 a3 a4 n ∧ e = .returned (.agg #[.int .u64 a0, .int .u64 a1, .int .u64 a2, .int .u64 a3, .int .u64 a4]) ∧ Upd (fun _ => False) w w'

theorem and_mask (x : Int) (h0 : 0 ≤ x) (h1 : x < 18446744073709551616) : bits .and .u64 x 2251799813685247 = x % 2251799813685248 := by
  rw [u64_and x 2251799813685247 h0 h1 (by omega) (by omega)]
  have e : x.toNat &&& (2251799813685247 : Int).toNat = x.toNat % 2251799813685248 := Nat.and_two_pow_sub_one_eq_mod x.toNat 51
  rw [e]
  omega
/-- What carried makes of five parts. -/
theorem carried_fits (p0 p1 p2 p3 p4 : Int) (h0 : 0 ≤ p0) (k0 : p0 < 18446744073709551616) (h1 : 0 ≤ p1) (k1 : p1 < 18446744073709551616) (h2 : 0 ≤ p2) (k2 : p2 < 18446744073709551616) (h3 : 0 ≤ p3) (k3 : p3 < 18446744073709551616) (h4 : 0 ≤ p4) (k4 : p4 < 18446744073709551616) :
    Fits (p0 % 2251799813685248 + 19 * (p4 / 2251799813685248)) (p1 % 2251799813685248 + p0 / 2251799813685248) (p2 % 2251799813685248 + p1 / 2251799813685248) (p3 % 2251799813685248 + p2 / 2251799813685248) (p4 % 2251799813685248 + p3 / 2251799813685248) (val5 p0 p1 p2 p3 p4) := by
  constructor
  all_goals try omega
  refine ⟨-(p4 / 2251799813685248), ?_⟩
  unfold val5 pp
  omega
/-- How often p is in it, 19 times. -/
def leastOver (p0 p1 p2 p3 p4 : Int) : Int := (p4 + (p3 + (p2 + (p1 + (p0 + 19) / 2251799813685248) / 2251799813685248) / 2251799813685248) / 2251799813685248) / 2251799813685248 * 19
/-- Five parts of 51 bits each, whose number is n. -/
structure Exact (a0 a1 a2 a3 a4 : Int) (n : Int) : Prop where
  l0 : 0 ≤ a0
  u0 : a0 < 2251799813685248
  l1 : 0 ≤ a1
  u1 : a1 < 2251799813685248
  l2 : 0 ≤ a2
  u2 : a2 < 2251799813685248
  l3 : 0 ≤ a3
  u3 : a3 < 2251799813685248
  l4 : 0 ≤ a4
  u4 : a4 < 2251799813685248
  val : val5 a0 a1 a2 a3 a4 = n
theorem mod_unique {m n : Int} (h : Cong m n) (h0 : 0 ≤ m) (h1 : m < pp) : m = n % pp := by
  rw [← (cong_iff m n).1 h, Int.emod_eq_of_lt h0 h1]
/-- Parts carried upwards: nothing is lost but what goes beyond the highest. -/
theorem chain5 (p0 p1 p2 p3 p4 o : Int) : ∃ r0 r1 r2 r3 r4 c0 c1 c2 c3 c4 : Int, (p0 + o) % 2251799813685248 = r0 ∧ (p0 + o) / 2251799813685248 = c0 ∧ (p1 + c0) % 2251799813685248 = r1 ∧ (p1 + c0) / 2251799813685248 = c1 ∧ (p2 + c1) % 2251799813685248 = r2 ∧ (p2 + c1) / 2251799813685248 = c2 ∧
    (p3 + c2) % 2251799813685248 = r3 ∧ (p3 + c2) / 2251799813685248 = c3 ∧ (p4 + c3) % 2251799813685248 = r4 ∧ (p4 + c3) / 2251799813685248 = c4 ∧
    (0 ≤ r0 ∧ r0 < 2251799813685248) ∧ (0 ≤ r1 ∧ r1 < 2251799813685248) ∧ (0 ≤ r2 ∧ r2 < 2251799813685248) ∧ (0 ≤ r3 ∧ r3 < 2251799813685248) ∧ (0 ≤ r4 ∧ r4 < 2251799813685248) ∧
    val5 r0 r1 r2 r3 r4 + 57896044618658097711785492504343953926634992332820282019728792003956564819968 * c4 = val5 p0 p1 p2 p3 p4 + o := by
  refine ⟨_, _, _, _, _, _, _, _, _, _, rfl, rfl, rfl, rfl, rfl, rfl, rfl, rfl, rfl, rfl, ?_, ?_, ?_, ?_, ?_, ?_⟩
  iterate 5 exact ⟨Int.emod_nonneg _ (by omega), Int.emod_lt_of_pos _ (by omega)⟩
  have e0 := Int.mul_ediv_add_emod (p0 + o) 2251799813685248
  generalize (p0 + o) % 2251799813685248 = r0 at *
  generalize (p0 + o) / 2251799813685248 = c0 at *
  have e1 := Int.mul_ediv_add_emod (p1 + c0) 2251799813685248
  generalize (p1 + c0) % 2251799813685248 = r1 at *
  generalize (p1 + c0) / 2251799813685248 = c1 at *
  have e2 := Int.mul_ediv_add_emod (p2 + c1) 2251799813685248
  generalize (p2 + c1) % 2251799813685248 = r2 at *
  generalize (p2 + c1) / 2251799813685248 = c2 at *
  have e3 := Int.mul_ediv_add_emod (p3 + c2) 2251799813685248
  generalize (p3 + c2) % 2251799813685248 = r3 at *
  generalize (p3 + c2) / 2251799813685248 = c3 at *
  have e4 := Int.mul_ediv_add_emod (p4 + c3) 2251799813685248
  generalize (p4 + c3) % 2251799813685248 = r4 at *
  generalize (p4 + c3) / 2251799813685248 = c4 at *
  unfold val5
  omega
theorem val5_bound {r0 r1 r2 r3 r4 : Int} (h0 : 0 ≤ r0 ∧ r0 < 2251799813685248) (h1 : 0 ≤ r1 ∧ r1 < 2251799813685248) (h2 : 0 ≤ r2 ∧ r2 < 2251799813685248) (h3 : 0 ≤ r3 ∧ r3 < 2251799813685248) (h4 : 0 ≤ r4 ∧ r4 < 2251799813685248) :
    0 ≤ val5 r0 r1 r2 r3 r4 ∧ val5 r0 r1 r2 r3 r4 < 57896044618658097711785492504343953926634992332820282019728792003956564819968 := by
  unfold val5
  omega
theorem Fits.bound {a0 a1 a2 a3 a4 n : Int} (h : Fits a0 a1 a2 a3 a4 n) : 0 ≤ val5 a0 a1 a2 a3 a4 ∧ val5 a0 a1 a2 a3 a4 < 57896044632138071045360812401677461470144807669638854230999078244508369944576 := by
  obtain ⟨h0, k0, h1, k1, h2, k2, h3, k3, h4, k4, hc⟩ := h
  unfold val5
  omega
theorem least_exact (p0 p1 p2 p3 p4 n o : Int) (hf : Fits p0 p1 p2 p3 p4 n) (ho : o = leastOver p0 p1 p2 p3 p4) :
    0 ≤ o ∧ o ≤ 19 ∧ Exact ((p0 + o) % 2251799813685248) ((p1 + (p0 + o) / 2251799813685248) % 2251799813685248) ((p2 + (p1 + (p0 + o) / 2251799813685248) / 2251799813685248) % 2251799813685248) ((p3 + (p2 + (p1 + (p0 + o) / 2251799813685248) / 2251799813685248) / 2251799813685248) % 2251799813685248)
      ((p4 + (p3 + (p2 + (p1 + (p0 + o) / 2251799813685248) / 2251799813685248) / 2251799813685248) / 2251799813685248) % 2251799813685248) (n % pp) := by
  have hb := hf.bound
  have hc := hf.cong
  clear hf
  unfold leastOver at ho
  obtain ⟨s0, s1, s2, s3, s4, t0, t1, t2, t3, t4, f0, g0, f1, g1, f2, g2, f3, g3, f4, g4, b0, b1, b2, b3, b4, hv⟩ := chain5 p0 p1 p2 p3 p4 19
  rw [g0, g1, g2, g3, g4] at ho
  have hs := val5_bound b0 b1 b2 b3 b4
  obtain ⟨r0, r1, r2, r3, r4, c0, c1, c2, c3, c4, f0', g0', f1', g1', f2', g2', f3', g3', f4', g4', b0', b1', b2', b3', b4', hv'⟩ := chain5 p0 p1 p2 p3 p4 o
  have hr := val5_bound b0' b1' b2' b3' b4'
  rw [g0', g1', g2', g3', f0', f1', f2', f3', f4']
  clear f0 g0 f1 g1 f2 g2 f3 g3 f4 g4 f0' g0' f1' g1' f2' g2' f3' g3' f4' g4' b0 b1 b2 b3 b4
  generalize val5 s0 s1 s2 s3 s4 = S at *
  refine ⟨by omega, by omega, ⟨b0'.1, b0'.2, b1'.1, b1'.2, b2'.1, b2'.2, b3'.1, b3'.2, b4'.1, b4'.2, ?_⟩⟩
  generalize val5 r0 r1 r2 r3 r4 = R at *
  generalize val5 p0 p1 p2 p3 p4 = V at *
  have ht : t4 = 0 ∨ t4 = 1 := by omega
  rcases ht with rfl | rfl
  · refine mod_unique (Cong.trans ⟨0, ?_⟩ hc) hr.1 ?_
    · omega
    · unfold pp; omega
  · refine mod_unique (Cong.trans ⟨-1, ?_⟩ hc) hr.1 ?_
    · unfold pp; omega
    · unfold pp; omega
end Go.Proofs.YtdpafemcpbhlfaaDoor
namespace Go.Proofs.YtdpafemcpbhlfaaDoor
set_option maxRecDepth 100000
open Go.RowKit

/-- The cells cur with the cells vs laid over them from o on. -/
def splice (cur : Array Value) (o : Nat) (vs : List Value) : Array Value := (cur.toList.take o ++ vs ++ cur.toList.drop (o + vs.length)).toArray
theorem splice_get (cur : Array Value) (o : Nat) (vs : List Value) (h : o + vs.length ≤ cur.size) (j : Nat) :
    (splice cur o vs)[j]? = if o ≤ j ∧ j < o + vs.length then vs[j - o]? else cur[j]? := by
  unfold splice
  have hl : o ≤ cur.toList.length := by simp; omega
  rw [List.getElem?_toArray, List.getElem?_append, List.getElem?_append]
  simp only [List.length_append, List.length_take, Nat.min_eq_left hl, List.getElem?_take, List.getElem?_drop, Array.getElem?_toList]
  by_cases h1 : j < o
  · rw [if_neg (show ¬ (o ≤ j ∧ j < o + vs.length) by omega), if_pos (by omega), if_pos (by omega), if_pos h1]
  · by_cases h2 : j < o + vs.length
    · rw [if_pos (show o ≤ j ∧ j < o + vs.length by omega), if_pos h2, if_neg h1]
    · rw [if_neg (show ¬ (o ≤ j ∧ j < o + vs.length) by omega), if_neg h2, show o + vs.length + (j - (o + vs.length)) = j from by omega]
theorem splice_size (cur : Array Value) (o : Nat) (vs : List Value) (h : o + vs.length ≤ cur.size) : (splice cur o vs).size = cur.size := by
  simp [splice]; omega

theorem Blk.row {w : World} {b : Nat} {t : TypeId} {arr : Array Value} (h : Blk w b t arr) (arr' : Array Value) : Blk (w.setRow b arr') b t arr' := setRow_heap w b arr arr' t (0, 0) h
theorem Blk.rowOther {w : World} {b : Nat} {t : TypeId} {arr : Array Value} (h : Blk w b t arr) {c : Nat} (hc : b ≠ c) (arr' : Array Value) : Blk (w.setRow c arr') b t arr := (setRow_other w c b arr' hc).trans h
theorem Upd.row {S : Nat → Prop} {a w : World} (h : Upd S a w) {b : Nat} (arr : Array Value) (hp : b < a.heap.size → S b) : Upd S a (w.setRow b arr) :=
  ⟨h.os, h.tape, h.output, by simpa using h.size, fun k hk hs => (setRow_other w b k arr (fun e => hs (e ▸ hp (e ▸ hk)))).trans (h.block k hk hs)⟩

section
variable {P : Program}
theorem run_loadVar_blk (w : World) (g off n : Nat) (t ty : TypeId) (cs : Array Value) (d : TypeDesc) (hg : Blk w g t cs)
    (hu : P.underlying ty = some d) (hd : (match d with | .struct _ | .array _ _ => true | _ => false) = true) (hi : (P.info? ty).map (·.size) = some n) (hn : off + n ≤ cs.size) :
    (loadVar ty ⟨g, off, none⟩).run P w = .ok (.agg (cs.extract off (off + n))) w := by
  have hlen : ((cs.extract off (off + n)).toList).length = n := by simp; omega
  have hl := run_loadCells_list (P := P) w ⟨g, off, none⟩ (cs.extract off (off + n)).toList (fun j v hv => by
      have hadd : (⟨g, off, none⟩ : Addr).add j = ⟨g, off + j, none⟩ := by unfold Addr.add; split <;> simp_all
      rw [hadd, hg.cell]
      have hj : j < n := by
        have := (List.getElem?_eq_some_iff.1 hv).1
        omega
      rw [← hv, Array.getElem?_toList, Array.getElem?_extract_of_lt (by omega)]
      exact Array.getElem?_eq_getElem _)
  rw [hlen] at hl
  cases hq : P.info? ty with
  | none => simp [hq] at hi
  | some i =>
    have hs : i.size = n := by simpa [hq] using hi
    have hagg : (isAgg ty).run P w = .ok true w := by
      unfold isAgg
      rw [Sem.run_bind, run_underlying hu w]
      cases d <;> simp_all
    simp only [Array.toArray_toList] at hl
    simp [loadVar, Sem.run_bind, hagg, sizeOf, typeInfo, hq, hs, hl]

theorem wpList_loadBlk {ops : Array Oper} {rest : List Oper} {o : Oper} {a : Act} {w : World} {Q : Exit → Act → World → Prop} (hgd : o.guard = none) (ty : TypeId) (x : Operand) (ho : o.op = .load ty x)
    (g off n : Nat) (hx : a.eval x = .pointer (some ⟨g, off, none⟩)) (t : TypeId) (cs : Array Value) (d : TypeDesc) (hg : Blk w g t cs)
    (hu : P.underlying ty = some d) (hd : (match d with | .struct _ | .array _ _ => true | _ => false) = true) (hi : (P.info? ty).map (·.size) = some n) (hn : off + n ≤ cs.size)
    (h : wpList P ops Q rest (a.put o.dst (.agg (cs.extract off (off + n)))) w) : wpList P ops Q (o :: rest) a w :=
  wpList_plain hgd fun _ hK => by
    unfold Oper.wp execOp
    simp only [ho, hx, Instr.loadAt, Instr.sureAddr, Sem.run_bind, Sem.run_pure, Result.andThen_ok, run_loadVar_blk w g off n t ty cs d hg hu hd hi hn]
    exact hK _ _ h

theorem run_storeVar_blk (w : World) (g off : Nat) (t ty : TypeId) (cs vs : Array Value) (hg : Blk w g t cs)
    (hi : (P.info? ty).map (·.size) = some vs.size) (hn : off + vs.size ≤ cs.size) (h1 : ∀ v ∈ vs.toList, v.oneCell' = true) :
    (storeVar ty ⟨g, off, none⟩ (.agg vs)).run P w = .ok () (w.setRow g (splice cs off vs.toList)) := by
  have hst := run_storeCells_at P g off t vs.toList 0 cs w hg (by simpa using hn) h1
  cases hq : P.info? ty with
  | none => simp [hq] at hi
  | some i =>
    have hs : i.size = vs.size := by simpa [hq] using hi
    simp [storeVar, Sem.run_bind, sizeOf, typeInfo, hq, hs, Value.cells, hst, splice]

theorem wpList_storeBlk {ops : Array Oper} {rest : List Oper} {o : Oper} {a : Act} {w : World} {Q : Exit → Act → World → Prop} (hgd : o.guard = none) (ty : TypeId) (x y : Operand) (ho : o.op = .store ty x y)
    (g off n : Nat) (hx : a.eval x = .pointer (some ⟨g, off, none⟩)) (vs : Array Value) (hy : a.eval y = .agg vs) (t : TypeId) (cs : Array Value) (hg : Blk w g t cs)
    (hi : (P.info? ty).map (·.size) = some n) (hv : vs.size = n) (hn : off + n ≤ cs.size) (h1 : ∀ v ∈ vs.toList, v.oneCell' = true)
    (h : wpList P ops Q rest (a.put o.dst undef) (w.setRow g (splice cs off vs.toList))) : wpList P ops Q (o :: rest) a w :=
  wpList_plain hgd fun _ hK => by
    unfold Oper.wp execOp
    simp only [ho, hx, hy, Instr.storeAt, Instr.sureAddr, Sem.run_bind, Sem.run_pure, Result.andThen_ok, run_storeVar_blk w g off t ty cs vs hg (hv ▸ hi) (hv ▸ hn) h1]
    exact hK _ _ h

theorem wpList_storeBlk2 {ops : Array Oper} {rest : List Oper} {o : Oper} {a : Act} {w : World} {Q : Exit → Act → World → Prop} (hgd : o.guard = none) (ty : TypeId) (x y : Operand) (ho : o.op = .store ty x y)
    (g off n : Nat) (hx : a.eval x = .pointer (some ⟨g, off, none⟩)) (vs : Array Value) (hy : a.eval y = .agg vs) (t : TypeId) (cs : Array Value) (hg : Blk w g t cs)
    (hi : (P.info? ty).map (·.size) = some n) (hv : vs.size = n) (hn : off + n ≤ cs.size) (h1 : ∀ v ∈ vs.toList, v.oneCell' = true)
    (h : ∀ w', Blk w' g t (splice cs off vs.toList) → Upd (· = g) w w' → w'.heap.size = w.heap.size → wpList P ops Q rest (a.put o.dst undef) w') : wpList P ops Q (o :: rest) a w :=
  wpList_storeBlk hgd ty x y ho g off n hx vs hy t cs hg hi hv hn h1 (h _ (hg.row _) ((Upd.refl _ w).row _ (fun _ => rfl)) (by simp))

/-- copy into a block known whole, from whatever. -/
theorem wpList_copyBlk {ops : Array Oper} {rest : List Oper} {o : Oper} {a : Act} {w : World} {Q : Exit → Act → World → Prop} (hgd : o.guard = none) (d s : Operand) (dT sT : TypeId)
    (ho : o.op = .call { callee := .builtin .copy, args := #[d, s], argTypes := #[dT, sT] }) (elem : TypeId) (hu : P.underlying dT = some (.slice elem)) (hsz : (P.info? elem).map (·.size) = some 1)
    (g off dLen dCap : Nat) (sp : Option Addr) (sLen sCap : Nat) (hd : a.eval d = .slice (some ⟨g, off, none⟩) dLen dCap) (hs : a.eval s = .slice sp sLen sCap)
    (t : TypeId) (cur : Array Value) (hg : Blk w g t cur) (n : Nat) (cs : List Value) (hcs : cs.length = n) (hn : n = Nat.min sLen dLen)
    (hpos : 0 < n → ∃ ad, sp = some ad ∧ ∀ j v, cs[j]? = some v → w.cell? (ad.add j) = some v)
    (hfit : off + n ≤ cur.size) (h1 : ∀ v ∈ cs, v.oneCell' = true)
    (h : ∀ w', Blk w' g t (splice cur off cs) → Upd (· = g) w w' → w'.heap.size = w.heap.size → wpList P ops Q rest (a.put o.dst (.int .i64 n)) w') :
    wpList P ops Q (o :: rest) a w := by
  by_cases h0 : n = 0
  · subst h0
    obtain rfl : cs = [] := List.eq_nil_of_length_eq_zero hcs
    refine wpList_copy_nothing hgd d s dT sT ho elem hu hsz _ sp dLen dCap sLen sCap hd hs hn.symm ?_
    exact h w (by simpa [splice, Blk] using hg) (Upd.refl _ w) rfl
  · obtain ⟨ad, rfl, hsrc⟩ := hpos (by omega)
    subst hcs
    refine wpList_copy_own hgd d s dT sT ho elem hu hsz g off dLen dCap ad sLen sCap hd hs cur t hg cs hn hsrc hfit h1 ?_
    have e : (cur.toList.take off ++ (cs ++ cur.toList.drop (off + cs.length))).toArray = splice cur off cs := by unfold splice; rw [List.append_assoc]
    rw [e]
    exact h _ (hg.row _) ((Upd.refl _ w).row _ (fun _ => rfl)) (by simp)

theorem madeCells_one (z : Value) (n : Nat) : madeCells #[z] n = Array.replicate n z := by
  apply Array.ext_getElem?
  intro j
  by_cases hj : j < n
  · rw [Array.getElem?_eq_getElem (by rw [size_madeCells]; exact hj)]
    simp [madeCells, hj, Nat.mod_one]
  · rw [Array.getElem?_eq_none (by rw [size_madeCells]; omega), Array.getElem?_eq_none (by simp; omega)]
/-- make([]T, n). -/
theorem wpList_makeBlk {ops : Array Oper} {rest : List Oper} {o : Oper} {a : Act} {w : World} {Q : Exit → Act → World → Prop} (hgd : o.guard = none) (l c : Operand) (t : TypeId) (hop : o.op = .makeSlice t l c)
    (e : TypeId) (z : Value) (bytes : Nat) (ht : P.underlying t = some (.slice e)) (hinfo : (P.info? e).map (fun i => (i.zero, i.size, i.bytes)) = some (some z, 1, bytes)) (hz1 : z.cells = #[z])
    (kl kc : IntKind) (L C : Int) (n : Nat) (hl : a.eval l = .int kl L) (hc : a.eval c = .int kc C) (hL : L = (n : Int)) (hC : C = (n : Int)) (hbytes : bytes * n ≤ 281474976710656) (h63 : n ≤ 9223372036854775807)
    (h : ∀ w', Blk w' w.heap.size e (Array.replicate n z) → Upd (fun _ => False) w w' → w'.heap.size = w.heap.size + 1 → wpList P ops Q rest (a.put o.dst (.slice (some ⟨w.heap.size, 0, none⟩) n n)) w') :
    wpList P ops Q (o :: rest) a w := by
  refine wpList_plain hgd fun K hK' => ?_
  have hrun := run_make_row' (P := P) t e z bytes ht hinfo hz1 kl kc n hbytes h63 w
  rw [madeCells_one] at hrun
  subst hL
  subst hC
  unfold Oper.wp
  simp [execOp, hop, hl, hc, hrun, Result.andThen]
  exact hK' _ _ (h _ (Blk.new w _ e) ((Upd.refl _ w).alloc _) (by simp))

/-- A load of an array or struct, as one step of a region that draws its order. -/
theorem step_loadBlk {ops : Array Oper} {o : Oper} {a : Act} {w : World} {K : Act → World → Prop} {Q : Exit → Act → World → Prop} {E : Prop} (hgd : o.guard = none) (ty : TypeId) (x : Operand) (ho : o.op = .load ty x)
    (g off n : Nat) (hx : a.eval x = .pointer (some ⟨g, off, none⟩)) (t : TypeId) (cs : Array Value) (d : TypeDesc) (hg : Blk w g t cs)
    (hu : P.underlying ty = some d) (hd : (match d with | .struct _ | .array _ _ => true | _ => false) = true) (hi : (P.info? ty).map (·.size) = some n) (hn : off + n ≤ cs.size)
    (h : K (a.put o.dst (.agg (cs.extract off (off + n)))) w) : if Region.wanted o (yielded ops a.tmps) = true then Oper.wp P o a w K Q else E := by
  have hw : Region.wanted o (yielded ops a.tmps) = true := by simp [Region.wanted, hgd]
  rw [if_pos hw]
  unfold Oper.wp execOp
  simp only [ho, hx, Instr.loadAt, Instr.sureAddr, Sem.run_bind, Sem.run_pure, Result.andThen_ok, run_loadVar_blk w g off n t ty cs d hg hu hd hi hn]
  exact h
theorem step_storeBlk2 {ops : Array Oper} {o : Oper} {a : Act} {w : World} {K : Act → World → Prop} {Q : Exit → Act → World → Prop} {E : Prop} (hgd : o.guard = none) (ty : TypeId) (x y : Operand) (ho : o.op = .store ty x y)
    (g off n : Nat) (hx : a.eval x = .pointer (some ⟨g, off, none⟩)) (vs : Array Value) (hy : a.eval y = .agg vs) (t : TypeId) (cs : Array Value) (hg : Blk w g t cs)
    (hi : (P.info? ty).map (·.size) = some n) (hv : vs.size = n) (hn : off + n ≤ cs.size) (h1 : ∀ v ∈ vs.toList, v.oneCell' = true)
    (h : ∀ w', Blk w' g t (splice cs off vs.toList) → Upd (· = g) w w' → w'.heap.size = w.heap.size → K (a.put o.dst undef) w') : if Region.wanted o (yielded ops a.tmps) = true then Oper.wp P o a w K Q else E := by
  have hw : Region.wanted o (yielded ops a.tmps) = true := by simp [Region.wanted, hgd]
  rw [if_pos hw]
  unfold Oper.wp execOp
  simp only [ho, hx, hy, Instr.storeAt, Instr.sureAddr, Sem.run_bind, Sem.run_pure, Result.andThen_ok, run_storeVar_blk w g off t ty cs vs hg (hv ▸ hi) (hv ▸ hn) h1]
  exact h _ (hg.row _) ((Upd.refl _ w).row _ (fun _ => rfl)) (by simp)
theorem step_build {ops : Array Oper} {o : Oper} {a : Act} {w : World} {K : Act → World → Prop} {Q : Exit → Act → World → Prop} {E : Prop} (hgd : o.guard = none) (t : TypeId) (parts : Array (Nat × Operand)) (ho : o.op = .build t parts) (cells : Array Value) (ps : List (Nat × Value)) (hps : (parts.toList.map fun (i, x) => (i, a.eval x)) = ps)
    (hf : P.built t ps = some cells) (h : K (a.put o.dst (.agg cells)) w) : if Region.wanted o (yielded ops a.tmps) = true then Oper.wp P o a w K Q else E := by
  have hw : Region.wanted o (yielded ops a.tmps) = true := by simp [Region.wanted, hgd]
  rw [if_pos hw]
  rw [← Array.toList_map] at hps
  subst hps
  exact wp_build t parts ho (by rw [hf]; rfl) (by rw [hf]; exact h)

theorem splice_cons (cs : Array Value) (o : Nat) (c : Value) (l : List Value) (h : o + (l.length + 1) ≤ cs.size) : splice (cs.setIfInBounds o c) (o + 1) l = splice cs o (c :: l) := by
  apply Array.ext_getElem?
  intro j
  rw [splice_get _ _ _ (by simp; omega), splice_get _ _ _ (by simp; omega), Array.getElem?_setIfInBounds]
  simp only [List.length_cons]
  by_cases h1 : o + 1 ≤ j ∧ j < o + 1 + l.length
  · rw [if_pos h1, if_pos (by omega), show j - o = (j - (o + 1)) + 1 by omega, List.getElem?_cons_succ]
  · rw [if_neg h1]
    by_cases h2 : o = j
    · subst h2; rw [if_pos rfl, if_pos (by omega), if_pos (by omega), Nat.sub_self]; rfl
    · rw [if_neg h2, if_neg (by omega)]
theorem foldl_splice (off : Nat) : ∀ (l : List Value) (k : Nat) (cs : Array Value), off + k + l.length ≤ cs.size →
    (l.zipIdx k).foldl (fun cs (p : Value × Nat) => cs.setIfInBounds (off + p.2) p.1) cs = splice cs (off + k) l
  | [], k, cs, h => by simp [splice]
  | c :: l, k, cs, h => by
    rw [List.zipIdx_cons, List.foldl_cons, foldl_splice off l (k + 1) _ (by simp at h ⊢; omega), ← Nat.add_assoc, splice_cons _ _ _ _ (by simp at h; omega)]
theorem fill_agg (place : Nat → Option (Nat × Nat)) (cells : Array Value) (i off size : Nat) (v : Value) (rest : List (Nat × Value)) (hp : place i = some (off, size)) (hs : v.cells.size = size) (hf : off + size ≤ cells.size) :
    Instr.fill place cells ((i, v) :: rest) = Instr.fill place (splice cells off v.cells.toList) rest := by
  rw [Instr.fill, hp]
  simp only
  rw [if_neg (by simp [hs]; omega)]
  congr 1
  have := foldl_splice off v.cells.toList 0 cells (by simp [hs]; omega)
  rw [Nat.add_zero] at this
  rw [← this, ← Array.foldl_toList, Array.toList_zipIdx]

/-- A slice cut from an array. -/
theorem run_sliceArr (w : World) (t elem : TypeId) (n g off : Nat) (kl kh : IntKind) (l h : Nat) (hu : P.underlying t = some (.array n elem)) (hs : (P.info? elem).map (·.size) = some 1) (hl : l ≤ h) (hh : h ≤ n) (hln : l < n) :
    (Instr.sliceAt t (.pointer (some ⟨g, off, none⟩)) (some (.int kl l)) (some (.int kh h)) none).run P w = .ok (.slice (some ⟨g, off + l, none⟩) (h - l) (n - l)) w := by
  cases hq : P.info? elem with
  | none => simp [hq] at hs
  | some j =>
    have hj : j.size = 1 := by simpa [hq] using hs
    have hadd : (⟨g, off, none⟩ : Addr).add l = ⟨g, off + l, none⟩ := by unfold Addr.add; split <;> simp_all
    have h3 : ¬ n = l := by omega
    simp [Instr.sliceAt, run_underlying hu, Instr.sureAddr, Instr.sliceBounds, Instr.sliceBound, asIntOf, h3, sizeOf, typeInfo, hq, hj, hadd, hh, hl]

theorem run_sliceArrL (w : World) (t elem : TypeId) (n g off : Nat) (kl : IntKind) (l : Nat) (L : Int) (hL : L = (l : Int)) (hu : P.underlying t = some (.array n elem)) (hs : (P.info? elem).map (·.size) = some 1) (hln : l < n) :
    (Instr.sliceAt t (.pointer (some ⟨g, off, none⟩)) (some (.int kl L)) none none).run P w = .ok (.slice (some ⟨g, off + l, none⟩) (n - l) (n - l)) w := by
  subst hL
  cases hq : P.info? elem with
  | none => simp [hq] at hs
  | some j =>
    have hj : j.size = 1 := by simpa [hq] using hs
    have hadd : (⟨g, off, none⟩ : Addr).add l = ⟨g, off + l, none⟩ := by unfold Addr.add; split <;> simp_all
    have h3 : ¬ n = l := by omega
    simp [Instr.sliceAt, run_underlying hu, Instr.sureAddr, Instr.sliceBounds, Instr.sliceBound, asIntOf, h3, sizeOf, typeInfo, hq, hj, hadd, Nat.le_of_lt hln]

/-- Indexing an array's value. -/
theorem run_index_agg (w : World) (t elem : TypeId) (n : Nat) (cs : Array Value) (k : IntKind) (i : Nat) (v : Value) (hu : P.underlying t = some (.array n elem)) (hs : (P.info? elem).map (·.size) = some 1)
    (ha : ∀ d, P.underlying elem = some d → (match d with | .struct _ | .array _ _ => true | _ => false) = false) (he : (P.underlying elem).isSome = true) (hi : i < n) (hv : cs[i]? = some v) :
    (Instr.index t (.agg cs) (.int k i)).run P w = .ok v w := by
  obtain ⟨d, hd⟩ := Option.isSome_iff_exists.1 he
  have hd' := ha d hd
  cases hq : P.info? elem with
  | none => simp [hq] at hs
  | some j =>
    have hj : j.size = 1 := by simpa [hq] using hs
    have hagg : (isAgg elem).run P w = .ok false w := by
      unfold isAgg
      rw [Sem.run_bind, run_underlying hd w]
      cases d <;> simp_all
    simp [Instr.index, asIntOf, run_underlying hu, hi, sizeOf, typeInfo, hq, hj, part, hagg, hv]
end
theorem Nums.one {arr : Array Value} {k : IntKind} {n : Nat} {f : Nat → Int} (h : Nums arr k 0 n f) (hs : arr.size = n) : ∀ v ∈ arr.toList, v.oneCell' = true := by
  intro v hv
  obtain ⟨j, hj, rfl⟩ := List.mem_iff_getElem.1 hv
  have hj' : j < n := by simpa [hs] using hj
  have := h j hj'
  rw [Nat.zero_add] at this
  have e : arr.toList[j] = .int k (f j) := by
    have h2 : arr.toList[j]? = some (.int k (f j)) := by simpa using this
    rw [List.getElem?_eq_getElem hj] at h2
    exact Option.some.inj h2
  rw [e]; rfl
/-- Cells that hold numbers, as copy wants them. -/
theorem src_cells {w : World} {k : IntKind} {pb po : Nat} {p : List Int} (hc : ∀ j, j < p.length → w.cell? ⟨pb, po + j, none⟩ = some (.int k (p.getD j 0))) :
    ∀ j v, (p.map (Value.int k))[j]? = some v → w.cell? ((⟨pb, po, none⟩ : Addr).add j) = some v := by
  intro j v hv
  have hadd : (⟨pb, po, none⟩ : Addr).add j = ⟨pb, po + j, none⟩ := by unfold Addr.add; split <;> simp_all
  have hj : j < p.length := by simpa using (List.getElem?_eq_some_iff.1 hv).1
  rw [hadd, hc j hj, ← hv]
  simp [hj]
theorem one_map (k : IntKind) (p : List Int) : ∀ v ∈ p.map (Value.int k), v.oneCell' = true := by
  intro v hv; simp at hv; obtain ⟨x, _, rfl⟩ := hv; rfl
theorem Nums.splice {arr : Array Value} {k : IntKind} {n : Nat} {r : Nat → Int} (h : Nums arr k 0 n r) (off : Nat) (p : List Int) (hf : off + p.length ≤ n) (hs : n ≤ arr.size) :
    Nums (_root_.Go.Proofs.YtdpafemcpbhlfaaDoor.splice arr off (p.map (Value.int k))) k 0 n (fun j => if off ≤ j ∧ j < off + p.length then p.getD (j - off) 0 else r j) := by
  intro j hj
  rw [splice_get _ _ _ (by simp; omega)]
  simp only [Nat.zero_add, List.length_map]
  by_cases c : off ≤ j ∧ j < off + p.length
  · rw [if_pos c, if_pos c, List.getElem?_map]
    have : j - off < p.length := by omega
    simp [this]
  · rw [if_neg c, if_neg c]
    have := h j hj
    rwa [Nat.zero_add] at this
theorem Nums.spliceOut {arr : Array Value} {k : IntKind} {o n : Nat} {r : Nat → Int} (h : Nums arr k o n r) (off : Nat) (vs : List Value) (hf : off + vs.length ≤ arr.size) (hd : off + vs.length ≤ o ∨ o + n ≤ off) :
    Nums (_root_.Go.Proofs.YtdpafemcpbhlfaaDoor.splice arr off vs) k o n r := by
  intro j hj
  rw [splice_get _ _ _ hf, if_neg (by omega)]
  exact h j hj
theorem set4 (arr : Array Value) (o : Nat) (a b c d : Value) (h : o + 4 ≤ arr.size) :
    (((arr.setIfInBounds o a).setIfInBounds (o + 1) b).setIfInBounds (o + 2) c).setIfInBounds (o + 3) d = splice arr o [a, b, c, d] := by
  apply Array.ext_getElem?
  intro j
  rw [splice_get _ _ _ (by simpa using h)]
  simp only [Array.getElem?_setIfInBounds, Array.size_setIfInBounds, List.length_cons, List.length_nil, Nat.zero_add, Nat.reduceAdd]
  by_cases h3 : o + 3 = j
  · subst h3; rw [if_pos rfl, if_pos (by omega), if_pos (by omega)]; simp
  rw [if_neg h3]
  by_cases h2 : o + 2 = j
  · subst h2; rw [if_pos rfl, if_pos (by omega), if_pos (by omega)]; simp
  rw [if_neg h2]
  by_cases h1 : o + 1 = j
  · subst h1; rw [if_pos rfl, if_pos (by omega), if_pos (by omega)]; simp
  rw [if_neg h1]
  by_cases h0 : o = j
  · subst h0; rw [if_pos rfl, if_pos (by omega), if_pos (by omega)]; simp
  rw [if_neg h0, if_neg (by omega)]
theorem splice_splice (arr : Array Value) (o : Nat) (xs ys : List Value) (h : o + (xs.length + ys.length) ≤ arr.size) : splice (splice arr o xs) (o + xs.length) ys = splice arr o (xs ++ ys) := by
  apply Array.ext_getElem?
  intro j
  have hs : (splice arr o xs).size = arr.size := splice_size _ _ _ (by omega)
  rw [splice_get _ _ _ (by omega), splice_get _ _ _ (by omega), splice_get _ _ _ (by rw [List.length_append]; omega), List.length_append]
  by_cases h1 : o + xs.length ≤ j ∧ j < o + xs.length + ys.length
  · rw [if_pos h1, if_pos (by omega), List.getElem?_append_right (by omega)]
    congr 1
    omega
  · rw [if_neg h1]
    by_cases h2 : o ≤ j ∧ j < o + xs.length
    · rw [if_pos h2, if_pos (by omega), List.getElem?_append_left (by omega)]
    · rw [if_neg h2, if_neg (by omega)]
theorem extract_all (cs : Array Value) (n : Nat) (h : cs.size = n) : cs.extract 0 (0 + n) = cs := by
  apply Array.ext
  · simp; omega
  · intro i h1 h2; simp
theorem splice_all (cs vs : Array Value) (n : Nat) (h : cs.size = n) (hv : vs.size = n) : splice cs 0 vs.toList = vs := by
  unfold splice
  rw [List.take_zero, List.nil_append, List.drop_eq_nil_of_le (by simp; omega), List.append_nil]
end Go.Proofs.YtdpafemcpbhlfaaDoor
namespace Go.Proofs.YtdpafemcpbhlfaaDoor
set_option maxRecDepth 100000
open Go.RowKit

theorem size25 : (Tryd.prog.info? 36).map (·.size) = some 1 := by kernel_rfl
theorem idx5 (cs : Array Value) (j : Nat) (v : Value) (w : World) (hj : j < 5) (hv : cs[j]? = some v) : (Instr.index 37 (.agg cs) (.int .i64 j)).run Tryd.prog w = .ok v w :=
  run_index_agg w 37 36 5 cs .i64 j v Tryd.underlying37 size25 (fun d hd => by rw [Tryd.underlying36] at hd; cases hd; rfl) (by rw [Tryd.underlying36]; rfl) hj hv

theorem idx5a (a b c d e : Value) : (∀ w, (Instr.index 37 (.agg #[a, b, c, d, e]) (.int .i64 0)).run Tryd.prog w = .ok a w) ∧ (∀ w, (Instr.index 37 (.agg #[a, b, c, d, e]) (.int .i64 1)).run Tryd.prog w = .ok b w) ∧
    (∀ w, (Instr.index 37 (.agg #[a, b, c, d, e]) (.int .i64 2)).run Tryd.prog w = .ok c w) ∧ (∀ w, (Instr.index 37 (.agg #[a, b, c, d, e]) (.int .i64 3)).run Tryd.prog w = .ok d w) ∧ (∀ w, (Instr.index 37 (.agg #[a, b, c, d, e]) (.int .i64 4)).run Tryd.prog w = .ok e w) :=
  ⟨fun w => idx5 _ 0 _ w (by omega) rfl, fun w => idx5 _ 1 _ w (by omega) rfl, fun w => idx5 _ 2 _ w (by omega) rfl, fun w => idx5 _ 3 _ w (by omega) rfl, fun w => idx5 _ 4 _ w (by omega) rfl⟩

set_option maxHeartbeats 400000 in
theorem carried_any (p0 p1 p2 p3 p4 : Int) (w : World) (h0 : 0 ≤ p0) (k0 : p0 < 18446744073709551616) (h1 : 0 ≤ p1) (k1 : p1 < 18446744073709551616) (h2 : 0 ≤ p2) (k2 : p2 < 18446744073709551616) (h3 : 0 ≤ p3) (k3 : p3 < 18446744073709551616) (h4 : 0 ≤ p4) (k4 : p4 < 18446744073709551616) :
    Calls Tryd.prog 80 #[.agg #[.int .u64 p0, .int .u64 p1, .int .u64 p2, .int .u64 p3, .int .u64 p4]] w (RetE (val5 p0 p1 p2 p3 p4) w) := by
  have hF := Lib.hid (carried_fits p0 p1 p2 p3 p4 h0 k0 h1 k1 h2 k2 h3 k3 h4 k4)
  obtain ⟨i0, i1, i2, i3, i4⟩ := idx5a (.int .u64 p0) (.int .u64 p1) (.int .u64 p2) (.int .u64 p3) (.int .u64 p4)
  have m0 := and_mask p0 h0 k0
  have m1 := and_mask p1 h1 k1
  have m2 := and_mask p2 h2 k2
  have m3 := and_mask p3 h3 k3
  have m4 := and_mask p4 h4 k4
  go_enter Tryd.func80, Tryd.ntmps80
  go_wp2
  go_rounds 6
  refine bodyPost_ret (v := .agg #[.int .u64 (p0 % 2251799813685248 + 19 * (p4 / 2251799813685248)), .int .u64 (p1 % 2251799813685248 + p0 / 2251799813685248), .int .u64 (p2 % 2251799813685248 + p1 / 2251799813685248), .int .u64 (p3 % 2251799813685248 + p2 / 2251799813685248), .int .u64 (p4 % 2251799813685248 + p3 / 2251799813685248)]) (by simp [results, Tryd.results80, go_sem]) rfl ⟨_, _, _, _, _, hF.out, rfl, ((((Upd.refl _ w).alloc _).alloc _).alloc _)⟩

/-- The parts of the least number alike n. -/
def RetL (n : Int) (w : World) (e : Ending) (w' : World) : Prop :=
  ∃ a0 a1 a2 a3 a4 : Int, Exact a0 a1 a2 a3 a4 (n % pp) ∧ e = .returned (.agg #[.int .u64 a0, .int .u64 a1, .int .u64 a2, .int .u64 a3, .int .u64 a4]) ∧ Upd (fun _ => False) w w'

set_option maxHeartbeats 400000 in
theorem least_any (p0 p1 p2 p3 p4 n : Int) (w : World) (hf : Fits p0 p1 p2 p3 p4 n) :
    Calls Tryd.prog 83 #[.agg #[.int .u64 p0, .int .u64 p1, .int .u64 p2, .int .u64 p3, .int .u64 p4]] w (RetL n w) := by
  have HF := Lib.hid hf
  obtain ⟨i0, i1, i2, i3, i4⟩ := idx5a (.int .u64 p0) (.int .u64 p1) (.int .u64 p2) (.int .u64 p3) (.int .u64 p4)
  obtain ⟨h0, k0, h1, k1, h2, k2, h3, k3, h4, k4, hc⟩ := hf
  clear hc
  go_enter Tryd.func83, Tryd.ntmps83
  go_wp2
  go_rounds 6
  generalize ho : (p4 + (p3 + (p2 + (p1 + (p0 + 19) / 2251799813685248) / 2251799813685248) / 2251799813685248) / 2251799813685248) / 2251799813685248 * 19 = o at *
  obtain ⟨o0, o1, hE⟩ := least_exact p0 p1 p2 p3 p4 n o HF.out ho.symm
  have HE := Lib.hid hE
  clear hE ho
  have m0 := and_mask (p0 + o) (by omega) (by omega)
  have m1 := and_mask (p1 + (p0 + o) / 2251799813685248) (by omega) (by omega)
  have m2 := and_mask (p2 + (p1 + (p0 + o) / 2251799813685248) / 2251799813685248) (by omega) (by omega)
  have m3 := and_mask (p3 + (p2 + (p1 + (p0 + o) / 2251799813685248) / 2251799813685248) / 2251799813685248) (by omega) (by omega)
  have m4 := and_mask (p4 + (p3 + (p2 + (p1 + (p0 + o) / 2251799813685248) / 2251799813685248) / 2251799813685248) / 2251799813685248) (by omega) (by omega)
  go_rounds 6
  refine bodyPost_ret (v := .agg #[.int .u64 ((p0 + o) % 2251799813685248), .int .u64 ((p1 + (p0 + o) / 2251799813685248) % 2251799813685248), .int .u64 ((p2 + (p1 + (p0 + o) / 2251799813685248) / 2251799813685248) % 2251799813685248), .int .u64 ((p3 + (p2 + (p1 + (p0 + o) / 2251799813685248) / 2251799813685248) / 2251799813685248) % 2251799813685248), .int .u64 ((p4 + (p3 + (p2 + (p1 + (p0 + o) / 2251799813685248) / 2251799813685248) / 2251799813685248) / 2251799813685248) % 2251799813685248)]) (by simp [results, Tryd.results83, go_sem]) rfl ⟨_, _, _, _, _, HE.out, rfl, ((((Upd.refl _ w).alloc _).alloc _).alloc _)⟩
end Go.Proofs.YtdpafemcpbhlfaaDoor
