/-
  Numbers as digits; arrays of numbers as cells. No function of the program.
-/
import Derived.Test.YtdpafemcpbhlfaaDoorProg
import Derived.Test.YtdpafemcpbhlfaaDoorLeaf
import Derived.Handy
import Derived.Lib.Hide
import Derived.Laws.BitsAllLaws
import Derived.IntWalk
namespace Go.Proofs.YtdpafemcpbhlfaaDoor.Sc
set_option maxRecDepth 100000
open Go.RowKit

/-- The number of digits with the base B, the lowest first. -/
def dig (B : Int) : List Int → Int
  | [] => 0
  | x :: l => x + B * dig B l
/-- All of them are digits. -/
def Digs (B : Int) (l : List Int) : Prop := ∀ x ∈ l, 0 ≤ x ∧ x < B
theorem dig_append (B : Int) (l m : List Int) : dig B (l ++ m) = dig B l + B ^ l.length * dig B m := by
  induction l with
  | nil => simp [dig]
  | cons x l ih =>
    simp only [List.cons_append, dig, ih, List.length_cons, Int.mul_add]
    rw [Int.pow_succ, Int.mul_comm (B ^ l.length) B, Int.mul_assoc]
    omega
theorem dig_nonneg {B : Int} (hB : 0 < B) : ∀ {l : List Int}, Digs B l → 0 ≤ dig B l
  | [], _ => by simp [dig]
  | x :: l, h => by
    have h1 := (h x (by simp)).1
    have h2 := dig_nonneg hB (l := l) (fun y hy => h y (by simp [hy]))
    have := Int.mul_nonneg (Int.le_of_lt hB) h2
    simp only [dig]
    omega
theorem dig_lt {B : Int} (hB : 0 < B) : ∀ {l : List Int}, Digs B l → dig B l < B ^ l.length
  | [], _ => by simp [dig]
  | x :: l, h => by
    have h1 := (h x (by simp)).2
    have h2 := dig_lt hB (l := l) (fun y hy => h y (by simp [hy]))
    have h3 : B * (dig B l + 1) ≤ B * B ^ l.length := Int.mul_le_mul_of_nonneg_left (by omega) (Int.le_of_lt hB)
    rw [Int.mul_add] at h3
    simp only [dig, List.length_cons, Int.pow_succ]
    rw [Int.mul_comm (B ^ l.length) B]
    omega
/-- The lowest n digits of v. -/
def digits (B : Int) : Nat → Int → List Int
  | 0, _ => []
  | n + 1, v => v % B :: digits B n (v / B)
theorem digits_length (B : Int) : ∀ n v, (digits B n v).length = n
  | 0, _ => rfl
  | n + 1, v => by simp [digits, digits_length B n]
theorem digits_digs {B : Int} (hB : 0 < B) : ∀ n v, Digs B (digits B n v)
  | 0, _ => by intro x hx; cases hx
  | n + 1, v => by
    intro x hx
    simp only [digits, List.mem_cons] at hx
    rcases hx with rfl | hx
    · exact ⟨Int.emod_nonneg _ (by omega), Int.emod_lt_of_pos _ hB⟩
    · exact digits_digs hB n _ x hx
theorem digits_dig {B : Int} (hB : 0 < B) : ∀ {l : List Int}, Digs B l → digits B l.length (dig B l) = l
  | [], _ => rfl
  | x :: l, h => by
    have h1 := h x (by simp)
    have h2 := digits_dig hB (l := l) (fun y hy => h y (by simp [hy]))
    simp only [List.length_cons, digits, dig]
    rw [Int.add_mul_emod_self_left, Int.emod_eq_of_lt h1.1 h1.2, Int.add_mul_ediv_left _ _ (by omega), Int.ediv_eq_zero_of_lt h1.1 h1.2, Int.zero_add, h2]
theorem emod_mul' (v B C : Int) (hB : 0 < B) (hC : 0 < C) : v % (B * C) = v % B + B * (v / B % C) := by
  have e1 := Int.mul_ediv_add_emod v B
  have e2 := Int.mul_ediv_add_emod (v / B) C
  have b0 := Int.emod_nonneg v (b := B) (by omega)
  have b1 := Int.emod_lt_of_pos v hB
  have c0 := Int.emod_nonneg (v / B) (b := C) (by omega)
  have c1 := Int.emod_lt_of_pos (v / B) hC
  have h : v = (v % B + B * (v / B % C)) + B * C * (v / B / C) := by
    have : B * (v / B) = B * (C * (v / B / C)) + B * (v / B % C) := by rw [← Int.mul_add, e2]
    rw [Int.mul_assoc]
    omega
  have hle : B * (v / B % C) ≤ B * (C - 1) := Int.mul_le_mul_of_nonneg_left (by omega) (by omega)
  have hge : 0 ≤ B * (v / B % C) := Int.mul_nonneg (by omega) c0
  rw [Int.mul_sub, Int.mul_one] at hle
  have hb : (v % B + B * (v / B % C)) % (B * C) = v % B + B * (v / B % C) := Int.emod_eq_of_lt (by omega) (by omega)
  rw [← hb]
  conv => lhs; rw [h]
  rw [Int.add_mul_emod_self_left]
theorem dig_digits {B : Int} (hB : 0 < B) : ∀ n v, dig B (digits B n v) = v % B ^ n
  | 0, v => by simp [digits, dig, Int.emod_one]
  | n + 1, v => by
    simp only [digits, dig]
    rw [dig_digits hB n, Int.pow_succ, Int.mul_comm (B ^ n) B, emod_mul' _ _ _ hB (Int.pow_pos hB)]
theorem dig_inj {B : Int} (hB : 0 < B) {l m : List Int} (hl : Digs B l) (hm : Digs B m) (hn : l.length = m.length) (h : dig B l = dig B m) : l = m := by
  rw [← digits_dig hB hl, ← digits_dig hB hm, hn, h]
/-- Numbers as cells. -/
def cellsOf (k : IntKind) (l : List Int) : List Value := l.map (Value.int k)
/-- Numbers of one kind, as an array's cells. -/
def numsA (k : IntKind) (l : List Int) : Array Value := (l.map (Value.int k)).toArray
theorem numsA_size (k : IntKind) (l : List Int) : (numsA k l).size = l.length := by simp [numsA]
theorem numsA_get (k : IntKind) (l : List Int) (j : Nat) (h : j < l.length) : (numsA k l)[j]? = some (.int k (l.getD j 0)) := by simp [numsA, h]
theorem numsA_one (k : IntKind) (l : List Int) : ∀ v ∈ (numsA k l).toList, v.oneCell' = true := by
  intro v hv; simp [numsA] at hv; obtain ⟨x, _, rfl⟩ := hv; rfl
theorem numsA_toList (k : IntKind) (l : List Int) : (numsA k l).toList = cellsOf k l := by simp [numsA, cellsOf]
theorem list_ext_getD {p q : List Int} (hl : p.length = q.length) (h : ∀ j, j < p.length → p.getD j 0 = q.getD j 0) : p = q := by
  apply List.ext_getElem hl
  intro j h1 h2
  have := h j h1
  simpa [List.getD_eq_getElem?_getD, h1, h2] using this

theorem run_equalIn_nums (w : World) (d : Nat) (t e : TypeId) (k : IntKind) (n : Nat) (A B : List Int) (ht : Tryd.prog.underlying t = some (.array n e)) (he : Tryd.prog.underlying e = some (.int k)) (hs : (Tryd.prog.info? e).map (·.size) = some 1) (hA : A.length = n) (hB : B.length = n) :
    (Op.equalIn (d + 2) t (.agg (numsA k A)) (.agg (numsA k B))).run Tryd.prog w = .ok (decide (A = B)) w := by
  have hsz : ∀ w, (sizeOf e).run Tryd.prog w = .ok 1 w := fun w => by
    cases hq : Tryd.prog.info? e with
    | none => simp [hq] at hs
    | some i => have : i.size = 1 := by simpa [hq] using hs
                simp [sizeOf, typeInfo, hq, this]
  have key : decide (A = B) = decide (∀ i ∈ List.range' 0 n 1, A.getD i 0 = B.getD i 0) := by
    rw [decide_eq_decide]
    constructor
    · intro h i _; rw [h]
    · intro h
      exact list_ext_getD (by omega) (fun j hj => h j (by rw [List.mem_range'_1]; omega))
  rw [key]
  rw [Op.equalIn]
  simp only [Sem.run_bind, run_underlying ht, Result.andThen_ok, hsz, Std.Legacy.Range.forIn_eq_forIn_range', Std.Legacy.Range.size, Nat.sub_zero, Nat.add_sub_cancel, Nat.div_one]
  have hl : ∀ i ∈ List.range' 0 n 1, i < n := fun i hi => by simpa using (List.mem_range'_1.1 hi).2
  generalize List.range' 0 n 1 = l at hl ⊢
  clear key
  induction l with
  | nil => simp
  | cons i l ih =>
    have hi : i < n := hl i (by simp)
    have px : (part e (numsA k A) (i * 1)).run Tryd.prog w = .ok (.int k (A.getD i 0)) w := by
      have := numsA_get k A i (by omega)
      simp [part, isAgg, run_underlying he, this]
    have py : (part e (numsA k B) (i * 1)).run Tryd.prog w = .ok (.int k (B.getD i 0)) w := by
      have := numsA_get k B i (by omega)
      simp [part, isAgg, run_underlying he, this]
    have pe : (Op.equalIn (d + 1) e (.int k (A.getD i 0)) (.int k (B.getD i 0))).run Tryd.prog w = .ok (A.getD i 0 == B.getD i 0) w := by
      rw [run_equalIn_int w d e k k _ _ he]
    simp only [List.forIn_cons, Sem.run_bind, px, py, pe, Result.andThen_ok]
    by_cases hq : A.getD i 0 = B.getD i 0
    · have hq' : (A.getD i 0 == B.getD i 0) = true := beq_iff_eq.2 hq
      simp only [hq', Bool.not_true, Bool.false_eq_true, if_false, Sem.run_pure, Result.andThen_ok]
      rw [ih fun j hj => hl j (by simp [hj])]
      congr 1
      rw [decide_eq_decide]
      constructor
      · intro h j hj
        rcases List.mem_cons.1 hj with rfl | hj
        · exact hq
        · exact h j hj
      · intro h j hj
        exact h j (by simp [hj])
    · have hq' : (A.getD i 0 == B.getD i 0) = false := beq_eq_false_iff_ne.2 hq
      simp only [hq', Bool.not_false, if_true, Sem.run_pure, Result.andThen_ok]
      congr 1
      symm
      rw [decide_eq_false_iff_not]
      intro h
      exact hq (h i (by simp))
theorem size5 : (Tryd.prog.info? 5).map (·.size) = some 1 := by kernel_rfl
theorem sizeKey : (Tryd.prog.info? 23).map (·.size) = some 32 := by kernel_rfl
theorem eqKey (A B : List Int) (hA : A.length = 32) (hB : B.length = 32) (w : World) : (Op.equalIn 10000 23 (.agg (numsA .u8 A)) (.agg (numsA .u8 B))).run Tryd.prog w = .ok (decide (A = B)) w :=
  run_equalIn_nums w 9998 23 5 .u8 32 A B Tryd.underlying23 Tryd.underlying5 size5 hA hB
theorem numsA_set (k : IntKind) (l : List Int) (j : Nat) (x : Int) : (numsA k l).setIfInBounds j (.int k x) = numsA k (l.set j x) := by
  unfold numsA
  rw [List.setIfInBounds_toArray, List.map_set]
/-- The first k of f, noughts behind them, n in all. -/
def fillTo (f : Nat → Int) (n k : Nat) : List Int := (List.range n).map fun j => if j < k then f j else 0
theorem fillTo_length (f : Nat → Int) (n k : Nat) : (fillTo f n k).length = n := by simp [fillTo]
theorem fillTo_zero (f : Nat → Int) (n : Nat) : fillTo f n 0 = List.replicate n 0 := by
  unfold fillTo
  simp [List.map_const']
theorem fillTo_succ (f : Nat → Int) (n k : Nat) : (fillTo f n k).set k (f k) = fillTo f n (k + 1) := by
  apply List.ext_getElem (by simp [fillTo])
  intro j h1 h2
  have hj : j < n := by simpa [fillTo] using h2
  rw [List.getElem_set]
  simp only [fillTo, List.getElem_map, List.getElem_range]
  by_cases e : k = j
  · subst e; rw [if_pos rfl, if_pos (by omega)]
  · rw [if_neg e]
    by_cases c : j < k
    · rw [if_pos c, if_pos (by omega)]
    · rw [if_neg c, if_neg (by omega)]
theorem fillTo_all (f : Nat → Int) (n : Nat) : fillTo f n n = (List.range n).map f := by
  unfold fillTo
  apply List.map_congr_left
  intro j hj
  rw [if_pos (List.mem_range.1 hj)]
theorem fillTo_get (f : Nat → Int) (n k j : Nat) (hj : j < n) : (fillTo f n k).getD j 0 = if j < k then f j else 0 := by
  simp [fillTo, List.getD_eq_getElem?_getD, hj]
theorem Digs.get {B : Int} (hB : 0 < B) {l : List Int} (h : Digs B l) (j : Nat) : 0 ≤ l.getD j 0 ∧ l.getD j 0 < B := by
  by_cases hj : j < l.length
  · rw [List.getD_eq_getElem?_getD, List.getElem?_eq_getElem hj]; exact h _ (List.getElem_mem hj)
  · rw [List.getD_eq_getElem?_getD, List.getElem?_eq_none (by omega)]; simpa using hB
theorem dig_set (B : Int) : ∀ (l : List Int) (j : Nat) (x : Int), j < l.length → dig B (l.set j x) = dig B l + B ^ j * (x - l.getD j 0)
  | [], j, x, h => by simp at h
  | a :: l, 0, x, _ => by simp [dig]; omega
  | a :: l, j + 1, x, h => by
    have ih := dig_set B l j x (by simpa using h)
    rw [List.set_cons_succ, List.getD_cons_succ]
    simp only [dig, ih]
    rw [Int.mul_add, Int.pow_succ, Int.mul_comm (B ^ j) B, ← Int.mul_assoc]
    omega
theorem getD_set_ne (l : List Int) (i j : Nat) (x : Int) (h : j ≠ i) : (l.set i x).getD j 0 = l.getD j 0 := by
  rw [List.getD_eq_getElem?_getD, List.getD_eq_getElem?_getD, List.getElem?_set_ne (by omega)]
theorem getD_set_eq (l : List Int) (i : Nat) (x : Int) (h : i < l.length) : (l.set i x).getD i 0 = x := by
  rw [List.getD_eq_getElem?_getD, List.getElem?_set_self h]; rfl
theorem Blk.at1 (w : World) (arr : Array Value) (t : TypeId) : Blk (w.alloc (.cells arr t)) w.heap.size t arr := Blk.new w arr t
theorem Blk.at2 (w : World) (a : Obj) (arr : Array Value) (t : TypeId) : Blk ((w.alloc a).alloc (.cells arr t)) (w.heap.size + 1) t arr := by
  have := Blk.new (w.alloc a) arr t
  simpa using this
theorem Blk.at3 (w : World) (a b : Obj) (arr : Array Value) (t : TypeId) : Blk (((w.alloc a).alloc b).alloc (.cells arr t)) (w.heap.size + 1 + 1) t arr := by
  have := Blk.new ((w.alloc a).alloc b) arr t
  simpa using this
theorem Blk.at4 (w : World) (a b c : Obj) (arr : Array Value) (t : TypeId) : Blk ((((w.alloc a).alloc b).alloc c).alloc (.cells arr t)) (w.heap.size + 1 + 1 + 1) t arr := by
  have := Blk.new (((w.alloc a).alloc b).alloc c) arr t
  simpa using this
theorem splice_nil (cs : Array Value) (o : Nat) : splice cs o [] = cs := by simp [splice]
end Go.Proofs.YtdpafemcpbhlfaaDoor.Sc
