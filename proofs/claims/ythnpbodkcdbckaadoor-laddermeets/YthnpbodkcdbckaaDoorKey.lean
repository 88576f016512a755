/-
  Arrays of numbers: as cells, and compared.
-/
import Derived.Test.YthnpbodkcdbckaaDoorWord
namespace Go.Proofs.YthnpbodkcdbckaaDoor
set_option maxRecDepth 100000
open Go.RowKit

/-- Numbers of one kind, as an array's cells. -/
def numsA (k : IntKind) (l : List Int) : Array Value := (l.map (Value.int k)).toArray
theorem numsA_size (k : IntKind) (l : List Int) : (numsA k l).size = l.length := by simp [numsA]
theorem numsA_get (k : IntKind) (l : List Int) (j : Nat) (h : j < l.length) : (numsA k l)[j]? = some (.int k (l.getD j 0)) := by simp [numsA, h]
theorem numsA_one (k : IntKind) (l : List Int) : ∀ v ∈ (numsA k l).toList, v.oneCell' = true := by
  intro v hv; simp [numsA] at hv; obtain ⟨x, _, rfl⟩ := hv; rfl
theorem numsA_toList (k : IntKind) (l : List Int) : (numsA k l).toList = cellsOf k l := by simp [numsA, cellsOf]
theorem list_ext_getD {p q : List Int} (hl : p.length = q.length) (h : ∀ j, j < p.length → p.getD j 0 = q.getD j 0) : p = q := by
  apply List.ext_getElem hl
  intro j h1 h2
  have := h j h1
  simpa [List.getD_eq_getElem?_getD, h1, h2] using this

theorem run_equalIn_nums (w : World) (d : Nat) (t e : TypeId) (k : IntKind) (n : Nat) (A B : List Int) (ht : Tryd.prog.underlying t = some (.array n e)) (he : Tryd.prog.underlying e = some (.int k)) (hs : (Tryd.prog.info? e).map (·.size) = some 1) (hA : A.length = n) (hB : B.length = n) :
    (Op.equalIn (d + 2) t (.agg (numsA k A)) (.agg (numsA k B))).run Tryd.prog w = .ok (decide (A = B)) w := by
  have hsz : ∀ w, (sizeOf e).run Tryd.prog w = .ok 1 w := fun w => by
    cases hq : Tryd.prog.info? e with
    | none => simp [hq] at hs
    | some i => have : i.size = 1 := by simpa [hq] using hs
                simp [sizeOf, typeInfo, hq, this]
  have key : decide (A = B) = decide (∀ i ∈ List.range' 0 n 1, A.getD i 0 = B.getD i 0) := by
    rw [decide_eq_decide]
    constructor
    · intro h i _; rw [h]
    · intro h
      exact list_ext_getD (by omega) (fun j hj => h j (by rw [List.mem_range'_1]; omega))
  rw [key]
  rw [Op.equalIn]
  simp only [Sem.run_bind, run_underlying ht, Result.andThen_ok, hsz, Std.Legacy.Range.forIn_eq_forIn_range', Std.Legacy.Range.size, Nat.sub_zero, Nat.add_sub_cancel, Nat.div_one]
  have hl : ∀ i ∈ List.range' 0 n 1, i < n := fun i hi => by simpa using (List.mem_range'_1.1 hi).2
  generalize List.range' 0 n 1 = l at hl ⊢
  clear key
  induction l with
  | nil => simp
  | cons i l ih =>
    have hi : i < n := hl i (by simp)
    have px : (part e (numsA k A) (i * 1)).run Tryd.prog w = .ok (.int k (A.getD i 0)) w := by
      have := numsA_get k A i (by omega)
      simp [part, isAgg, run_underlying he, this]
    have py : (part e (numsA k B) (i * 1)).run Tryd.prog w = .ok (.int k (B.getD i 0)) w := by
      have := numsA_get k B i (by omega)
      simp [part, isAgg, run_underlying he, this]
    have pe : (Op.equalIn (d + 1) e (.int k (A.getD i 0)) (.int k (B.getD i 0))).run Tryd.prog w = .ok (A.getD i 0 == B.getD i 0) w := by
      rw [run_equalIn_int w d e k k _ _ he]
    simp only [List.forIn_cons, Sem.run_bind, px, py, pe, Result.andThen_ok]
    by_cases hq : A.getD i 0 = B.getD i 0
    · have hq' : (A.getD i 0 == B.getD i 0) = true := beq_iff_eq.2 hq
      simp only [hq', Bool.not_true, Bool.false_eq_true, if_false, Sem.run_pure, Result.andThen_ok]
      rw [ih fun j hj => hl j (by simp [hj])]
      congr 1
      rw [decide_eq_decide]
      constructor
      · intro h j hj
        rcases List.mem_cons.1 hj with rfl | hj
        · exact hq
        · exact h j hj
      · intro h j hj
        exact h j (by simp [hj])
    · have hq' : (A.getD i 0 == B.getD i 0) = false := beq_eq_false_iff_ne.2 hq
      simp only [hq', Bool.not_false, if_true, Sem.run_pure, Result.andThen_ok]
      congr 1
      symm
      rw [decide_eq_false_iff_not]
      intro h
      exact hq (h i (by simp))
theorem size5 : (Tryd.prog.info? 5).map (·.size) = some 1 := by kernel_rfl
theorem sizeKey : (Tryd.prog.info? 23).map (·.size) = some 32 := by kernel_rfl
theorem eqKey (A B : List Int) (hA : A.length = 32) (hB : B.length = 32) (w : World) : (Op.equalIn 10000 23 (.agg (numsA .u8 A)) (.agg (numsA .u8 B))).run Tryd.prog w = .ok (decide (A = B)) w :=
  run_equalIn_nums w 9998 23 5 .u8 32 A B Tryd.underlying23 Tryd.underlying5 size5 hA hB
/-- Are five numbers the same? -/
def eqB5 (a0 a1 a2 a3 a4 b0 b1 b2 b3 b4 : Int) : Bool := decide ([a0, a1, a2, a3, a4] = [b0, b1, b2, b3, b4])
theorem eq5 (a0 a1 a2 a3 a4 b0 b1 b2 b3 b4 : Int) (w : World) : (Op.equalIn 10000 37 (.agg #[.int .u64 a0, .int .u64 a1, .int .u64 a2, .int .u64 a3, .int .u64 a4]) (.agg #[.int .u64 b0, .int .u64 b1, .int .u64 b2, .int .u64 b3, .int .u64 b4])).run Tryd.prog w = .ok (eqB5 a0 a1 a2 a3 a4 b0 b1 b2 b3 b4) w :=
  run_equalIn_nums w 9998 37 36 .u64 5 [a0, a1, a2, a3, a4] [b0, b1, b2, b3, b4] Tryd.underlying37 Tryd.underlying36 size25 rfl rfl
end Go.Proofs.YthnpbodkcdbckaaDoor
