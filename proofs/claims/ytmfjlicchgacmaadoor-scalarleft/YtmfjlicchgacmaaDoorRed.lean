/-
  Reduce of one key; what is left, as lists; the rules of reckoning.
-/
import Derived.Test.YtmfjlicchgacmaaDoorOps
namespace Go.Proofs.YtmfjlicchgacmaaDoor
open Go.RowKit

theorem run_sliceK {o : Oper} {a : Act} {p : Operand} {g : Nat} (ho : o.op = .slice 25 p none none none) (hp : a.eval p = .pointer (some ⟨g, 0, none⟩)) (w : World) :
    (execOp a.eval o).run Tryd.prog w = .ok (.value (.slice (some ⟨g, 0, none⟩) 32 32)) w := by
  have hu := Tryd.underlying25
  generalize a.eval = ev at hp ⊢
  unfold execOp
  simp only [ho]
  simp [hp, go_sem, hu]
theorem run_list1 {o : Oper} {a : Act} {p : Operand} {sp : Option Addr} {n c : Nat} (ho : o.op = .buildSlice 38 1 #[(0, p)]) (hp : a.eval p = .slice sp n c) (w : World) :
    (execOp a.eval o).run Tryd.prog w = .ok (.value (.slice (some ⟨w.heap.size, 0, none⟩) 1 1)) (w.alloc (.cells #[.slice sp n c] 22)) := by
  generalize a.eval = ev at hp ⊢
  unfold execOp
  simp only [ho]
  simp [hp, go_sem]
theorem run_neqBool {o : Oper} {a : Act} {p q : Operand} {b c : Bool} (ho : o.op = .binOp .neq 4 p q 4) (hp : a.eval p = .bool b) (hq : a.eval q = .bool c) (h : b = c) (w : World) : (execOp a.eval o).run Tryd.prog w = .ok (.value (.bool false)) w := by
  subst h
  generalize a.eval = ev at hp hq ⊢
  unfold execOp
  simp only [ho]
  simp [hp, hq, go_sem]
theorem run_eqlBool {o : Oper} {a : Act} {p q : Operand} {b c : Bool} (ho : o.op = .binOp .eql 4 p q 4) (hp : a.eval p = .bool b) (hq : a.eval q = .bool c) (h : b = c) (w : World) : (execOp a.eval o).run Tryd.prog w = .ok (.value (.bool true)) w := by
  subst h
  generalize a.eval = ev at hp hq ⊢
  unfold execOp
  simp only [ho]
  simp [hp, hq, go_sem]
theorem reduce_key (l : List Int) (g bp : Nat) (tb : TypeId) (w : World) (hT : Tab w) (hl : l.length = 32) (hd : Digs 256 l) (hk : Blk w g tb (numsA .u8 l)) (hb : Blk w bp 22 #[.slice (some ⟨g, 0, none⟩) 32 32]) :
    Calls Tryd.prog 9 #[.slice (some ⟨bp, 0, none⟩) 1 1] w fun e w' => e = .returned (.agg (numsA .u8 (digits 256 32 (dig 256 l % oo)))) ∧ Upd (fun _ => False) w w' := by
  have h := reduce_any [⟨some ⟨g, 0, none⟩, g, 0, 32, l⟩] bp 0 1 w hT (by simp) (fun i h => by
    have hi0 : i = 0 := by simp at h; omega
    subst hi0
    refine ⟨?_, fun _ => rfl, fun j hj => ?_, hd, ?_⟩
    · rw [hb.cell]
      show some _ = some (Part.val _)
      unfold Part.val
      simp only [List.getElem_cons_zero, hl]
      rfl
    · simp only [List.getElem_cons_zero] at hj ⊢
      rw [Nat.zero_add, hk.cell, numsA_get _ _ _ hj]
    · simp only [List.getElem_cons_zero, hl]; omega)
  have e : dig 256 (allOf [⟨some ⟨g, 0, none⟩, g, 0, 32, l⟩]) = dig 256 l := by
    show dig 256 (l ++ []) = _
    rw [List.append_nil]
  rw [e] at h
  exact h
/-- What a key leaves; one times another and a third more. -/
def redL (l : List Int) : List Int := digits 256 32 (dig 256 l % oo)
def mulL (a b c : List Int) : List Int := digits 256 32 ((dig 256 a * dig 256 b + dig 256 c) % oo)
theorem redL_length (l : List Int) : (redL l).length = 32 := digits_length _ _ _
theorem mulL_length (a b c : List Int) : (mulL a b c).length = 32 := digits_length _ _ _
theorem redL_digs (l : List Int) : Digs 256 (redL l) := digits_digs (by omega) _ _
theorem mulL_digs (a b c : List Int) : Digs 256 (mulL a b c) := digits_digs (by omega) _ _
theorem dig_left (n : Int) : dig 256 (digits 256 32 (n % oo)) = n % oo := by
  rw [dig_digits (by omega)]
  have h0 := Int.emod_nonneg n (b := oo) (by decide)
  have h1 := Int.emod_lt_of_pos n oo_pos
  refine Int.emod_eq_of_lt h0 (Int.lt_trans h1 ?_)
  decide +kernel
theorem redL_canon (l : List Int) : decide (dig 256 (redL l) < oo) = true := by
  unfold redL
  rw [dig_left]
  exact decide_eq_true (Int.emod_lt_of_pos _ oo_pos)
theorem redL_red (l : List Int) : redL (redL l) = redL l := by
  unfold redL
  rw [dig_left, Int.emod_emod_of_dvd _ (Int.dvd_refl _)]
theorem mulL_one (l : List Int) : mulL l (keyL 1) (keyL 0) = redL l := by
  unfold mulL redL
  rw [dig_keyL, dig_keyL, Int.mul_one, Int.add_zero]
theorem canon_red {l : List Int} (hl : l.length = 32) (hd : Digs 256 l) : decide (dig 256 l < oo) = decide (l = redL l) := by
  rw [decide_eq_decide]
  constructor
  · intro h
    unfold redL
    rw [Int.emod_eq_of_lt (dig_nonneg (by omega) hd) h, ← hl, digits_dig (by omega) hd]
  · intro h
    have := redL_canon l
    rw [← h] at this
    exact of_decide_eq_true this
theorem mulL_comm (a b c : List Int) : mulL a b c = mulL b a c := by unfold mulL; rw [Int.mul_comm]
theorem mulL_sum (a b c : List Int) : mulL a (mulL b (keyL 1) c) (keyL 0) = mulL a b (mulL a c (keyL 0)) := by
  unfold mulL
  rw [dig_left, dig_left, dig_keyL, dig_keyL, Int.mul_one, Int.add_zero, Int.add_zero, Int.mul_emod, Int.emod_emod_of_dvd _ (Int.dvd_refl _), ← Int.mul_emod, Int.mul_add, Int.add_emod, Int.add_emod (dig 256 a * dig 256 b) (dig 256 a * dig 256 c % oo), Int.emod_emod_of_dvd _ (Int.dvd_refl _)]
theorem zeroK_eq : zeroK = numsA .u8 (keyL 0) := rfl
end Go.Proofs.YtmfjlicchgacmaaDoor
