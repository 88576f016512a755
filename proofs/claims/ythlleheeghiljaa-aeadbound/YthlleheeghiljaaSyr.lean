/-
  Operations by evaluation: make of a slice of arrays of numbers. For any program.
-/
import Derived.Test.YthlleheeghiljaaSyc
namespace Go.Proofs.Ythlleheeghiljaa
open Go.RowKit

def zerosK (k : IntKind) : List Value → Bool
  | [] => true
  | .int k' n :: r => cond (kindB k k') (cond (decide (n = 0)) (zerosK k r) false) false
  | _ :: _ => false
theorem zerosK_eq {k : IntKind} : ∀ {l : List Value}, zerosK k l = true → l = List.replicate l.length (.int k 0)
  | [], _ => rfl
  | .int k' n :: r, h => by
    unfold zerosK at h
    cases hk : kindB k k' with
    | false => rw [hk] at h; cases h
    | true =>
      rw [hk, cond_true] at h
      cases hd : decide (n = 0) with
      | false => rw [hd] at h; cases h
      | true =>
        rw [hd, cond_true] at h
        have hn : n = 0 := of_decide_eq_true hd
        rw [List.length_cons, List.replicate_succ, ← zerosK_eq h, hn, kindB_eq hk]
def evMakeA (P : Program) (t : TypeId) (base : Nat) : List (Option AV) → Option Rec
  | [some (.o (.c (.v (.int _ l)))), some (.o (.c (.v (.int _ c))))] => match elemT P t with
    | some (e, inf, z) => match z.cells.toList with
      | .int k n :: r => cond (zerosK k (.int k n :: r)) (some ⟨.o (.c (.os base inf.size l.toNat)), 0, [.grow e inf.size (.i k (List.replicate (Nat.mul l.toNat inf.size) 0))], [], [], [0 ≤ l, l ≤ c, (inf.bytes : Int) * c ≤ 281474976710656, c ≤ 9223372036854775807]⟩) none
      | _ => none
    | none => none
  | _ => none
theorem madeCells_rep {z : Array Value} {v : Value} (h : z.toList = List.replicate z.size v) (hz : 0 < z.size) (n : Nat) : madeCells z n = Array.replicate n v := by
  have hz' : z = Array.replicate z.size v := Array.toList_inj.1 (by rw [h]; simp)
  unfold madeCells
  apply Array.ext
  · simp
  · intro i h1 h2
    rw [Array.getElem_map]
    have hm : ∀ m, m % z.size < z.size := fun m => Nat.mod_lt _ hz
    rw [getElem!_pos z _ (hm _), Array.getElem_replicate]
    have : ∀ (y : Array Value) (j : Nat) (hj : j < y.size), y = Array.replicate z.size v → y[j] = v := by
      intro y j hj e
      subst e
      exact Array.getElem_replicate ..
    exact this z _ (hm _) hz'
section
variable {E : Ev} {o : Oper} {gs : Nat → Option AV} {gm : Nat → Option MB} {base : Nat} {tg : List Nat} {r : Rec}
theorem ok_makeA {t : TypeId} {x y : Operand} (ho : o.op = .makeSlice t x y) (h : evMakeA E.P t base [opnd E gs x, opnd E gs y] = some r) (hobl : allP r.obl) : OpOK E o gs gm base { r with base := base, tg := tg } := by
  have hx : x ∈ o.op.operands := by simp [ho, Op.operands]
  have hy : y ∈ o.op.operands := by simp [ho, Op.operands]
  unfold evMakeA at h
  split at h
  · rename_i kl l kc c he
    simp only [List.cons.injEq, and_true] at he
    obtain ⟨h1, h2⟩ := he
    split at h
    · rename_i e inf z hel
      split at h
      · rename_i k n0 r0 hzc
        cases hb : zerosK k (.int k n0 :: r0) with
        | false => rw [hb] at h; cases h
        | true =>
          rw [hb] at h; cases h
          obtain ⟨h0, hlc, hby, h63⟩ := hobl
          have h63' : c ≤ 9223372036854775807 := h63
          obtain ⟨q1, q2, q3, q4, q5⟩ := elemT_ok hel
          have hz0 := zerosK_eq hb
          rw [← hzc] at hz0
          have hzs : z.cells.toList.length = z.cells.size := Array.length_toList
          rw [hzs] at hz0
          refine okNew fun cx β a w hp => ?_
          have hr := run_make (P := E.P) w t e inf _ q1 q2 q3 kl kc l c h0 hlc hby h63
          have hlc' : l ≤ c := hlc
          have h0' : 0 ≤ l := h0
          have hn : l.toNat ≤ c.toNat := by omega
          rw [madeCells_rep hz0 (by omega)] at hr
          have hrun : (execOp a.eval o).run E.P w = .ok (.value (.slice (some ⟨w.heap.size, 0, none⟩) l.toNat c.toNat)) (w.alloc (.cells (Array.replicate (c.toNat * inf.size) (.int k 0)) e)) := by
            have ex := hp.v hx h1
            have ey := hp.v hy h2
            generalize a.eval = ev at ex ey ⊢
            unfold execOp
            simp only [ho, ex, ey, Sem.run_bind, hr, Result.andThen_ok]
            rfl
          have hnm : l.toNat * inf.size ≤ c.toNat * inf.size := Nat.mul_le_mul_right _ hn
          refine ⟨_, _, some (w.heap.size, c.toNat * inf.size), hrun, (fun g n hg => by cases hg; exact Nat.le_refl _), .inr ⟨_, _, _, upB_self _ _ _, rfl, hn, by unfold mx; omega, rfl⟩, .inr ⟨_, _, _, upB_self _ _ _, .inl hp.upd.size, Bk.new w _ e, by simp, by show (List.replicate (l.toNat * inf.size) (0 : Int)).length ≤ c.toNat * inf.size; rw [List.length_replicate]; exact hnm, ?_, ?_⟩, (Upd.refl _ w).alloc _⟩
          · show List.take (List.replicate (l.toNat * inf.size) (0 : Int)).length _ = (List.replicate (l.toNat * inf.size) (0 : Int)).map (Value.int k)
            rw [List.length_replicate, Array.toList_replicate, List.take_replicate, Nat.min_eq_left hnm, List.map_replicate]
          · intro u hu
            simp only [L.c, List.mem_map] at hu
            obtain ⟨y, _, rfl⟩ := hu
            rfl
      · cases h
    · cases h
  · cases h
end
end Go.Proofs.Ythlleheeghiljaa
