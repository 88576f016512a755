/-
  Scalar's MulAdd and the reference's Order, beside the points.
-/
import Derived.Test.YtdpafemcpbhlfaaDoorPt5
import Derived.Test.YtdpafemcpbhlfaaDoorScRef1
namespace Go.Proofs.YtdpafemcpbhlfaaDoor
set_option maxRecDepth 100000
open Go.RowKit

theorem sc_dig (B : Int) : ∀ l, Sc.dig B l = dig B l
  | [] => rfl
  | x :: l => by
    show x + B * Sc.dig B l = x + B * dig B l
    rw [sc_dig B l]
theorem sc_digits (B : Int) : ∀ n v, Sc.digits B n v = digits B n v
  | 0, _ => rfl
  | n + 1, v => by
    show v % B :: Sc.digits B n (v / B) = v % B :: digits B n (v / B)
    rw [sc_digits B n]
def mulAddL (a b c : List Int) : List Int := digits 256 32 ((dig 256 a * dig 256 b + dig 256 c) % (ordN : Int))
theorem mulAddL_length (a b c : List Int) : (mulAddL a b c).length = 32 := digits_length _ _ _
theorem mulAddL_digs (a b c : List Int) : Digs 256 (mulAddL a b c) := digits_digs (by omega) _ _
theorem expo_mulAddL {a b c : List Int} (ha : Digs 256 a) (hb : Digs 256 b) (hc : Digs 256 c) : expo (mulAddL a b c) = (expo a * expo b + expo c) % ordN := by
  have na := dig_nonneg (B := 256) (by omega) ha
  have nb := dig_nonneg (B := 256) (by omega) hb
  have nc := dig_nonneg (B := 256) (by omega) hc
  unfold expo mulAddL
  rw [dig_digits (by omega)]
  obtain ⟨x, hx⟩ := Int.eq_ofNat_of_zero_le na
  obtain ⟨y, hy⟩ := Int.eq_ofNat_of_zero_le nb
  obtain ⟨z, hz⟩ := Int.eq_ofNat_of_zero_le nc
  rw [hx, hy, hz]
  have e : ((x : Int) * (y : Int) + (z : Int)) % (ordN : Int) = (((x * y + z) % ordN : Nat) : Int) := by
    rw [Int.natCast_emod, Int.natCast_add, Int.natCast_mul]
  have hlt : (x * y + z) % ordN < 7237005577332262213973186563042994240857116359379907606001950938285454250989 := Nat.mod_lt _ (by decide)
  rw [e, Int.emod_eq_of_lt (by omega) (by rw [show (256 : Int) ^ 32 = 115792089237316195423570985008687907853269984665640564039457584007913129639936 by decide]; omega)]
  rfl
theorem mulAddR {a b c : List Int} (w : World) (hS : Sc.Tab w) (ha : a.length = 32) (da : Digs 256 a) (hb : b.length = 32) (db : Digs 256 b) (hc : c.length = 32) (dc : Digs 256 c) : Calls Tryd.prog 40 #[.agg (numsA .u8 a), .agg (numsA .u8 b), .agg (numsA .u8 c)] w fun e w' => e = .returned (.agg (numsA .u8 (mulAddL a b c))) ∧ Upd (fun _ => False) w w' := by
  have h := Sc.mulAdd_any a b c w hS ha da hb db hc dc
  rw [sc_digits, sc_dig, sc_dig, sc_dig] at h
  exact h
theorem sc_ordB : Sc.ordB = ordL := by decide +kernel
theorem orderR (w : World) : Calls Tryd.prog 39 #[] w fun e w' => ∃ g cap z, e = .returned (.slice (some ⟨g, 0, none⟩) 32 cap) ∧ w.heap.size ≤ g ∧ Blk w' g 3 z ∧ (∀ j, j < 32 → z[j]? = some (.int .i64 (ordL.getD j 0))) ∧ Upd (fun _ => False) w w' := by
  refine (Sc.rOrder_any w).mono ?_
  rintro e w' ⟨v, rfl, h, hu⟩
  obtain ⟨h1, h2⟩ := h
  rcases h2 with ⟨_, h2⟩ | ⟨g, cap, cur, rfl, hg, hh', hn, hc, hcs, ht⟩
  · exact absurd h2 (by decide)
  · refine ⟨g, cap, cur, rfl, hg, hh', fun j hj => ?_, hu⟩
    have e : (cur.toList.take (Sc.ordB.length * 1))[j]? = (Sc.ordB.map (Value.int .i64))[j]? := by rw [ht]
    rw [List.getElem?_take_of_lt (by show j < 32 * 1; omega)] at e
    rw [← Array.getElem?_toList, e, sc_ordB]
    have hl : j < ordL.length := by rw [ordL_length]; exact hj
    simp [hl]
/-- The order's bytes, so many of them written. -/
def ordF (k : Nat) : List Int := (List.range 32).map fun j => if j < k then ordL.getD j 0 else 0
theorem ordF_zero : ordF 0 = zeroKL := by decide +kernel
theorem ordF_all : ordF 32 = ordL := by decide +kernel
theorem ordF_length (k : Nat) : (ordF k).length = 32 := by simp [ordF]
theorem ordF_digs (k : Nat) : Digs 256 (ordF k) := by
  intro x hx
  obtain ⟨j, _, rfl⟩ := List.mem_map.1 hx
  split
  · exact ordL_digs.get (B := 256) (by omega) j
  · omega
theorem ordF_succ {k : Nat} (h : k < 32) : ordF (k + 1) = (ordF k).set k (ordL.getD k 0) := by
  apply List.ext_getElem?
  intro j
  unfold ordF
  rw [List.getElem?_set]
  by_cases e : k = j
  · subst e
    simp [h]
  · rw [if_neg e]
    by_cases hj : j < 32
    · simp only [List.getElem?_map, List.getElem?_range hj, Option.map_some]
      congr 1
      by_cases h1 : j < k
      · rw [if_pos h1, if_pos (by omega)]
      · rw [if_neg h1, if_neg (by omega)]
    · rw [List.getElem?_eq_none (by simp; omega), List.getElem?_eq_none (by simp; omega)]
theorem u8_of {x : Int} (h : 0 ≤ x ∧ x < 256) : 0 ≤ x ∧ x ≤ 255 := by omega
theorem wp_region_l {P : Program} {ops : Array Oper} {Q : Exit → Act → World → Prop} {id : Nat} {a : Act} {w : World} (l : List Nat) (hl : List.range ops.size = l) (h : wpOps P ops Q l a w) : (Code.region id ops false).wp P Q a w := wp_region (by rw [hl]; exact h)
theorem wpOps_callK {P : Program} {ops : Array Oper} {Q : Exit → Act → World → Prop} {o : Oper} {a : Act} {w : World} {l : List Nat} (i : Nat) (ho : ops[i]? = some o) (hgd : o.guard = none) (d : Nat) (hd : o.dst = some d) (f : FuncId) (xs : Array Operand) (ts : Array TypeId) (hop : o.op = .call { callee := .value (.func f), args := xs, argTypes := ts }) (vs : Array Value) (hx : xs.map a.eval = vs) (hf : ∀ vs w, (callFunc f vs).run P w = .ok (.enter f vs) w)
    (h : Calls P f vs w fun e w' => ∃ v, e = .returned v ∧ wpOps P ops Q l { a with tmps := a.tmps.setIfInBounds d v } w') : wpOps P ops Q (i :: l) a w := by
  rw [wpOps_cons]
  refine wpOp_step ho (fun K hK => ?_)
  refine step_call' (by simp [Region.wanted, hgd]) f xs ts hop vs hx (hf vs) (h.mono ?_)
  rintro e w' ⟨v, rfl, h⟩
  refine ⟨v, rfl, ?_⟩
  rw [hd]
  exact hK _ _ h
/-- The order times a multiple of the base. -/
theorem ord_mult (n : Nat) : (eB.times n).times (expo ordL) = EP.nil := by
  rw [expo_ordL, times_times, Nat.mul_comm, ← times_times, order_base, times_nil]
end Go.Proofs.YtdpafemcpbhlfaaDoor
