/-
  Operations by evaluation: []byte of a text, and of a text that is a constant. For any program.
-/
import Derived.Test.YthlleheeghiljaaSyl
import Derived.Lib.ConvBytes
namespace Go.Proofs.Ythlleheeghiljaa
open Go.RowKit

/-- A text's bytes. -/
def strL (s : ByteArray) : List Int := s.data.toList.map fun b => (b.toNat : Int)
theorem strL_len (s : ByteArray) : (strL s).length = s.size := by simp [strL]
/-- []byte of a constant, or of a text. -/
def evConvB (P : Program) (src dst : TypeId) (base : Nat) : List (Option AV) → List (Option MB) → Option Rec
  | [some (.o (.c (.os i 1 n)))], [some (.grow ty 1 l)] => cond (Nat.beq src dst) (match P.underlying dst with
    | some (.slice e) => match P.underlying e with
      | some (.int .u8) => some ⟨.o (.c (.os i 1 n)), 0, [], [(i, .grow ty 1 l)], [], [0 < n]⟩
      | _ => none
    | _ => none) none
  | [some (.o (.c (.v (.string s))))], _ => match P.underlying src, P.underlying dst with
    | some _, some (.slice e) => match P.underlying e with
      | some (.int .u8) => some ⟨.o (.c (.os base 1 s.size)), 0, [.grow e 1 (.i .u8 (strL s))], [], [], [s.size ≤ 140737488355328]⟩
      | _ => none
    | _, _ => none
  | _, _ => none
theorem Bk.freeze {w : World} {g : Nat} {t : TypeId} {arr : Array Value} (h : Bk w g t arr) : Bk (w.freeze ⟨g, arr.size, none⟩ 1) g t arr := by
  obtain ⟨⟨lo, hi⟩, h1, h2⟩ := h
  simp only [] at h2
  by_cases e : lo = hi
  · refine ⟨(arr.size, arr.size + 1), ?_, .inr (Nat.le_refl _)⟩
    simp [World.freeze, Array.getElem?_modify, h1, e]
  · refine ⟨(min lo arr.size, max hi (arr.size + 1)), ?_, .inr ?_⟩
    · simp [World.freeze, Array.getElem?_modify, h1, e]
    · rcases h2 with h2 | h2
      · exact absurd h2 e
      · show arr.size ≤ min lo arr.size
        omega
theorem Upd.freeze {S : Nat → Prop} {a w : World} (h : Upd S a w) {p : Addr} (n : Nat) (hp : p.block < a.heap.size → S p.block) : Upd S a (w.freeze p n) := by
  unfold World.freeze
  split
  · exact h
  · refine ⟨h.os, h.tape, h.output, by simpa using h.size, fun k hk hs => ?_⟩
    have hne : p.block ≠ k := fun e => hs (e ▸ hp (e ▸ hk))
    rw [← h.block k hk hs]
    simp [Array.getElem?_modify, hne]
theorem run_convMark {P : Program} {w : World} {t e : TypeId} {ty : TypeId} {g n cap : Nat} {arr : Array Value} (ht : P.underlying t = some (.slice e)) (he : P.underlying e = some (.int .u8)) (hg : Bk w g ty arr) :
    (convert t t (.slice (some ⟨g, 0, none⟩) n cap)).run P w = .ok (.slice (some ⟨g, 0, none⟩) n cap) (w.freeze ⟨g, arr.size, none⟩ 1) := by
  obtain ⟨f, h1, _⟩ := hg
  have hsh : w.shape? g = some (ty, arr.size) := by simp [World.shape?, h1]
  simp [convert, run_underlying ht, run_underlying he, markStringish, hsh, Result.andThen]
section
variable {E : Ev} {o : Oper} {gs : Nat → Option AV} {gm : Nat → Option MB} {base : Nat} {tg : List Nat} {r : Rec}
theorem ok_convB {src dst : TypeId} {x : Operand} (ho : o.op = .convert src dst x) (htg : objsOf [opnd E gs x] = tg) (h : evConvB E.P src dst base [opnd E gs x] (tg.map gm) = some r) (hobl : allP r.obl) : OpOK E o gs gm base { r with base := base, tg := tg } := by
  have hx : x ∈ o.op.operands := by simp [ho, Op.operands]
  have run : ∀ {ev : Operand → Value} {w w' : World} {v : Value}, (convert src dst (ev x)).run E.P w = .ok v w' → (execOp ev o).run E.P w = .ok (.value v) w' := by
    intro ev w w' v hr
    unfold execOp
    simp only [ho, Sem.run_bind, hr, Result.andThen_ok]
    rfl
  unfold evConvB at h
  split at h
  · rename_i i n ty l he hm
    simp only [List.cons.injEq, and_true] at he
    have htg' : tg = [i] := by rw [← htg, he]; simp [objsOf, C.idx]
    rw [htg'] at hm
    simp only [List.map_cons, List.map_nil, List.cons.injEq, and_true] at hm
    cases hb : Nat.beq src dst with
    | false => rw [hb] at h; cases h
    | true =>
      rw [hb, cond_true] at h
      obtain rfl := Nat.eq_of_beq_eq_true hb
      split at h
      · rename_i e hT
        split at h
        · rename_i hE
          cases h
          have hn : 0 < n := hobl
          refine okWrV (by rw [htg']; simp) hm rfl fun cx β a w hp => ?_
          rcases (hp.ops x hx _ he).1 with ⟨_, d2, _⟩ | ⟨g, s, cap, d1, d2, d3, d4, d5⟩
          · omega
          · rcases (hp.obj i (by rw [htg']; simp) _ hm).1 with ⟨o1, _⟩ | ⟨g', n', arr, o1, o2, o3, o4, o5⟩
            · rw [d1] at o1; cases o1
            · rw [d1] at o1; cases o1
              exact ⟨_, _, run (by rw [d2]; exact run_convMark hT hE o3), .inr ⟨g, s, cap, d1, rfl, d3, d4, d5⟩, .inr ⟨g, s, arr, d1, o2, o3.freeze, o4, o5⟩, (Upd.refl _ w).freeze 1 (fun _ => ⟨s, d1⟩)⟩
        · cases h
      · cases h
  · rename_i s he
    simp only [List.cons.injEq, and_true] at he
    split at h
    · rename_i u e hS hT
      split at h
      · rename_i hE
        cases h
        have hsz : s.size ≤ 140737488355328 := hobl
        refine okNew fun cx β a w hp => ?_
        have hv : a.eval x = .string s := hp.v hx he
        have hrun := Lib.run_convert_string_bytes (P := E.P) w src dst e s hS hT hE
        have hge := grownCap_ge w s.size 0 e
        have hcm := grownCap_le_maxLen w s.size 0 e (by unfold maxLen; omega)
        have hcs : (Lib.bytesCells w e s).size = grownCap w s.size 0 e := by
          simp only [Lib.bytesCells, Array.size_append, Array.size_map, Array.size_replicate]
          have : s.data.size = s.size := rfl
          omega
        refine ⟨_, _, some (w.heap.size, grownCap w s.size 0 e), run (by rw [hv]; exact hrun), (fun g n hg => by cases hg; exact Nat.le_refl _), .inr ⟨_, _, _, upB_self _ _ _, rfl, hge, by unfold maxLen at hcm; unfold mx; omega, by rw [Nat.mul_one]⟩,
          .inr ⟨_, _, Lib.bytesCells w e s, upB_self _ _ _, .inl hp.upd.size, ⟨_, Lib.bytesWorld_at_new w e s, .inr (Nat.le_refl _)⟩, hcs, by show (strL s).length ≤ _; rw [strL_len]; exact hge, ?_, ?_⟩, ⟨rfl, rfl, rfl, by rw [Lib.bytesWorld_size]; omega, fun k hk _ => Lib.bytesWorld_at_old w e s k hk⟩⟩
        · show (Lib.bytesCells w e s).toList.take (strL s).length = (strL s).map (Value.int .u8)
          unfold Lib.bytesCells
          rw [Array.toList_append, List.take_append_of_le_length (by rw [strL_len]; simp), List.take_of_length_le (by rw [strL_len]; simp)]
          simp [strL]
        · intro u hu
          obtain ⟨y, _, rfl⟩ := List.mem_map.1 hu
          rfl
      · cases h
    · cases h
  · cases h
end
end Go.Proofs.Ythlleheeghiljaa
