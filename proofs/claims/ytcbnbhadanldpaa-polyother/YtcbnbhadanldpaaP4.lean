/-
  poly: Sum of one part and of none; what the laws know.
-/
import Derived.Test.YtcbnbhadanldpaaP3
namespace Go.Proofs.Ytcbnbhadanldpaa
open Go.RowKit
set_option maxRecDepth 100000

/-- The tag of one part. -/
def sumS (k : List Int) (s : List Int) : List Int := tagL ((k.drop 16).take 16) (s.getD 0 0) (s.getD 1 0) (s.getD 2 0) (s.getD 3 0) (s.getD 4 0)
def sumL (k t : List Int) : List Int := sumS k (all5 [0, 0, 0, 0, 0] (digL (facL k) 0) t)
def kSum1 : Nat × Nat × (List Int) × (List Int) → ClN := fun (typ, n, k, t) => ⟨[.o (.g [.many 32 (.i .u8 k)]), .o (.c (.sub 0 0 0 1))], [.ro typ [.one (.rs 1 n (.i .u8 t))]], .o (.g [.many 16 (.i .u8 (sumL k t))]), [.dead], [0], [k.length = 32, t.length = n, n ≤ 140737488355328]⟩
noncomputable def FSum1 : FnE := ⟨mkEv Try.prog [] [cFactor, cInB1, cTag] 1, [0, 1, 2, 4, 5, 6], fun _ _ => .rounds 0⟩
def mSum1 : List AV → (Nat → Option MB) → Option (List Nat × (Nat × Nat × (List Int) × (List Int)))
  | [.o (.g [.many 32 (.i .u8 k)]), .o (.c (.sub i 0 0 1))], lk => match one1 lk i with
    | some (typ, n, t) => some ([i], typ, n, k, t)
    | none => none
  | _, _ => none
noncomputable def cSum1 : Spec := callG 21 Try.f21.ntmps mSum1 kSum1
theorem vcSum1 (typ n : Nat) (k t : List Int) : (wpE FSum1 (Try.f21.body.getD .skip) ⟨Try.f21.ntmps, slotsOf 0 (kSum1 (typ, n, k, t)).avs, (kSum1 (typ, n, k, t)).mem⟩ (finK Try.prog Try.f21.results.toList (postN (kSum1 (typ, n, k, t))))) = (let x1 := [bits BinOp.and IntKind.u64 (w8 (facL k)) (67108863 : Int), bits BinOp.and IntKind.u64 (sShr IntKind.u64 (w8 (facL k)) (26 : Int)) (67108863 : Int), bits BinOp.and IntKind.u64 (bits BinOp.or IntKind.u64 (sShr IntKind.u64 (w8 (facL k)) (52 : Int)) (sShl IntKind.u64 (w8 (List.drop (8 : Nat) (facL k))) (12 : Int))) (67108863 : Int), bits BinOp.and IntKind.u64 (sShr IntKind.u64 (w8 (List.drop (8 : Nat) (facL k))) (14 : Int)) (67108863 : Int), bits BinOp.or IntKind.u64 (sShr IntKind.u64 (w8 (List.drop (8 : Nat) (facL k))) (40 : Int)) (0 : Int)]; let x2 := all5 [(0 : Int), (0 : Int), (0 : Int), (0 : Int), (0 : Int)] x1 t; let x3 := List.getD x2 (0 : Nat) (0 : Int); let x4 := List.getD x2 (1 : Nat) (0 : Int); let x5 := List.getD x2 (2 : Nat) (0 : Int); let x6 := List.getD x2 (3 : Nat) (0 : Int); let x7 := List.getD x2 (4 : Nat) (0 : Int); let x8 := List.take (16 : Nat) (List.drop (16 : Nat) k); true = true ∧ (32 : Nat) = (32 : Nat) ∧ k = k ∧ List.length k = (32 : Nat) ∧ true = true ∧ getL [(0 : Nat), (4 : Nat), Nat.add (Nat.add (3 : Nat) (0 : Nat)) (0 : Nat)] (0 : Nat) = some (0 : Nat) ∧ (0 : Nat) = (0 : Nat) ∧ (1 : Nat) = (1 : Nat) ∧ (35 : Nat) = (35 : Nat) ∧ getL [(0 : Nat), (4 : Nat), Nat.add (Nat.add (3 : Nat) (0 : Nat)) (0 : Nat)] (1 : Nat) = some (4 : Nat) ∧ (0 : Nat) = (0 : Nat) ∧ getL [(0 : Nat), (4 : Nat), Nat.add (Nat.add (3 : Nat) (0 : Nat)) (0 : Nat)] (2 : Nat) = some (Nat.add (Nat.add (3 : Nat) (0 : Nat)) (0 : Nat)) ∧ (0 : Nat) = (0 : Nat) ∧ typ = typ ∧ true = true ∧ n = n ∧ t = t ∧ (71 : Nat) = (71 : Nat) ∧ (5 : Nat) = (5 : Nat) ∧ List.replicate (5 : Nat) (0 : Int) = [(0 : Int), (0 : Int), (0 : Int), (0 : Int), (0 : Int)] ∧ (71 : Nat) = (71 : Nat) ∧ (5 : Nat) = (5 : Nat) ∧ digL (facL k) (0 : Int) = x1 ∧ List.length t = n ∧ n ≤ (140737488355328 : Nat) ∧ (0 : Int) ≤ (16 : Int) ∧ (16 : Nat) ≤ (32 : Nat) ∧ (32 : Nat) ≤ (9223372036854775807 : Nat) ∧ true = true ∧ (5 : Nat) = (5 : Nat) ∧ ex5 x2 = [x3, x4, x5, x6, x7] ∧ true = true ∧ (16 : Nat) = (16 : Nat) ∧ x8 = x8 ∧ (32 : Nat) ≤ (32 : Nat) ∧ (16 : Nat) ≤ (16 : Nat) ∧ List.length x8 = (16 : Nat) ∧ true = true ∧ true = true ∧ (15 : Nat) = (15 : Nat) ∧ (16 : Nat) = (16 : Nat) ∧ tagL x8 x3 x4 x5 x6 x7 = sumL k t) := by kernel_rfl

set_option maxHeartbeats 8000000 in
theorem wpSum1 (typ n : Nat) (k t : List Int) (h1 : k.length = 32) (h2 : t.length = n) (h3 : n ≤ 140737488355328) : wpE FSum1 (Try.f21.body.getD .skip) ⟨Try.f21.ntmps, slotsOf 0 (kSum1 (typ, n, k, t)).avs, (kSum1 (typ, n, k, t)).mem⟩ (finK Try.prog Try.f21.results.toList (postN (kSum1 (typ, n, k, t)))) := by
  with_reducible refine Eq.mpr (vcSum1 typ n k t) ?_
  intro x1 x2 x3 x4 x5 x6 x7 x8
  have l8 : x8.length = 16 := by show (List.take 16 (List.drop 16 k)).length = 16; rw [List.length_take, List.length_drop, h1]; rfl
  have e1 : digL (facL k) 0 = x1 := by kernel_rfl
  have e9 : tagL x8 x3 x4 x5 x6 x7 = sumL k t := by unfold sumL; rw [e1]; rfl
  clear_value x1
  and_intros <;> first | omega | exact True.intro | exact e1 | exact e9 | exact l8 | rfl
set_option maxHeartbeats 8000000 in
theorem cSum1_ok : SpecOK Try.prog cSum1 := by
  refine callG_ok (c := Try.f21.body.getD .skip) mixed Try.func21 (by kernel_rfl) rfl (fun x hob => ?_)
  obtain ⟨typ, n, k, t⟩ := x
  have hob : (k.length = 32) ∧ (t.length = n) ∧ (n ≤ 140737488355328) := hob
  obtain ⟨h1, h2, h3⟩ := hob
  exact ⟨FSum1, rfl, evOKs ⟨.inl ⟨cFactor_ok, by kernel_rfl, gl_nil rfl⟩, ⟨.inl ⟨cInB1_ok, by kernel_rfl, gl_nil rfl⟩, ⟨.inl ⟨cTag_ok, by kernel_rfl, gl_nil rfl⟩, trivial⟩⟩⟩, rfl, rfl, by with_reducible exact wpSum1 typ n k t h1 h2 h3⟩

def kInB0 : Nat × Nat × Int × Int × Int × Int × Int × Int × Int × Int × Int × Int → ClN := fun (ts, tr, a, b, c, d, e, p, q, r, s, u) => ⟨[.o (.c (.v (.slice none 0 0))), .o (.c (.fn 35 [(0, 0), (1, 0)]))], [.fix ts [.many 5 (.i .u64 [a, b, c, d, e])], .ro tr [.many 5 (.i .u64 [p, q, r, s, u])]], .t [], [.fix ts [.many 5 (.i .u64 [a, b, c, d, e])], .dead], [0, 1], []⟩
noncomputable def FInB0 : FnE := ⟨mkEv Try.prog [] [] 2, [0, 1, 4, 5, 7, 8, 9, 10, 11, 12, 17, 29, 35], fun _ _ => .rounds 1⟩
def mInB0 : List AV → (Nat → Option MB) → Option (List Nat × (Nat × Nat × Int × Int × Int × Int × Int × Int × Int × Int × Int × Int))
  | [.o (.c (.v (.slice none 0 0))), .o (.c (.fn 35 [(j, 0), (k, 0)]))], lk => match lk j with
        | some (.fix ts [.many 5 (.i .u64 [a, b, c, d, e])]) => match lk k with
          | some (.fix tr [.many 5 (.i .u64 [p, q, r, s, u])]) => some ([j, k], ts, tr, a, b, c, d, e, p, q, r, s, u)
          | _ => none
        | _ => none
  | _, _ => none
noncomputable def cInB0 : Spec := callG 34 Try.f34.ntmps mInB0 kInB0
theorem vcInB0 (ts tr : Nat) (a b c d e p q r s u : Int) : (wpE FInB0 (Try.f34.body.getD .skip) ⟨Try.f34.ntmps, slotsOf 0 (kInB0 (ts, tr, a, b, c, d, e, p, q, r, s, u)).avs, (kInB0 (ts, tr, a, b, c, d, e, p, q, r, s, u)).mem⟩ (finK Try.prog Try.f34.results.toList (postN (kInB0 (ts, tr, a, b, c, d, e, p, q, r, s, u))))) = (let x1 := [a, b, c, d, e]; true = true ∧ true = true ∧ (40 : Nat) = (40 : Nat) ∧ ts = ts ∧ (5 : Nat) = (5 : Nat) ∧ x1 = x1) := by kernel_rfl

set_option maxHeartbeats 8000000 in
theorem wpInB0 (ts tr : Nat) (a b c d e p q r s u : Int) : wpE FInB0 (Try.f34.body.getD .skip) ⟨Try.f34.ntmps, slotsOf 0 (kInB0 (ts, tr, a, b, c, d, e, p, q, r, s, u)).avs, (kInB0 (ts, tr, a, b, c, d, e, p, q, r, s, u)).mem⟩ (finK Try.prog Try.f34.results.toList (postN (kInB0 (ts, tr, a, b, c, d, e, p, q, r, s, u)))) := by
  with_reducible refine Eq.mpr (vcInB0 ts tr a b c d e p q r s u) ?_
  intros
  and_intros <;> first | omega | exact True.intro | kernel_rfl
set_option maxHeartbeats 8000000 in
theorem cInB0_ok : SpecOK Try.prog cInB0 := by
  refine callG_ok (c := Try.f34.body.getD .skip) mixed Try.func34 (by kernel_rfl) rfl (fun x hob => ?_)
  obtain ⟨ts, tr, a, b, c, d, e, p, q, r, s, u⟩ := x
  exact ⟨FInB0, rfl, evOKs trivial, rfl, rfl, by with_reducible exact wpInB0 ts tr a b c d e p q r s u ⟩

def kSum0 : (List Int) → ClN := fun k => ⟨[.o (.g [.many 32 (.i .u8 k)]), .o (.c (.v (.slice none 0 0)))], [], .o (.g [.many 16 (.i .u8 (sumS k [0, 0, 0, 0, 0]))]), [], [], [k.length = 32]⟩
noncomputable def FSum0 : FnE := ⟨mkEv Try.prog [] [cFactor, cInB0, cTag] 0, [0, 1, 2, 4, 5, 6], fun _ _ => .rounds 0⟩
def mSum0 : List AV → (Nat → Option MB) → Option (List Nat × (List Int))
  | [.o (.g [.many 32 (.i .u8 k)]), .o (.c (.v (.slice none 0 0)))], _ => some ([], k)
  | _, _ => none
noncomputable def cSum0 : Spec := callG 21 Try.f21.ntmps mSum0 kSum0
theorem vcSum0 (k : List Int) : (wpE FSum0 (Try.f21.body.getD .skip) ⟨Try.f21.ntmps, slotsOf 0 (kSum0 k).avs, (kSum0 k).mem⟩ (finK Try.prog Try.f21.results.toList (postN (kSum0 k)))) = (let x1 := List.take (16 : Nat) (List.drop (16 : Nat) k); true = true ∧ (32 : Nat) = (32 : Nat) ∧ k = k ∧ List.length k = (32 : Nat) ∧ true = true ∧ Value.slice none (0 : Nat) (0 : Nat) = Value.slice none (0 : Nat) (0 : Nat) ∧ (35 : Nat) = (35 : Nat) ∧ getL [(3 : Nat), Nat.add (Nat.add (2 : Nat) (0 : Nat)) (0 : Nat)] (0 : Nat) = some (3 : Nat) ∧ (0 : Nat) = (0 : Nat) ∧ getL [(3 : Nat), Nat.add (Nat.add (2 : Nat) (0 : Nat)) (0 : Nat)] (1 : Nat) = some (Nat.add (Nat.add (2 : Nat) (0 : Nat)) (0 : Nat)) ∧ (0 : Nat) = (0 : Nat) ∧ (71 : Nat) = (71 : Nat) ∧ (5 : Nat) = (5 : Nat) ∧ List.replicate (5 : Nat) (0 : Int) = [(0 : Int), (0 : Int), (0 : Int), (0 : Int), (0 : Int)] ∧ (71 : Nat) = (71 : Nat) ∧ (5 : Nat) = (5 : Nat) ∧ digL (facL k) (0 : Int) = [bits BinOp.and IntKind.u64 (w8 (facL k)) (67108863 : Int), bits BinOp.and IntKind.u64 (sShr IntKind.u64 (w8 (facL k)) (26 : Int)) (67108863 : Int), bits BinOp.and IntKind.u64 (bits BinOp.or IntKind.u64 (sShr IntKind.u64 (w8 (facL k)) (52 : Int)) (sShl IntKind.u64 (w8 (List.drop (8 : Nat) (facL k))) (12 : Int))) (67108863 : Int), bits BinOp.and IntKind.u64 (sShr IntKind.u64 (w8 (List.drop (8 : Nat) (facL k))) (14 : Int)) (67108863 : Int), bits BinOp.or IntKind.u64 (sShr IntKind.u64 (w8 (List.drop (8 : Nat) (facL k))) (40 : Int)) (0 : Int)] ∧ (0 : Int) ≤ (16 : Int) ∧ (16 : Nat) ≤ (32 : Nat) ∧ (32 : Nat) ≤ (9223372036854775807 : Nat) ∧ true = true ∧ (5 : Nat) = (5 : Nat) ∧ [(0 : Int), (0 : Int), (0 : Int), (0 : Int), (0 : Int)] = [(0 : Int), (0 : Int), (0 : Int), (0 : Int), (0 : Int)] ∧ true = true ∧ (16 : Nat) = (16 : Nat) ∧ x1 = x1 ∧ (32 : Nat) ≤ (32 : Nat) ∧ (16 : Nat) ≤ (16 : Nat) ∧ List.length x1 = (16 : Nat) ∧ true = true ∧ true = true ∧ (15 : Nat) = (15 : Nat) ∧ (16 : Nat) = (16 : Nat) ∧ tagL x1 (0 : Int) (0 : Int) (0 : Int) (0 : Int) (0 : Int) = sumS k [(0 : Int), (0 : Int), (0 : Int), (0 : Int), (0 : Int)]) := by kernel_rfl

set_option maxHeartbeats 8000000 in
theorem wpSum0 (k : List Int) (h1 : k.length = 32) : wpE FSum0 (Try.f21.body.getD .skip) ⟨Try.f21.ntmps, slotsOf 0 (kSum0 k).avs, (kSum0 k).mem⟩ (finK Try.prog Try.f21.results.toList (postN (kSum0 k))) := by
  with_reducible refine Eq.mpr (vcSum0 k) ?_
  intro x1
  have l8 : x1.length = 16 := by show (List.take 16 (List.drop 16 k)).length = 16; rw [List.length_take, List.length_drop, h1]; rfl
  have e9 : tagL x1 0 0 0 0 0 = sumS k [0, 0, 0, 0, 0] := rfl
  and_intros <;> first | omega | exact True.intro | exact e9 | exact l8 | rfl | kernel_rfl
set_option maxHeartbeats 8000000 in
theorem cSum0_ok : SpecOK Try.prog cSum0 := by
  refine callG_ok (c := Try.f21.body.getD .skip) mixed Try.func21 (by kernel_rfl) rfl (fun k hob => ?_)
  have hob : (k.length = 32) := hob
  have h1 := hob
  exact ⟨FSum0, rfl, evOKs ⟨.inl ⟨cFactor_ok, by kernel_rfl, gl_nil rfl⟩, ⟨.inl ⟨cInB0_ok, by kernel_rfl, gl_nil rfl⟩, ⟨.inl ⟨cTag_ok, by kernel_rfl, gl_nil rfl⟩, trivial⟩⟩⟩, rfl, rfl, by with_reducible exact wpSum0 k h1⟩

noncomputable def cSum : Spec := orS cSum1 cSum0
theorem cSum_ok : SpecOK Try.prog cSum := orS_ok cSum1_ok cSum0_ok rfl rfl rfl
end Go.Proofs.Ytcbnbhadanldpaa
