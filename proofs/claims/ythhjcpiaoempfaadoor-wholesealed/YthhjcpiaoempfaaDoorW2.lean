/-
  WholeSealed: what is too long.
-/
import Derived.Test.YthhjcpiaoempfaaDoorW1
namespace Go.Proofs.YthhjcpiaoempfaaDoor
open Go.RowKit
set_option maxRecDepth 100000

def fcW1 (d : Nat) : Option Bool := bif Nat.beq d 28 then some true else none
def kWLongA : Nat × (List Int) × Nat × (List Int) × Nat × (List Int) → ClN := fun (ns, secret, n, t, m, b) => ⟨[.o (.c (.rs 1 ns (.i .u8 secret))), .o (.c (.rs 1 n (.i .u8 t))), .o (.c (.rs 1 m (.i .u8 b)))], [], vv (.bool true), [], [], [300 < ns]⟩
noncomputable def FWLongA : FnE := ⟨mkEv Tryd.prog tabH [] 0 fcW1, [0, 1, 2, 6, 7, 8, 9, 10, 11, 12, 13, 14, 15, 16, 17, 18, 19, 20, 22, 24, 25, 38, 83, 155, 163, 164, 165, 166, 175, 184, 185, 186], fun _ _ => .rounds 0⟩
theorem vcWLongA (ns : Nat) (secret : List Int) (n : Nat) (t : List Int) (m : Nat) (b : List Int) : (wpE FWLongA (Tryd.f6.body.getD .skip) ⟨Tryd.f6.ntmps, slotsOf 0 (kWLongA (ns, secret, n, t, m, b)).avs, (kWLongA (ns, secret, n, t, m, b)).mem⟩ (finK Tryd.prog Tryd.f6.results.toList (postN (kWLongA (ns, secret, n, t, m, b))))) = (decide ((300 : Int) < (↑ns : Int)) = true ∧ true = true ∧ true = true ∧ (218 : Nat) = (218 : Nat) ∧ Value.bool true = Value.bool true) := by kernel_rfl

set_option maxHeartbeats 8000000 in
theorem wpWLongA (ns : Nat) (secret : List Int) (n : Nat) (t : List Int) (m : Nat) (b : List Int) (h1 : 300 < ns) : wpE FWLongA (Tryd.f6.body.getD .skip) ⟨Tryd.f6.ntmps, slotsOf 0 (kWLongA (ns, secret, n, t, m, b)).avs, (kWLongA (ns, secret, n, t, m, b)).mem⟩ (finK Tryd.prog Tryd.f6.results.toList (postN (kWLongA (ns, secret, n, t, m, b)))) := by
  with_reducible refine Eq.mpr (vcWLongA ns secret n t m b) ?_
  have d : decide ((300 : Int) < (ns : Int)) = true := decide_eq_true (by omega)
  and_intros <;> first | exact True.intro | with_reducible assumption | with_reducible rfl | kernel_rfl
set_option maxHeartbeats 8000000 in
theorem lwWLongA (ns : Nat) (secret : List Int) (n : Nat) (t : List Int) (m : Nat) (b : List Int) (h1 : 300 < ns) {W : World} {vs : List Value} (hgl : ∀ g l, (g, l) ∈ (tabH : List (Nat × L)) → Lies (cxL W (tabH)) g 0 l) (hD : All2 (DA (cxL W (tabH)) be0) (kWLongA (ns, secret, n, t, m, b)).avs vs) : Calls Tryd.prog 6 vs.toArray W (fun e W' => e = .returned (.bool true) ∧ Upd (fun _ => False) W W') :=
  law_calls (F := FWLongA) (fn := Tryd.f6) (c := Tryd.f6.body.getD .skip) (k := kWLongA (ns, secret, n, t, m, b)) rfl (evOKs trivial) mixed rfl hgl Tryd.func6 (by kernel_rfl) rfl rfl hD (by kernel_rfl) (by with_reducible exact wpWLongA ns secret n t m b h1)

def fcW2 (d : Nat) : Option Bool := bif Nat.beq d 28 then some false else bif Nat.beq d 32 then some true else none
def kWLongB : Nat × (List Int) × Nat × (List Int) × Nat × (List Int) → ClN := fun (ns, secret, n, t, m, b) => ⟨[.o (.c (.rs 1 ns (.i .u8 secret))), .o (.c (.rs 1 n (.i .u8 t))), .o (.c (.rs 1 m (.i .u8 b)))], [], vv (.bool true), [], [], [ns ≤ 300, 1000 < n]⟩
noncomputable def FWLongB : FnE := ⟨mkEv Tryd.prog tabH [] 0 fcW2, [0, 1, 2, 6, 7, 8, 9, 10, 11, 12, 13, 14, 15, 16, 17, 18, 19, 20, 22, 24, 25, 38, 83, 155, 163, 164, 165, 166, 175, 184, 185, 186], fun _ _ => .rounds 0⟩
theorem vcWLongB (ns : Nat) (secret : List Int) (n : Nat) (t : List Int) (m : Nat) (b : List Int) : (wpE FWLongB (Tryd.f6.body.getD .skip) ⟨Tryd.f6.ntmps, slotsOf 0 (kWLongB (ns, secret, n, t, m, b)).avs, (kWLongB (ns, secret, n, t, m, b)).mem⟩ (finK Tryd.prog Tryd.f6.results.toList (postN (kWLongB (ns, secret, n, t, m, b))))) = (decide ((300 : Int) < (↑ns : Int)) = false ∧ decide ((1000 : Int) < (↑n : Int)) = true ∧ true = true ∧ true = true ∧ (218 : Nat) = (218 : Nat) ∧ Value.bool true = Value.bool true) := by kernel_rfl

set_option maxHeartbeats 8000000 in
theorem wpWLongB (ns : Nat) (secret : List Int) (n : Nat) (t : List Int) (m : Nat) (b : List Int) (h1 : ns ≤ 300) (h2 : 1000 < n) : wpE FWLongB (Tryd.f6.body.getD .skip) ⟨Tryd.f6.ntmps, slotsOf 0 (kWLongB (ns, secret, n, t, m, b)).avs, (kWLongB (ns, secret, n, t, m, b)).mem⟩ (finK Tryd.prog Tryd.f6.results.toList (postN (kWLongB (ns, secret, n, t, m, b)))) := by
  with_reducible refine Eq.mpr (vcWLongB ns secret n t m b) ?_
  have d : decide ((300 : Int) < (ns : Int)) = false := decide_eq_false (by omega)
  have e : decide ((1000 : Int) < (n : Int)) = true := decide_eq_true (by omega)
  and_intros <;> first | exact True.intro | with_reducible assumption | with_reducible rfl | kernel_rfl
set_option maxHeartbeats 8000000 in
theorem lwWLongB (ns : Nat) (secret : List Int) (n : Nat) (t : List Int) (m : Nat) (b : List Int) (h1 : ns ≤ 300) (h2 : 1000 < n) {W : World} {vs : List Value} (hgl : ∀ g l, (g, l) ∈ (tabH : List (Nat × L)) → Lies (cxL W (tabH)) g 0 l) (hD : All2 (DA (cxL W (tabH)) be0) (kWLongB (ns, secret, n, t, m, b)).avs vs) : Calls Tryd.prog 6 vs.toArray W (fun e W' => e = .returned (.bool true) ∧ Upd (fun _ => False) W W') :=
  law_calls (F := FWLongB) (fn := Tryd.f6) (c := Tryd.f6.body.getD .skip) (k := kWLongB (ns, secret, n, t, m, b)) rfl (evOKs trivial) mixed rfl hgl Tryd.func6 (by kernel_rfl) rfl rfl hD (by kernel_rfl) (by with_reducible exact wpWLongB ns secret n t m b h1 h2)

def fcW3 (d : Nat) : Option Bool := bif Nat.beq d 28 || Nat.beq d 32 then some false else bif Nat.beq d 37 then some true else none
def kWLongC : Nat × (List Int) × Nat × (List Int) × Nat × (List Int) → ClN := fun (ns, secret, n, t, m, b) => ⟨[.o (.c (.rs 1 ns (.i .u8 secret))), .o (.c (.rs 1 n (.i .u8 t))), .o (.c (.rs 1 m (.i .u8 b)))], [], vv (.bool true), [], [], [ns ≤ 300, n ≤ 1000, 300 < m]⟩
noncomputable def FWLongC : FnE := ⟨mkEv Tryd.prog tabH [] 0 fcW3, [0, 1, 2, 6, 7, 8, 9, 10, 11, 12, 13, 14, 15, 16, 17, 18, 19, 20, 22, 24, 25, 38, 83, 155, 163, 164, 165, 166, 175, 184, 185, 186], fun _ _ => .rounds 0⟩
theorem vcWLongC (ns : Nat) (secret : List Int) (n : Nat) (t : List Int) (m : Nat) (b : List Int) : (wpE FWLongC (Tryd.f6.body.getD .skip) ⟨Tryd.f6.ntmps, slotsOf 0 (kWLongC (ns, secret, n, t, m, b)).avs, (kWLongC (ns, secret, n, t, m, b)).mem⟩ (finK Tryd.prog Tryd.f6.results.toList (postN (kWLongC (ns, secret, n, t, m, b))))) = (decide ((300 : Int) < (↑ns : Int)) = false ∧ decide ((1000 : Int) < (↑n : Int)) = false ∧ decide ((300 : Int) < (↑m : Int)) = true ∧ true = true ∧ true = true ∧ (218 : Nat) = (218 : Nat) ∧ Value.bool true = Value.bool true) := by kernel_rfl

set_option maxHeartbeats 8000000 in
theorem wpWLongC (ns : Nat) (secret : List Int) (n : Nat) (t : List Int) (m : Nat) (b : List Int) (h1 : ns ≤ 300) (h2 : n ≤ 1000) (h3 : 300 < m) : wpE FWLongC (Tryd.f6.body.getD .skip) ⟨Tryd.f6.ntmps, slotsOf 0 (kWLongC (ns, secret, n, t, m, b)).avs, (kWLongC (ns, secret, n, t, m, b)).mem⟩ (finK Tryd.prog Tryd.f6.results.toList (postN (kWLongC (ns, secret, n, t, m, b)))) := by
  with_reducible refine Eq.mpr (vcWLongC ns secret n t m b) ?_
  have d : decide ((300 : Int) < (ns : Int)) = false := decide_eq_false (by omega)
  have e : decide ((1000 : Int) < (n : Int)) = false := decide_eq_false (by omega)
  have f : decide ((300 : Int) < (m : Int)) = true := decide_eq_true (by omega)
  and_intros <;> first | exact True.intro | with_reducible assumption | with_reducible rfl | kernel_rfl
set_option maxHeartbeats 8000000 in
theorem lwWLongC (ns : Nat) (secret : List Int) (n : Nat) (t : List Int) (m : Nat) (b : List Int) (h1 : ns ≤ 300) (h2 : n ≤ 1000) (h3 : 300 < m) {W : World} {vs : List Value} (hgl : ∀ g l, (g, l) ∈ (tabH : List (Nat × L)) → Lies (cxL W (tabH)) g 0 l) (hD : All2 (DA (cxL W (tabH)) be0) (kWLongC (ns, secret, n, t, m, b)).avs vs) : Calls Tryd.prog 6 vs.toArray W (fun e W' => e = .returned (.bool true) ∧ Upd (fun _ => False) W W') :=
  law_calls (F := FWLongC) (fn := Tryd.f6) (c := Tryd.f6.body.getD .skip) (k := kWLongC (ns, secret, n, t, m, b)) rfl (evOKs trivial) mixed rfl hgl Tryd.func6 (by kernel_rfl) rfl rfl hD (by kernel_rfl) (by with_reducible exact wpWLongC ns secret n t m b h1 h2 h3)

theorem wholeSealed_any (s t b : List Int) (ns n m : Nat) (hs : s.length = ns) (ht : t.length = n) (hb : b.length = m) (h4 : Bys t) (h5 : Bys b) {W : World} {u v w : Value} (hgl : ∀ g l, (g, l) ∈ tabH → Lies (cxL W tabH) g 0 l)
    (hu : DA (cxL W tabH) be0 (.o (.c (.rs 1 ns (.i .u8 s)))) u) (hv : DA (cxL W tabH) be0 (.o (.c (.rs 1 n (.i .u8 t)))) v) (hw : DA (cxL W tabH) be0 (.o (.c (.rs 1 m (.i .u8 b)))) w) : Calls Tryd.prog 6 #[u, v, w] W (fun e W' => e = .returned (.bool true) ∧ Upd (fun _ => False) W W') := by
  by_cases h1 : 300 < ns
  · exact lwWLongA ns s n t m b h1 (vs := [_, _, _]) hgl ⟨hu, hv, hw, trivial⟩
  · by_cases h2 : 1000 < n
    · exact lwWLongB ns s n t m b (by omega) h2 (vs := [_, _, _]) hgl ⟨hu, hv, hw, trivial⟩
    · by_cases h3 : 300 < m
      · exact lwWLongC ns s n t m b (by omega) (by omega) h3 (vs := [_, _, _]) hgl ⟨hu, hv, hw, trivial⟩
      · exact lwWSeal ns s n t m b hs ht hb h4 h5 (by omega) (by omega) (by omega) (vs := [_, _, _]) hgl ⟨hu, hv, hw, trivial⟩
end Go.Proofs.YthhjcpiaoempfaaDoor
