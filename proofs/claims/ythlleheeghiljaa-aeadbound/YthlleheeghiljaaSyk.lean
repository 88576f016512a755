/-
  Callees together; a law as a whole. For any program.
-/
import Derived.Test.YthlleheeghiljaaSyj
import Derived.Laws.Externs
namespace Go.Proofs.Ythlleheeghiljaa
open Go.RowKit

def AllS (P : Program) (gl : List (Nat × L)) : List Spec → Prop
  | [] => True
  | s :: r => GoodS P gl s ∧ AllS P gl r
theorem AllS_mem {P : Program} {gl : List (Nat × L)} : ∀ {Γ : List Spec}, AllS P gl Γ → ∀ s ∈ Γ, GoodS P gl s
  | [], _, s, hs => by cases hs
  | t :: r, h, s, hs => by
    rcases List.mem_cons.1 hs with rfl | hs
    · exact h.1
    · exact AllS_mem h.2 s hs
theorem evOKs {P : Program} {gl : List (Nat × L)} {Γ : List Spec} {pins : Nat} {fc : Nat → Option Bool} (h : AllS P gl Γ) : EvOK (mkEv P gl Γ pins fc) := evOK (AllS_mem h)
theorem gl_nil {s : Spec} {gl : List (Nat × L)} (h : s.gl = []) : ∀ x ∈ s.gl, x ∈ gl := fun x hx => by rw [h] at hx; cases hx
theorem gl_sub {s : Spec} {gl : List (Nat × L)} (h : s.gl = [] ∨ s.gl = gl) : ∀ x ∈ s.gl, x ∈ gl := by
  rcases h with h | h
  · exact gl_nil h
  · rw [h]; exact fun _ h => h
/-- math/bits.Add64, which the model runs itself. -/
def eAdd64 (f : FuncId) : Spec := ⟨f, fun _ _ => [], fun avs _ _ => match avs with
  | [.o (.c (.v (.int .u64 x))), .o (.c (.v (.int .u64 y))), .o (.c (.v (.int .u64 c)))] => val (.t [.c (.v (.int .u64 ((x + y + c) % 18446744073709551616))), .c (.v (.int .u64 ((x + y + c) / 18446744073709551616)))]) [0 ≤ x, 0 ≤ y, 0 ≤ c, c ≤ 1]
  | _ => none, []⟩
theorem eAdd64_ok {P : Program} {f : FuncId} {fn : Func} (hf : P.funcs[f]? = some fn) (hname : (fn.name == "runtime.NumGoroutine") = false) (hb : fn.body.isNone = true) (hn : Extern.findNext fn = none) (he : Extern.find fn = some add64Entry) : ExtOK P (eAdd64 f) := by
  intro avs cts base r h hobl
  simp only [eAdd64] at h
  split at h
  · rename_i x y c
    obtain rfl := val_eq h
    obtain ⟨h1, h2, h3, h4⟩ := hobl
    refine ⟨rfl, rfl, fun cx β w vs hD => ?_⟩
    match vs, hD with
    | [a, b, d], ⟨⟨e1, _⟩, ⟨e2, _⟩, ⟨e3, _⟩, _⟩ =>
      have e1' : a = .int .u64 x := e1
      have e2' : b = .int .u64 y := e2
      have e3' : d = .int .u64 c := e3
      subst e1' e2' e3'
      refine ⟨_, ?_, ⟨#[_, _], rfl, _, _, rfl, rfl, _, _, rfl, rfl, rfl⟩⟩
      show (callFunc f #[_, _, _]).run P w = _
      rw [run_callFunc_extern hf hname hb hn he, run_add64 x y c h1 h2 h3 h4]
      rfl
  · cases h
/-- One or the other. -/
def orS (s t : Spec) : Spec := ⟨s.f, s.tg, fun avs cts base => match s.app avs cts base with | some r => some r | none => t.app avs cts base, s.gl⟩
theorem orS_ok {P : Program} {s t : Spec} (hs : SpecOK P s) (ht : SpecOK P t) (hf : s.f = t.f) (hg : s.tg = t.tg) (hl : s.gl = t.gl) : SpecOK P (orS s t) := by
  intro avs gm base r hr ho
  unfold orS at hr ⊢
  simp only [] at hr ⊢
  split at hr
  · rename_i r' hr'; cases hr; exact hs avs gm base _ hr' ho
  · rw [hf, hg, hl]; rw [hg] at hr; exact ht avs gm base _ hr ho
/-- A slice's numbers. -/
def slI (lk : Nat → Option MB) : C → Option (Nat × List Int)
  | .v (.slice none 0 0) => some (0, [])
  | c => match rsV lk 1 c with
    | some (n, .i _ l, _) => some (n, l)
    | _ => none
def nilSS : List (List Int) := []
/-- A slot's number. -/
def iOf (k : Nat) (σ : St) : Nat := match lookL k σ.slots with
  | some (.o (.c (.v (.int _ i)))) => i.toNat
  | _ => 0
/-- What an object's slice holds. -/
def lOf (k : Nat) (σ : St) : List Int := match σ.gm k with
  | some (.grow _ _ (.i _ l)) => l
  | _ => []
/-- Slices of bytes. -/
def slS (lk : Nat → Option MB) (c : C) : Option (List (List Int)) := match ssV lk c with
  | some (_, ls, _) => some ls
  | none => none
def cxL (w : World) (gl : List (Nat × L)) : Cx := ⟨w, fun _ => False, gl, 0, fun _ => none⟩
def be0 : Be := fun _ => none
/-- A law: what it is given read as data, it answers true and writes nothing. -/
theorem law_calls {P : Program} {F : FnE} {f : FuncId} {fn : Func} {c : Code} {k : ClN} {vs : List Value} {w : World} (hP : F.E.P = P) (hE : EvOK F.E) (hm : P.follows .mixedOrders = true) (hpin : F.E.pins = 0) (hgl : ∀ g l, (g, l) ∈ F.E.gl → Lies (cxL w F.E.gl) g 0 l) (hf : P.funcs[f]? = some fn) (hb : fn.body = some c)
    (hk : k.mem = []) (hr : k.av = .o (.c (.v (.bool true)))) (hD : All2 (DA (cxL w F.E.gl) be0) k.avs vs) (hlen : lenB k.avs fn.ntmps = true) (hw : wpE F c ⟨fn.ntmps, slotsOf 0 k.avs, k.mem⟩ (finK P fn.results.toList (postN k))) :
    Calls P f vs.toArray w (fun e w' => e = .returned (.bool true) ∧ Upd (fun _ => False) w w') := by
  subst hP
  have hl : vs.length ≤ fn.ntmps := by
    have h1 := hD.get.1
    have h2 := lenB_le hlen
    omega
  rw [hk] at hw
  have := fn_calls (cx := cxL w F.E.gl) (β := be0) (mem := []) hE hm ⟨rfl, hpin.symm⟩ hf hb (Upd.refl _ w) hgl (fun j hj => absurd hj (Nat.not_lt_zero j)) hD hl (fun i mb h => by cases h) (fun i j x y _ h => by cases h) hw
  refine this.mono ?_
  rintro e w' ⟨v, av, σ', β', a', rfl, d, hp, H⟩
  have hp' : allP (impP k.mem.length (reN σ' k.ren) σ' ⟨σ'.n, [], k.tau⟩ ++ eqA (reN σ' k.ren) av k.av) := hp
  rw [allP_append] at hp'
  have d2 := eqA_ok hp'.2 d
  rw [hr] at d2
  have e : v = .bool true := d2
  exact ⟨by rw [e], H.upd⟩
end Go.Proofs.Ythlleheeghiljaa
