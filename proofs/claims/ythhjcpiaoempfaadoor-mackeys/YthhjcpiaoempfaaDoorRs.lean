/-
  Contracts of some calls alone.
-/
import Derived.Test.YthhjcpiaoempfaaDoorSyk
namespace Go.Proofs.YthhjcpiaoempfaaDoor
open Go.RowKit
/-- Of some calls alone. -/
def restr (p : List AV → Bool) (s : Spec) : Spec := ⟨s.f, s.tg, fun avs cts base => bif p avs then s.app avs cts base else none, s.gl⟩
theorem restr_ok {P : Program} {p : List AV → Bool} {s : Spec} (h : SpecOK P s) : SpecOK P (restr p s) := by
  intro avs gm base r hr ho
  unfold restr at hr ⊢
  simp only [] at hr ⊢
  cases hp : p avs with
  | false => rw [hp] at hr; cases hr
  | true => rw [hp] at hr; exact h avs gm base r hr ho
end Go.Proofs.YthhjcpiaoempfaaDoor
