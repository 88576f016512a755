/-
  aead: Open of what is a part, or not.
-/
import Derived.Test.YthhjcpiaoempfaaDoorA2
import Derived.Test.YthhjcpiaoempfaaDoorRs
namespace Go.Proofs.YthhjcpiaoempfaaDoor
open Go.RowKit
set_option maxRecDepth 100000

theorem tagS_cong {key nonce m : List Int} {ls ls' : List (List Int)} {k : Nat} (h : ls.flatten = ls'.flatten) : tagS key nonce ls m k = tagS key nonce ls' m k := by
  unfold tagS; rw [List.flatten_append, List.flatten_append, h]
theorem mixA_bys {key nonce t : List Int} {x : Int} : Bys (mixA key nonce x t) := by
  intro y hy
  obtain ⟨p, hp, rfl⟩ := List.getElem_of_mem hy
  have hp' : p < t.length := by rw [mixA_len] at hp; exact hp
  have e : (mixA key nonce x t)[p] = (mixA key nonce x t).getD p 0 := by rw [List.getD_eq_getElem?_getD, List.getElem?_eq_getElem hp]; rfl
  rw [e, mixA_at _ _ _ _ _ hp']
  exact xorB_in _ _
theorem strEq_refl (s : ByteArray) : strEq s s = true := by unfold strEq; simp
def pSub : List AV → Bool
  | [_, .o (.c (.sub _ _ _ _)), _] => true
  | _ => false
noncomputable def cOpenB : Spec := orS (restr pSub cAOpenS) cAOpen
theorem cOpenB_ok : SpecOK Tryd.prog cOpenB := orS_ok (restr_ok cAOpenS_ok) cAOpen_ok rfl rfl rfl
end Go.Proofs.YthhjcpiaoempfaaDoor
