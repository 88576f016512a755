/-
  Point's Decode in the points' terms.
-/
import Derived.Test.YtdpafemcpbhlfaaDoorPt3
import Derived.Test.YtdpafemcpbhlfaaDoorPtR
namespace Go.Proofs.YtdpafemcpbhlfaaDoor
set_option maxRecDepth 100000
open Go.RowKit

/-- What Decode answers. -/
noncomputable def errOf (k : List Int) : Int := @ite _ (∃ e : EP, encP e = k) (Classical.propDecidable _) 0 60
theorem errOf_t {k : List Int} {e : EP} (h : encP e = k) : errOf k = 0 := if_pos ⟨e, h⟩
theorem errOf_f {k : List Int} (h : ∀ e : EP, encP e ≠ k) : errOf k = 60 := if_neg fun ⟨e, he⟩ => h e he
theorem dec_cond {k : List Int} (hd : Digs 256 k) : (canonB (k.set 31 (bits .andNot .u8 (k.getD 31 0) 128)) = true ∧ isY (ofKey (k.set 31 (bits .andNot .u8 (k.getD 31 0) 128))) = true ∧ ¬ (¬ bits .and .u8 (k.getD 31 0) 128 = 0 ∧ xOf (ofKey (k.set 31 (bits .andNot .u8 (k.getD 31 0) 128))) = 0)) ↔
    (canonB (lowK k) = true ∧ isY (ofKey (lowK k)) = true ∧ ¬ (128 ≤ k.getD 31 0 ∧ xOf (ofKey (lowK k)) = 0)) := by
  have h := odd_eq hd
  rw [decide_eq_decide] at h
  rw [low_eq hd, h]
  simp only [Decidable.not_not]
theorem decodeT {k : List Int} {e : EP} (w : World) (hT : Tw w) (hl : k.length = 32) (hd : Digs 256 k) (he : encP e = k) : Calls Tryd.prog 24 #[.agg (numsA .u8 k)] w (RetCV 20 RP [some e] (.int .i64 0) w) := by
  have hA : canonB (lowK k) = true ∧ isY (ofKey (lowK k)) = true ∧ ¬ (128 ≤ k.getD 31 0 ∧ xOf (ofKey (lowK k)) = 0) := by
    apply Classical.byContradiction
    intro h
    exact dec_no h e he
  obtain ⟨hc, hr, ho⟩ := hA
  obtain ⟨f, hf, hy, hx⟩ := dec_yes hl hd hc hr ho
  obtain rfl : f = e := encP_inj (hf.trans he.symm)
  refine (decodeP w hT hl hd).mono fun r w' h => ?_
  obtain ⟨arr, h1 | ⟨x, h1, h2, h3⟩, hu⟩ := h
  · exact absurd ((dec_cond hd).2 ⟨hc, hr, ho⟩) h1.2.2
  · refine ⟨arr, h1, Ch.pt (p := ⟨_, _, _, _⟩) h2 (rp_of ?_ ?_), hu⟩
    · have h4 := odd_eq hd
      rw [decide_eq_decide] at h4
      rw [h3.2, hx, low_eq hd]
      by_cases h128 : 128 ≤ k.getD 31 0
      · rw [if_pos h128, if_pos (fun e0 => h4.1 e0 h128)]
      · rw [if_neg h128, if_neg (fun e0 => e0 (h4.2 h128))]
    · rw [low_eq hd]; exact hy
theorem decodeF {k : List Int} (w : World) (hT : Tw w) (hl : k.length = 32) (hd : Digs 256 k) (he : ∀ e : EP, encP e ≠ k) : Calls Tryd.prog 24 #[.agg (numsA .u8 k)] w (RetCV 20 RP [none] (.int .i64 60) w) := by
  refine (decodeP w hT hl hd).mono fun r w' h => ?_
  obtain ⟨arr, ⟨h1, h2, _⟩ | ⟨x, h1, h2, h3⟩, hu⟩ := h
  · exact ⟨arr, h1, h2.junk rfl, hu⟩
  · exfalso
    obtain ⟨hc, hr, ho⟩ := (dec_cond hd).1 h3.1
    obtain ⟨f, hf, _⟩ := dec_yes hl hd hc hr ho
    exact he f hf
/-- Of the point nothing is said. -/
theorem decodeN {k : List Int} (w : World) (hT : Tw w) (hl : k.length = 32) (hd : Digs 256 k) : Calls Tryd.prog 24 #[.agg (numsA .u8 k)] w (RetCV 20 RP [none] (.int .i64 (errOf k)) w) := by
  by_cases h : ∃ e : EP, encP e = k
  · obtain ⟨e, he⟩ := h
    rw [errOf_t he]
    refine (decodeT w hT hl hd he).mono fun _ _ ⟨arr, h1, h2, hu⟩ => ⟨arr, h1, Ch.mk h2.size h2.one' trivial, hu⟩
  · rw [errOf_f (fun e he => h ⟨e, he⟩)]
    exact decodeF w hT hl hd (fun e he => h ⟨e, he⟩)
end Go.Proofs.YtdpafemcpbhlfaaDoor
