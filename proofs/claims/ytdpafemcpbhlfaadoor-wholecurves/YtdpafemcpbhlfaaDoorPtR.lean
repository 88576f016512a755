/-
  Point's calls in the points' terms.
-/
import Derived.Test.YtdpafemcpbhlfaaDoorPt3
import Derived.Test.YtdpafemcpbhlfaaDoorMul1
import Derived.Test.YtdpafemcpbhlfaaDoorPtBase
namespace Go.Proofs.YtdpafemcpbhlfaaDoor
set_option maxRecDepth 100000
open Go.RowKit

/-- Twenty cells that are a point of the curve; of none nothing is said. -/
def RP (o : Option EP) (arr : Array Value) : Prop := match o with
  | some e => ∃ p : P4, Ch 5 RE [p.x, p.y, p.z, p.t] arr ∧ Rp p e
  | none => True
theorem Ch.pt {p : P4} {e : EP} {arr : Array Value} (h : Ch 5 RE [p.x, p.y, p.z, p.t] arr) (hp : Rp p e) : Ch 20 RP [some e] arr := Ch.mk h.size h.one' ⟨p, h, hp⟩
theorem Ch.un {e : EP} {arr : Array Value} (h : Ch 20 RP [some e] arr) : ∃ p : P4, Ch 5 RE [p.x, p.y, p.z, p.t] arr ∧ Rp p e := h.get
theorem zPt_p : Ch 20 RP [none] zPt := Ch.mk zPt_ch.size zPt_ch.one' trivial
theorem Ch.junk {vs : List Fp} {arr : Array Value} (h : Ch 5 RE vs arr) (hv : vs.length = 4) : Ch 20 RP [none] arr := Ch.mk (by rw [h.size, hv]) h.one' trivial
theorem RetC.pt {x y z t : Fp} {e : EP} {w w' : World} {f : Ending} (h : RetC 5 RE [x, y, z, t] w f w') (hp : Rp ⟨x, y, z, t⟩ e) : RetC 20 RP [some e] w f w' := by
  obtain ⟨arr, he, hc, hu⟩ := h
  exact ⟨arr, he, Ch.pt (p := ⟨x, y, z, t⟩) hc hp, hu⟩
theorem keyB0_x : ofKey keyB0 = xB := by decide +kernel
theorem keyB1_y : ofKey keyB1 = yB := by decide +kernel
theorem baseR (w : World) : Calls Tryd.prog 34 #[] w (RetC 20 RP [some eB] w) :=
  (baseP w).mono fun _ _ h => h.pt (rp_of keyB0_x.symm keyB1_y.symm)
theorem zeroR (w : World) : Calls Tryd.prog 33 #[] w (RetC 20 RP [some EP.nil] w) :=
  (zeroP w).mono fun _ _ h => h.pt rp_zero
theorem togetherR {e f : EP} {a b : Array Value} (w : World) (hT : Tw w) (ha : Ch 20 RP [some e] a) (hb : Ch 20 RP [some f] b) : Calls Tryd.prog 70 #[.agg a, .agg b] w (RetC 20 RP [some (e.plus f)] w) := by
  obtain ⟨p, hp, rp⟩ := ha.un
  obtain ⟨q, hq, rq⟩ := hb.un
  exact (togetherP w hT hp hq).mono fun _ _ h => h.pt (rp_tog rp rq)
theorem negR {e : EP} {a : Array Value} (w : World) (hT : Tw w) (ha : Ch 20 RP [some e] a) : Calls Tryd.prog 32 #[.agg a] w (RetC 20 RP [some e.back] w) := by
  obtain ⟨p, hp, rp⟩ := ha.un
  exact (negP w hT hp).mono fun _ _ h => h.pt (rp_neg rp)
theorem multiplyR {e : EP} {a : Array Value} {l : List Int} (w : World) (hT : Tw w) (ha : Ch 20 RP [some e] a) (hl : l.length = 32) (hd : Digs 256 l) : Calls Tryd.prog 36 #[.agg a, .agg (numsA .u8 l)] w (RetC 20 RP [some (e.times (expo l))] w) := by
  obtain ⟨p, hp, rp⟩ := ha.un
  exact (multiplyP w hT hp hl hd).mono fun _ _ h => h.pt (rp_mul0 rp l hl hd)
theorem equalR {e f : EP} {a b : Array Value} (w : World) (ha : Ch 20 RP [some e] a) (hb : Ch 20 RP [some f] b) : Calls Tryd.prog 31 #[.agg a, .agg b] w fun r w' => r = .returned (.bool (edEq e f)) ∧ Upd (fun _ => False) w w' := by
  obtain ⟨p, hp, rp⟩ := ha.un
  obtain ⟨q, hq, rq⟩ := hb.un
  rw [← rp_eq rp rq]
  exact equalP w hp hq
theorem rp_div {p : P4} {e : EP} (h : Rp p e) : p.x * finv p.z = e.x ∧ p.y * finv p.z = e.y := by
  obtain ⟨hz, hx, hy, _⟩ := h
  have hi := finv_mul hz
  rw [hx, hy]
  generalize finv p.z = i at *
  exact ⟨by grobner, by grobner⟩
theorem encodeR {e : EP} {a : Array Value} (w : World) (ha : Ch 20 RP [some e] a) : Calls Tryd.prog 26 #[.agg a] w fun r w' => r = .returned (.agg (numsA .u8 (encP e))) ∧ Upd (fun _ => False) w w' := by
  obtain ⟨p, hp, rp⟩ := ha.un
  have h := encodeP w hp
  rw [(rp_div rp).1, (rp_div rp).2] at h
  exact h
/-- What Decode answers. -/
noncomputable def errOf (k : List Int) : Int := @ite _ (∃ e : EP, encP e = k) (Classical.propDecidable _) 0 60
theorem errOf_t {k : List Int} {e : EP} (h : encP e = k) : errOf k = 0 := if_pos ⟨e, h⟩
theorem errOf_f {k : List Int} (h : ∀ e : EP, encP e ≠ k) : errOf k = 60 := if_neg fun ⟨e, he⟩ => h e he
theorem decodeT {k : List Int} {e : EP} (w : World) (hT : Tw w) (hl : k.length = 32) (hd : Digs 256 k) (he : encP e = k) : Calls Tryd.prog 24 #[.agg (numsA .u8 k)] w (RetCV 20 RP [some e] (.int .i64 0) w) := by
  have hA : canonB (lowK k) = true ∧ isY (ofKey (lowK k)) = true ∧ ¬ (128 ≤ k.getD 31 0 ∧ xOf (ofKey (lowK k)) = 0) := by
    apply Classical.byContradiction
    intro h
    exact dec_no h e he
  obtain ⟨hc, hr, ho⟩ := hA
  obtain ⟨f, hf, hy, hx⟩ := dec_yes hl hd hc hr ho
  obtain rfl : f = e := encP_inj (hf.trans he.symm)
  have hlow := low_eq hd
  have hodd := odd_eq hd
  rw [← hlow] at hc hr ho hx hy
  by_cases h128 : 128 ≤ k.getD 31 0
  · rw [if_pos h128] at hx
    refine (decodeD w hT hl hd hc hr (by rw [hodd]; exact decide_eq_false (fun h => h h128)) (decide_eq_false fun h => ho ⟨h128, h⟩)).mono fun _ _ h => ?_
    obtain ⟨arr, he, hch, hu⟩ := h
    exact ⟨arr, he, Ch.pt (p := ⟨_, _, _, _⟩) hch (rp_of hx hy), hu⟩
  · rw [if_neg h128] at hx
    refine (decodeE w hT hl hd hc hr (by rw [hodd]; exact decide_eq_true h128)).mono fun _ _ h => ?_
    obtain ⟨arr, he, hch, hu⟩ := h
    exact ⟨arr, he, Ch.pt (p := ⟨_, _, _, _⟩) hch (rp_of hx hy), hu⟩
theorem decodeF {k : List Int} (w : World) (hT : Tw w) (hl : k.length = 32) (hd : Digs 256 k) (he : ∀ e : EP, encP e ≠ k) : Calls Tryd.prog 24 #[.agg (numsA .u8 k)] w (RetCV 20 RP [none] (.int .i64 60) w) := by
  have hA : ¬ (canonB (lowK k) = true ∧ isY (ofKey (lowK k)) = true ∧ ¬ (128 ≤ k.getD 31 0 ∧ xOf (ofKey (lowK k)) = 0)) := fun ⟨hc, hr, ho⟩ => by
    obtain ⟨f, hf, _⟩ := dec_yes hl hd hc hr ho
    exact he f hf
  have hlow := low_eq hd
  have hodd := odd_eq hd
  rw [← hlow] at hA
  have fin : ∀ {vs : List Fp} {r : Ending} {w' : World}, vs.length = 4 → RetCV 5 RE vs (.int .i64 60) w r w' → RetCV 20 RP [none] (.int .i64 60) w r w' := fun hv ⟨arr, he, hch, hu⟩ => ⟨arr, he, hch.junk hv, hu⟩
  cases hc : canonB (k.set 31 (bits .andNot .u8 (k.getD 31 0) 128)) with
  | false => exact (decodeA w hT hl hd hc).mono fun _ _ h => fin rfl h
  | true =>
    cases hr : isY (ofKey (k.set 31 (bits .andNot .u8 (k.getD 31 0) 128))) with
    | false => exact (decodeB w hT hl hd hc hr).mono fun _ _ h => fin rfl h
    | true =>
      have ho : 128 ≤ k.getD 31 0 ∧ xOf (ofKey (k.set 31 (bits .andNot .u8 (k.getD 31 0) 128))) = 0 := by
        apply Classical.byContradiction
        intro h
        exact hA ⟨hc, hr, h⟩
      exact (decodeC w hT hl hd hc hr (by rw [hodd]; exact decide_eq_false (fun h => h ho.1)) (decide_eq_true ho.2)).mono fun _ _ h => fin rfl h
end Go.Proofs.YtdpafemcpbhlfaaDoor
