/-
  Point's calls in the points' terms.
-/
import Derived.Test.YtdpafemcpbhlfaaDoorPt2
import Derived.Test.YtdpafemcpbhlfaaDoorMul1
import Derived.Test.YtdpafemcpbhlfaaDoorPtBase
namespace Go.Proofs.YtdpafemcpbhlfaaDoor
set_option maxRecDepth 100000
open Go.RowKit

/-- Twenty cells that are a point of the curve; of none nothing is said. -/
def RP (o : Option EP) (arr : Array Value) : Prop := match o with
  | some e => ∃ p : P4, Ch 5 RE [p.x, p.y, p.z, p.t] arr ∧ Rp p e
  | none => True
theorem Ch.pt {p : P4} {e : EP} {arr : Array Value} (h : Ch 5 RE [p.x, p.y, p.z, p.t] arr) (hp : Rp p e) : Ch 20 RP [some e] arr := Ch.mk h.size h.one' ⟨p, h, hp⟩
theorem Ch.un {e : EP} {arr : Array Value} (h : Ch 20 RP [some e] arr) : ∃ p : P4, Ch 5 RE [p.x, p.y, p.z, p.t] arr ∧ Rp p e := h.get
theorem zPt_p : Ch 20 RP [none] zPt := Ch.mk zPt_ch.size zPt_ch.one' trivial
theorem Ch.junk {vs : List Fp} {arr : Array Value} (h : Ch 5 RE vs arr) (hv : vs.length = 4) : Ch 20 RP [none] arr := Ch.mk (by rw [h.size, hv]) h.one' trivial
theorem RetC.pt {x y z t : Fp} {e : EP} {w w' : World} {f : Ending} (h : RetC 5 RE [x, y, z, t] w f w') (hp : Rp ⟨x, y, z, t⟩ e) : RetC 20 RP [some e] w f w' := by
  obtain ⟨arr, he, hc, hu⟩ := h
  exact ⟨arr, he, Ch.pt (p := ⟨x, y, z, t⟩) hc hp, hu⟩
theorem keyB0_x : ofKey keyB0 = xB := by decide +kernel
theorem keyB1_y : ofKey keyB1 = yB := by decide +kernel
theorem baseR (w : World) : Calls Tryd.prog 34 #[] w (RetC 20 RP [some eB] w) :=
  (baseP w).mono fun _ _ h => h.pt (rp_of keyB0_x.symm keyB1_y.symm)
theorem zeroR (w : World) : Calls Tryd.prog 33 #[] w (RetC 20 RP [some EP.nil] w) :=
  (zeroP w).mono fun _ _ h => h.pt rp_zero
theorem togetherR {e f : EP} {a b : Array Value} (w : World) (hT : Tw w) (ha : Ch 20 RP [some e] a) (hb : Ch 20 RP [some f] b) : Calls Tryd.prog 70 #[.agg a, .agg b] w (RetC 20 RP [some (e.plus f)] w) := by
  obtain ⟨p, hp, rp⟩ := ha.un
  obtain ⟨q, hq, rq⟩ := hb.un
  exact (togetherP w hT hp hq).mono fun _ _ h => h.pt (rp_tog rp rq)
theorem negR {e : EP} {a : Array Value} (w : World) (hT : Tw w) (ha : Ch 20 RP [some e] a) : Calls Tryd.prog 32 #[.agg a] w (RetC 20 RP [some e.back] w) := by
  obtain ⟨p, hp, rp⟩ := ha.un
  exact (negP w hT hp).mono fun _ _ h => h.pt (rp_neg rp)
theorem multiplyR {e : EP} {a : Array Value} {l : List Int} (w : World) (hT : Tw w) (ha : Ch 20 RP [some e] a) (hl : l.length = 32) (hd : Digs 256 l) : Calls Tryd.prog 36 #[.agg a, .agg (numsA .u8 l)] w (RetC 20 RP [some (e.times (expo l))] w) := by
  obtain ⟨p, hp, rp⟩ := ha.un
  exact (multiplyP w hT hp hl hd).mono fun _ _ h => h.pt (rp_mul0 rp l hl hd)
theorem equalR {e f : EP} {a b : Array Value} (w : World) (ha : Ch 20 RP [some e] a) (hb : Ch 20 RP [some f] b) : Calls Tryd.prog 31 #[.agg a, .agg b] w fun r w' => r = .returned (.bool (edEq e f)) ∧ Upd (fun _ => False) w w' := by
  obtain ⟨p, hp, rp⟩ := ha.un
  obtain ⟨q, hq, rq⟩ := hb.un
  rw [← rp_eq rp rq]
  exact equalP w hp hq
theorem rp_div {p : P4} {e : EP} (h : Rp p e) : p.x * finv p.z = e.x ∧ p.y * finv p.z = e.y := by
  obtain ⟨hz, hx, hy, _⟩ := h
  have hi := finv_mul hz
  rw [hx, hy]
  generalize finv p.z = i at *
  exact ⟨by grobner, by grobner⟩
theorem encodeR {e : EP} {a : Array Value} (w : World) (ha : Ch 20 RP [some e] a) : Calls Tryd.prog 26 #[.agg a] w fun r w' => r = .returned (.agg (numsA .u8 (encP e))) ∧ Upd (fun _ => False) w w' := by
  obtain ⟨p, hp, rp⟩ := ha.un
  have h := encodeP w hp
  rw [(rp_div rp).1, (rp_div rp).2] at h
  exact h
end Go.Proofs.YtdpafemcpbhlfaaDoor
