/-
  The reference's Encode and Decode in the points' terms.
-/
import Derived.Test.YtdpafemcpbhlfaaDoorRf6c
namespace Go.Proofs.YtdpafemcpbhlfaaDoor
set_option maxRecDepth 100000
open Go.RowKit

theorem rencodeR {e : EP} {a : Array Value} (w : World) (ha : Ch 48 RQ [some e] a) : Calls Tryd.prog 27 #[.agg a] w fun r w' => r = .returned (.agg (numsA .u8 (encP e))) ∧ Upd (fun _ => False) w w' := by
  obtain ⟨X, Y, Z, h, hz, hx, hy⟩ := ha.get
  have hi := finv_mul hz
  have h1 : X * finv Z = e.x := by
    rw [hx]
    generalize finv Z = i at *
    clear hy
    grobner
  have h2 : Y * finv Z = e.y := by
    rw [hy]
    generalize finv Z = i at *
    clear hx h1
    grobner
  have h3 := rencodeP w h
  rw [h1, h2] at h3
  exact h3
theorem rdecodeT {k : List Int} {e : EP} (w : World) (hl : k.length = 32) (hd : Digs 256 k) (he : encP e = k) : Calls Tryd.prog 25 #[.agg (numsA .u8 k)] w (RetCV 48 RQ [some e] (.int .i64 0) w) := by
  refine (rdecodeP w hl hd).mono fun r w' h => ?_
  obtain ⟨arr, ⟨_, _, h1⟩ | ⟨x, h1, h2, f, hf, fx, fy⟩, hu⟩ := h
  · exact absurd he (h1 e)
  · obtain rfl : f = e := encP_inj (hf.trans he.symm)
    exact ⟨arr, h1, h2.rq (by rw [fv_one]; exact one_ne_zero') (by rw [fx, fv_one]; grobner) (by rw [fy, fv_one]; grobner), hu⟩
theorem rdecodeF {k : List Int} (w : World) (hl : k.length = 32) (hd : Digs 256 k) (he : ∀ e : EP, encP e ≠ k) : Calls Tryd.prog 25 #[.agg (numsA .u8 k)] w (RetCV 48 RQ [none] (.int .i64 60) w) := by
  refine (rdecodeP w hl hd).mono fun r w' h => ?_
  obtain ⟨arr, ⟨h1, h2, _⟩ | ⟨x, h1, h2, f, hf, _, _⟩, hu⟩ := h
  · exact ⟨arr, h1, h2.rjunk rfl, hu⟩
  · exact absurd hf (he f)
theorem base_key : encP eB = keyOf (fv 4 * finv (fv 5)) := by
  rw [finv_eq (x := fv 5) (y := 11579208923731619542357098500868790785326998466564056403945758400791312963990) (by decide +kernel)]
  show encL xB yB = _
  decide +kernel
end Go.Proofs.YtdpafemcpbhlfaaDoor
