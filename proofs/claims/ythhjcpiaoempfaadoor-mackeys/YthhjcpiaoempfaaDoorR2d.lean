/-
  The reference of layer 1: what it reckons with, and that it is the program's.
-/
import Derived.Test.YthhjcpiaoempfaaDoorR1
namespace Go.Proofs.YthhjcpiaoempfaaDoor
open Go.RowKit
set_option maxRecDepth 100000

def trnL : List Int := [7, 18, 3, 17, 19, 10, 2, 13, 22, 6, 11, 25]
def msgK (n : Nat) : Nat := (64 - (n + 9) % 64) % 64
def msgA (s : List Int) (k : Nat) : List Int := s ++ [128] ++ List.replicate k 0
/-- How many bits, as eight bytes: what is left of the number, a byte, and the bytes so far. -/
def cnum (n : Nat) : Nat → Int
  | 0 => IntKind.wrap .u64 (n : Int)
  | 1 => IntKind.wrap .u64 (Int.tdiv (IntKind.wrap .u64 (n : Int)) 32)
  | k + 2 => IntKind.wrap .u64 (Int.tdiv (cnum n (k + 1)) 256)
def cbt (n : Nat) : Nat → Int
  | 0 => IntKind.wrap .u8 (IntKind.wrap .u64 (Int.tmod (cnum n 0) 32 * 8))
  | k + 1 => IntKind.wrap .u8 (Int.tmod (cnum n (k + 1)) 256)
def cbuf (n : Nat) : Nat → List Int
  | 0 => List.replicate 8 0
  | k + 1 => (cbuf n k).set (7 - k) (cbt n k)
def msgR (s : List Int) : List Int := msgA s (msgK s.length) ++ cbuf s.length 8
def blkA (s : List Int) (a : Nat) : List Int := ((msgR s).drop a).take 64
def lstP (b : List Int) (i : Nat) : List Int := if i ≤ 16 then firL b i else wrdL b (i - 16)
/-- Words as bytes, as the reference writes them. -/
def outR (x : Int) : List Int := [IntKind.wrap .u8 (Int.tmod (IntKind.wrap .u64 (Int.tdiv x (pw 24))) 256), IntKind.wrap .u8 (Int.tmod (IntKind.wrap .u64 (Int.tdiv x (pw 16))) 256), IntKind.wrap .u8 (Int.tmod (IntKind.wrap .u64 (Int.tdiv x (pw 8))) 256), IntKind.wrap .u8 (Int.tmod (IntKind.wrap .u64 (Int.tdiv x (pw 0))) 256)]
def outK (s : List Int) : Nat → List Int
  | 0 => []
  | k + 1 => outK s k ++ outR (s.getD k 0)
def endR (s : List Int) : List Int := blkN h0L (msgR s) ((msgR s).length / 64)
def shaR (s : List Int) : List Int := outK (endR s) 8
theorem msgA_len (s : List Int) (k : Nat) : (msgA s k).length = s.length + 1 + k := by
  unfold msgA
  rw [List.length_append, List.length_append, List.length_replicate]; rfl
theorem msgA_next (s : List Int) (k : Nat) : msgA s k ++ [0] = msgA s (k + 1) := by
  unfold msgA
  rw [List.append_assoc, List.replicate_succ']
theorem cbuf_len (n : Nat) : ∀ k, (cbuf n k).length = 8
  | 0 => rfl
  | k + 1 => by rw [cbuf, List.length_set, cbuf_len n k]
theorem msgR_len (s : List Int) : (msgR s).length = s.length + 9 + msgK s.length := by
  unfold msgR
  rw [List.length_append, msgA_len, cbuf_len]; omega
theorem msgR_mod (s : List Int) : (msgR s).length % 64 = 0 := by
  rw [msgR_len]; unfold msgK; omega
def AllB (l : List Int) : Prop := ∀ j, B8 (l.getD j 0)
theorem B8.zero : B8 0 := ⟨by omega, by omega⟩
theorem B8.wrap (x : Int) : B8 (IntKind.wrap .u8 x) := by rw [wrapU8]; exact ⟨Int.emod_nonneg _ (by omega), Int.emod_lt_of_pos _ (by omega)⟩
theorem AllB.of {l : List Int} (h : ∀ x ∈ l, B8 x) : AllB l := by
  intro j
  rw [List.getD_eq_getElem?_getD]
  cases e : l[j]? with
  | none => exact B8.zero
  | some x => exact h x (List.mem_of_getElem? e)
theorem strL_B8 (s : ByteArray) : ∀ x ∈ strL s, B8 x := by
  intro x hx
  unfold strL at hx
  obtain ⟨b, _, rfl⟩ := List.mem_map.1 hx
  have := UInt8.toNat_lt b
  exact ⟨by omega, by omega⟩
theorem cbuf_B8 (n : Nat) : ∀ k, ∀ x ∈ cbuf n k, B8 x
  | 0, x, hx => by
    have := (List.mem_replicate.1 hx).2
    rw [this]; exact B8.zero
  | k + 1, x, hx => by
    rw [cbuf] at hx
    rcases List.mem_or_eq_of_mem_set hx with h | h
    · exact cbuf_B8 n k x h
    · rw [h]
      cases k <;> exact B8.wrap _
theorem msgR_B8 (s : ByteArray) : ∀ x ∈ msgR (strL s), B8 x := by
  intro x hx
  unfold msgR msgA at hx
  rcases List.mem_append.1 hx with h | h
  · rcases List.mem_append.1 h with h | h
    · rcases List.mem_append.1 h with h | h
      · exact strL_B8 s x h
      · rw [List.mem_singleton.1 h]; exact ⟨by omega, by omega⟩
    · rw [(List.mem_replicate.1 h).2]; exact B8.zero
  · exact cbuf_B8 _ 8 x h
theorem blkA_all (s : ByteArray) (a : Nat) : AllB (blkA (strL s) a) := AllB.of fun x hx => msgR_B8 s x (List.mem_of_mem_drop (List.mem_of_mem_take hx))
theorem blkA_at (s : List Int) (a i c : Nat) (h : 4 * i + c < 64) : ((blkA s a).drop (4 * i)).getD c 0 = (msgR s).getD (a + 4 * i + c) 0 := by
  unfold blkA
  rw [List.getD_eq_getElem?_getD, List.getD_eq_getElem?_getD, List.getElem?_drop, List.getElem?_take_of_lt h, List.getElem?_drop, Nat.add_assoc]
theorem lstP_zero (b : List Int) : lstP b 0 = List.replicate 64 0 := rfl
theorem lstP_low (b : List Int) {i : Nat} (h : i < 16) : lstP b i = firL b i ∧ lstP b (i + 1) = (lstP b i).set i (wordB (b.drop (4 * i))) := by
  unfold lstP
  rw [if_pos (by omega), if_pos (by omega)]
  exact ⟨rfl, rfl⟩
theorem lstP_high (b : List Int) {i : Nat} (h : 16 ≤ i) : lstP b (i + 1) = extL (lstP b i) i := by
  unfold lstP
  rw [if_neg (by omega)]
  obtain ⟨k, rfl⟩ : ∃ k, i = 16 + k := ⟨i - 16, by omega⟩
  rw [show 16 + k + 1 - 16 = k + 1 by omega, wrdL]
  split
  · rename_i h0
    have : k = 0 := by omega
    subst this; rfl
  · rw [show 16 + k - 16 = k by omega]
theorem lstP_last (b : List Int) : lstP b 64 = wordsL b := by
  unfold lstP wordsL
  rw [if_neg (by omega)]
theorem lstP_len (b : List Int) (i : Nat) : (lstP b i).length = 64 := by
  unfold lstP
  split
  · exact firL_len b i
  · exact wrdL_len b _
theorem lstP_all {b : List Int} (hb : AllB b) (i : Nat) : AllW (lstP b i) := by
  unfold lstP
  split
  · exact firL_all hb i
  · exact wrdL_all hb _
theorem firL_none (b : List Int) : ∀ k j, k ≤ j → (firL b k).getD j 0 = 0
  | 0, j, _ => by
    rw [firL, List.getD_eq_getElem?_getD, List.getElem?_replicate]
    split <;> rfl
  | k + 1, j, h => by
    have := firL_none b k j (by omega)
    rw [List.getD_eq_getElem?_getD] at this ⊢
    rw [firL, List.getElem?_set_ne (by omega), this]
theorem getD_set_self {l : List Int} {i : Nat} (h : i < l.length) (v : Int) : (l.set i v).getD i 0 = v := by
  rw [List.getD_eq_getElem?_getD, List.getElem?_set_self h]; rfl
theorem word_step {l d : List Int} {i : Nat} (_h : i < l.length) (h0 : l.getD i 0 = 0) (hd : AllB d) {x0 x1 x2 x3 : Int} (e0 : x0 = d.getD 0 0) (e1 : x1 = d.getD 1 0) (e2 : x2 = d.getD 2 0) (e3 : x3 = d.getD 3 0) :
    l.set i (IntKind.wrap .u64 (IntKind.wrap .u64 (IntKind.wrap .u64 (IntKind.wrap .u64 (IntKind.wrap .u64 (IntKind.wrap .u64 (IntKind.wrap .u64 (IntKind.wrap .u64 (l.getD i 0 * 256) + IntKind.wrap .u64 x0) * 256) + IntKind.wrap .u64 x1) * 256) + IntKind.wrap .u64 x2) * 256) + IntKind.wrap .u64 x3)) = l.set i (wordB d) := by
  rw [h0, e0, e1, e2, e3, ← (wordR_eq d hd).1]; rfl
theorem AllB.drop {l : List Int} (h : AllB l) (k : Nat) : AllB (l.drop k) := by
  intro j
  rw [List.getD_eq_getElem?_getD, List.getElem?_drop, ← List.getD_eq_getElem?_getD]
  exact h _
theorem h0L_all : AllW h0L := all8 ⟨by decide, by decide⟩ ⟨by decide, by decide⟩ ⟨by decide, by decide⟩ ⟨by decide, by decide⟩ ⟨by decide, by decide⟩ ⟨by decide, by decide⟩ ⟨by decide, by decide⟩ ⟨by decide, by decide⟩
theorem blkN_all (m : List Int) : ∀ k, AllW (blkN h0L m k)
  | 0 => h0L_all
  | k + 1 => blockH_all (blkN_all m k)
theorem blkN_len (m : List Int) : ∀ k, (blkN h0L m k).length = 8
  | 0 => rfl
  | k + 1 => by rw [blkN, blockH_len, blkN_len m k]
theorem keep_add {a b : Int} (ha : W32 a) (hb : W32 b) : keepR (IntKind.wrap .u64 (a + b)) = IntKind.wrap .u32 (a + b) := by
  have := ha.1; have := ha.2; have := hb.1; have := hb.2
  rw [keepR_eq (by rw [wrapU64]; exact Int.emod_nonneg _ (by omega)), wrapU64, wrapU32]; omega
theorem outK_len (s : List Int) : ∀ k, (outK s k).length = 4 * k
  | 0 => rfl
  | k + 1 => by rw [outK, List.length_append, outK_len s k]; show 4 * k + 4 = _; omega
theorem blk_next (s : List Int) {a : Nat} (h : a % 64 = 0) : addS (blkN h0L (msgR s) (a / 64)) (rdN (wordsL (blkA s a)) (blkN h0L (msgR s) (a / 64)) 64) 8 = blkN h0L (msgR s) ((a + 64) / 64) := by
  rw [show (a + 64) / 64 = a / 64 + 1 by omega, blkN]
  unfold blkA blockH
  rw [show 64 * (a / 64) = a by omega]
end Go.Proofs.YthhjcpiaoempfaaDoor
