/-
  Walks of word and put; numbers as bytes.
-/
import Derived.Test.YthnpbodkcdbckaaDoorWide
namespace Go.Proofs.YthnpbodkcdbckaaDoor
set_option maxRecDepth 100000
open Go.RowKit

/-- The number of digits with the base B, the lowest first. -/
def dig (B : Int) : List Int → Int
  | [] => 0
  | x :: l => x + B * dig B l
/-- All of them are digits. -/
def Digs (B : Int) (l : List Int) : Prop := ∀ x ∈ l, 0 ≤ x ∧ x < B
theorem dig_append (B : Int) (l m : List Int) : dig B (l ++ m) = dig B l + B ^ l.length * dig B m := by
  induction l with
  | nil => simp [dig]
  | cons x l ih =>
    simp only [List.cons_append, dig, ih, List.length_cons, Int.mul_add]
    rw [Int.pow_succ, Int.mul_comm (B ^ l.length) B, Int.mul_assoc]
    omega
theorem dig_nonneg {B : Int} (hB : 0 < B) : ∀ {l : List Int}, Digs B l → 0 ≤ dig B l
  | [], _ => by simp [dig]
  | x :: l, h => by
    have h1 := (h x (by simp)).1
    have h2 := dig_nonneg hB (l := l) (fun y hy => h y (by simp [hy]))
    have := Int.mul_nonneg (Int.le_of_lt hB) h2
    simp only [dig]
    omega
theorem dig_lt {B : Int} (hB : 0 < B) : ∀ {l : List Int}, Digs B l → dig B l < B ^ l.length
  | [], _ => by simp [dig]
  | x :: l, h => by
    have h1 := (h x (by simp)).2
    have h2 := dig_lt hB (l := l) (fun y hy => h y (by simp [hy]))
    have h3 : B * (dig B l + 1) ≤ B * B ^ l.length := Int.mul_le_mul_of_nonneg_left (by omega) (Int.le_of_lt hB)
    rw [Int.mul_add] at h3
    simp only [dig, List.length_cons, Int.pow_succ]
    rw [Int.mul_comm (B ^ l.length) B]
    omega
/-- The lowest n digits of v. -/
def digits (B : Int) : Nat → Int → List Int
  | 0, _ => []
  | n + 1, v => v % B :: digits B n (v / B)
theorem digits_length (B : Int) : ∀ n v, (digits B n v).length = n
  | 0, _ => rfl
  | n + 1, v => by simp [digits, digits_length B n]
theorem digits_digs {B : Int} (hB : 0 < B) : ∀ n v, Digs B (digits B n v)
  | 0, _ => by intro x hx; cases hx
  | n + 1, v => by
    intro x hx
    simp only [digits, List.mem_cons] at hx
    rcases hx with rfl | hx
    · exact ⟨Int.emod_nonneg _ (by omega), Int.emod_lt_of_pos _ hB⟩
    · exact digits_digs hB n _ x hx
theorem digits_dig {B : Int} (hB : 0 < B) : ∀ {l : List Int}, Digs B l → digits B l.length (dig B l) = l
  | [], _ => rfl
  | x :: l, h => by
    have h1 := h x (by simp)
    have h2 := digits_dig hB (l := l) (fun y hy => h y (by simp [hy]))
    simp only [List.length_cons, digits, dig]
    rw [Int.add_mul_emod_self_left, Int.emod_eq_of_lt h1.1 h1.2, Int.add_mul_ediv_left _ _ (by omega), Int.ediv_eq_zero_of_lt h1.1 h1.2, Int.zero_add, h2]
theorem emod_mul' (v B C : Int) (hB : 0 < B) (hC : 0 < C) : v % (B * C) = v % B + B * (v / B % C) := by
  have e1 := Int.mul_ediv_add_emod v B
  have e2 := Int.mul_ediv_add_emod (v / B) C
  have b0 := Int.emod_nonneg v (b := B) (by omega)
  have b1 := Int.emod_lt_of_pos v hB
  have c0 := Int.emod_nonneg (v / B) (b := C) (by omega)
  have c1 := Int.emod_lt_of_pos (v / B) hC
  have h : v = (v % B + B * (v / B % C)) + B * C * (v / B / C) := by
    have : B * (v / B) = B * (C * (v / B / C)) + B * (v / B % C) := by rw [← Int.mul_add, e2]
    rw [Int.mul_assoc]
    omega
  have hle : B * (v / B % C) ≤ B * (C - 1) := Int.mul_le_mul_of_nonneg_left (by omega) (by omega)
  have hge : 0 ≤ B * (v / B % C) := Int.mul_nonneg (by omega) c0
  rw [Int.mul_sub, Int.mul_one] at hle
  have hb : (v % B + B * (v / B % C)) % (B * C) = v % B + B * (v / B % C) := Int.emod_eq_of_lt (by omega) (by omega)
  rw [← hb]
  conv => lhs; rw [h]
  rw [Int.add_mul_emod_self_left]
theorem dig_digits {B : Int} (hB : 0 < B) : ∀ n v, dig B (digits B n v) = v % B ^ n
  | 0, v => by simp [digits, dig, Int.emod_one]
  | n + 1, v => by
    simp only [digits, dig]
    rw [dig_digits hB n, Int.pow_succ, Int.mul_comm (B ^ n) B, emod_mul' _ _ _ hB (Int.pow_pos hB)]
theorem dig_inj {B : Int} (hB : 0 < B) {l m : List Int} (hl : Digs B l) (hm : Digs B m) (hn : l.length = m.length) (h : dig B l = dig B m) : l = m := by
  rw [← digits_dig hB hl, ← digits_dig hB hm, hn, h]
/-- Eight bytes at a place, as a word. -/
def word8 (f : Nat → Int) : Int := f 0 + 256 * f 1 + 65536 * f 2 + 16777216 * f 3 + 4294967296 * f 4 + 1099511627776 * f 5 + 281474976710656 * f 6 + 72057594037927936 * f 7

theorem or_high (k : Nat) (m a b : Int) (hm : m = 2 ^ k) (ha0 : 0 ≤ a) (ha : a < m) (hb0 : 0 ≤ b) (hb : b * m < 18446744073709551616) (ham : a < 18446744073709551616) : bits .or .u64 a (b * m) = a + b * m := by
  obtain ⟨x, rfl⟩ := Int.eq_ofNat_of_zero_le ha0
  obtain ⟨y, rfl⟩ := Int.eq_ofNat_of_zero_le hb0
  have hm' : m = ((2 ^ k : Nat) : Int) := by rw [hm]; simp
  subst hm'
  have hx : x < 2 ^ k := by omega
  have e1 : (y : Int) * ((2 ^ k : Nat) : Int) = ((2 ^ k * y : Nat) : Int) := by rw [Int.mul_comm]; simp
  rw [e1] at hb ⊢
  rw [u64_or_nat _ _ (by omega) (by omega), Nat.or_comm, ← Nat.two_pow_add_eq_or_of_lt hx, Nat.add_comm]
  simp
theorem ret_int {k : IntKind} {a b : Int} (h : a = b) : Ending.returned (.int k a) = .returned (.int k b) := by rw [h]
theorem word8_or (f0 f1 f2 f3 f4 f5 f6 f7 : Int) (k0 : 0 ≤ f0 ∧ f0 < 256) (k1 : 0 ≤ f1 ∧ f1 < 256) (k2 : 0 ≤ f2 ∧ f2 < 256) (k3 : 0 ≤ f3 ∧ f3 < 256) (k4 : 0 ≤ f4 ∧ f4 < 256) (k5 : 0 ≤ f5 ∧ f5 < 256) (k6 : 0 ≤ f6 ∧ f6 < 256) (k7 : 0 ≤ f7 ∧ f7 < 256) :
    bits .or .u64 (bits .or .u64 (bits .or .u64 (bits .or .u64 (bits .or .u64 (bits .or .u64 (bits .or .u64 (bits .or .u64 0 f0) (f1 * 256)) (f2 * 65536)) (f3 * 16777216)) (f4 * 4294967296)) (f5 * 1099511627776)) (f6 * 281474976710656)) (f7 * 72057594037927936) =
    f0 + 256 * f1 + 65536 * f2 + 16777216 * f3 + 4294967296 * f4 + 1099511627776 * f5 + 281474976710656 * f6 + 72057594037927936 * f7 := by
  have e0 := or_high 0 1 0 f0 (by decide) (by omega) (by omega) (by omega) (by omega) (by omega)
  rw [Int.mul_one] at e0
  rw [e0, or_high 8 256 _ f1 (by decide) (by omega) (by omega) (by omega) (by omega) (by omega), or_high 16 65536 _ f2 (by decide) (by omega) (by omega) (by omega) (by omega) (by omega),
    or_high 24 16777216 _ f3 (by decide) (by omega) (by omega) (by omega) (by omega) (by omega), or_high 32 4294967296 _ f4 (by decide) (by omega) (by omega) (by omega) (by omega) (by omega),
    or_high 40 1099511627776 _ f5 (by decide) (by omega) (by omega) (by omega) (by omega) (by omega), or_high 48 281474976710656 _ f6 (by decide) (by omega) (by omega) (by omega) (by omega) (by omega), or_high 56 72057594037927936 _ f7 (by decide) (by omega) (by omega) (by omega) (by omega) (by omega)]
  omega

set_option maxHeartbeats 1000000 in
theorem word_any (b off cap : Nat) (f : Nat → Int) (w : World) (hc : ∀ j, j < 8 → w.cell? ⟨b, off + j, none⟩ = some (.int .u8 (f j))) (hf : ∀ j, j < 8 → 0 ≤ f j ∧ f j < 256) :
    Calls Tryd.prog 77 #[.slice (some ⟨b, off, none⟩) 8 cap] w fun e w' => e = .returned (.int .u64 (word8 f)) ∧ w = w' := by
  have h0 : w.cell? ⟨b, off, none⟩ = some (.int .u8 (f 0)) := hc 0 (by omega)
  have h1 := hc 1 (by omega)
  have h2 := hc 2 (by omega)
  have h3 := hc 3 (by omega)
  have h4 := hc 4 (by omega)
  have h5 := hc 5 (by omega)
  have h6 := hc 6 (by omega)
  have h7 := hc 7 (by omega)
  have k0 := hf 0 (by omega)
  have k1 := hf 1 (by omega)
  have k2 := hf 2 (by omega)
  have k3 := hf 3 (by omega)
  have k4 := hf 4 (by omega)
  have k5 := hf 5 (by omega)
  have k6 := hf 6 (by omega)
  have k7 := hf 7 (by omega)
  clear hc hf
  unfold word8
  generalize f 0 = f0 at *
  generalize f 1 = f1 at *
  generalize f 2 = f2 at *
  generalize f 3 = f3 at *
  generalize f 4 = f4 at *
  generalize f 5 = f5 at *
  generalize f 6 = f6 at *
  generalize f 7 = f7 at *
  go_enter Tryd.func77, Tryd.ntmps77
  go_wp2
  go_rounds 9
  go_ret
  exact ⟨ret_int (word8_or f0 f1 f2 f3 f4 f5 f6 f7 k0 k1 k2 k3 k4 k5 k6 k7), rfl⟩
theorem splice_nil (cs : Array Value) (o : Nat) : splice cs o [] = cs := by simp [splice]
theorem set8 (arr : Array Value) (o : Nat) (a0 a1 a2 a3 a4 a5 a6 a7 : Value) (h : o + 8 ≤ arr.size) :
    (((((((arr.setIfInBounds o a0).setIfInBounds (o + 1) a1).setIfInBounds (o + 2) a2).setIfInBounds (o + 3) a3).setIfInBounds (o + 4) a4).setIfInBounds (o + 5) a5).setIfInBounds (o + 6) a6).setIfInBounds (o + 7) a7 = splice arr o [a0, a1, a2, a3, a4, a5, a6, a7] := by
  rw [← splice_nil (Array.setIfInBounds _ (o + 7) a7) (o + 8)]
  rw [splice_cons _ (o + 7) _ _ (by simp; omega), splice_cons _ (o + 6) _ _ (by simp; omega), splice_cons _ (o + 5) _ _ (by simp; omega), splice_cons _ (o + 4) _ _ (by simp; omega), splice_cons _ (o + 3) _ _ (by simp; omega), splice_cons _ (o + 2) _ _ (by simp; omega), splice_cons _ (o + 1) _ _ (by simp; omega), splice_cons _ o _ _ (by simp; omega)]
theorem digits8 (v : Int) (h0 : 0 ≤ v) (h1 : v < 18446744073709551616) : digits 256 8 v = [v % 256, v / 256 % 256, v / 65536 % 256, v / 16777216 % 256, v / 4294967296 % 256, v / 1099511627776 % 256, v / 281474976710656 % 256, v / 72057594037927936] := by
  simp only [digits, List.cons.injEq, and_true, true_and]
  refine ⟨?_, ?_, ?_, ?_, ?_, ?_⟩ <;> omega
/-- Numbers as cells. -/
def cellsOf (k : IntKind) (l : List Int) : List Value := l.map (Value.int k)
set_option maxHeartbeats 1000000 in
theorem put_any (b off cap : Nat) (v : Int) (t : TypeId) (arr : Array Value) (w : World) (hv0 : 0 ≤ v) (hv1 : v < 18446744073709551616) (hb : Blk w b t arr) (ha : off + 8 ≤ arr.size) :
    Calls Tryd.prog 84 #[.slice (some ⟨b, off, none⟩) 8 cap, .int .u64 v] w fun e w' => e = .returned (.tuple #[]) ∧ Blk w' b t (splice arr off (cellsOf .u8 (digits 256 8 v))) ∧ Upd (· = b) w w' ∧ w'.heap.size = w.heap.size := by
  have hc : ∀ j, j < 8 → ∃ u, w.cell? ⟨b, off + j, none⟩ = some u := fun j hj => ⟨_, (hb.cell (off + j)).trans (Array.getElem?_eq_getElem (by omega))⟩
  have hf := hb.frozen
  have Hb := Lib.hid hb
  obtain ⟨u0, h0⟩ := hc 0 (by omega)
  obtain ⟨u1, h1⟩ := hc 1 (by omega)
  obtain ⟨u2, h2⟩ := hc 2 (by omega)
  obtain ⟨u3, h3⟩ := hc 3 (by omega)
  obtain ⟨u4, h4⟩ := hc 4 (by omega)
  obtain ⟨u5, h5⟩ := hc 5 (by omega)
  obtain ⟨u6, h6⟩ := hc 6 (by omega)
  obtain ⟨u7, h7⟩ := hc 7 (by omega)
  rw [Nat.add_zero] at h0
  clear hc hb
  go_enter Tryd.func84, Tryd.ntmps84
  go_wp2
  go_rounds 9
  refine bodyPost_end (results_none rfl _ _ _) rfl ⟨rfl, ?_, ?_, ?_⟩
  · rw [digits8 v hv0 hv1]
    show Blk _ b t (splice arr off [.int .u8 (v % 256), .int .u8 (v / 256 % 256), .int .u8 (v / 65536 % 256), .int .u8 (v / 16777216 % 256), .int .u8 (v / 4294967296 % 256), .int .u8 (v / 1099511627776 % 256), .int .u8 (v / 281474976710656 % 256), .int .u8 (v / 72057594037927936)])
    rw [← set8 _ _ _ _ _ _ _ _ _ _ ha]
    exact (((((((Hb.out.set _ _).set _ _).set _ _).set _ _).set _ _).set _ _).set _ _).set _ _
  · exact ((((((((Upd.refl (· = b) w).set _ (fun _ => rfl)).set _ (fun _ => rfl)).set _ (fun _ => rfl)).set _ (fun _ => rfl)).set _ (fun _ => rfl)).set _ (fun _ => rfl)).set _ (fun _ => rfl)).set _ (fun _ => rfl)
  · simp [World.setCell]
end Go.Proofs.YthnpbodkcdbckaaDoor
