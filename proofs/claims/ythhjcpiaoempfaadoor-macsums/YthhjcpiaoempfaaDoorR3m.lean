/-
  The references' sums are the program's. No program.
-/
import Derived.Test.YthhjcpiaoempfaaDoorR3
import Derived.Test.YthhjcpiaoempfaaDoorM1
namespace Go.Proofs.YthhjcpiaoempfaaDoor
open Go.RowKit
set_option maxRecDepth 100000

theorem putB_app (A Z : List Int) (a b c d x : Int) {k : Nat} (h : A.length = k) : putB (A ++ a :: b :: c :: d :: Z) k x = A ++ IntKind.wrap .u8 (sShr .u32 x 24) :: IntKind.wrap .u8 (sShr .u32 x 16) :: IntKind.wrap .u8 (sShr .u32 x 8) :: IntKind.wrap .u8 x :: Z := by
  subst h
  unfold putB
  rw [List.set_append_right _ _ (by omega), List.set_append_right _ _ (by omega), List.set_append_right _ _ (by omega), List.set_append_right _ _ (by omega)]
  simp only [Nat.add_sub_cancel_left]
  rfl
theorem out_byte {x : Int} (hx : W32 x) (k : Nat) (hk : k ≤ 32) : IntKind.wrap .u8 (sShr .u32 x (k : Int)) = IntKind.wrap .u8 (Int.tmod (IntKind.wrap .u64 (Int.tdiv x (pw k))) 256) := by
  have h := shr_nat k hk hx
  rw [h.1]
  have h2 := h.2
  generalize sShr .u32 x (k : Int) = y at *
  have h3 := h2.1
  rw [Int.tmod_eq_emod_of_nonneg h3, wrapU8, wrapU8]
  omega
theorem outW_eq {s : List Int} (hs : AllW s) : ∀ j, j ≤ 8 → outW s j = outK s j ++ List.replicate (32 - 4 * j) 0
  | 0, _ => rfl
  | j + 1, h => by
    have b0 := out_byte (hs j) 24 (by omega)
    have b1 := out_byte (hs j) 16 (by omega)
    have b2 := out_byte (hs j) 8 (by omega)
    have b3 : IntKind.wrap .u8 (s.getD j 0) = IntKind.wrap .u8 (Int.tmod (IntKind.wrap .u64 (Int.tdiv (s.getD j 0) (pw 0))) 256) := by
      have h3 := (hs j).1
      have h4 := (hs j).2
      rw [show pw 0 = 1 from rfl, Int.tdiv_one, wrapU64, Int.tmod_eq_emod_of_nonneg (Int.emod_nonneg _ (by omega)), wrapU8, wrapU8]
      omega
    have e : List.replicate (32 - 4 * j) (0 : Int) = 0 :: 0 :: 0 :: 0 :: List.replicate (32 - 4 * (j + 1)) 0 := by
      rw [show 32 - 4 * j = 32 - 4 * (j + 1) + 1 + 1 + 1 + 1 by omega]
      rfl
    rw [outW, outW_eq hs j (by omega), e, putB_app _ _ _ _ _ _ _ (outK_len s j), outK, List.append_assoc]
    refine congrArg (outK s j ++ ·) ?_
    show _ = outR (s.getD j 0) ++ _
    unfold outR
    rw [← b0, ← b1, ← b2, ← b3]
    rfl
theorem cnum_at (n : Nat) (hn : n ≤ 35184372088832) : cnum n 0 = (n : Int) ∧ cnum n 1 = (n : Int) / 32 ∧ cnum n 2 = (n : Int) / 32 / 256 ∧ cnum n 3 = (n : Int) / 32 / 256 / 256 ∧ cnum n 4 = (n : Int) / 32 / 256 / 256 / 256 ∧ cnum n 5 = (n : Int) / 32 / 256 / 256 / 256 / 256 ∧ cnum n 6 = (n : Int) / 32 / 256 / 256 / 256 / 256 / 256 ∧ cnum n 7 = (n : Int) / 32 / 256 / 256 / 256 / 256 / 256 / 256 := by
  have h0 : cnum n 0 = (n : Int) := by unfold cnum; rw [wrapU64]; omega
  have st : ∀ x : Int, 0 ≤ x → x ≤ 35184372088832 → IntKind.wrap .u64 (Int.tdiv x 256) = x / 256 := fun x h1 h2 => by
    rw [Int.tdiv_eq_ediv_of_nonneg h1, wrapU64]; omega
  have h1 : cnum n 1 = (n : Int) / 32 := by
    show IntKind.wrap .u64 (Int.tdiv (IntKind.wrap .u64 (n : Int)) 32) = _
    rw [show IntKind.wrap .u64 (n : Int) = (n : Int) from h0, Int.tdiv_eq_ediv_of_nonneg (by omega), wrapU64]; omega
  have h2 : cnum n 2 = (n : Int) / 32 / 256 := by
    show IntKind.wrap .u64 (Int.tdiv (cnum n 1) 256) = _
    rw [h1, st _ (by omega) (by omega)]
  have h3 : cnum n 3 = (n : Int) / 32 / 256 / 256 := by
    show IntKind.wrap .u64 (Int.tdiv (cnum n 2) 256) = _
    rw [h2, st _ (by omega) (by omega)]
  have h4 : cnum n 4 = (n : Int) / 32 / 256 / 256 / 256 := by
    show IntKind.wrap .u64 (Int.tdiv (cnum n 3) 256) = _
    rw [h3, st _ (by omega) (by omega)]
  have h5 : cnum n 5 = (n : Int) / 32 / 256 / 256 / 256 / 256 := by
    show IntKind.wrap .u64 (Int.tdiv (cnum n 4) 256) = _
    rw [h4, st _ (by omega) (by omega)]
  have h6 : cnum n 6 = (n : Int) / 32 / 256 / 256 / 256 / 256 / 256 := by
    show IntKind.wrap .u64 (Int.tdiv (cnum n 5) 256) = _
    rw [h5, st _ (by omega) (by omega)]
  have h7 : cnum n 7 = (n : Int) / 32 / 256 / 256 / 256 / 256 / 256 / 256 := by
    show IntKind.wrap .u64 (Int.tdiv (cnum n 6) 256) = _
    rw [h6, st _ (by omega) (by omega)]
  exact ⟨h0, h1, h2, h3, h4, h5, h6, h7⟩
theorem shr_lit (K : IntKind) {x : Int} (k : Int) (p : Int) (hp : (2 : Int) ^ min k.toNat K.bits = p) (h : 0 < p) : sShr K x k = x / p := by
  unfold sShr
  rw [hp, Int.fdiv_eq_ediv_of_nonneg _ (by omega)]
theorem pad_eq (n : Nat) (hn : n ≤ 35184372088832) : [128] ++ List.replicate (msgK n) 0 ++ cbuf n 8 = padH n := by
  obtain ⟨c0, c1, c2, c3, c4, c5, c6, c7⟩ := cnum_at n hn
  have hX : IntKind.wrap .u64 (IntKind.wrap .u64 (n : Int) * 8) = (n : Int) * 8 := by rw [wrapU64, wrapU64]; omega
  have hB : (List.replicate (9 + (64 - (n + 9) % 64) % 64) (0 : Int)).set 0 128 = ([128] ++ List.replicate (msgK n) 0) ++ 0 :: 0 :: 0 :: 0 :: [0, 0, 0, 0] := by
    show (List.replicate (9 + msgK n) (0 : Int)).set 0 128 = _
    rw [show 9 + msgK n = msgK n + 8 + 1 by omega, List.replicate_succ, List.set_cons_zero, ← List.replicate_append_replicate]
    rfl
  have hl : ([128] ++ List.replicate (msgK n) (0 : Int)).length = 1 + msgK n := by rw [List.length_append, List.length_replicate]; rfl
  unfold padH putB8
  rw [hX, hB]
  show _ = putB (putB _ (1 + msgK n) _) (1 + msgK n + 4) _
  rw [putB_app _ _ _ _ _ _ _ hl]
  generalize hA : [128] ++ List.replicate (msgK n) (0 : Int) = A at *
  have eA : ∀ a b c d : Int, A ++ a :: b :: c :: d :: [0, 0, 0, 0] = (A ++ [a, b, c, d]) ++ 0 :: 0 :: 0 :: 0 :: [] := fun a b c d => by rw [List.append_assoc]; rfl
  rw [eA, putB_app _ _ _ _ _ _ _ (by rw [List.length_append, hl]; rfl), List.append_assoc]
  refine congrArg (A ++ ·) ?_
  show [cbt n 7, cbt n 6, cbt n 5, cbt n 4, cbt n 3, cbt n 2, cbt n 1, cbt n 0] = _
  have nz : 0 ≤ (n : Int) := by omega
  have s32 : sShr .u64 ((n : Int) * 8) 32 = (n : Int) * 8 / 4294967296 := shr_lit .u64 32 4294967296 (by decide) (by omega)
  have s24 : ∀ x : Int, sShr .u32 x 24 = x / 16777216 := fun x => shr_lit .u32 24 16777216 (by decide) (by omega)
  have s16 : ∀ x : Int, sShr .u32 x 16 = x / 65536 := fun x => shr_lit .u32 16 65536 (by decide) (by omega)
  have s8 : ∀ x : Int, sShr .u32 x 8 = x / 256 := fun x => shr_lit .u32 8 256 (by decide) (by omega)
  have tm : ∀ x m : Int, 0 ≤ x → Int.tmod x m = x % m := fun x m h => Int.tmod_eq_emod_of_nonneg h
  have q0 : cbt n 0 = IntKind.wrap .u8 (IntKind.wrap .u32 ((n : Int) * 8)) := by
    show IntKind.wrap .u8 (IntKind.wrap .u64 (Int.tmod (cnum n 0) 32 * 8)) = _
    rw [c0, tm _ _ nz, wrapU8, wrapU8, wrapU64, wrapU32]; omega
  have q1 : cbt n 1 = IntKind.wrap .u8 (IntKind.wrap .u32 ((n : Int) * 8) / 256) := by
    show IntKind.wrap .u8 (Int.tmod (cnum n 1) 256) = _
    rw [c1, tm _ _ (by omega), wrapU8, wrapU8, wrapU32]; omega
  have q2 : cbt n 2 = IntKind.wrap .u8 (IntKind.wrap .u32 ((n : Int) * 8) / 65536) := by
    show IntKind.wrap .u8 (Int.tmod (cnum n 2) 256) = _
    rw [c2, tm _ _ (by omega), wrapU8, wrapU8, wrapU32]; omega
  have q3 : cbt n 3 = IntKind.wrap .u8 (IntKind.wrap .u32 ((n : Int) * 8) / 16777216) := by
    show IntKind.wrap .u8 (Int.tmod (cnum n 3) 256) = _
    rw [c3, tm _ _ (by omega), wrapU8, wrapU8, wrapU32]; omega
  have q4 : cbt n 4 = IntKind.wrap .u8 (IntKind.wrap .u32 ((n : Int) * 8 / 4294967296)) := by
    show IntKind.wrap .u8 (Int.tmod (cnum n 4) 256) = _
    rw [c4, tm _ _ (by omega), wrapU8, wrapU8, wrapU32]; omega
  have q5 : cbt n 5 = IntKind.wrap .u8 (IntKind.wrap .u32 ((n : Int) * 8 / 4294967296) / 256) := by
    show IntKind.wrap .u8 (Int.tmod (cnum n 5) 256) = _
    rw [c5, tm _ _ (by omega), wrapU8, wrapU8, wrapU32]; omega
  have q6 : cbt n 6 = IntKind.wrap .u8 (IntKind.wrap .u32 ((n : Int) * 8 / 4294967296) / 65536) := by
    show IntKind.wrap .u8 (Int.tmod (cnum n 6) 256) = _
    rw [c6, tm _ _ (by omega), wrapU8, wrapU8, wrapU32]; omega
  have q7 : cbt n 7 = IntKind.wrap .u8 (IntKind.wrap .u32 ((n : Int) * 8 / 4294967296) / 16777216) := by
    show IntKind.wrap .u8 (Int.tmod (cnum n 7) 256) = _
    rw [c7, tm _ _ (by omega), wrapU8, wrapU8, wrapU32]; omega
  rw [s32, s24, s16, s8, s24, s16, s8, q0, q1, q2, q3, q4, q5, q6, q7]
  rfl
theorem msgR_eq (m : List Int) (hm : m.length ≤ 35184372088832) : msgR m = m ++ padH m.length := by
  unfold msgR msgA
  rw [← pad_eq _ hm]
  simp only [List.append_assoc]
theorem shaR_eq (m : List Int) (hm : m.length ≤ 35184372088832) : shaR m = shaL m := by
  unfold shaR shaL endR
  rw [outW_eq (blkN_all _ _) 8 (Nat.le_refl _), msgR_eq m hm]
  show _ = _ ++ []
  rw [List.append_nil]
theorem outK_B8 (s : List Int) : ∀ k, ∀ x ∈ outK s k, B8 x
  | 0, x, h => by cases h
  | k + 1, x, h => by
    rw [outK] at h
    rcases List.mem_append.1 h with h | h
    · exact outK_B8 s k x h
    · unfold outR at h
      simp only [List.mem_cons, List.not_mem_nil, or_false] at h
      rcases h with rfl | rfl | rfl | rfl <;> exact B8.wrap _
theorem shaR_B8 (m : List Int) : ∀ x ∈ shaR m, B8 x := outK_B8 _ 8
/-- The sum with a key, by the bytes alone. -/
theorem mac_rch {key : List Int} {h : HS} {m : List Int} (R : Rch h (maskL (fillL key) 54 64 ++ m)) : sum256 [oIn key, sumH h] = shaL (maskL (fillL key) 92 64 ++ shaL (maskL (fillL key) 54 64 ++ m)) := by
  rw [sumH_eq R, sum256_eq]
  rw [List.flatten_cons, List.flatten_cons, List.flatten_nil, List.append_nil]
  rfl
theorem hIn_rch (key : List Int) : Rch (hIn key) (maskL (fillL key) 54 64) := by
  have := write_rch [maskL (fillL key) 54 64] rch0
  rw [List.flatten_cons, List.flatten_nil, List.append_nil, List.nil_append] at this
  exact this
def macN (key m : List Int) : List Int := shaL (maskL (fillL key) 92 64 ++ shaL (maskL (fillL key) 54 64 ++ m))
theorem macL_eq (key : List Int) (ls : List (List Int)) : macL key ls = macN key ls.flatten := mac_rch (write_rch ls (hIn_rch key))
theorem maskL_at (l : List Int) (x : Int) : ∀ i, i ≤ l.length → maskL l x i = (l.take i).map (fun y => bits .xor .u8 y x) ++ l.drop i
  | 0, _ => rfl
  | i + 1, h => by
    have e := maskL_at l x i (by omega)
    have lt : ((l.take i).map (fun y => bits .xor .u8 y x)).length = i := by rw [List.length_map, List.length_take]; omega
    have hg : (maskL l x i).getD i 0 = l.getD i 0 := by
      rw [e, List.getD_eq_getElem?_getD, List.getElem?_append_right (by omega), lt, Nat.sub_self, List.getElem?_drop, Nat.add_zero, ← List.getD_eq_getElem?_getD]
    rw [maskL, hg, e, List.set_append_right _ _ (by omega), lt, Nat.sub_self, List.drop_eq_getElem_cons (show i < l.length by omega), List.set_cons_zero, take_next (show i < l.length by omega), List.map_append, List.append_assoc]
    rfl
theorem maskS_at (K : ByteArray) (l : List Int) (x : Int) (h : ∀ j, j < l.length → byteS K j = l.getD j 0) : ∀ i, i ≤ l.length → maskS K x i = (l.take i).map (fun y => bits .xor .u8 y x)
  | 0, _ => rfl
  | i + 1, hi => by
    rw [maskS, maskS_at K l x h i (by omega), take_next (show i < l.length by omega), List.map_append, h i (by omega)]
    rfl
theorem fillL_at (key : List Int) {j : Nat} (_h : j < 64) : (fillL key).getD j 0 = if j < (keyB key).length then (keyB key).getD j 0 else 0 := by
  have hk := keyB_len key
  unfold fillL lay
  rw [List.take_zero, List.nil_append, Nat.zero_add, List.drop_replicate, List.getD_eq_getElem?_getD]
  split
  · rename_i hj
    rw [List.getElem?_append_left hj, List.getD_eq_getElem?_getD]
  · rename_i hj
    rw [List.getElem?_append_right (by omega), List.getElem?_replicate]
    split <;> rfl
theorem bits_B8 (x y : Int) : B8 (bits .xor .u8 x y) := ⟨bits_lo_u8 _ _ _, by have := bits_hi_u8 .xor x y; omega⟩
theorem keyS_eq (key : ByteArray) (h : key.size ≤ 35184372088832) : strL (keyS key) = keyB (strL key) := by
  have hs := strL_len key
  unfold keyS keyB
  by_cases hk : 64 < key.size
  · rw [if_pos hk, if_pos (by omega), strL_bstr (shaR_B8 _), shaR_eq _ (by omega), sum256_eq, List.flatten_cons, List.flatten_nil, List.append_nil]
  · rw [if_neg hk, if_neg (by omega)]
theorem mask_eq (key : ByteArray) (x : Int) (h : key.size ≤ 35184372088832) : maskS (keyS key) x 64 = maskL (fillL (strL key)) x 64 ∧ ∀ y ∈ maskS (keyS key) x 64, B8 y := by
  have lf := fillL_len (strL key)
  have e := maskS_at (keyS key) (fillL (strL key)) x (fun j hj => by
    rw [lf] at hj
    rw [fillL_at _ hj, ← keyS_eq key h]
    unfold byteS
    rw [strL_len]
    split
    · rename_i hj2; exact sGet_eq _ hj2
    · rfl) 64 (by omega)
  refine ⟨?_, fun y hy => ?_⟩
  · rw [e, maskL_at _ _ 64 (by omega), List.drop_of_length_le (by omega), List.append_nil]
  · rw [e] at hy
    obtain ⟨z, _, rfl⟩ := List.mem_map.1 hy
    exact bits_B8 _ _
theorem macS_eq (key s : ByteArray) (hk : key.size ≤ 17592186044416) (hs : s.size ≤ 17592186044416) : macS key s = macN (strL key) (strL s) := by
  obtain ⟨e1, b1⟩ := mask_eq key 54 (by omega)
  obtain ⟨e2, b2⟩ := mask_eq key 92 (by omega)
  have l1 := maskS_len (keyS key) 54 64
  have l2 := maskS_len (keyS key) 92 64
  have ls := strL_len s
  unfold macS macN
  rw [strL_add, strL_bstr b2, strL_bstr (shaR_B8 _), strL_add, strL_bstr b1]
  rw [shaR_eq (maskS (keyS key) 54 64 ++ strL s) (by rw [List.length_append]; omega), shaR_eq, e1, e2]
  rw [List.length_append, ← shaR_eq (maskS (keyS key) 54 64 ++ strL s) (by rw [List.length_append]; omega), shaR_len]; omega
end Go.Proofs.YthhjcpiaoempfaaDoor
