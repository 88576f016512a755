/-
  The walk of Hash256.block.
-/
import Derived.Test.YtcdcoennnmbbdaaDoorWords
namespace Go.Proofs.YtcdcoennnmbbdaaDoor
open Go.RowKit

theorem info65 : (Tryd.prog.info? 65).map (·.size) = some 8 := by kernel_rfl
theorem info64 : (Tryd.prog.info? 64).map (·.size) = some 1 := by kernel_rfl
theorem one_ints (l : List Int) (k : IntKind) : ∀ v ∈ (l.map (Value.int k)).toArray.toList, v.oneCell' = true := by
  intro v hv; simp at hv; obtain ⟨x, _, rfl⟩ := hv; rfl

/-- What holds of the world while the state is added to. -/
structure FRel (hb : Nat) (arr : Array Value) (s x : Nat → Int) (w2 wr : World) (k : Nat) : Prop where
  upd : Upd (fun k => k = hb) w2 wr
  blk : ∃ arr', Blk wr hb 67 arr' ∧ arr'.size = 137 ∧ (∀ j, j < 129 → arr'[j]? = arr[j]?) ∧ Nums arr' .u32 129 8 (fun j => if j < k then (s j + x j) % 4294967296 else s j)
theorem FRel.next {hb : Nat} {arr : Array Value} {s x : Nat → Int} {w2 wr : World} {k : Nat} (h : FRel hb arr s x w2 wr k) (hk : k < 8) :
    FRel hb arr s x w2 (wr.setCell ⟨hb, 129 + k, none⟩ (.int .u32 ((s k + x k) % 4294967296))).drew (k + 1) := by
  obtain ⟨arr', h1, h2, h3, h4⟩ := h.blk
  refine ⟨(h.upd.set _ (fun _ => rfl)).drew, _, Blk.set h1 _ _, by simpa using h2, fun j hj => ?_, ?_⟩
  · rw [Array.getElem?_setIfInBounds_ne (by omega)]; exact h3 j hj
  · refine (h4.setIn k hk _).congr fun j hj => ?_
    by_cases e : j = k
    · simp [e]
    · by_cases l : j < k
      · simp [e, l, show j < k + 1 by omega]
      · simp [e, l, show ¬ j < k + 1 by omega]

theorem index8 (S : S8) (k : Nat) (hk : k < 8) (w : World) :
    (Instr.index 65 (.agg #[.int .u32 S.a, .int .u32 S.b, .int .u32 S.c, .int .u32 S.d, .int .u32 S.e, .int .u32 S.f, .int .u32 S.g, .int .u32 S.h]) (.int .i64 k)).run Tryd.prog w = .ok (.int .u32 (S.get k)) w :=
  run_index_agg w 65 64 8 _ .i64 k _ Tryd.underlying65 info64 (fun d hd => by rw [Tryd.underlying64] at hd; cases hd; rfl) (by rw [Tryd.underlying64]; rfl) hk (by
    match k, hk with
    | 0, _ => rfl
    | 1, _ => rfl
    | 2, _ => rfl
    | 3, _ => rfl
    | 4, _ => rfl
    | 5, _ => rfl
    | 6, _ => rfl
    | 7, _ => rfl)

set_option maxHeartbeats 1000000 in
set_option maxRecDepth 100000 in
theorem block256_any (hb b off len cap : Nat) (f s K : Nat → Int) (w : World) (hl : 64 ≤ len) (hlm : len ≤ 140737488351232) (hcap : len ≤ cap)
   (arr : Array Value) (hblk : Blk w hb 67 arr) (hsz : arr.size = 137) (hnum : Nums arr .u32 129 8 s)
   (hK : ∀ j, j < 80 → w.cell? ⟨1, j, none⟩ = some (.int .u64 (K j)))
   (hc : ∀ j, j < 64 → w.cell? ⟨b, off + j, none⟩ = some (.int .u8 (f j))) :
    Calls Tryd.prog 30 #[.pointer (some ⟨hb, 0, none⟩), .slice (some ⟨b, off, none⟩) len cap] w fun e w' => e = .returned (.tuple #[]) ∧ Upd (fun k => k = hb) w w' ∧
      ∃ arr', Blk w' hb 67 arr' ∧ arr'.size = 137 ∧ (∀ j, j < 129 → arr'[j]? = arr[j]?) ∧ Nums arr' .u32 129 8 (compress K f s) := by
  have hs : ∀ j, j < 8 → w.cell? ⟨hb, 129 + j, none⟩ = some (.int .u32 (s j)) := fun j hj => by rw [hblk.cell]; exact hnum j hj
  have s0 : w.cell? ⟨hb, 129, none⟩ = some (.int .u32 (s 0)) := hs 0 (by omega)
  have s1 : w.cell? ⟨hb, 129 + 1, none⟩ = some (.int .u32 (s 1)) := hs 1 (by omega)
  have s2 : w.cell? ⟨hb, 129 + 2, none⟩ = some (.int .u32 (s 2)) := hs 2 (by omega)
  have s3 : w.cell? ⟨hb, 129 + 3, none⟩ = some (.int .u32 (s 3)) := hs 3 (by omega)
  have s4 : w.cell? ⟨hb, 129 + 4, none⟩ = some (.int .u32 (s 4)) := hs 4 (by omega)
  have s5 : w.cell? ⟨hb, 129 + 5, none⟩ = some (.int .u32 (s 5)) := hs 5 (by omega)
  have s6 : w.cell? ⟨hb, 129 + 6, none⟩ = some (.int .u32 (s 6)) := hs 6 (by omega)
  have s7 : w.cell? ⟨hb, 129 + 7, none⟩ = some (.int .u32 (s 7)) := hs 7 (by omega)
  simp only [Nat.reduceAdd] at s1 s2 s3 s4 s5 s6 s7
  have Hs := Lib.hid hs
  have Hnum := Lib.hid hnum
  have HK := Lib.hid hK
  have Hc := Lib.hid hc
  have Hsz := Lib.hid hsz
  have Hblk := Lib.hid hblk
  clear hs hnum hK hc hsz hblk
  go_enter Tryd.func30, Tryd.ntmps30
  go_wp2
  go_quiet (fail)
  go_wp2_with fail
  refine (words256_any b off len cap f _ hl hlm hcap ?_).mono ?_
  · intro j hj
    exact (((Upd.refl (fun _ => False) w).alloc _).drewN nq).cell (Hc.out j hj) (fun h => h)
  rintro e w1 ⟨va, rfl, hvs, hva, hu1⟩
  have hu : Upd (fun _ => False) w w1 := (((Upd.refl (fun _ => False) w).alloc _).drewN nq).trans hu1
  have Hu := Lib.hid hu
  have hone := hva.one hvs
  have Hva := Lib.hid hva
  have Hvs := Lib.hid hvs
  have Hone := Lib.hid hone
  clear hu hu1 s0 s1 s2 s3 s4 s5 s6 s7 hvs hva hone
  go_wp2_with (first | (refine wpList_storeBlk2 rfl 78 _ _ rfl w1.heap.size 0 64 rfl va rfl 78 _ (Blk.new w1 _ 78) info78 Hvs.out (by simp) Hone.out ?_; intro w2 hb2 hu2 hz2; rw [splice_all _ _ 64 (by rfl) Hvs.out] at hb2) | (refine wpList_loadBlk rfl 78 _ rfl w1.heap.size 0 64 rfl 78 _ _ hb2 Tryd.underlying78 rfl info78 (by rw [Hvs.out]; omega) ?_; rw [extract_all _ _ Hvs.out]))
  have hu3 : Upd (fun _ => False) w w2 := (Hu.out.alloc _).step hu2 (fun i hi e => by have := Hu.out.size; omega)
  have Hu2 := Lib.hid hu3
  have HK2 : Hid (∀ j, j < 80 → w2.cell? ⟨1, j, none⟩ = some (.int .u64 (K j))) := fun j hj => hu3.cell (HK.out j hj) (fun h => h)
  have hblk2 : Blk w2 hb 67 arr := hu3.blk Hblk.out (fun h => h)
  have Hblk2 := Lib.hid hblk2
  clear hu3 hu2 hb2 hz2 Hu HK Hc Hblk hblk2
  obtain ⟨S, hS⟩ : ∃ S, S8.mk (s 0) (s 1) (s 2) (s 3) (s 4) (s 5) (s 6) (s 7) = S := ⟨_, rfl⟩
  have hS0 : s 0 = S.a := by rw [← hS]
  have hS1 : s 1 = S.b := by rw [← hS]
  have hS2 : s 2 = S.c := by rw [← hS]
  have hS3 : s 3 = S.d := by rw [← hS]
  have hS4 : s 4 = S.e := by rw [← hS]
  have hS5 : s 5 = S.f := by rw [← hS]
  have hS6 : s 6 = S.g := by rw [← hS]
  have hS7 : s 7 = S.h := by rw [← hS]
  rw [hS0, hS1, hS2, hS3, hS4, hS5, hS6, hS7]
  have HS := Lib.hid hS
  clear hS hS0 hS1 hS2 hS3 hS4 hS5 hS6 hS7
  go_loopw [43, 5, 6, 7, 8, 9, 10, 11, 12] (fun i a b c d e f' g h wr => ∃ k n : Nat, k ≤ 64 ∧ wr = w2.drewN n ∧ i = .int .i64 k ∧
      a = .int .u32 (rnds K (fun j => (sched f 48).getD j 0) S k).a ∧ b = .int .u32 (rnds K (fun j => (sched f 48).getD j 0) S k).b ∧
      c = .int .u32 (rnds K (fun j => (sched f 48).getD j 0) S k).c ∧ d = .int .u32 (rnds K (fun j => (sched f 48).getD j 0) S k).d ∧
      e = .int .u32 (rnds K (fun j => (sched f 48).getD j 0) S k).e ∧ f' = .int .u32 (rnds K (fun j => (sched f 48).getD j 0) S k).f ∧
      g = .int .u32 (rnds K (fun j => (sched f 48).getD j 0) S k).g ∧ h = .int .u32 (rnds K (fun j => (sched f 48).getD j 0) S k).h)
    (fun i _ _ _ _ _ _ _ _ _ => 64 - (intOf i).toNat)
  case atStart => exact ⟨0, 0, by omega, rfl, rfl, rfl, rfl, rfl, rfl, rfl, rfl, rfl, rfl⟩
  case round =>
    obtain ⟨k, n, hk, hw, rfl, rfl, rfl, rfl, rfl, rfl, rfl, rfl, rfl⟩ := hrel
    by_cases hlt : k < 64
    · obtain ⟨X, hX⟩ : ∃ X, X = rnds K (fun j => (sched f 48).getD j 0) S k := ⟨_, rfl⟩
      obtain ⟨x, hx⟩ : ∃ x, x = (sched f 48).getD k 0 := ⟨_, rfl⟩
      have hidx : ∀ w, (Instr.index 78 (.agg va) (.int .i64 k)).run Tryd.prog w = .ok (.int .u32 x) w := fun w =>
        run_index_agg w 78 64 64 va .i64 k _ Tryd.underlying78 info64 (fun d hd => by rw [Tryd.underlying64] at hd; cases hd; rfl) (by rw [Tryd.underlying64]; rfl) hlt (by have := Hva.out k hlt; rw [Nat.zero_add] at this; rw [hx]; exact this)
      have HX : Hid (rnds K (fun j => (sched f 48).getD j 0) S (k + 1) = step1 (K k) x X) := by
        show rnds _ _ _ _ = _
        rw [rnds, hX, hx]
      have hKc : wr.cell? ⟨1, k, none⟩ = some (.int .u64 (K k)) := by rw [hw]; exact HK2.out k (by omega)
      have Hw := Lib.hid hw
      clear hw
      rw [← hX]
      have Hx := Lib.hid hx
      clear hX hx
      go_wp2
      go_quiet ((go_at_call 34; exact Calls.quiet_of_same ((high256_any _ _).mono fun _ _ h => ⟨h.1, h.2.symm⟩)))
      generalize hT : (((X.h + big256 6 11 25 X.e + bits BinOp.xor IntKind.u32 (bits BinOp.and IntKind.u32 X.e X.f) (bits BinOp.and IntKind.u32 (bits BinOp.xor IntKind.u32 (if IntKind.u32.signed = true then -1 else IntKind.u32.max) X.e) X.g) + K k / 4294967296) % 4294967296 + x) % 4294967296) = t
      have HT := Lib.hid hT
      clear hT hKc hidx
      go_wp2_with fail
      refine (low256_any _ _).mono ?_
      rintro e w' ⟨rfl, rfl⟩
      go_wp2
      go_roundw
      case rel =>
        refine ⟨k + 1, n + nq, by omega, by rw [Hw.out, World.drewN_drewN], by go_num, ?_⟩
        rw [HX.out, ← HT.out]
        exact ⟨rfl, rfl, rfl, rfl, rfl, rfl, rfl, rfl⟩
      case measure => simp [intOf]; omega
    · have hkd : decide ((k : Int) < 64) = false := by simp; omega
      obtain ⟨X, hX⟩ : ∃ X, X = rnds K (fun j => (sched f 48).getD j 0) S k := ⟨_, rfl⟩
      rw [← hX]
      have HX : Hid (X = rnds K (fun j => (sched f 48).getD j 0) (S8.of s) 64) := by
        show X = _
        rw [hX, ← HS.out, show k = 64 by omega]; rfl
      have h0 : FRel hb arr s X.get w2 wr 0 := ⟨by rw [hw]; exact (Upd.refl _ _).drewN n, arr, by rw [hw]; exact Hblk2.out, Hsz.out, fun _ _ => rfl, Hnum.out.congr fun j hj => by simp⟩
      have Hw := Lib.hid hw
      clear hX hw
      go_wp2
      go_loopw [104] (fun i wr => ∃ k : Nat, k ≤ 8 ∧ i = .int .i64 k ∧ FRel hb arr s X.get w2 wr k) (fun i _ => 8 - (intOf i).toNat)
      case atStart => exact ⟨0, by omega, rfl, h0⟩
      case round =>
        clear h0
        obtain ⟨m, hm, rfl, hrel⟩ := hrel
        obtain ⟨arr', h1, h2, h3, h4⟩ := hrel.blk
        by_cases hlt : m < 8
        · have hcell : wr.cell? ⟨hb, 129 + m, none⟩ = some (.int .u32 (s m)) := by rw [h1.cell]; have := h4 m hlt; simpa using this
          have hfr : wr.frozen? ⟨hb, 129 + m, none⟩ = false := h1.frozen _
          have hidx := index8 X m hlt
          clear h1 h2 h3 h4
          go_wp2
          go_region
          go_wp2
          go_roundw
          case rel =>
            exact ⟨m + 1, by omega, by go_num, hrel.next hlt⟩
          case measure => simp [intOf]; omega
        · go_wp2
          go_end0
          have h8 : m = 8 := by omega
          refine ⟨rfl, ?_, arr', h1, h2, h3, h4.congr fun j hj => ?_⟩
          · exact (Hu2.out.mono (fun _ _ h => h.elim)).trans hrel.upd
          · unfold compress
            rw [← HX.out, if_pos (by omega)]

end Go.Proofs.YtcdcoennnmbbdaaDoor
