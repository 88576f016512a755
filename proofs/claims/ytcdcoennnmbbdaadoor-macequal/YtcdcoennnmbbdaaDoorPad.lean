/-
  put32, put64, tail.padding, New256.
-/
import Derived.Test.YtcdcoennnmbbdaaDoorWrite
import Derived.StillTailTactics
namespace Go.Proofs.YtcdcoennnmbbdaaDoor
open Go.RowKit

set_option maxHeartbeats 1000000 in
theorem put32_any (b off len cap : Nat) (x : Int) (t : TypeId) (arr : Array Value) (w : World) (hl : 4 ≤ len) (hb : Blk w b t arr) (hs : off + 4 ≤ arr.size) :
    Calls Tryd.prog 37 #[.slice (some ⟨b, off, none⟩) len cap, .int .u32 x] w
      fun e w' => e = .returned (.tuple #[]) ∧ Upd (fun k => k = b) w w' ∧ w'.heap.size = w.heap.size ∧ Blk w' b t (splice arr off ((be32 x).map (Value.int .u8))) := by
  have c0 : w.cell? ⟨b, off, none⟩ = some arr[off] := by rw [hb.cell]; exact Array.getElem?_eq_getElem _
  have c1 : w.cell? ⟨b, off + 1, none⟩ = some arr[off + 1] := by rw [hb.cell]; exact Array.getElem?_eq_getElem _
  have c2 : w.cell? ⟨b, off + 2, none⟩ = some arr[off + 2] := by rw [hb.cell]; exact Array.getElem?_eq_getElem _
  have c3 : w.cell? ⟨b, off + 3, none⟩ = some arr[off + 3] := by rw [hb.cell]; exact Array.getElem?_eq_getElem _
  have f0 := hb.frozen off
  have f1 := hb.frozen (off + 1)
  have f2 := hb.frozen (off + 2)
  have f3 := hb.frozen (off + 3)
  have Hb := Lib.hid hb
  clear hb
  go_enter Tryd.func37, Tryd.ntmps37
  go_wp2
  go_end0
  have hb1 := ((Hb.out.set off (.int .u8 (x / 16777216 % 256))).set (off + 1) (.int .u8 (x / 65536 % 256))).set (off + 2) (.int .u8 (x / 256 % 256)) |>.set (off + 3) (.int .u8 (x % 256))
  rw [set4 _ _ _ _ _ _ hs] at hb1
  refine ⟨rfl, ?_, ?_, hb1⟩
  · exact ((((Upd.refl (fun k => k = b) w).set (p := ⟨b, off, none⟩) _ (fun _ => rfl)).set (p := ⟨b, off + 1, none⟩) _ (fun _ => rfl)).set (p := ⟨b, off + 2, none⟩) _ (fun _ => rfl)).set (p := ⟨b, off + 3, none⟩) _ (fun _ => rfl)
  · simp [World.setCell]

set_option maxHeartbeats 1000000 in
theorem put64_any (b off len cap : Nat) (x : Int) (t : TypeId) (arr : Array Value) (w : World) (hl : 8 ≤ len) (hlc : len ≤ cap) (hb : Blk w b t arr) (hs : off + 8 ≤ arr.size) :
    Calls Tryd.prog 45 #[.slice (some ⟨b, off, none⟩) len cap, .int .u64 x] w
      fun e w' => e = .returned (.tuple #[]) ∧ Upd (fun k => k = b) w w' ∧ w'.heap.size = w.heap.size ∧ Blk w' b t (splice arr off ((be32 (x / 4294967296 % 4294967296) ++ be32 (x % 4294967296)).map (Value.int .u8))) := by
  have Hb := Lib.hid hb
  clear hb
  go_enter Tryd.func45, Tryd.ntmps45
  go_wp2_with fail
  refine (put32_any b off len cap _ t arr _ (by omega) Hb.out (by omega)).mono ?_
  rintro e w1 ⟨rfl, hu1, hz1, hb1⟩
  have Hu1 := Lib.hid hu1
  have Hz1 := Lib.hid hz1
  have Hb1 := Lib.hid hb1
  clear hu1 hz1 hb1
  go_wp2_with fail
  refine (put32_any b (off + 4) (len - 4) (cap - 4) _ t _ _ (by omega) Hb1.out (by rw [splice_size _ _ _ (by simp [be32_length]; omega)]; omega)).mono ?_
  rintro e w2 ⟨rfl, hu2, hz2, hb2⟩
  have Hu2 := Lib.hid hu2
  have Hz2 := Lib.hid hz2
  have Hb2 := Lib.hid hb2
  clear hu2 hz2 hb2
  go_wp2
  go_end0
  refine ⟨rfl, Hu1.out.trans Hu2.out, by rw [Hz2.out, Hz1.out], ?_⟩
  have := Hb2.out
  rw [List.map_append, ← splice_splice _ _ _ _ (by simp [be32_length]; omega)]
  exact this

theorem pad_splice (n lk : Nat) (B : List Int) (hB : B.length = 8) (hn : n = 9 + lk) :
    splice ((Array.replicate n (.int .u8 0)).setIfInBounds 0 (.int .u8 128)) (n - 8) (B.map (Value.int .u8)) = ((128 :: (List.replicate lk 0 ++ B)).map (Value.int .u8)).toArray := by
  apply Array.ext_getElem?
  intro j
  rw [splice_get _ _ _ (by simp; omega)]
  simp only [List.length_map, hB]
  by_cases h1 : n - 8 ≤ j ∧ j < n - 8 + 8
  · rw [if_pos h1, List.getElem?_toArray, List.getElem?_map, List.getElem?_map]
    obtain ⟨i, rfl⟩ : ∃ i, j = i + 1 := ⟨j - 1, by omega⟩
    rw [List.getElem?_cons_succ, List.getElem?_append_right (by rw [List.length_replicate]; omega), List.length_replicate]
    congr 2
    omega
  · rw [if_neg h1]
    by_cases h2 : j < n
    · simp only [List.getElem?_toArray, List.getElem?_map]
      cases j with
      | zero => rw [Array.getElem?_setIfInBounds_self_of_lt (by simp; omega)]; rfl
      | succ i => rw [Array.getElem?_setIfInBounds_ne (by omega), Array.getElem?_replicate, if_pos h2, List.getElem?_cons_succ, List.getElem?_append_left (by rw [List.length_replicate]; omega), List.getElem?_replicate, if_pos (by omega)]; rfl
    · rw [Array.getElem?_eq_none (by simp; omega), Array.getElem?_eq_none (by simp; omega)]
theorem info5z : (Tryd.prog.info? 5).map (fun i => (i.zero, i.size, i.bytes)) = some (some (.int .u8 0), 1, 1) := by kernel_rfl

set_option maxHeartbeats 1000000 in
theorem padding_any (hb : Nat) (m : List Int) (w : World) (hm : m.length ≤ 1152921504606846976) (hH : HashAt w hb m) :
    Calls Tryd.prog 36 #[.pointer (some ⟨hb, 0, none⟩), .int .i64 64] w
      fun e w' => e = .returned (.slice (some ⟨w.heap.size, 0, none⟩) (padBytes m.length).length (padBytes m.length).length) ∧ Upd (fun _ => False) w w' ∧
        Blk w' w.heap.size 5 ((padBytes m.length).map (Value.int .u8)).toArray := by
  obtain ⟨arr, r, hblk, hsz, hr, hrm, hcnt, hst⟩ := hH.ex
  have hlt := hblk.lt
  generalize hml : m.length = ml at *
  have hcell : w.cell? ⟨hb, 128, none⟩ = some (.int .i64 ml) := by rw [hblk.cell, hcnt]
  clear hrm hcnt hst hr hsz hH hblk hml
  obtain ⟨n, hn⟩ : ∃ n, n = (padBytes ml).length := ⟨_, rfl⟩
  have hn2 := hn
  rw [padBytes_length] at hn2
  rw [← hn]
  have Hn := Lib.hid hn
  have h9 : 9 ≤ n := by omega
  have h72 : n ≤ 72 := by omega
  have hN : ((9 : Int) + (64 - ((ml : Int) + 9) % 64) % 64) = (n : Int) := by omega
  clear hn hn2
  go_enter Tryd.func36, Tryd.ntmps36
  have hc0 : ∀ w1, Blk w1 w.heap.size 5 (Array.replicate n (.int .u8 0)) → w1.cell? ⟨w.heap.size, 0, none⟩ = some (.int .u8 0) := fun w1 h => by rw [h.cell, Array.getElem?_replicate, if_pos (by omega)]
  have Hc0 := Lib.hid hc0
  clear hc0
  go_wp2_with (refine wpList_makeBlk rfl _ _ 22 rfl 5 (.int .u8 0) 1 Tryd.underlying22 info5z rfl _ _ _ _ n rfl rfl (by omega) (by omega) (by omega) (by omega) ?_; intro w1 hb1 hu1 hz1; have hc1 := Hc0.out w1 hb1; have hf1 := hb1.frozen 0; have Hb1 := Lib.hid hb1; have Hu1 := Lib.hid hu1; have hcc := hu1.cell hcell (fun h => h); clear hb1 hu1 hz1)
  obtain ⟨w2, hw2⟩ : ∃ w2, w2 = w1.setCell ⟨w.heap.size, 0, none⟩ (.int .u8 128) := ⟨_, rfl⟩
  rw [← hw2]
  have hb2 : Blk w2 w.heap.size 5 ((Array.replicate n (.int .u8 0)).setIfInBounds 0 (.int .u8 128)) := by rw [hw2]; exact Hb1.out.set _ _
  have hu2 : Upd (fun _ => False) w w2 := by rw [hw2]; exact Hu1.out.set _ (by simp)
  have hc2 : w2.cell? ⟨hb, 128, none⟩ = some (.int .i64 ml) := hu2.cell hcell (fun h => h)
  have Hb2 := Lib.hid hb2
  have Hu2 := Lib.hid hu2
  clear hw2 hb2 hu2 hc1 hf1 hcc Hb1 Hu1 hcell
  have q1 : IntKind.i64.wrap ((n : Int) - 8) = (n : Int) - 8 := IntWalk.i64_in _ (by omega)
  have q2 : ((n : Int) - 8).toNat = n - 8 := by omega
  have q3 : (0 : Int) ≤ (n : Int) - 8 := by omega
  have q4 : (n : Int) - 8 ≤ (n : Int) := by omega
  have q5 : ¬ n = n - 8 := by omega
  have q6 : n - (n - 8) = 8 := by omega
  have q9 : (8 : Int) ≤ (n : Int) := by omega
  have q7 : IntKind.u64.wrap (ml : Int) = ml := by rw [IntKind.wrap_u64]; omega
  have q8 : IntKind.u64.wrap ((ml : Int) * 8) = (ml : Int) * 8 := by rw [IntKind.wrap_u64]; omega
  have HP := Lib.hid (put64_any w.heap.size (n - 8) 8 8 ((ml : Int) * 8) 5 _ w2.drew (by omega) (by omega) (show Blk w2.drew _ _ _ from Hb2.out) (by simp; omega))
  go_region_with ((go_at_call 45; refine HP.out.mono ?_; rintro e w3 ⟨rfl, hu3, hz3, hb3⟩))
  have Hb3 := Lib.hid hb3
  have Hu3 := Lib.hid hu3
  clear HP hb3 hu3 hz3 q1 q2 q3 q4 q5 q6 q7 q8 q9
  go_wp2
  go_ret
  refine ⟨rfl, Hu2.out.drew.step Hu3.out (fun i hi h => by omega), ?_⟩
  have e : splice ((Array.replicate n (.int .u8 0)).setIfInBounds 0 (.int .u8 128)) (n - 8) ((be32 ((ml : Int) * 8 / 4294967296 % 4294967296) ++ be32 ((ml : Int) * 8 % 4294967296)).map (Value.int .u8)) = ((padBytes ml).map (Value.int .u8)).toArray := by
    have hn := Hn.out
    rw [padBytes_length] at hn
    exact pad_splice n _ _ rfl hn
  have := Hb3.out
  rw [e] at this
  exact this
end Go.Proofs.YtcdcoennnmbbdaaDoor
