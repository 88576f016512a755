/-
  The statements' head: known.
-/
import Derived.Test.YtcdcoennnmbbdaaDoorMacSum
import Derived.Lib.SlBytesConst
namespace Go.Proofs.YtcdcoennnmbbdaaDoor
open Go.RowKit

def jeK : List Int := [74, 101, 102, 101]
def jeA : List Int := [119, 104, 97, 116, 32, 100, 111, 32, 121, 97, 32, 119, 97, 110, 116, 32]
def jeB : List Int := [102, 111, 114, 32, 110, 111, 116, 104, 105, 110, 103, 63]
set_option maxRecDepth 1000000 in
theorem jefe : hmac jeK (jeA ++ jeB) = [91, 220, 193, 70, 191, 96, 117, 78, 106, 4, 36, 38, 8, 149, 117, 199, 90, 0, 63, 8, 157, 39, 57, 131, 157, 236, 88, 185, 100, 236, 56, 67] := by decide +kernel

theorem Sl.ofMark {w : World} {S : Nat → Prop} {C : Array Value} {t : TypeId} {fr : Nat × Nat} {l : List Int} (hC : C = bytesA l) (hs : ¬ S w.heap.size) (hl : l.length ≤ 140737488355328) :
    Sl (w.alloc (.cells C t fr)) S (.slice (some ⟨w.heap.size, 0, none⟩) l.length l.length) l :=
  ⟨_, _, rfl, Nat.le_refl _, by omega, fun _ => ⟨w.heap.size, 0, rfl, hs, fun j hj => by rw [World.cell?_alloc_mark, Nat.zero_add, hC]; exact bytesA_get l j hj⟩⟩
theorem Sl.alloc {w : World} {S : Nat → Prop} {v : Value} {l : List Int} (h : Sl w S v l) (o : Obj) : Sl (w.alloc o) S v l := h.upd ((Upd.refl (fun _ => False) w).alloc o) (fun _ h => h.elim)

set_option maxHeartbeats 1000000 in
theorem known_any (w : World) (hT : Tabs w) (hw : 2 ≤ w.heap.size) :
    Calls Tryd.prog 10 #[] w fun e w' => e = .returned (.bool true) ∧ Upd (fun _ => False) w w' := by
  have HT := Lib.hid hT
  clear hT
  have kc := fun (w : World) (C : Array Value) (n c : Nat) => Lib.run_convert_bytes_const (P := Tryd.prog) w 22 5 C n c Tryd.underlying22 Tryd.underlying5
  have kc2 : ∀ (w : World) (o : Obj) (C : Array Value) (n c : Nat), (convert 22 22 (.slice (some ⟨w.heap.size + 1, 0, none⟩) n c)).run Tryd.prog ((w.alloc o).alloc (.cells C 5)) = .ok (.slice (some ⟨w.heap.size + 1, 0, none⟩) n c) ((w.alloc o).alloc (.cells C 5 (C.size, C.size + 1))) := fun w o C n c => by
    have := kc (w.alloc o) C n c
    rw [World.size_alloc] at this
    exact this
  have kc3 : ∀ (w : World) (o o' : Obj) (C : Array Value) (n c : Nat), (convert 22 22 (.slice (some ⟨w.heap.size + 1 + 1, 0, none⟩) n c)).run Tryd.prog (((w.alloc o).alloc o').alloc (.cells C 5)) = .ok (.slice (some ⟨w.heap.size + 1 + 1, 0, none⟩) n c) (((w.alloc o).alloc o').alloc (.cells C 5 (C.size, C.size + 1))) := fun w o o' C n c => by
    have := kc ((w.alloc o).alloc o') C n c
    rw [World.size_alloc, World.size_alloc] at this
    exact this
  go_enter Tryd.func10, Tryd.ntmps10
  go_wp2_with fail
  obtain ⟨w3, hw3⟩ : ∃ w3 : World, w3 = ((w.alloc (.cells (bytesA jeK) 5 (4, 5))).alloc (.cells (bytesA jeA) 5 (16, 17))).alloc (.cells (bytesA jeB) 5 (12, 13)) := ⟨_, rfl⟩
  have hz3 : w3.heap.size = w.heap.size + 1 + 1 + 1 := by rw [hw3]; simp
  have hu3 : Upd (fun _ => False) w w3 := by rw [hw3]; exact (((Upd.refl _ w).alloc _).alloc _).alloc _
  obtain ⟨w4, hw4⟩ : ∃ w4 : World, w4 = w3.alloc (.cells #[.slice (some ⟨w.heap.size + 1, 0, none⟩) 16 16, .slice (some ⟨w.heap.size + 1 + 1, 0, none⟩) 12 12] 22) := ⟨_, rfl⟩
  have hz4 : w4.heap.size = w.heap.size + 4 := by rw [hw4]; simp [hz3]
  have sK : Sl w3 (fun k => w4.heap.size ≤ k) (.slice (some ⟨w.heap.size, 0, none⟩) 4 4) jeK := by
    rw [hw3]; exact (((Sl.ofMark (l := jeK) rfl (by omega) (by decide)).alloc _).alloc _)
  have sA : Sl w3 (fun k => w4.heap.size ≤ k) (.slice (some ⟨w.heap.size + 1, 0, none⟩) 16 16) jeA := by
    rw [hw3]
    have := (Sl.ofMark (w := w.alloc (.cells (bytesA jeK) 5 (4, 5))) (S := fun k => w4.heap.size ≤ k) (t := 5) (fr := (16, 17)) (l := jeA) rfl (by rw [World.size_alloc]; omega) (by decide)).alloc (.cells (bytesA jeB) 5 (12, 13))
    rw [World.size_alloc] at this
    exact this
  have sB : Sl w3 (fun k => w4.heap.size ≤ k) (.slice (some ⟨w.heap.size + 1 + 1, 0, none⟩) 12 12) jeB := by
    rw [hw3]
    have := (Sl.ofMark (w := (w.alloc (.cells (bytesA jeK) 5 (4, 5))).alloc (.cells (bytesA jeA) 5 (16, 17))) (S := fun k => w4.heap.size ≤ k) (t := 5) (fr := (12, 13)) (l := jeB) rfl (by rw [World.size_alloc, World.size_alloc]; omega) (by decide))
    rw [World.size_alloc, World.size_alloc] at this
    exact this
  have hps : SlS w4 (fun k => w4.heap.size ≤ k) (.slice (some ⟨w.heap.size + 1 + 1 + 1, 0, none⟩) 2 2) [jeA, jeB] := by
    have := SlS.fresh2 22 sA sB (by omega)
    rw [hz3, ← hw4] at this
    exact this
  have sK4 : Sl w4 (fun k => w4.heap.size ≤ k) (.slice (some ⟨w.heap.size, 0, none⟩) 4 4) jeK := by
    rw [hw4] at sK ⊢; exact sK.alloc _
  have hu4 : Upd (fun _ => False) w w4 := by rw [hw4]; exact hu3.alloc _
  have HC := macsum_any jeK [jeA, jeB] _ _ w4 (by decide) (HT.out.upd hu4 (fun h => h) (fun h => h)) (by omega) sK4 hps
  have eF : [jeA, jeB].flatten = jeA ++ jeB := by simp
  rw [eF] at HC
  rw [hw4, hw3] at HC
  refine HC.mono ?_
  rintro e w5 ⟨rfl, hu5⟩
  rw [← hw3, ← hw4] at hu5
  have Hu5 : Hid (Upd (fun _ => False) w w5) := hu4.trans hu5
  have HA : Hid ((bytesA (hmac jeK (jeA ++ jeB))).size = 32) := by show _ = _; rw [bytesA_size, hmac_length]
  have HAone := Lib.hid (bytesA_one (hmac jeK (jeA ++ jeB)))
  have H0 : Hid ((bytesA (hmac jeK (jeA ++ jeB)))[0]? = some (.int .u8 91)) := by show _ = _; rw [jefe]; rfl
  have H1 : Hid ((bytesA (hmac jeK (jeA ++ jeB)))[1]? = some (.int .u8 220)) := by show _ = _; rw [jefe]; rfl
  have H31 : Hid ((bytesA (hmac jeK (jeA ++ jeB)))[31]? = some (.int .u8 67)) := by show _ = _; rw [jefe]; rfl
  generalize bytesA (hmac jeK (jeA ++ jeB)) = A at *
  clear HC eF hu5 hu4 sK4 hps sB sA sK hz4 hw4 hz3 hu3 hw3 kc kc2 kc3
  go_wp2_with (refine wpList_storeBlk2 rfl 25 _ _ rfl w5.heap.size 0 32 rfl A rfl 25 _ (Blk.new w5 _ 25) info25 HA.out (by simp) HAone.out ?_; intro w7 hb7 hu7 hz7; rw [splice_all _ _ 32 rfl HA.out] at hb7; have c0 := (hb7.cell 0).trans H0.out; have c1 := (hb7.cell 1).trans H1.out; have c31 := (hb7.cell 31).trans H31.out; have Hu7 := Lib.hid hu7; clear hu7 hb7 hz7)
  go_ret
  exact ⟨rfl, (Hu5.out.alloc _).step Hu7.out (fun i hi h => by have := Hu5.out.size; omega)⟩
end Go.Proofs.YtcdcoennnmbbdaaDoor
