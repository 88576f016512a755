/-
  Texts as lists of bytes. For any program.
-/
import Derived.Test.YthlleheeghiljaaSym
import Derived.Test.YthlleheeghiljaaMx
namespace Go.Proofs.Ythlleheeghiljaa
open Go.RowKit

theorem bstr_size (l : List Int) : (bstr l).size = l.length := by simp [bstr, ByteArray.size]
theorem bstr_add (a b : List Int) : strAdd (bstr a) (bstr b) = bstr (a ++ b) := by
  unfold strAdd
  apply ByteArray.ext
  rw [ByteArray.data_append]
  simp [bstr]
theorem strAdd_size (a b : ByteArray) : (strAdd a b).size = a.size + b.size := by unfold strAdd; exact ByteArray.size_append ..
theorem strL_add (a b : ByteArray) : strL (strAdd a b) = strL a ++ strL b := by
  unfold strL strAdd
  rw [ByteArray.data_append, Array.toList_append, List.map_append]
theorem strL_bstr {l : List Int} (h : ∀ x ∈ l, 0 ≤ x ∧ x < 256) : strL (bstr l) = l := by
  unfold strL bstr
  rw [List.map_map]
  conv => rhs; rw [← List.map_id l]
  apply List.map_congr_left
  intro x hx
  have := h x hx
  show ((UInt8.ofNat x.toNat).toNat : Int) = x
  rw [UInt8.toNat_ofNat']
  omega
theorem bstr_strL (s : ByteArray) : bstr (strL s) = s := by
  unfold strL bstr
  apply ByteArray.ext
  show ((s.data.toList.map fun b => (b.toNat : Int)).map fun n => UInt8.ofNat n.toNat).toArray = s.data
  rw [List.map_map]
  have : (s.data.toList.map ((fun n : Int => UInt8.ofNat n.toNat) ∘ fun b : UInt8 => (b.toNat : Int))) = s.data.toList := by
    conv => rhs; rw [← List.map_id s.data.toList]
    apply List.map_congr_left
    intro x _
    show UInt8.ofNat ((x.toNat : Int).toNat) = x
    rw [Int.toNat_natCast]
    exact UInt8.ofNat_toNat
  rw [this]
theorem sGet_eq (s : ByteArray) {j : Nat} (h : j < s.size) : sGet s j = (strL s).getD j 0 := by
  have h' : j < s.data.size := h
  unfold sGet strL
  rw [List.getD_eq_getElem?_getD, List.getElem?_map, Array.getElem?_toList, Array.getElem?_eq_getElem h']
  rfl
theorem take_next {l : List Int} {i : Nat} (h : i < l.length) : l.take (i + 1) = l.take i ++ [l.getD i 0] := by
  rw [List.take_add_one, List.getElem?_eq_getElem h, List.getD_eq_getElem?_getD, List.getElem?_eq_getElem h]; rfl
end Go.Proofs.Ythlleheeghiljaa
