/-
  The reference of layer 2: so many bytes of a key.
-/
/-
  So many bytes of a key: the reference's are the program's. No program.
-/
import Derived.Test.YthhjcpiaoempfaaDoorR3m
import Derived.Test.YthhjcpiaoempfaaDoorM6
namespace Go.Proofs.YthhjcpiaoempfaaDoor
open Go.RowKit
set_option maxRecDepth 100000

/-- The k-th sum, and all of them. -/
def reT (key : List Int) (info : ByteArray) : Nat → List Int
  | 0 => []
  | k + 1 => macS (bstr key) (strAdd (strAdd (bstr (reT key info k)) info) (bstr [IntKind.wrap .u8 ((k + 1 : Nat) : Int)]))
def reO (key : List Int) (info : ByteArray) : Nat → List Int
  | 0 => []
  | k + 1 => reO key info k ++ reT key info (k + 1)
theorem reT_len (key : List Int) (info : ByteArray) (k : Nat) : (reT key info (k + 1)).length = 32 := shaR_len _
theorem reT_le (key : List Int) (info : ByteArray) : ∀ k, (reT key info k).length ≤ 32
  | 0 => by simp [reT]
  | k + 1 => by rw [reT_len]; omega
theorem reO_len (key : List Int) (info : ByteArray) : ∀ k, (reO key info k).length = 32 * k
  | 0 => rfl
  | k + 1 => by rw [reO, List.length_append, reO_len key info k, reT_len]; omega
theorem reO_next (key : List Int) (info : ByteArray) (k : Nat) : strAdd (bstr (reO key info k)) (bstr (macS (bstr key) (strAdd (strAdd (bstr (reT key info k)) info) (bstr [IntKind.wrap .u8 ((k + 1 : Nat) : Int)])))) = bstr (reO key info (k + 1)) := by rw [bstr_add]; rfl
noncomputable def stRExp (key : List Int) (n : Nat) (info : ByteArray) (k : Nat) : St := ⟨Tryd.f15.ntmps, [(1, vv (.int .i64 (n : Int))), (2, vv (.string info)), (3, .o (.c (.ptr 0 0 none))), (8, vv (.string (bstr (reO key info k)))), (9, vv (.string (bstr (reT key info k)))), (10, vv (.int .i64 ((k + 1 : Nat) : Int)))], [.fix 25 [.many 32 (.i .u8 key)]]⟩
def kRExp : (List Int) × Nat × ByteArray → ClN := fun (key, n, info) => ⟨[.o (.g [.many 32 (.i .u8 key)]), vv (.int .i64 (n : Int)), vv (.string info)], [], .t [.c (.v (.string ((bstr (reO key info ((n + 31) / 32))).extract 0 n))), .c (.v (.int .i64 0))], [], [], [key.length = 32, n ≤ 8160, info.size ≤ 4398046511104]⟩
noncomputable def FRExp (key : List Int) (n : Nat) (info : ByteArray) : FnE := ⟨mkEv Tryd.prog [] [cRText, cRMac] 0, [0, 1, 2, 3, 6, 7, 8, 9, 10, 16, 20], fun _ _ => .inv { k : Nat // 32 * k < n + 32 } (fun k => stRExp key n info k.val) (fun k => n - 32 * k.val + 32) [0] [0]⟩
def mRExp : List AV → (Nat → Option MB) → Option (List Nat × ((List Int) × Nat × ByteArray))
  | [.o (.g [.many 32 (.i .u8 key)]), .o (.c (.v (.int .i64 n))), .o (.c (.v (.string info)))], _ => some ([], key, n.toNat, info)
  | _, _ => none
noncomputable def cRExp : Spec := callG 15 Tryd.f15.ntmps mRExp kRExp
theorem vcRExp (key : List Int) (n : Nat) (info : ByteArray) : (wpE (FRExp key n info) (Tryd.f15.body.getD .skip) ⟨Tryd.f15.ntmps, slotsOf 0 (kRExp (key, n, info)).avs, (kRExp (key, n, info)).mem⟩ (finK Tryd.prog Tryd.f15.results.toList (postN (kRExp (key, n, info))))) = (bif decide ((8160 : Int) < (↑n : Int)) then true = true ∧ true = true ∧ (41 : Nat) = (41 : Nat) ∧ Value.string { data := #[] } = Value.string (ByteArray.extract (bstr (reO key info ((n + (31 : Nat)) / (32 : Nat)))) (0 : Nat) n) ∧ Value.int IntKind.i64 (1 : Int) = Value.int IntKind.i64 (0 : Int) else (∃ (x : { k : Nat // (32 : Nat) * k < n + (32 : Nat) }), true = true ∧ true = true ∧ (41 : Nat) = (41 : Nat) ∧ Value.int IntKind.i64 (↑n : Int) = Value.int IntKind.i64 (↑n : Int) ∧ Value.string info = Value.string info ∧ getL [(0 : Nat)] (0 : Nat) = some (0 : Nat) ∧ (0 : Nat) = (0 : Nat) ∧ Value.string { data := #[] } = Value.string (bstr (reO key info (Subtype.val x))) ∧ Value.string { data := #[] } = Value.string (bstr (reT key info (Subtype.val x))) ∧ Value.int IntKind.i64 (1 : Int) = Value.int IntKind.i64 (↑(Subtype.val x + (1 : Nat)) : Int) ∧ (25 : Nat) = (25 : Nat) ∧ (32 : Nat) = (32 : Nat) ∧ key = key) ∧ ∀ (x : { k : Nat // (32 : Nat) * k < n + (32 : Nat) }), bif decide ((↑(ByteArray.size (bstr (reO key info (Subtype.val x)))) : Int) < (↑n : Int)) then true = true ∧ (32 : Nat) = (32 : Nat) ∧ key = key ∧ List.length key = (32 : Nat) ∧ ByteArray.size (bstr (reT key info (Subtype.val x))) + ByteArray.size info ≤ (9223372036854775807 : Nat) ∧ (1 : Nat) = (1 : Nat) ∧ ByteArray.size (strAdd (bstr (reT key info (Subtype.val x))) info) + ByteArray.size (bstr [IntKind.wrap IntKind.u8 (↑(Subtype.val x + (1 : Nat)) : Int)]) ≤ (9223372036854775807 : Nat) ∧ true = true ∧ Value.string (bstr key) = Value.string (bstr key) ∧ Value.string (strAdd (strAdd (bstr (reT key info (Subtype.val x))) info) (bstr [IntKind.wrap IntKind.u8 (↑(Subtype.val x + (1 : Nat)) : Int)])) = Value.string (strAdd (strAdd (bstr (reT key info (Subtype.val x))) info) (bstr [IntKind.wrap IntKind.u8 (↑(Subtype.val x + (1 : Nat)) : Int)])) ∧ ByteArray.size (bstr key) ≤ (17592186044416 : Nat) ∧ ByteArray.size (strAdd (strAdd (bstr (reT key info (Subtype.val x))) info) (bstr [IntKind.wrap IntKind.u8 (↑(Subtype.val x + (1 : Nat)) : Int)])) ≤ (17592186044416 : Nat) ∧ true = true ∧ (32 : Nat) = (32 : Nat) ∧ macS (bstr key) (strAdd (strAdd (bstr (reT key info (Subtype.val x))) info) (bstr [IntKind.wrap IntKind.u8 (↑(Subtype.val x + (1 : Nat)) : Int)])) = macS (bstr key) (strAdd (strAdd (bstr (reT key info (Subtype.val x))) info) (bstr [IntKind.wrap IntKind.u8 (↑(Subtype.val x + (1 : Nat)) : Int)])) ∧ (32 : Nat) = (32 : Nat) ∧ ByteArray.size (bstr (reO key info (Subtype.val x))) + ByteArray.size (bstr (macS (bstr key) (strAdd (strAdd (bstr (reT key info (Subtype.val x))) info) (bstr [IntKind.wrap IntKind.u8 (↑(Subtype.val x + (1 : Nat)) : Int)])))) ≤ (9223372036854775807 : Nat) ∧ ∃ (y : { k : Nat // (32 : Nat) * k < n + (32 : Nat) }), (true = true ∧ true = true ∧ (41 : Nat) = (41 : Nat) ∧ Value.int IntKind.i64 (↑n : Int) = Value.int IntKind.i64 (↑n : Int) ∧ Value.string info = Value.string info ∧ getL [(0 : Nat)] (0 : Nat) = some (0 : Nat) ∧ (0 : Nat) = (0 : Nat) ∧ Value.string (strAdd (bstr (reO key info (Subtype.val x))) (bstr (macS (bstr key) (strAdd (strAdd (bstr (reT key info (Subtype.val x))) info) (bstr [IntKind.wrap IntKind.u8 (↑(Subtype.val x + (1 : Nat)) : Int)]))))) = Value.string (bstr (reO key info (Subtype.val y))) ∧ Value.string (bstr (macS (bstr key) (strAdd (strAdd (bstr (reT key info (Subtype.val x))) info) (bstr [IntKind.wrap IntKind.u8 (↑(Subtype.val x + (1 : Nat)) : Int)])))) = Value.string (bstr (reT key info (Subtype.val y))) ∧ Value.int IntKind.i64 (IntKind.wrap IntKind.i64 ((↑(Subtype.val x + (1 : Nat)) : Int) + (1 : Int))) = Value.int IntKind.i64 (↑(Subtype.val y + (1 : Nat)) : Int) ∧ (25 : Nat) = (25 : Nat) ∧ (32 : Nat) = (32 : Nat) ∧ key = key) ∧ n - (32 : Nat) * Subtype.val y + (32 : Nat) < n - (32 : Nat) * Subtype.val x + (32 : Nat) else (0 : Int) ≤ (↑n : Int) ∧ Int.toNat (↑n : Int) ≤ ByteArray.size (bstr (reO key info (Subtype.val x))) ∧ true = true ∧ true = true ∧ (41 : Nat) = (41 : Nat) ∧ Value.string (ByteArray.extract (bstr (reO key info (Subtype.val x))) (0 : Nat) (Int.toNat (↑n : Int))) = Value.string (ByteArray.extract (bstr (reO key info ((n + (31 : Nat)) / (32 : Nat)))) (0 : Nat) n) ∧ Value.int IntKind.i64 (0 : Int) = Value.int IntKind.i64 (0 : Int)) := by kernel_rfl

set_option maxHeartbeats 8000000 in
theorem wpRExp (key : List Int) (n : Nat) (info : ByteArray) (h1 : key.length = 32) (h2 : n ≤ 8160) (h3 : info.size ≤ 4398046511104) : wpE (FRExp key n info) (Tryd.f15.body.getD .skip) ⟨Tryd.f15.ntmps, slotsOf 0 (kRExp (key, n, info)).avs, (kRExp (key, n, info)).mem⟩ (finK Tryd.prog Tryd.f15.results.toList (postN (kRExp (key, n, info)))) := by
  with_reducible refine Eq.mpr (vcRExp key n info) ?_
  rw [decide_eq_false (show ¬ (8160 : Int) < (n : Int) by omega), cond_false]
  refine ⟨⟨⟨0, by omega⟩, ?_⟩, ?_⟩
  · and_intros <;> first | exact True.intro | with_reducible rfl | kernel_rfl
  · rintro ⟨k, hk⟩
    dsimp only
    have lo := reO_len key info k
    have lt := reT_le key info k
    have lm : ∀ a b, (macS a b).length = 32 := fun _ _ => shaR_len _
    have hn := reO_next key info k
    simp only [bstr_size, strAdd_size, lo, lm, List.length_singleton, Int.toNat_natCast]
    by_cases hg : ((32 * k : Nat) : Int) < (n : Int)
    · rw [decide_eq_true hg, cond_true]
      have e1 : IntKind.wrap .i64 (((k + 1 : Nat) : Int) + 1) = ((k + 1 + 1 : Nat) : Int) := by rw [IntKind.wrap_i64]; omega
      rw [e1, hn]
      and_intros
      all_goals try exact True.intro
      all_goals try with_reducible rfl
      all_goals try omega
      refine ⟨⟨k + 1, by omega⟩, ?_⟩
      and_intros <;> first | exact True.intro | with_reducible rfl | (show n - 32 * (k + 1) + 32 < n - 32 * k + 32; omega) | rfl
    · rw [decide_eq_false hg, cond_false]
      have ek : (n + 31) / 32 = k := by omega
      rw [ek]
      and_intros <;> first | exact True.intro | with_reducible rfl | omega | rfl
set_option maxHeartbeats 8000000 in
theorem cRExp_ok : SpecOK Tryd.prog cRExp := by
  refine callG_ok (c := Tryd.f15.body.getD .skip) mixed Tryd.func15 (by kernel_rfl) rfl (fun x hob => ?_)
  obtain ⟨key, n, info⟩ := x
  have hob : (key.length = 32) ∧ (n ≤ 8160) ∧ (info.size ≤ 4398046511104) := hob
  obtain ⟨h1, h2, h3⟩ := hob
  exact ⟨FRExp key n info, rfl, evOKs ⟨.inl ⟨cRText_ok, by kernel_rfl, gl_nil rfl⟩, ⟨.inl ⟨cRMac_ok, by kernel_rfl, gl_nil rfl⟩, trivial⟩⟩, rfl, rfl, by with_reducible exact wpRExp key n info h1 h2 h3⟩

def fcRN (d : Nat) : Option Bool := bif Nat.beq d 12 then some true else none
def kRExpN : (List Int) × Int × ByteArray → ClN := fun (key, n, info) => ⟨[.o (.g [.many 32 (.i .u8 key)]), vv (.int .i64 n), vv (.string info)], [], .t [.c (.v (.string ⟨#[]⟩)), .c (.v (.int .i64 1))], [], [], [n < 0]⟩
noncomputable def FRExpN : FnE := ⟨mkEv Tryd.prog [] [] 0 fcRN, [0, 1, 2, 3, 6, 7, 8, 9, 10, 16, 20], fun _ _ => .rounds 0⟩
def mRExpN : List AV → (Nat → Option MB) → Option (List Nat × ((List Int) × Int × ByteArray))
  | [.o (.g [.many 32 (.i .u8 key)]), .o (.c (.v (.int .i64 n))), .o (.c (.v (.string info)))], _ => some ([], (key, n, info))
  | _, _ => none
noncomputable def cRExpN : Spec := callG 15 Tryd.f15.ntmps mRExpN kRExpN
theorem vcRExpN (key : List Int) (n : Int) (info : ByteArray) : (wpE FRExpN (Tryd.f15.body.getD .skip) ⟨Tryd.f15.ntmps, slotsOf 0 (kRExpN (key, n, info)).avs, (kRExpN (key, n, info)).mem⟩ (finK Tryd.prog Tryd.f15.results.toList (postN (kRExpN (key, n, info))))) = (decide (n < (0 : Int)) = true ∧ true = true ∧ true = true ∧ (41 : Nat) = (41 : Nat) ∧ Value.string { data := #[] } = Value.string { data := #[] } ∧ Value.int IntKind.i64 (1 : Int) = Value.int IntKind.i64 (1 : Int)) := by kernel_rfl

set_option maxHeartbeats 8000000 in
theorem wpRExpN (key : List Int) (n : Int) (info : ByteArray) (h1 : n < 0) : wpE FRExpN (Tryd.f15.body.getD .skip) ⟨Tryd.f15.ntmps, slotsOf 0 (kRExpN (key, n, info)).avs, (kRExpN (key, n, info)).mem⟩ (finK Tryd.prog Tryd.f15.results.toList (postN (kRExpN (key, n, info)))) := by
  with_reducible refine Eq.mpr (vcRExpN key n info) ?_
  have d : decide (n < (0 : Int)) = true := decide_eq_true h1
  and_intros <;> first | exact True.intro | with_reducible assumption | with_reducible rfl | kernel_rfl
set_option maxHeartbeats 8000000 in
theorem cRExpN_ok : SpecOK Tryd.prog cRExpN := by
  refine callG_ok (c := Tryd.f15.body.getD .skip) mixed Tryd.func15 (by kernel_rfl) rfl (fun x hob => ?_)
  obtain ⟨key, n, info⟩ := x
  have hob : (n < 0) := hob
  have h1 := hob
  exact ⟨FRExpN, rfl, evOKs trivial, rfl, rfl, by with_reducible exact wpRExpN key n info h1⟩

def fcRB (d : Nat) : Option Bool := bif Nat.beq d 12 then some false else bif Nat.beq d 15 then some true else none
def kRExpB : (List Int) × Int × ByteArray → ClN := fun (key, n, info) => ⟨[.o (.g [.many 32 (.i .u8 key)]), vv (.int .i64 n), vv (.string info)], [], .t [.c (.v (.string ⟨#[]⟩)), .c (.v (.int .i64 1))], [], [], [8160 < n]⟩
noncomputable def FRExpB : FnE := ⟨mkEv Tryd.prog [] [] 0 fcRB, [0, 1, 2, 3, 6, 7, 8, 9, 10, 16, 20], fun _ _ => .rounds 0⟩
def mRExpB : List AV → (Nat → Option MB) → Option (List Nat × ((List Int) × Int × ByteArray))
  | [.o (.g [.many 32 (.i .u8 key)]), .o (.c (.v (.int .i64 n))), .o (.c (.v (.string info)))], _ => some ([], (key, n, info))
  | _, _ => none
noncomputable def cRExpB : Spec := callG 15 Tryd.f15.ntmps mRExpB kRExpB
theorem vcRExpB (key : List Int) (n : Int) (info : ByteArray) : (wpE FRExpB (Tryd.f15.body.getD .skip) ⟨Tryd.f15.ntmps, slotsOf 0 (kRExpB (key, n, info)).avs, (kRExpB (key, n, info)).mem⟩ (finK Tryd.prog Tryd.f15.results.toList (postN (kRExpB (key, n, info))))) = (decide (n < (0 : Int)) = false ∧ decide ((8160 : Int) < n) = true ∧ true = true ∧ true = true ∧ (41 : Nat) = (41 : Nat) ∧ Value.string { data := #[] } = Value.string { data := #[] } ∧ Value.int IntKind.i64 (1 : Int) = Value.int IntKind.i64 (1 : Int)) := by kernel_rfl

set_option maxHeartbeats 8000000 in
theorem wpRExpB (key : List Int) (n : Int) (info : ByteArray) (h1 : 8160 < n) : wpE FRExpB (Tryd.f15.body.getD .skip) ⟨Tryd.f15.ntmps, slotsOf 0 (kRExpB (key, n, info)).avs, (kRExpB (key, n, info)).mem⟩ (finK Tryd.prog Tryd.f15.results.toList (postN (kRExpB (key, n, info)))) := by
  with_reducible refine Eq.mpr (vcRExpB key n info) ?_
  have d : decide (n < (0 : Int)) = false := decide_eq_false (by omega)
  have e : decide ((8160 : Int) < n) = true := decide_eq_true h1
  and_intros <;> first | exact True.intro | with_reducible assumption | with_reducible rfl | kernel_rfl
set_option maxHeartbeats 8000000 in
theorem cRExpB_ok : SpecOK Tryd.prog cRExpB := by
  refine callG_ok (c := Tryd.f15.body.getD .skip) mixed Tryd.func15 (by kernel_rfl) rfl (fun x hob => ?_)
  obtain ⟨key, n, info⟩ := x
  have hob : (8160 < n) := hob
  have h1 := hob
  exact ⟨FRExpB, rfl, evOKs trivial, rfl, rfl, by with_reducible exact wpRExpB key n info h1⟩
end Go.Proofs.YthhjcpiaoempfaaDoor
namespace Go.Proofs.YthhjcpiaoempfaaDoor
open Go.RowKit
set_option maxRecDepth 100000

theorem bstr_extract (l : List Int) (n : Nat) : (bstr l).extract 0 n = bstr (l.take n) := by
  apply ByteArray.ext
  rw [ByteArray.data_extract]
  unfold bstr
  show ((l.map fun n => UInt8.ofNat n.toNat).toArray).extract 0 n = ((l.take n).map fun n => UInt8.ofNat n.toNat).toArray
  rw [List.map_take]
  simp
theorem reT_B8 (key : List Int) (info : ByteArray) : ∀ k, ∀ x ∈ reT key info k, B8 x
  | 0, x, h => by cases h
  | _ + 1, x, h => shaR_B8 _ x h
theorem exp_rch (key t u : List Int) (ls : List (List Int)) : Rch (writeH (writeH (writeH (hIn key) [t]) ls) [u]) (maskL (fillL key) 54 64 ++ (t ++ ls.flatten ++ u)) := by
  have h := write_rch [u] (write_rch ls (write_rch [t] (hIn_rch key)))
  simp only [List.flatten_cons, List.flatten_nil, List.append_nil, List.append_assoc] at h ⊢
  exact h
theorem expT_eq (key : List Int) (info : ByteArray) (ls : List (List Int)) (hk : ∀ x ∈ key, B8 x) (hl : key.length = 32) (hi : info.size ≤ 4398046511104) (hf : ls.flatten = strL info) : ∀ k, expT key ls k = reT key info k
  | 0 => rfl
  | k + 1 => by
    have ih := expT_eq key info ls hk hl hi hf k
    have lt := reT_le key info k
    have bt := reT_B8 key info k
    have bw : ∀ x ∈ [IntKind.wrap .u8 ((k + 1 : Nat) : Int)], B8 x := fun x hx => by rw [List.mem_singleton.1 hx]; exact B8.wrap _
    rw [expT, mac_rch (exp_rch key _ _ ls), reT, macS_eq _ _ (by rw [bstr_size]; omega) (by rw [strAdd_size, strAdd_size, bstr_size, bstr_size, List.length_singleton]; omega), strL_bstr hk, strL_add, strL_add, strL_bstr bt, strL_bstr bw, ih, hf]
    rfl
theorem expA_eq (key : List Int) (info : ByteArray) (ls : List (List Int)) (hk : ∀ x ∈ key, B8 x) (hl : key.length = 32) (hi : info.size ≤ 4398046511104) (hf : ls.flatten = strL info) : ∀ k, expA key ls k = reO key info k
  | 0 => rfl
  | k + 1 => by rw [expA, reO, expA_eq key info ls hk hl hi hf k, expT_eq key info ls hk hl hi hf (k + 1)]
end Go.Proofs.YthhjcpiaoempfaaDoor
