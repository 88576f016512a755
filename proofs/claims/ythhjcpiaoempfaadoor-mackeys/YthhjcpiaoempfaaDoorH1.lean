/-
  sha2: up to a block of SHA-256.
-/
import Derived.Test.YthhjcpiaoempfaaDoorMx
namespace Go.Proofs.YthhjcpiaoempfaaDoor
open Go.RowKit
set_option maxRecDepth 100000

/-- A word turned, as it is reckoned. -/
def rotM (x k : Int) : Int := bits .or .u32 (sShl .u32 x k) (sShr .u32 x (IntKind.wrap .u64 (32 - k)))
theorem rotM_k (k : Int) : bits .and .u64 (IntKind.wrap .u64 k) 31 = k % 32 := by
  have hw : IntKind.wrap .u64 k = k % 18446744073709551616 := by simp [IntKind.wrap, IntKind.bits, IntKind.signed]
  rw [hw]
  have := bits_mask .u64 64 (by decide) (fun n h0 h1 => by rw [show IntKind.wrap .u64 n = n % 18446744073709551616 by simp [IntKind.wrap, IntKind.bits, IntKind.signed]]; omega) 5 (by decide) (k % 18446744073709551616) (by omega) (by omega)
  rw [show (2 ^ 5 - 1 : Int) = 31 by decide] at this
  rw [this]
  show k % 18446744073709551616 % 32 = _
  omega
def kRotM : Int × Int → ClN := fun (x, k) => ⟨[vv (.int .u32 x), vv (.int .i64 k)], [], vv (.int .u32 (rotM x (k % 32))), [], [], []⟩
noncomputable def FRotM : FnE := ⟨mkEv Tryd.prog [] [] 0, [0, 1, 4, 5], fun _ _ => .rounds 0⟩
def mRotM : List AV → (Nat → Option MB) → Option (List Nat × (Int × Int))
  | [.o (.c (.v (.int .u32 x))), .o (.c (.v (.int .i64 k)))], _ => some ([], (x, k))
  | _, _ => none
noncomputable def cRotM : Spec := callG 70 Tryd.f70.ntmps mRotM kRotM
theorem vcRotM (x k : Int) : (wpE FRotM (Tryd.f70.body.getD .skip) ⟨Tryd.f70.ntmps, slotsOf 0 (kRotM (x, k)).avs, (kRotM (x, k)).mem⟩ (finK Tryd.prog Tryd.f70.results.toList (postN (kRotM (x, k))))) = (let x1 := IntKind.wrap IntKind.u64 ((32 : Int) - bits BinOp.and IntKind.u64 (IntKind.wrap IntKind.u64 k) (31 : Int)); (0 : Int) ≤ bits BinOp.and IntKind.u64 (IntKind.wrap IntKind.u64 k) (31 : Int) ∧ (0 : Int) ≤ x1 ∧ true = true ∧ true = true ∧ (17 : Nat) = (17 : Nat) ∧ Value.int IntKind.u32 (bits BinOp.or IntKind.u32 (sShl IntKind.u32 x (bits BinOp.and IntKind.u64 (IntKind.wrap IntKind.u64 k) (31 : Int))) (sShr IntKind.u32 x x1)) = Value.int IntKind.u32 (rotM x (k % (32 : Int)))) := by kernel_rfl

set_option maxHeartbeats 8000000 in
theorem wpRotM (x k : Int) : wpE FRotM (Tryd.f70.body.getD .skip) ⟨Tryd.f70.ntmps, slotsOf 0 (kRotM (x, k)).avs, (kRotM (x, k)).mem⟩ (finK Tryd.prog Tryd.f70.results.toList (postN (kRotM (x, k)))) := by
  with_reducible refine Eq.mpr (vcRotM x k) ?_
  rw [rotM_k]
  refine ⟨by omega, ?_, rfl, rfl, rfl, rfl⟩
  rw [show IntKind.wrap .u64 (32 - k % 32) = (32 - k % 32) % 18446744073709551616 by simp [IntKind.wrap, IntKind.bits, IntKind.signed]]; omega
set_option maxHeartbeats 8000000 in
theorem cRotM_ok : SpecOK Tryd.prog cRotM := by
  refine callG_ok (c := Tryd.f70.body.getD .skip) mixed Tryd.func70 (by kernel_rfl) rfl (fun x hob => ?_)
  obtain ⟨x, k⟩ := x
  exact ⟨FRotM, rfl, evOKs trivial, rfl, rfl, by with_reducible exact wpRotM x k ⟩

/-- Four bytes as a word, the highest first. -/
def wordB (l : List Int) : Int := bits .or .u32 (bits .or .u32 (bits .or .u32 (sShl .u32 (IntKind.wrap .u32 (l.getD 0 0)) 24) (sShl .u32 (IntKind.wrap .u32 (l.getD 1 0)) 16)) (sShl .u32 (IntKind.wrap .u32 (l.getD 2 0)) 8)) (IntKind.wrap .u32 (l.getD 3 0))
def kHWord : Nat × (List Int) → ClN := fun (n, l) => ⟨[.o (.c (.rs 1 n (.i .u8 l)))], [], vv (.int .u32 (wordB l)), [], [], [4 ≤ n, l.length = n]⟩
noncomputable def FHWord : FnE := ⟨mkEv Tryd.prog [] [] 0, [0, 2], fun _ _ => .rounds 0⟩
def mHWord : List AV → (Nat → Option MB) → Option (List Nat × (Nat × (List Int)))
  | [.o (.c c)], lk => match slI lk c with
    | some (n, l) => some ([], n, l)
    | none => none
  | _, _ => none
noncomputable def cHWord : Spec := callG 69 Tryd.f69.ntmps mHWord kHWord
theorem vcHWord (n : Nat) (l : List Int) : (wpE FHWord (Tryd.f69.body.getD .skip) ⟨Tryd.f69.ntmps, slotsOf 0 (kHWord (n, l)).avs, (kHWord (n, l)).mem⟩ (finK Tryd.prog Tryd.f69.results.toList (postN (kHWord (n, l))))) = ((0 : Int) ≤ (0 : Int) ∧ (0 : Int) < (↑n : Int) ∧ (0 : Nat) < List.length l ∧ (0 : Int) ≤ (24 : Int) ∧ (0 : Int) ≤ (1 : Int) ∧ (1 : Int) < (↑n : Int) ∧ (1 : Nat) < List.length l ∧ (0 : Int) ≤ (16 : Int) ∧ (0 : Int) ≤ (2 : Int) ∧ (2 : Int) < (↑n : Int) ∧ (2 : Nat) < List.length l ∧ (0 : Int) ≤ (8 : Int) ∧ (0 : Int) ≤ (3 : Int) ∧ (3 : Int) < (↑n : Int) ∧ (3 : Nat) < List.length l ∧ true = true ∧ true = true ∧ (25 : Nat) = (25 : Nat) ∧ Value.int IntKind.u32 (bits BinOp.or IntKind.u32 (bits BinOp.or IntKind.u32 (bits BinOp.or IntKind.u32 (sShl IntKind.u32 (IntKind.wrap IntKind.u32 (List.getD l (0 : Nat) (0 : Int))) (24 : Int)) (sShl IntKind.u32 (IntKind.wrap IntKind.u32 (List.getD l (1 : Nat) (0 : Int))) (16 : Int))) (sShl IntKind.u32 (IntKind.wrap IntKind.u32 (List.getD l (2 : Nat) (0 : Int))) (8 : Int))) (IntKind.wrap IntKind.u32 (List.getD l (3 : Nat) (0 : Int)))) = Value.int IntKind.u32 (wordB l)) := by kernel_rfl

set_option maxHeartbeats 8000000 in
theorem wpHWord (n : Nat) (l : List Int) (h1 : 4 ≤ n) (h2 : l.length = n) : wpE FHWord (Tryd.f69.body.getD .skip) ⟨Tryd.f69.ntmps, slotsOf 0 (kHWord (n, l)).avs, (kHWord (n, l)).mem⟩ (finK Tryd.prog Tryd.f69.results.toList (postN (kHWord (n, l)))) := by
  with_reducible refine Eq.mpr (vcHWord n l) ?_
  intros
  and_intros <;> first | omega | exact True.intro | kernel_rfl
set_option maxHeartbeats 8000000 in
theorem cHWord_ok : SpecOK Tryd.prog cHWord := by
  refine callG_ok (c := Tryd.f69.body.getD .skip) mixed Tryd.func69 (by kernel_rfl) rfl (fun x hob => ?_)
  obtain ⟨n, l⟩ := x
  have hob : (4 ≤ n) ∧ (l.length = n) := hob
  obtain ⟨h1, h2⟩ := hob
  exact ⟨FHWord, rfl, evOKs trivial, rfl, rfl, by with_reducible exact wpHWord n l h1 h2⟩

def putB (l : List Int) (k : Nat) (x : Int) : List Int := (((l.set (k + 0) (IntKind.wrap .u8 (sShr .u32 x 24))).set (k + 1) (IntKind.wrap .u8 (sShr .u32 x 16))).set (k + 2) (IntKind.wrap .u8 (sShr .u32 x 8))).set (k + 3) (IntKind.wrap .u8 x)
theorem putB_len (l : List Int) (k : Nat) (x : Int) : (putB l k x).length = l.length := by simp [putB]
def kHPut : Nat × Nat × Nat × Nat × (List Int) × Int → ClN := fun (k, n, ty, m, l, x) => ⟨[.o (.c (.sub 0 0 k n)), vv (.int .u32 x)], [.fix ty [.many m (.i .u8 l)]], .t [], [.fix ty [.many m (.i .u8 (putB l k x))]], [0], [4 ≤ n, k + 4 ≤ m]⟩
noncomputable def FHPut : FnE := ⟨mkEv Tryd.prog [] [] 1, [0, 1], fun _ _ => .rounds 0⟩
def mHPut : List AV → (Nat → Option MB) → Option (List Nat × (Nat × Nat × Nat × Nat × (List Int) × Int))
  | [.o (.c (.sub i 0 k n)), .o (.c (.v (.int .u32 x)))], lk => match lk i with
    | some (.fix ty [.many m (.i .u8 l)]) => some ([i], k, n, ty, m, l, x)
    | _ => none
  | _, _ => none
noncomputable def cHPut : Spec := callG 52 Tryd.f52.ntmps mHPut kHPut
theorem vcHPut (k n ty m : Nat) (l : List Int) (x : Int) : (wpE FHPut (Tryd.f52.body.getD .skip) ⟨Tryd.f52.ntmps, slotsOf 0 (kHPut (k, n, ty, m, l, x)).avs, (kHPut (k, n, ty, m, l, x)).mem⟩ (finK Tryd.prog Tryd.f52.results.toList (postN (kHPut (k, n, ty, m, l, x))))) = ((0 : Int) ≤ (24 : Int) ∧ (0 : Int) ≤ (16 : Int) ∧ (0 : Int) ≤ (8 : Int) ∧ (0 : Int) ≤ (0 : Int) ∧ (0 : Int) < (↑n : Int) ∧ k + (0 : Nat) < m ∧ (0 : Int) ≤ (1 : Int) ∧ (1 : Int) < (↑n : Int) ∧ k + (1 : Nat) < m ∧ (0 : Int) ≤ (2 : Int) ∧ (2 : Int) < (↑n : Int) ∧ k + (2 : Nat) < m ∧ (0 : Int) ≤ (3 : Int) ∧ (3 : Int) < (↑n : Int) ∧ k + (3 : Nat) < m ∧ true = true ∧ true = true ∧ (23 : Nat) = (23 : Nat) ∧ ty = ty ∧ m = m ∧ List.set (List.set (List.set (List.set l (k + (0 : Nat)) (IntKind.wrap IntKind.u8 (sShr IntKind.u32 x (24 : Int)))) (k + (1 : Nat)) (IntKind.wrap IntKind.u8 (sShr IntKind.u32 x (16 : Int)))) (k + (2 : Nat)) (IntKind.wrap IntKind.u8 (sShr IntKind.u32 x (8 : Int)))) (k + (3 : Nat)) (IntKind.wrap IntKind.u8 x) = putB l k x) := by kernel_rfl

set_option maxHeartbeats 8000000 in
theorem wpHPut (k n ty m : Nat) (l : List Int) (x : Int) (h1 : 4 ≤ n) (h2 : k + 4 ≤ m) : wpE FHPut (Tryd.f52.body.getD .skip) ⟨Tryd.f52.ntmps, slotsOf 0 (kHPut (k, n, ty, m, l, x)).avs, (kHPut (k, n, ty, m, l, x)).mem⟩ (finK Tryd.prog Tryd.f52.results.toList (postN (kHPut (k, n, ty, m, l, x)))) := by
  with_reducible refine Eq.mpr (vcHPut k n ty m l x) ?_
  intros
  and_intros <;> first | omega | exact True.intro | kernel_rfl
set_option maxHeartbeats 8000000 in
theorem cHPut_ok : SpecOK Tryd.prog cHPut := by
  refine callG_ok (c := Tryd.f52.body.getD .skip) mixed Tryd.func52 (by kernel_rfl) rfl (fun x hob => ?_)
  obtain ⟨k, n, ty, m, l, x⟩ := x
  have hob : (4 ≤ n) ∧ (k + 4 ≤ m) := hob
  obtain ⟨h1, h2⟩ := hob
  exact ⟨FHPut, rfl, evOKs trivial, rfl, rfl, by with_reducible exact wpHPut k n ty m l x h1 h2⟩

def kHPutG : Nat × Nat × Nat × (List Int) × Int → ClN := fun (k, n, ty, l, x) => ⟨[.o (.c (.sub 0 0 k n)), vv (.int .u32 x)], [.grow ty 1 (.i .u8 l)], .t [], [.grow ty 1 (.i .u8 (putB l k x))], [0], [4 ≤ n, k + 4 ≤ l.length]⟩
noncomputable def FHPutG : FnE := ⟨mkEv Tryd.prog [] [] 1, [0, 1], fun _ _ => .rounds 0⟩
def mHPutG : List AV → (Nat → Option MB) → Option (List Nat × (Nat × Nat × Nat × (List Int) × Int))
  | [.o (.c (.sub i 0 k n)), .o (.c (.v (.int .u32 x)))], lk => match lk i with
    | some (.grow ty 1 (.i .u8 l)) => some ([i], k, n, ty, l, x)
    | _ => none
  | _, _ => none
noncomputable def cHPutG : Spec := callG 52 Tryd.f52.ntmps mHPutG kHPutG
theorem vcHPutG (k n ty : Nat) (l : List Int) (x : Int) : (wpE FHPutG (Tryd.f52.body.getD .skip) ⟨Tryd.f52.ntmps, slotsOf 0 (kHPutG (k, n, ty, l, x)).avs, (kHPutG (k, n, ty, l, x)).mem⟩ (finK Tryd.prog Tryd.f52.results.toList (postN (kHPutG (k, n, ty, l, x))))) = (let x1 := List.set l (k + (0 : Nat)) (IntKind.wrap IntKind.u8 (sShr IntKind.u32 x (24 : Int))); let x2 := List.set x1 (k + (1 : Nat)) (IntKind.wrap IntKind.u8 (sShr IntKind.u32 x (16 : Int))); let x3 := List.set x2 (k + (2 : Nat)) (IntKind.wrap IntKind.u8 (sShr IntKind.u32 x (8 : Int))); (0 : Int) ≤ (24 : Int) ∧ (0 : Int) ≤ (16 : Int) ∧ (0 : Int) ≤ (8 : Int) ∧ (0 : Int) ≤ (0 : Int) ∧ (0 : Int) < (↑n : Int) ∧ k + (0 : Nat) < List.length l ∧ (0 : Int) ≤ (1 : Int) ∧ (1 : Int) < (↑n : Int) ∧ k + (1 : Nat) < List.length x1 ∧ (0 : Int) ≤ (2 : Int) ∧ (2 : Int) < (↑n : Int) ∧ k + (2 : Nat) < List.length x2 ∧ (0 : Int) ≤ (3 : Int) ∧ (3 : Int) < (↑n : Int) ∧ k + (3 : Nat) < List.length x3 ∧ true = true ∧ true = true ∧ (23 : Nat) = (23 : Nat) ∧ ty = ty ∧ (1 : Nat) = (1 : Nat) ∧ List.set x3 (k + (3 : Nat)) (IntKind.wrap IntKind.u8 x) = putB l k x) := by kernel_rfl

set_option maxHeartbeats 8000000 in
theorem wpHPutG (k n ty : Nat) (l : List Int) (x : Int) (h1 : 4 ≤ n) (h2 : k + 4 ≤ l.length) : wpE FHPutG (Tryd.f52.body.getD .skip) ⟨Tryd.f52.ntmps, slotsOf 0 (kHPutG (k, n, ty, l, x)).avs, (kHPutG (k, n, ty, l, x)).mem⟩ (finK Tryd.prog Tryd.f52.results.toList (postN (kHPutG (k, n, ty, l, x)))) := by
  with_reducible refine Eq.mpr (vcHPutG k n ty l x) ?_
  intros; and_intros <;> first | omega | exact True.intro | (simp +zetaDelta only [List.length_set]; omega) | kernel_rfl
set_option maxHeartbeats 8000000 in
theorem cHPutG_ok : SpecOK Tryd.prog cHPutG := by
  refine callG_ok (c := Tryd.f52.body.getD .skip) mixed Tryd.func52 (by kernel_rfl) rfl (fun x hob => ?_)
  obtain ⟨k, n, ty, l, x⟩ := x
  have hob : (4 ≤ n) ∧ (k + 4 ≤ l.length) := hob
  obtain ⟨h1, h2⟩ := hob
  exact ⟨FHPutG, rfl, evOKs trivial, rfl, rfl, by with_reducible exact wpHPutG k n ty l x h1 h2⟩

def putB8 (l : List Int) (k : Nat) (x : Int) : List Int := putB (putB l k (IntKind.wrap .u32 (sShr .u64 x 32))) (k + 4) (IntKind.wrap .u32 x)
def kHPut64 : Nat × Nat × Nat × (List Int) × Int → ClN := fun (k, n, ty, l, x) => ⟨[.o (.c (.sub 0 0 k n)), vv (.int .u64 x)], [.grow ty 1 (.i .u8 l)], .t [], [.grow ty 1 (.i .u8 (putB8 l k x))], [0], [8 ≤ n, k + 8 ≤ l.length]⟩
noncomputable def FHPut64 : FnE := ⟨mkEv Tryd.prog [] [cHPutG] 1, [0, 1], fun _ _ => .rounds 0⟩
def mHPut64 : List AV → (Nat → Option MB) → Option (List Nat × (Nat × Nat × Nat × (List Int) × Int))
  | [.o (.c (.sub i 0 k n)), .o (.c (.v (.int .u64 x)))], lk => match lk i with
    | some (.grow ty 1 (.i .u8 l)) => some ([i], k, n, ty, l, x)
    | _ => none
  | _, _ => none
noncomputable def cHPut64 : Spec := callG 71 Tryd.f71.ntmps mHPut64 kHPut64
theorem vcHPut64 (k n ty : Nat) (l : List Int) (x : Int) : (wpE FHPut64 (Tryd.f71.body.getD .skip) ⟨Tryd.f71.ntmps, slotsOf 0 (kHPut64 (k, n, ty, l, x)).avs, (kHPut64 (k, n, ty, l, x)).mem⟩ (finK Tryd.prog Tryd.f71.results.toList (postN (kHPut64 (k, n, ty, l, x))))) = (let x1 := putB l k (IntKind.wrap IntKind.u32 (sShr IntKind.u64 x (32 : Int))); (0 : Int) ≤ (32 : Int) ∧ true = true ∧ getL [(0 : Nat)] (0 : Nat) = some (0 : Nat) ∧ (0 : Nat) + k = (0 : Nat) + k ∧ n = n ∧ Value.int IntKind.u32 (IntKind.wrap IntKind.u32 (sShr IntKind.u64 x (32 : Int))) = Value.int IntKind.u32 (IntKind.wrap IntKind.u32 (sShr IntKind.u64 x (32 : Int))) ∧ ty = ty ∧ (1 : Nat) = (1 : Nat) ∧ l = l ∧ (4 : Nat) ≤ n ∧ k + (4 : Nat) ≤ List.length l ∧ (0 : Int) ≤ (4 : Int) ∧ (4 : Nat) ≤ n ∧ true = true ∧ getL [(0 : Nat)] (0 : Nat) = some (0 : Nat) ∧ (0 : Nat) + (k + (4 : Nat)) = (0 : Nat) + (k + (4 : Nat)) ∧ n - (4 : Nat) = n - (4 : Nat) ∧ Value.int IntKind.u32 (IntKind.wrap IntKind.u32 x) = Value.int IntKind.u32 (IntKind.wrap IntKind.u32 x) ∧ ty = ty ∧ (1 : Nat) = (1 : Nat) ∧ x1 = x1 ∧ (4 : Nat) ≤ n - (4 : Nat) ∧ k + (4 : Nat) + (4 : Nat) ≤ List.length x1 ∧ true = true ∧ true = true ∧ (14 : Nat) = (14 : Nat) ∧ ty = ty ∧ (1 : Nat) = (1 : Nat) ∧ putB x1 (k + (4 : Nat)) (IntKind.wrap IntKind.u32 x) = putB8 l k x) := by kernel_rfl

set_option maxHeartbeats 8000000 in
theorem wpHPut64 (k n ty : Nat) (l : List Int) (x : Int) (h1 : 8 ≤ n) (h2 : k + 8 ≤ l.length) : wpE FHPut64 (Tryd.f71.body.getD .skip) ⟨Tryd.f71.ntmps, slotsOf 0 (kHPut64 (k, n, ty, l, x)).avs, (kHPut64 (k, n, ty, l, x)).mem⟩ (finK Tryd.prog Tryd.f71.results.toList (postN (kHPut64 (k, n, ty, l, x)))) := by
  with_reducible refine Eq.mpr (vcHPut64 k n ty l x) ?_
  intros; and_intros <;> first | omega | exact True.intro | (simp +zetaDelta only [putB_len]; omega) | kernel_rfl
set_option maxHeartbeats 8000000 in
theorem cHPut64_ok : SpecOK Tryd.prog cHPut64 := by
  refine callG_ok (c := Tryd.f71.body.getD .skip) mixed Tryd.func71 (by kernel_rfl) rfl (fun x hob => ?_)
  obtain ⟨k, n, ty, l, x⟩ := x
  have hob : (8 ≤ n) ∧ (k + 8 ≤ l.length) := hob
  obtain ⟨h1, h2⟩ := hob
  exact ⟨FHPut64, rfl, evOKs ⟨.inl ⟨cHPutG_ok, by kernel_rfl, gl_nil rfl⟩, trivial⟩, rfl, rfl, by with_reducible exact wpHPut64 k n ty l x h1 h2⟩

def hiE (x : Int) : Int := bits .xor .u32 (bits .xor .u32 (rotM x 26) (rotM x 21)) (rotM x 7)
def kHHigh : Int → ClN := fun x => ⟨[vv (.int .u32 x)], [], vv (.int .u32 (hiE x)), [], [], []⟩
noncomputable def FHHigh : FnE := ⟨mkEv Tryd.prog [] [cRotM] 0, [0, 2], fun _ _ => .rounds 0⟩
def mHHigh : List AV → (Nat → Option MB) → Option (List Nat × Int)
  | [.o (.c (.v (.int .u32 x)))], _ => some ([], x)
  | _, _ => none
noncomputable def cHHigh : Spec := callG 49 Tryd.f49.ntmps mHHigh kHHigh
theorem vcHHigh (x : Int) : (wpE FHHigh (Tryd.f49.body.getD .skip) ⟨Tryd.f49.ntmps, slotsOf 0 (kHHigh x).avs, (kHHigh x).mem⟩ (finK Tryd.prog Tryd.f49.results.toList (postN (kHHigh x)))) = (true = true ∧ Value.int IntKind.u32 x = Value.int IntKind.u32 x ∧ Value.int IntKind.i64 (-6 : Int) = Value.int IntKind.i64 (-6 : Int) ∧ true = true ∧ Value.int IntKind.u32 x = Value.int IntKind.u32 x ∧ Value.int IntKind.i64 (-11 : Int) = Value.int IntKind.i64 (-11 : Int) ∧ true = true ∧ Value.int IntKind.u32 x = Value.int IntKind.u32 x ∧ Value.int IntKind.i64 (-25 : Int) = Value.int IntKind.i64 (-25 : Int) ∧ true = true ∧ true = true ∧ (11 : Nat) = (11 : Nat) ∧ Value.int IntKind.u32 (bits BinOp.xor IntKind.u32 (bits BinOp.xor IntKind.u32 (rotM x (26 : Int)) (rotM x (21 : Int))) (rotM x (7 : Int))) = Value.int IntKind.u32 (hiE x)) := by kernel_rfl

set_option maxHeartbeats 8000000 in
theorem wpHHigh (x : Int) : wpE FHHigh (Tryd.f49.body.getD .skip) ⟨Tryd.f49.ntmps, slotsOf 0 (kHHigh x).avs, (kHHigh x).mem⟩ (finK Tryd.prog Tryd.f49.results.toList (postN (kHHigh x))) := by
  with_reducible refine Eq.mpr (vcHHigh x) ?_
  intros
  and_intros <;> first | omega | exact True.intro | kernel_rfl
set_option maxHeartbeats 8000000 in
theorem cHHigh_ok : SpecOK Tryd.prog cHHigh := by
  refine callG_ok (c := Tryd.f49.body.getD .skip) mixed Tryd.func49 (by kernel_rfl) rfl (fun x hob => ?_)
  exact ⟨FHHigh, rfl, evOKs ⟨.inl ⟨cRotM_ok, by kernel_rfl, gl_nil rfl⟩, trivial⟩, rfl, rfl, by with_reducible exact wpHHigh x ⟩
def loE (x : Int) : Int := bits .xor .u32 (bits .xor .u32 (rotM x 30) (rotM x 19)) (rotM x 10)
def kHLow : Int → ClN := fun x => ⟨[vv (.int .u32 x)], [], vv (.int .u32 (loE x)), [], [], []⟩
noncomputable def FHLow : FnE := ⟨mkEv Tryd.prog [] [cRotM] 0, [0, 2], fun _ _ => .rounds 0⟩
def mHLow : List AV → (Nat → Option MB) → Option (List Nat × Int)
  | [.o (.c (.v (.int .u32 x)))], _ => some ([], x)
  | _, _ => none
noncomputable def cHLow : Spec := callG 50 Tryd.f50.ntmps mHLow kHLow
theorem vcHLow (x : Int) : (wpE FHLow (Tryd.f50.body.getD .skip) ⟨Tryd.f50.ntmps, slotsOf 0 (kHLow x).avs, (kHLow x).mem⟩ (finK Tryd.prog Tryd.f50.results.toList (postN (kHLow x)))) = (true = true ∧ Value.int IntKind.u32 x = Value.int IntKind.u32 x ∧ Value.int IntKind.i64 (-2 : Int) = Value.int IntKind.i64 (-2 : Int) ∧ true = true ∧ Value.int IntKind.u32 x = Value.int IntKind.u32 x ∧ Value.int IntKind.i64 (-13 : Int) = Value.int IntKind.i64 (-13 : Int) ∧ true = true ∧ Value.int IntKind.u32 x = Value.int IntKind.u32 x ∧ Value.int IntKind.i64 (-22 : Int) = Value.int IntKind.i64 (-22 : Int) ∧ true = true ∧ true = true ∧ (11 : Nat) = (11 : Nat) ∧ Value.int IntKind.u32 (bits BinOp.xor IntKind.u32 (bits BinOp.xor IntKind.u32 (rotM x (30 : Int)) (rotM x (19 : Int))) (rotM x (10 : Int))) = Value.int IntKind.u32 (loE x)) := by kernel_rfl

set_option maxHeartbeats 8000000 in
theorem wpHLow (x : Int) : wpE FHLow (Tryd.f50.body.getD .skip) ⟨Tryd.f50.ntmps, slotsOf 0 (kHLow x).avs, (kHLow x).mem⟩ (finK Tryd.prog Tryd.f50.results.toList (postN (kHLow x))) := by
  with_reducible refine Eq.mpr (vcHLow x) ?_
  intros
  and_intros <;> first | omega | exact True.intro | kernel_rfl
set_option maxHeartbeats 8000000 in
theorem cHLow_ok : SpecOK Tryd.prog cHLow := by
  refine callG_ok (c := Tryd.f50.body.getD .skip) mixed Tryd.func50 (by kernel_rfl) rfl (fun x hob => ?_)
  exact ⟨FHLow, rfl, evOKs ⟨.inl ⟨cRotM_ok, by kernel_rfl, gl_nil rfl⟩, trivial⟩, rfl, rfl, by with_reducible exact wpHLow x ⟩

/-- One word more. -/
def extL (l : List Int) (i : Nat) : List Int := l.set i (IntKind.wrap .u32 (IntKind.wrap .u32 (IntKind.wrap .u32 (bits .xor .u32 (bits .xor .u32 (rotM (l.getD (i - 2) 0) 15) (rotM (l.getD (i - 2) 0) 13)) (sShr .u32 (l.getD (i - 2) 0) 10) + l.getD (i - 7) 0) + bits .xor .u32 (bits .xor .u32 (rotM (l.getD (i - 15) 0) 25) (rotM (l.getD (i - 15) 0) 14)) (sShr .u32 (l.getD (i - 15) 0) 3)) + l.getD (i - 16) 0))
/-- The words of a block: the first k. -/
def firL (b : List Int) : Nat → List Int
  | 0 => List.replicate 64 0
  | k + 1 => (firL b k).set k (wordB (b.drop (4 * k)))
def wrdL (b : List Int) : Nat → List Int
  | 0 => firL b 16
  | k + 1 => extL (wrdL b k) (16 + k)
def wordsL (b : List Int) : List Int := wrdL b 48
noncomputable def stWords (b : List Int) (k : Nat) : St := ⟨Tryd.f48.ntmps, [(2, .o (.c (.ptr 0 0 none))), (3, .o (.c (.ptr 1 0 none))), (5, vv (.int .i64 ((16 + k : Nat) : Int)))], [.fix 101 [.many 64 (.i .u32 (List.replicate 64 0))], .fix 101 [.many 64 (.i .u32 (wrdL b k))]]⟩
def kHWords : Nat × (List Int) → ClN := fun (n, b) => ⟨[.o (.c (.rs 1 n (.i .u8 b)))], [], .o (.g [.many 64 (.i .u32 (wordsL b))]), [], [], [b.length = n, 64 ≤ n, n ≤ 140737488355328]⟩
noncomputable def FHWords (_n : Nat) (b : List Int) : FnE := ⟨mkEv Tryd.prog [] [cHWord, cRotM] 0, [0, 2, 3, 4, 5, 6, 7, 8, 9, 10, 11, 22], fun g _ => cond (Nat.beq g 3) (.rounds 17) (.inv { k : Nat // k ≤ 48 } (fun k => stWords b k.val) (fun k => 48 - k.val) [0, 1] [0, 1])⟩
def mHWords : List AV → (Nat → Option MB) → Option (List Nat × (Nat × (List Int)))
  | [.o (.c c)], lk => match slI lk c with
    | some (n, l) => some ([], n, l)
    | none => none
  | _, _ => none
noncomputable def cHWords : Spec := callG 48 Tryd.f48.ntmps mHWords kHWords
theorem vcHWords (n : Nat) (b : List Int) : (wpE (FHWords n b) (Tryd.f48.body.getD .skip) ⟨Tryd.f48.ntmps, slotsOf 0 (kHWords (n, b)).avs, (kHWords (n, b)).mem⟩ (finK Tryd.prog Tryd.f48.results.toList (postN (kHWords (n, b))))) = (let x1 := List.take (n - (0 : Nat)) (List.drop (0 : Nat) b); let x2 := List.take (n - (4 : Nat)) (List.drop (4 : Nat) b); let x3 := List.take (n - (8 : Nat)) (List.drop (8 : Nat) b); let x4 := List.take (n - (12 : Nat)) (List.drop (12 : Nat) b); let x5 := List.take (n - (16 : Nat)) (List.drop (16 : Nat) b); let x6 := List.take (n - (20 : Nat)) (List.drop (20 : Nat) b); let x7 := List.take (n - (24 : Nat)) (List.drop (24 : Nat) b); let x8 := List.take (n - (28 : Nat)) (List.drop (28 : Nat) b); let x9 := List.take (n - (32 : Nat)) (List.drop (32 : Nat) b); let x10 := List.take (n - (36 : Nat)) (List.drop (36 : Nat) b); let x11 := List.take (n - (40 : Nat)) (List.drop (40 : Nat) b); let x12 := List.take (n - (44 : Nat)) (List.drop (44 : Nat) b); let x13 := List.take (n - (48 : Nat)) (List.drop (48 : Nat) b); let x14 := List.take (n - (52 : Nat)) (List.drop (52 : Nat) b); let x15 := List.take (n - (56 : Nat)) (List.drop (56 : Nat) b); let x16 := List.take (n - (60 : Nat)) (List.drop (60 : Nat) b); (0 : Int) ≤ (0 : Int) ∧ (0 : Nat) ≤ n ∧ true = true ∧ true = true ∧ n - (0 : Nat) = n - (0 : Nat) ∧ x1 = x1 ∧ (4 : Nat) ≤ n - (0 : Nat) ∧ List.length x1 = n - (0 : Nat) ∧ (0 : Int) ≤ (0 : Int) ∧ (0 : Int) < (64 : Int) ∧ (0 : Nat) < (64 : Nat) ∧ (0 : Int) ≤ (4 : Int) ∧ (4 : Nat) ≤ n ∧ true = true ∧ true = true ∧ n - (4 : Nat) = n - (4 : Nat) ∧ x2 = x2 ∧ (4 : Nat) ≤ n - (4 : Nat) ∧ List.length x2 = n - (4 : Nat) ∧ (0 : Int) ≤ (1 : Int) ∧ (1 : Int) < (64 : Int) ∧ (1 : Nat) < (64 : Nat) ∧ (0 : Int) ≤ (8 : Int) ∧ (8 : Nat) ≤ n ∧ true = true ∧ true = true ∧ n - (8 : Nat) = n - (8 : Nat) ∧ x3 = x3 ∧ (4 : Nat) ≤ n - (8 : Nat) ∧ List.length x3 = n - (8 : Nat) ∧ (0 : Int) ≤ (2 : Int) ∧ (2 : Int) < (64 : Int) ∧ (2 : Nat) < (64 : Nat) ∧ (0 : Int) ≤ (12 : Int) ∧ (12 : Nat) ≤ n ∧ true = true ∧ true = true ∧ n - (12 : Nat) = n - (12 : Nat) ∧ x4 = x4 ∧ (4 : Nat) ≤ n - (12 : Nat) ∧ List.length x4 = n - (12 : Nat) ∧ (0 : Int) ≤ (3 : Int) ∧ (3 : Int) < (64 : Int) ∧ (3 : Nat) < (64 : Nat) ∧ (0 : Int) ≤ (16 : Int) ∧ (16 : Nat) ≤ n ∧ true = true ∧ true = true ∧ n - (16 : Nat) = n - (16 : Nat) ∧ x5 = x5 ∧ (4 : Nat) ≤ n - (16 : Nat) ∧ List.length x5 = n - (16 : Nat) ∧ (0 : Int) ≤ (4 : Int) ∧ (4 : Int) < (64 : Int) ∧ (4 : Nat) < (64 : Nat) ∧ (0 : Int) ≤ (20 : Int) ∧ (20 : Nat) ≤ n ∧ true = true ∧ true = true ∧ n - (20 : Nat) = n - (20 : Nat) ∧ x6 = x6 ∧ (4 : Nat) ≤ n - (20 : Nat) ∧ List.length x6 = n - (20 : Nat) ∧ (0 : Int) ≤ (5 : Int) ∧ (5 : Int) < (64 : Int) ∧ (5 : Nat) < (64 : Nat) ∧ (0 : Int) ≤ (24 : Int) ∧ (24 : Nat) ≤ n ∧ true = true ∧ true = true ∧ n - (24 : Nat) = n - (24 : Nat) ∧ x7 = x7 ∧ (4 : Nat) ≤ n - (24 : Nat) ∧ List.length x7 = n - (24 : Nat) ∧ (0 : Int) ≤ (6 : Int) ∧ (6 : Int) < (64 : Int) ∧ (6 : Nat) < (64 : Nat) ∧ (0 : Int) ≤ (28 : Int) ∧ (28 : Nat) ≤ n ∧ true = true ∧ true = true ∧ n - (28 : Nat) = n - (28 : Nat) ∧ x8 = x8 ∧ (4 : Nat) ≤ n - (28 : Nat) ∧ List.length x8 = n - (28 : Nat) ∧ (0 : Int) ≤ (7 : Int) ∧ (7 : Int) < (64 : Int) ∧ (7 : Nat) < (64 : Nat) ∧ (0 : Int) ≤ (32 : Int) ∧ (32 : Nat) ≤ n ∧ true = true ∧ true = true ∧ n - (32 : Nat) = n - (32 : Nat) ∧ x9 = x9 ∧ (4 : Nat) ≤ n - (32 : Nat) ∧ List.length x9 = n - (32 : Nat) ∧ (0 : Int) ≤ (8 : Int) ∧ (8 : Int) < (64 : Int) ∧ (8 : Nat) < (64 : Nat) ∧ (0 : Int) ≤ (36 : Int) ∧ (36 : Nat) ≤ n ∧ true = true ∧ true = true ∧ n - (36 : Nat) = n - (36 : Nat) ∧ x10 = x10 ∧ (4 : Nat) ≤ n - (36 : Nat) ∧ List.length x10 = n - (36 : Nat) ∧ (0 : Int) ≤ (9 : Int) ∧ (9 : Int) < (64 : Int) ∧ (9 : Nat) < (64 : Nat) ∧ (0 : Int) ≤ (40 : Int) ∧ (40 : Nat) ≤ n ∧ true = true ∧ true = true ∧ n - (40 : Nat) = n - (40 : Nat) ∧ x11 = x11 ∧ (4 : Nat) ≤ n - (40 : Nat) ∧ List.length x11 = n - (40 : Nat) ∧ (0 : Int) ≤ (10 : Int) ∧ (10 : Int) < (64 : Int) ∧ (10 : Nat) < (64 : Nat) ∧ (0 : Int) ≤ (44 : Int) ∧ (44 : Nat) ≤ n ∧ true = true ∧ true = true ∧ n - (44 : Nat) = n - (44 : Nat) ∧ x12 = x12 ∧ (4 : Nat) ≤ n - (44 : Nat) ∧ List.length x12 = n - (44 : Nat) ∧ (0 : Int) ≤ (11 : Int) ∧ (11 : Int) < (64 : Int) ∧ (11 : Nat) < (64 : Nat) ∧ (0 : Int) ≤ (48 : Int) ∧ (48 : Nat) ≤ n ∧ true = true ∧ true = true ∧ n - (48 : Nat) = n - (48 : Nat) ∧ x13 = x13 ∧ (4 : Nat) ≤ n - (48 : Nat) ∧ List.length x13 = n - (48 : Nat) ∧ (0 : Int) ≤ (12 : Int) ∧ (12 : Int) < (64 : Int) ∧ (12 : Nat) < (64 : Nat) ∧ (0 : Int) ≤ (52 : Int) ∧ (52 : Nat) ≤ n ∧ true = true ∧ true = true ∧ n - (52 : Nat) = n - (52 : Nat) ∧ x14 = x14 ∧ (4 : Nat) ≤ n - (52 : Nat) ∧ List.length x14 = n - (52 : Nat) ∧ (0 : Int) ≤ (13 : Int) ∧ (13 : Int) < (64 : Int) ∧ (13 : Nat) < (64 : Nat) ∧ (0 : Int) ≤ (56 : Int) ∧ (56 : Nat) ≤ n ∧ true = true ∧ true = true ∧ n - (56 : Nat) = n - (56 : Nat) ∧ x15 = x15 ∧ (4 : Nat) ≤ n - (56 : Nat) ∧ List.length x15 = n - (56 : Nat) ∧ (0 : Int) ≤ (14 : Int) ∧ (14 : Int) < (64 : Int) ∧ (14 : Nat) < (64 : Nat) ∧ (0 : Int) ≤ (60 : Int) ∧ (60 : Nat) ≤ n ∧ true = true ∧ true = true ∧ n - (60 : Nat) = n - (60 : Nat) ∧ x16 = x16 ∧ (4 : Nat) ≤ n - (60 : Nat) ∧ List.length x16 = n - (60 : Nat) ∧ (0 : Int) ≤ (15 : Int) ∧ (15 : Int) < (64 : Int) ∧ (15 : Nat) < (64 : Nat) ∧ (∃ (x : { k : Nat // k ≤ (48 : Nat) }), true = true ∧ true = true ∧ (65 : Nat) = (65 : Nat) ∧ getL [(0 : Nat), (1 : Nat)] (0 : Nat) = some (0 : Nat) ∧ (0 : Nat) = (0 : Nat) ∧ getL [(0 : Nat), (1 : Nat)] (1 : Nat) = some (1 : Nat) ∧ (0 : Nat) = (0 : Nat) ∧ Value.int IntKind.i64 (16 : Int) = Value.int IntKind.i64 (↑((16 : Nat) + Subtype.val x) : Int) ∧ (101 : Nat) = (101 : Nat) ∧ (64 : Nat) = (64 : Nat) ∧ List.replicate (64 : Nat) (0 : Int) = List.replicate (64 : Nat) (0 : Int) ∧ (101 : Nat) = (101 : Nat) ∧ (64 : Nat) = (64 : Nat) ∧ [wordB x1, wordB x2, wordB x3, wordB x4, wordB x5, wordB x6, wordB x7, wordB x8, wordB x9, wordB x10, wordB x11, wordB x12, wordB x13, wordB x14, wordB x15, wordB x16, (0 : Int), (0 : Int), (0 : Int), (0 : Int), (0 : Int), (0 : Int), (0 : Int), (0 : Int), (0 : Int), (0 : Int), (0 : Int), (0 : Int), (0 : Int), (0 : Int), (0 : Int), (0 : Int), (0 : Int), (0 : Int), (0 : Int), (0 : Int), (0 : Int), (0 : Int), (0 : Int), (0 : Int), (0 : Int), (0 : Int), (0 : Int), (0 : Int), (0 : Int), (0 : Int), (0 : Int), (0 : Int), (0 : Int), (0 : Int), (0 : Int), (0 : Int), (0 : Int), (0 : Int), (0 : Int), (0 : Int), (0 : Int), (0 : Int), (0 : Int), (0 : Int), (0 : Int), (0 : Int), (0 : Int), (0 : Int)] = wrdL b (Subtype.val x)) ∧ ∀ (x : { k : Nat // k ≤ (48 : Nat) }), bif decide ((↑((16 : Nat) + Subtype.val x) : Int) < (64 : Int)) then (0 : Int) ≤ IntKind.wrap IntKind.i64 ((↑((16 : Nat) + Subtype.val x) : Int) - (15 : Int)) ∧ IntKind.wrap IntKind.i64 ((↑((16 : Nat) + Subtype.val x) : Int) - (15 : Int)) < (64 : Int) ∧ Int.toNat (IntKind.wrap IntKind.i64 ((↑((16 : Nat) + Subtype.val x) : Int) - (15 : Int))) < (64 : Nat) ∧ (0 : Int) ≤ IntKind.wrap IntKind.i64 ((↑((16 : Nat) + Subtype.val x) : Int) - (2 : Int)) ∧ IntKind.wrap IntKind.i64 ((↑((16 : Nat) + Subtype.val x) : Int) - (2 : Int)) < (64 : Int) ∧ Int.toNat (IntKind.wrap IntKind.i64 ((↑((16 : Nat) + Subtype.val x) : Int) - (2 : Int))) < (64 : Nat) ∧ true = true ∧ Value.int IntKind.u32 (List.getD (wrdL b (Subtype.val x)) (Int.toNat (IntKind.wrap IntKind.i64 ((↑((16 : Nat) + Subtype.val x) : Int) - (15 : Int)))) (0 : Int)) = Value.int IntKind.u32 (List.getD (wrdL b (Subtype.val x)) (Int.toNat (IntKind.wrap IntKind.i64 ((↑((16 : Nat) + Subtype.val x) : Int) - (15 : Int)))) (0 : Int)) ∧ Value.int IntKind.i64 (-7 : Int) = Value.int IntKind.i64 (-7 : Int) ∧ true = true ∧ Value.int IntKind.u32 (List.getD (wrdL b (Subtype.val x)) (Int.toNat (IntKind.wrap IntKind.i64 ((↑((16 : Nat) + Subtype.val x) : Int) - (15 : Int)))) (0 : Int)) = Value.int IntKind.u32 (List.getD (wrdL b (Subtype.val x)) (Int.toNat (IntKind.wrap IntKind.i64 ((↑((16 : Nat) + Subtype.val x) : Int) - (15 : Int)))) (0 : Int)) ∧ Value.int IntKind.i64 (-18 : Int) = Value.int IntKind.i64 (-18 : Int) ∧ (0 : Int) ≤ (3 : Int) ∧ true = true ∧ Value.int IntKind.u32 (List.getD (wrdL b (Subtype.val x)) (Int.toNat (IntKind.wrap IntKind.i64 ((↑((16 : Nat) + Subtype.val x) : Int) - (2 : Int)))) (0 : Int)) = Value.int IntKind.u32 (List.getD (wrdL b (Subtype.val x)) (Int.toNat (IntKind.wrap IntKind.i64 ((↑((16 : Nat) + Subtype.val x) : Int) - (2 : Int)))) (0 : Int)) ∧ Value.int IntKind.i64 (-17 : Int) = Value.int IntKind.i64 (-17 : Int) ∧ true = true ∧ Value.int IntKind.u32 (List.getD (wrdL b (Subtype.val x)) (Int.toNat (IntKind.wrap IntKind.i64 ((↑((16 : Nat) + Subtype.val x) : Int) - (2 : Int)))) (0 : Int)) = Value.int IntKind.u32 (List.getD (wrdL b (Subtype.val x)) (Int.toNat (IntKind.wrap IntKind.i64 ((↑((16 : Nat) + Subtype.val x) : Int) - (2 : Int)))) (0 : Int)) ∧ Value.int IntKind.i64 (-19 : Int) = Value.int IntKind.i64 (-19 : Int) ∧ (0 : Int) ≤ (10 : Int) ∧ (0 : Int) ≤ IntKind.wrap IntKind.i64 ((↑((16 : Nat) + Subtype.val x) : Int) - (7 : Int)) ∧ IntKind.wrap IntKind.i64 ((↑((16 : Nat) + Subtype.val x) : Int) - (7 : Int)) < (64 : Int) ∧ Int.toNat (IntKind.wrap IntKind.i64 ((↑((16 : Nat) + Subtype.val x) : Int) - (7 : Int))) < (64 : Nat) ∧ (0 : Int) ≤ IntKind.wrap IntKind.i64 ((↑((16 : Nat) + Subtype.val x) : Int) - (16 : Int)) ∧ IntKind.wrap IntKind.i64 ((↑((16 : Nat) + Subtype.val x) : Int) - (16 : Int)) < (64 : Int) ∧ Int.toNat (IntKind.wrap IntKind.i64 ((↑((16 : Nat) + Subtype.val x) : Int) - (16 : Int))) < (64 : Nat) ∧ (0 : Int) ≤ (↑((16 : Nat) + Subtype.val x) : Int) ∧ (↑((16 : Nat) + Subtype.val x) : Int) < (64 : Int) ∧ Int.toNat (↑((16 : Nat) + Subtype.val x) : Int) < (64 : Nat) ∧ ∃ (y : { k : Nat // k ≤ (48 : Nat) }), (true = true ∧ true = true ∧ (65 : Nat) = (65 : Nat) ∧ getL [(0 : Nat), (1 : Nat)] (0 : Nat) = some (0 : Nat) ∧ (0 : Nat) = (0 : Nat) ∧ getL [(0 : Nat), (1 : Nat)] (1 : Nat) = some (1 : Nat) ∧ (0 : Nat) = (0 : Nat) ∧ Value.int IntKind.i64 (IntKind.wrap IntKind.i64 ((↑((16 : Nat) + Subtype.val x) : Int) + (1 : Int))) = Value.int IntKind.i64 (↑((16 : Nat) + Subtype.val y) : Int) ∧ (101 : Nat) = (101 : Nat) ∧ (64 : Nat) = (64 : Nat) ∧ List.replicate (64 : Nat) (0 : Int) = List.replicate (64 : Nat) (0 : Int) ∧ (101 : Nat) = (101 : Nat) ∧ (64 : Nat) = (64 : Nat) ∧ List.set (wrdL b (Subtype.val x)) (Int.toNat (↑((16 : Nat) + Subtype.val x) : Int)) (IntKind.wrap IntKind.u32 (IntKind.wrap IntKind.u32 (IntKind.wrap IntKind.u32 (bits BinOp.xor IntKind.u32 (bits BinOp.xor IntKind.u32 (rotM (List.getD (wrdL b (Subtype.val x)) (Int.toNat (IntKind.wrap IntKind.i64 ((↑((16 : Nat) + Subtype.val x) : Int) - (2 : Int)))) (0 : Int)) (15 : Int)) (rotM (List.getD (wrdL b (Subtype.val x)) (Int.toNat (IntKind.wrap IntKind.i64 ((↑((16 : Nat) + Subtype.val x) : Int) - (2 : Int)))) (0 : Int)) (13 : Int))) (sShr IntKind.u32 (List.getD (wrdL b (Subtype.val x)) (Int.toNat (IntKind.wrap IntKind.i64 ((↑((16 : Nat) + Subtype.val x) : Int) - (2 : Int)))) (0 : Int)) (10 : Int)) + List.getD (wrdL b (Subtype.val x)) (Int.toNat (IntKind.wrap IntKind.i64 ((↑((16 : Nat) + Subtype.val x) : Int) - (7 : Int)))) (0 : Int)) + bits BinOp.xor IntKind.u32 (bits BinOp.xor IntKind.u32 (rotM (List.getD (wrdL b (Subtype.val x)) (Int.toNat (IntKind.wrap IntKind.i64 ((↑((16 : Nat) + Subtype.val x) : Int) - (15 : Int)))) (0 : Int)) (25 : Int)) (rotM (List.getD (wrdL b (Subtype.val x)) (Int.toNat (IntKind.wrap IntKind.i64 ((↑((16 : Nat) + Subtype.val x) : Int) - (15 : Int)))) (0 : Int)) (14 : Int))) (sShr IntKind.u32 (List.getD (wrdL b (Subtype.val x)) (Int.toNat (IntKind.wrap IntKind.i64 ((↑((16 : Nat) + Subtype.val x) : Int) - (15 : Int)))) (0 : Int)) (3 : Int))) + List.getD (wrdL b (Subtype.val x)) (Int.toNat (IntKind.wrap IntKind.i64 ((↑((16 : Nat) + Subtype.val x) : Int) - (16 : Int)))) (0 : Int))) = wrdL b (Subtype.val y)) ∧ (48 : Nat) - Subtype.val y < (48 : Nat) - Subtype.val x else true = true ∧ true = true ∧ (65 : Nat) = (65 : Nat) ∧ (64 : Nat) = (64 : Nat) ∧ wrdL b (Subtype.val x) = wordsL b) := by kernel_rfl

set_option maxHeartbeats 8000000 in
theorem wpHWords (n : Nat) (b : List Int) (h1 : b.length = n) (h2 : 64 ≤ n) (h3 : n ≤ 140737488355328) : wpE (FHWords n b) (Tryd.f48.body.getD .skip) ⟨Tryd.f48.ntmps, slotsOf 0 (kHWords (n, b)).avs, (kHWords (n, b)).mem⟩ (finK Tryd.prog Tryd.f48.results.toList (postN (kHWords (n, b)))) := by
  with_reducible refine Eq.mpr (vcHWords n b) ?_
  have hd : ∀ k, List.take (n - k) (List.drop k b) = List.drop k b := fun k => List.take_of_length_le (by simp [h1])
  have hl : ∀ k, (List.drop k b).length = n - k := fun k => by simp [h1]
  simp only [hd, hl]
  and_intros
  all_goals try omega
  all_goals try exact True.intro
  all_goals try rfl
  · refine ⟨⟨0, by omega⟩, ?_⟩
    and_intros <;> first | exact True.intro | kernel_rfl
  · rintro ⟨k, hk⟩
    have e15 : IntKind.wrap .i64 (((16 + k : Nat) : Int) - 15) = ((16 + k - 15 : Nat) : Int) := by rw [IntKind.wrap_i64]; omega
    have e2 : IntKind.wrap .i64 (((16 + k : Nat) : Int) - 2) = ((16 + k - 2 : Nat) : Int) := by rw [IntKind.wrap_i64]; omega
    have e7 : IntKind.wrap .i64 (((16 + k : Nat) : Int) - 7) = ((16 + k - 7 : Nat) : Int) := by rw [IntKind.wrap_i64]; omega
    have e16 : IntKind.wrap .i64 (((16 + k : Nat) : Int) - 16) = ((16 + k - 16 : Nat) : Int) := by rw [IntKind.wrap_i64]; omega
    have e1 : IntKind.wrap .i64 (((16 + k : Nat) : Int) + 1) = ((16 + (k + 1) : Nat) : Int) := by rw [IntKind.wrap_i64]; omega
    simp only [e15, e2, e7, e16, e1, Bool.cond_decide, Int.toNat_natCast]
    by_cases h : (((16 + k : Nat) : Int) < 64)
    · rw [if_pos h]
      and_intros
      all_goals try omega
      all_goals try exact True.intro
      all_goals try rfl
      refine ⟨⟨k + 1, by omega⟩, ?_⟩
      and_intros
      all_goals try omega
      all_goals first | exact True.intro | rfl | (show 48 - (k + 1) < 48 - k; omega)
    · rw [if_neg h]
      have : k = 48 := by omega
      subst this
      and_intros <;> first | exact True.intro | rfl
set_option maxHeartbeats 8000000 in
theorem cHWords_ok : SpecOK Tryd.prog cHWords := by
  refine callG_ok (c := Tryd.f48.body.getD .skip) mixed Tryd.func48 (by kernel_rfl) rfl (fun x hob => ?_)
  obtain ⟨n, b⟩ := x
  have hob : (b.length = n) ∧ (64 ≤ n) ∧ (n ≤ 140737488355328) := hob
  obtain ⟨h1, h2, h3⟩ := hob
  exact ⟨FHWords n b, rfl, evOKs ⟨.inl ⟨cHWord_ok, by kernel_rfl, gl_nil rfl⟩, ⟨.inl ⟨cRotM_ok, by kernel_rfl, gl_nil rfl⟩, trivial⟩⟩, rfl, rfl, by with_reducible exact wpHWords n b h1 h2 h3⟩
end Go.Proofs.YthhjcpiaoempfaaDoor
