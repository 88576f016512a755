/-
  chacha: up to a block.
-/
/-
  chacha: bytes mixed.
-/
/-
  chacha: mixed twice it is as it was.
-/
import Derived.Test.YthlleheeghiljaaMx
import Derived.Test.YthlleheeghiljaaOy
namespace Go.Proofs.Ythlleheeghiljaa
open Go.RowKit
set_option maxRecDepth 100000

/-- A word turned, as it is reckoned. -/
def rotE (x k : Int) : Int := bits .or .u32 (sShl .u32 x k) (sShr .u32 x (IntKind.wrap .u64 (32 - k)))
theorem rot_k {k : Int} (h1 : 0 ≤ k) (h2 : k < 32) : bits .and .u64 (IntKind.wrap .u64 k) 31 = k := by
  have hw : IntKind.wrap .u64 k = k := by rw [show IntKind.wrap .u64 k = k % 18446744073709551616 by simp [IntKind.wrap, IntKind.bits, IntKind.signed]]; omega
  rw [hw]
  have := bits_mask .u64 64 (by decide) (fun n h0 h1 => by rw [show IntKind.wrap .u64 n = n % 18446744073709551616 by simp [IntKind.wrap, IntKind.bits, IntKind.signed]]; omega) 5 (by decide) k h1 (by omega)
  rw [show (2 ^ 5 - 1 : Int) = 31 by decide] at this
  rw [this]; omega
def kRot : Int × Int → ClN := fun (x, k) => ⟨[vv (.int .u32 x), vv (.int .i64 k)], [], vv (.int .u32 (rotE x k)), [], [], [0 ≤ k, k < 32]⟩
noncomputable def FRot : FnE := ⟨mkEv Try.prog [] [] 0, [0, 1, 4, 5], fun _ _ => .rounds 0⟩
def mRot : List AV → (Nat → Option MB) → Option (List Nat × (Int × Int))
  | [.o (.c (.v (.int .u32 x))), .o (.c (.v (.int .i64 k)))], _ => some ([], (x, k))
  | _, _ => none
noncomputable def cRot : Spec := callG 58 Try.f58.ntmps mRot kRot
theorem vcRot (x k : Int) : (wpE FRot (Try.f58.body.getD .skip) ⟨Try.f58.ntmps, slotsOf 0 (kRot (x, k)).avs, (kRot (x, k)).mem⟩ (finK Try.prog Try.f58.results.toList (postN (kRot (x, k))))) = (let x1 := IntKind.wrap IntKind.u64 ((32 : Int) - bits BinOp.and IntKind.u64 (IntKind.wrap IntKind.u64 k) (31 : Int)); (0 : Int) ≤ bits BinOp.and IntKind.u64 (IntKind.wrap IntKind.u64 k) (31 : Int) ∧ (0 : Int) ≤ x1 ∧ true = true ∧ true = true ∧ (17 : Nat) = (17 : Nat) ∧ Value.int IntKind.u32 (bits BinOp.or IntKind.u32 (sShl IntKind.u32 x (bits BinOp.and IntKind.u64 (IntKind.wrap IntKind.u64 k) (31 : Int))) (sShr IntKind.u32 x x1)) = Value.int IntKind.u32 (rotE x k)) := by kernel_rfl

set_option maxHeartbeats 8000000 in
theorem wpRot (x k : Int) (h1 : 0 ≤ k) (h2 : k < 32) : wpE FRot (Try.f58.body.getD .skip) ⟨Try.f58.ntmps, slotsOf 0 (kRot (x, k)).avs, (kRot (x, k)).mem⟩ (finK Try.prog Try.f58.results.toList (postN (kRot (x, k)))) := by
  with_reducible refine Eq.mpr (vcRot x k) ?_
  rw [rot_k h1 h2]
  refine ⟨h1, ?_, rfl, rfl, rfl, rfl⟩
  rw [show IntKind.wrap .u64 (32 - k) = (32 - k) % 18446744073709551616 by simp [IntKind.wrap, IntKind.bits, IntKind.signed]]; omega
set_option maxHeartbeats 8000000 in
theorem cRot_ok : SpecOK Try.prog cRot := by
  refine callG_ok (c := Try.f58.body.getD .skip) mixed Try.func58 (by kernel_rfl) rfl (fun x hob => ?_)
  obtain ⟨x, k⟩ := x
  have hob : (0 ≤ k) ∧ (k < 32) := hob
  obtain ⟨h1, h2⟩ := hob
  exact ⟨FRot, rfl, evOKs trivial, rfl, rfl, by with_reducible exact wpRot x k h1 h2⟩

/-- Four bytes as a word, as it is reckoned. -/
def wordE (a b c d : Int) : Int := bits .or .u32 (bits .or .u32 (bits .or .u32 (IntKind.wrap .u32 a) (sShl .u32 (IntKind.wrap .u32 b) 8)) (sShl .u32 (IntKind.wrap .u32 c) 16)) (sShl .u32 (IntKind.wrap .u32 d) 24)
def wordAt (l : List Int) (k : Nat) : Int := wordE (l.getD (k + 0) 0) (l.getD (k + 1) 0) (l.getD (k + 2) 0) (l.getD (k + 3) 0)
def kWord : Nat × (List Int) → ClN := fun (n, l) => ⟨[.o (.c (.rs 1 n (.i .u8 l)))], [], vv (.int .u32 (wordAt l 0)), [], [], [4 ≤ n, l.length = n]⟩
noncomputable def FWord : FnE := ⟨mkEv Try.prog [] [] 0, [0, 2], fun _ _ => .rounds 6⟩
def mWord : List AV → (Nat → Option MB) → Option (List Nat × (Nat × (List Int)))
  | [.o (.c c)], lk => match slI lk c with
    | some (n, l) => some ([], n, l)
    | none => none
  | _, _ => none
noncomputable def cWord : Spec := callG 41 Try.f41.ntmps mWord kWord
theorem vcWord (n : Nat) (l : List Int) : (wpE FWord (Try.f41.body.getD .skip) ⟨Try.f41.ntmps, slotsOf 0 (kWord (n, l)).avs, (kWord (n, l)).mem⟩ (finK Try.prog Try.f41.results.toList (postN (kWord (n, l))))) = ((0 : Int) ≤ (0 : Int) ∧ (0 : Int) < (↑n : Int) ∧ (0 : Nat) < List.length l ∧ (0 : Int) ≤ (1 : Int) ∧ (1 : Int) < (↑n : Int) ∧ (1 : Nat) < List.length l ∧ (0 : Int) ≤ (8 : Int) ∧ (0 : Int) ≤ (2 : Int) ∧ (2 : Int) < (↑n : Int) ∧ (2 : Nat) < List.length l ∧ (0 : Int) ≤ (16 : Int) ∧ (0 : Int) ≤ (3 : Int) ∧ (3 : Int) < (↑n : Int) ∧ (3 : Nat) < List.length l ∧ (0 : Int) ≤ (24 : Int) ∧ true = true ∧ true = true ∧ (25 : Nat) = (25 : Nat) ∧ Value.int IntKind.u32 (bits BinOp.or IntKind.u32 (bits BinOp.or IntKind.u32 (bits BinOp.or IntKind.u32 (IntKind.wrap IntKind.u32 (List.getD l (0 : Nat) (0 : Int))) (sShl IntKind.u32 (IntKind.wrap IntKind.u32 (List.getD l (1 : Nat) (0 : Int))) (8 : Int))) (sShl IntKind.u32 (IntKind.wrap IntKind.u32 (List.getD l (2 : Nat) (0 : Int))) (16 : Int))) (sShl IntKind.u32 (IntKind.wrap IntKind.u32 (List.getD l (3 : Nat) (0 : Int))) (24 : Int))) = Value.int IntKind.u32 (wordAt l (0 : Nat))) := by kernel_rfl

set_option maxHeartbeats 8000000 in
theorem wpWord (n : Nat) (l : List Int) (h1 : 4 ≤ n) (h2 : l.length = n) : wpE FWord (Try.f41.body.getD .skip) ⟨Try.f41.ntmps, slotsOf 0 (kWord (n, l)).avs, (kWord (n, l)).mem⟩ (finK Try.prog Try.f41.results.toList (postN (kWord (n, l)))) := by
  with_reducible refine Eq.mpr (vcWord n l) ?_
  intros
  and_intros <;> first | omega | exact True.intro | kernel_rfl
set_option maxHeartbeats 8000000 in
theorem cWord_ok : SpecOK Try.prog cWord := by
  refine callG_ok (c := Try.f41.body.getD .skip) mixed Try.func41 (by kernel_rfl) rfl (fun x hob => ?_)
  obtain ⟨n, l⟩ := x
  have hob : (4 ≤ n) ∧ (l.length = n) := hob
  obtain ⟨h1, h2⟩ := hob
  exact ⟨FWord, rfl, evOKs trivial, rfl, rfl, by with_reducible exact wpWord n l h1 h2⟩

def putL (l : List Int) (k : Nat) (x : Int) : List Int := (((l.set (k + 0) (IntKind.wrap .u8 (sShr .u32 x 0))).set (k + 1) (IntKind.wrap .u8 (sShr .u32 x 8))).set (k + 2) (IntKind.wrap .u8 (sShr .u32 x 16))).set (k + 3) (IntKind.wrap .u8 (sShr .u32 x 24))
def kPut : Nat × Nat × Nat × Nat × (List Int) × Int → ClN := fun (k, n, ty, m, l, x) => ⟨[.o (.c (.sub 0 0 k n)), vv (.int .u32 x)], [.fix ty [.many m (.i .u8 l)]], .t [], [.fix ty [.many m (.i .u8 (putL l k x))]], [0], [4 ≤ n, k + 4 ≤ m]⟩
noncomputable def FPut : FnE := ⟨mkEv Try.prog [] [] 1, [0, 1, 4, 5, 6], fun _ _ => .rounds 6⟩
def mPut : List AV → (Nat → Option MB) → Option (List Nat × (Nat × Nat × Nat × Nat × (List Int) × Int))
  | [.o (.c (.sub i 0 k n)), .o (.c (.v (.int .u32 x)))], lk => match lk i with
    | some (.fix ty [.many m (.i .u8 l)]) => some ([i], k, n, ty, m, l, x)
    | _ => none
  | _, _ => none
noncomputable def cPut : Spec := callG 43 Try.f43.ntmps mPut kPut
theorem vcPut (k n ty m : Nat) (l : List Int) (x : Int) : (wpE FPut (Try.f43.body.getD .skip) ⟨Try.f43.ntmps, slotsOf 0 (kPut (k, n, ty, m, l, x)).avs, (kPut (k, n, ty, m, l, x)).mem⟩ (finK Try.prog Try.f43.results.toList (postN (kPut (k, n, ty, m, l, x))))) = ((0 : Int) ≤ (0 : Int) ∧ (0 : Int) ≤ (0 : Int) ∧ (0 : Int) < (↑n : Int) ∧ k + (0 : Nat) < m ∧ (0 : Int) ≤ (8 : Int) ∧ (0 : Int) ≤ (1 : Int) ∧ (1 : Int) < (↑n : Int) ∧ k + (1 : Nat) < m ∧ (0 : Int) ≤ (16 : Int) ∧ (0 : Int) ≤ (2 : Int) ∧ (2 : Int) < (↑n : Int) ∧ k + (2 : Nat) < m ∧ (0 : Int) ≤ (24 : Int) ∧ (0 : Int) ≤ (3 : Int) ∧ (3 : Int) < (↑n : Int) ∧ k + (3 : Nat) < m ∧ true = true ∧ true = true ∧ (17 : Nat) = (17 : Nat) ∧ ty = ty ∧ m = m ∧ List.set (List.set (List.set (List.set l (k + (0 : Nat)) (IntKind.wrap IntKind.u8 (sShr IntKind.u32 x (0 : Int)))) (k + (1 : Nat)) (IntKind.wrap IntKind.u8 (sShr IntKind.u32 x (8 : Int)))) (k + (2 : Nat)) (IntKind.wrap IntKind.u8 (sShr IntKind.u32 x (16 : Int)))) (k + (3 : Nat)) (IntKind.wrap IntKind.u8 (sShr IntKind.u32 x (24 : Int))) = putL l k x) := by kernel_rfl

set_option maxHeartbeats 8000000 in
theorem wpPut (k n ty m : Nat) (l : List Int) (x : Int) (h1 : 4 ≤ n) (h2 : k + 4 ≤ m) : wpE FPut (Try.f43.body.getD .skip) ⟨Try.f43.ntmps, slotsOf 0 (kPut (k, n, ty, m, l, x)).avs, (kPut (k, n, ty, m, l, x)).mem⟩ (finK Try.prog Try.f43.results.toList (postN (kPut (k, n, ty, m, l, x)))) := by
  with_reducible refine Eq.mpr (vcPut k n ty m l x) ?_
  intros
  and_intros <;> first | omega | exact True.intro | kernel_rfl
set_option maxHeartbeats 8000000 in
theorem cPut_ok : SpecOK Try.prog cPut := by
  refine callG_ok (c := Try.f43.body.getD .skip) mixed Try.func43 (by kernel_rfl) rfl (fun x hob => ?_)
  obtain ⟨k, n, ty, m, l, x⟩ := x
  have hob : (4 ≤ n) ∧ (k + 4 ≤ m) := hob
  obtain ⟨h1, h2⟩ := hob
  exact ⟨FPut, rfl, evOKs trivial, rfl, rfl, by with_reducible exact wpPut k n ty m l x h1 h2⟩

/-- Half a quarter: the words at a, b, c, d, turned by r and s. -/
def half1 (l : List Int) (a b : Nat) : List Int := l.set a (IntKind.wrap .u32 (l.getD a 0 + l.getD b 0))
def half2 (l : List Int) (d a : Nat) (r : Int) : List Int := l.set d (rotE (bits .xor .u32 (l.getD d 0) (l.getD a 0)) r)
def halfL (l : List Int) (a b c d : Nat) (r s : Int) : List Int := half2 (half1 (half2 (half1 l a b) d a r) c d) b c s
def kHalf : Int × Int × Int × Int × Int × Int × Nat × Nat × (List Int) → ClN := fun (a, b, c, d, r, s, ty, m, l) => ⟨[.o (.c (.ptr 0 0 none)), vv (.int .i64 a), vv (.int .i64 b), vv (.int .i64 c), vv (.int .i64 d), vv (.int .i64 r), vv (.int .i64 s)], [.fix ty [.many m (.i .u32 l)]], .t [], [.fix ty [.many m (.i .u32 (halfL l a.toNat b.toNat c.toNat d.toNat r s))]], [0], [0 ≤ a ∧ a < 16, 0 ≤ b ∧ b < 16, 0 ≤ c ∧ c < 16, 0 ≤ d ∧ d < 16, 0 ≤ r ∧ r < 32, 0 ≤ s ∧ s < 32, 16 ≤ m]⟩
noncomputable def FHalf : FnE := ⟨mkEv Try.prog [] [cRot] 1, [0, 1, 2, 3, 4, 5, 6], fun _ _ => .rounds 0⟩
def mHalf : List AV → (Nat → Option MB) → Option (List Nat × (Int × Int × Int × Int × Int × Int × Nat × Nat × (List Int)))
  | [.o (.c (.ptr i 0 none)), .o (.c (.v (.int .i64 a))), .o (.c (.v (.int .i64 b))), .o (.c (.v (.int .i64 c))), .o (.c (.v (.int .i64 d))), .o (.c (.v (.int .i64 r))), .o (.c (.v (.int .i64 s)))], lk => match lk i with
    | some (.fix ty [.many m (.i .u32 l)]) => some ([i], a, b, c, d, r, s, ty, m, l)
    | _ => none
  | _, _ => none
noncomputable def cHalf : Spec := callG 57 Try.f57.ntmps mHalf kHalf
theorem vcHalf (a b c d r s : Int) (ty m : Nat) (l : List Int) : (wpE FHalf (Try.f57.body.getD .skip) ⟨Try.f57.ntmps, slotsOf 0 (kHalf (a, b, c, d, r, s, ty, m, l)).avs, (kHalf (a, b, c, d, r, s, ty, m, l)).mem⟩ (finK Try.prog Try.f57.results.toList (postN (kHalf (a, b, c, d, r, s, ty, m, l))))) = (let x1 := List.set l (Int.toNat a) (IntKind.wrap IntKind.u32 (List.getD l (Int.toNat a) (0 : Int) + List.getD l (Int.toNat b) (0 : Int))); let x2 := bits BinOp.xor IntKind.u32 (List.getD x1 (Int.toNat d) (0 : Int)) (List.getD x1 (Int.toNat a) (0 : Int)); let x3 := List.set x1 (Int.toNat d) (rotE x2 r); let x4 := List.set x3 (Int.toNat c) (IntKind.wrap IntKind.u32 (List.getD x3 (Int.toNat c) (0 : Int) + List.getD x3 (Int.toNat d) (0 : Int))); let x5 := bits BinOp.xor IntKind.u32 (List.getD x4 (Int.toNat b) (0 : Int)) (List.getD x4 (Int.toNat c) (0 : Int)); (0 : Int) ≤ a ∧ a < (16 : Int) ∧ Int.toNat a < m ∧ (0 : Int) ≤ b ∧ b < (16 : Int) ∧ Int.toNat b < m ∧ (0 : Int) ≤ a ∧ a < (16 : Int) ∧ Int.toNat a < m ∧ (0 : Int) ≤ d ∧ d < (16 : Int) ∧ Int.toNat d < m ∧ (0 : Int) ≤ a ∧ a < (16 : Int) ∧ Int.toNat a < m ∧ true = true ∧ Value.int IntKind.u32 x2 = Value.int IntKind.u32 x2 ∧ Value.int IntKind.i64 r = Value.int IntKind.i64 r ∧ (0 : Int) ≤ r ∧ r < (32 : Int) ∧ (0 : Int) ≤ d ∧ d < (16 : Int) ∧ Int.toNat d < m ∧ (0 : Int) ≤ c ∧ c < (16 : Int) ∧ Int.toNat c < m ∧ (0 : Int) ≤ d ∧ d < (16 : Int) ∧ Int.toNat d < m ∧ (0 : Int) ≤ c ∧ c < (16 : Int) ∧ Int.toNat c < m ∧ (0 : Int) ≤ b ∧ b < (16 : Int) ∧ Int.toNat b < m ∧ (0 : Int) ≤ c ∧ c < (16 : Int) ∧ Int.toNat c < m ∧ true = true ∧ Value.int IntKind.u32 x5 = Value.int IntKind.u32 x5 ∧ Value.int IntKind.i64 s = Value.int IntKind.i64 s ∧ (0 : Int) ≤ s ∧ s < (32 : Int) ∧ (0 : Int) ≤ b ∧ b < (16 : Int) ∧ Int.toNat b < m ∧ true = true ∧ true = true ∧ (74 : Nat) = (74 : Nat) ∧ ty = ty ∧ m = m ∧ List.set x4 (Int.toNat b) (rotE x5 s) = halfL l (Int.toNat a) (Int.toNat b) (Int.toNat c) (Int.toNat d) r s) := by kernel_rfl

set_option maxHeartbeats 8000000 in
theorem wpHalf (a b c d r s : Int) (ty m : Nat) (l : List Int) (h1 : 0 ≤ a ∧ a < 16) (h2 : 0 ≤ b ∧ b < 16) (h3 : 0 ≤ c ∧ c < 16) (h4 : 0 ≤ d ∧ d < 16) (h5 : 0 ≤ r ∧ r < 32) (h6 : 0 ≤ s ∧ s < 32) (h7 : 16 ≤ m) : wpE FHalf (Try.f57.body.getD .skip) ⟨Try.f57.ntmps, slotsOf 0 (kHalf (a, b, c, d, r, s, ty, m, l)).avs, (kHalf (a, b, c, d, r, s, ty, m, l)).mem⟩ (finK Try.prog Try.f57.results.toList (postN (kHalf (a, b, c, d, r, s, ty, m, l)))) := by
  with_reducible refine Eq.mpr (vcHalf a b c d r s ty m l) ?_
  intros
  and_intros <;> first | omega | exact True.intro | kernel_rfl
set_option maxHeartbeats 8000000 in
theorem cHalf_ok : SpecOK Try.prog cHalf := by
  refine callG_ok (c := Try.f57.body.getD .skip) mixed Try.func57 (by kernel_rfl) rfl (fun x hob => ?_)
  obtain ⟨a, b, c, d, r, s, ty, m, l⟩ := x
  have hob : (0 ≤ a ∧ a < 16) ∧ (0 ≤ b ∧ b < 16) ∧ (0 ≤ c ∧ c < 16) ∧ (0 ≤ d ∧ d < 16) ∧ (0 ≤ r ∧ r < 32) ∧ (0 ≤ s ∧ s < 32) ∧ (16 ≤ m) := hob
  obtain ⟨h1, h2, h3, h4, h5, h6, h7⟩ := hob
  exact ⟨FHalf, rfl, evOKs ⟨.inl ⟨cRot_ok, by kernel_rfl, gl_nil rfl⟩, trivial⟩, rfl, rfl, by with_reducible exact wpHalf a b c d r s ty m l h1 h2 h3 h4 h5 h6 h7⟩

def quarterL (l : List Int) (a b c d : Nat) : List Int := halfL (halfL l a b c d 16 12) a b c d 8 7
def kQuarter : Int × Int × Int × Int × Nat × Nat × (List Int) → ClN := fun (a, b, c, d, ty, m, l) => ⟨[.o (.c (.ptr 0 0 none)), vv (.int .i64 a), vv (.int .i64 b), vv (.int .i64 c), vv (.int .i64 d)], [.fix ty [.many m (.i .u32 l)]], .t [], [.fix ty [.many m (.i .u32 (quarterL l a.toNat b.toNat c.toNat d.toNat))]], [0], [0 ≤ a ∧ a < 16, 0 ≤ b ∧ b < 16, 0 ≤ c ∧ c < 16, 0 ≤ d ∧ d < 16, 16 ≤ m]⟩
noncomputable def FQuarter : FnE := ⟨mkEv Try.prog [] [cHalf] 1, [0, 1, 2, 3, 4], fun _ _ => .rounds 0⟩
def mQuarter : List AV → (Nat → Option MB) → Option (List Nat × (Int × Int × Int × Int × Nat × Nat × (List Int)))
  | [.o (.c (.ptr i 0 none)), .o (.c (.v (.int .i64 a))), .o (.c (.v (.int .i64 b))), .o (.c (.v (.int .i64 c))), .o (.c (.v (.int .i64 d)))], lk => match lk i with
    | some (.fix ty [.many m (.i .u32 l)]) => some ([i], a, b, c, d, ty, m, l)
    | _ => none
  | _, _ => none
noncomputable def cQuarter : Spec := callG 55 Try.f55.ntmps mQuarter kQuarter
theorem vcQuarter (a b c d : Int) (ty m : Nat) (l : List Int) : (wpE FQuarter (Try.f55.body.getD .skip) ⟨Try.f55.ntmps, slotsOf 0 (kQuarter (a, b, c, d, ty, m, l)).avs, (kQuarter (a, b, c, d, ty, m, l)).mem⟩ (finK Try.prog Try.f55.results.toList (postN (kQuarter (a, b, c, d, ty, m, l))))) = (let x1 := halfL l (Int.toNat a) (Int.toNat b) (Int.toNat c) (Int.toNat d) (16 : Int) (12 : Int); true = true ∧ getL [(0 : Nat)] (0 : Nat) = some (0 : Nat) ∧ (0 : Nat) = (0 : Nat) ∧ Value.int IntKind.i64 a = Value.int IntKind.i64 a ∧ Value.int IntKind.i64 b = Value.int IntKind.i64 b ∧ Value.int IntKind.i64 c = Value.int IntKind.i64 c ∧ Value.int IntKind.i64 d = Value.int IntKind.i64 d ∧ Value.int IntKind.i64 (16 : Int) = Value.int IntKind.i64 (16 : Int) ∧ Value.int IntKind.i64 (12 : Int) = Value.int IntKind.i64 (12 : Int) ∧ ty = ty ∧ m = m ∧ l = l ∧ ((0 : Int) ≤ a ∧ a < (16 : Int)) ∧ ((0 : Int) ≤ b ∧ b < (16 : Int)) ∧ ((0 : Int) ≤ c ∧ c < (16 : Int)) ∧ ((0 : Int) ≤ d ∧ d < (16 : Int)) ∧ ((0 : Int) ≤ (16 : Int) ∧ (16 : Int) < (32 : Int)) ∧ ((0 : Int) ≤ (12 : Int) ∧ (12 : Int) < (32 : Int)) ∧ (16 : Nat) ≤ m ∧ true = true ∧ getL [(0 : Nat)] (0 : Nat) = some (0 : Nat) ∧ (0 : Nat) = (0 : Nat) ∧ Value.int IntKind.i64 a = Value.int IntKind.i64 a ∧ Value.int IntKind.i64 b = Value.int IntKind.i64 b ∧ Value.int IntKind.i64 c = Value.int IntKind.i64 c ∧ Value.int IntKind.i64 d = Value.int IntKind.i64 d ∧ Value.int IntKind.i64 (8 : Int) = Value.int IntKind.i64 (8 : Int) ∧ Value.int IntKind.i64 (7 : Int) = Value.int IntKind.i64 (7 : Int) ∧ ty = ty ∧ m = m ∧ x1 = x1 ∧ ((0 : Int) ≤ a ∧ a < (16 : Int)) ∧ ((0 : Int) ≤ b ∧ b < (16 : Int)) ∧ ((0 : Int) ≤ c ∧ c < (16 : Int)) ∧ ((0 : Int) ≤ d ∧ d < (16 : Int)) ∧ ((0 : Int) ≤ (8 : Int) ∧ (8 : Int) < (32 : Int)) ∧ ((0 : Int) ≤ (7 : Int) ∧ (7 : Int) < (32 : Int)) ∧ (16 : Nat) ≤ m ∧ true = true ∧ true = true ∧ (22 : Nat) = (22 : Nat) ∧ ty = ty ∧ m = m ∧ halfL x1 (Int.toNat a) (Int.toNat b) (Int.toNat c) (Int.toNat d) (8 : Int) (7 : Int) = quarterL l (Int.toNat a) (Int.toNat b) (Int.toNat c) (Int.toNat d)) := by kernel_rfl

set_option maxHeartbeats 8000000 in
theorem wpQuarter (a b c d : Int) (ty m : Nat) (l : List Int) (h1 : 0 ≤ a ∧ a < 16) (h2 : 0 ≤ b ∧ b < 16) (h3 : 0 ≤ c ∧ c < 16) (h4 : 0 ≤ d ∧ d < 16) (h5 : 16 ≤ m) : wpE FQuarter (Try.f55.body.getD .skip) ⟨Try.f55.ntmps, slotsOf 0 (kQuarter (a, b, c, d, ty, m, l)).avs, (kQuarter (a, b, c, d, ty, m, l)).mem⟩ (finK Try.prog Try.f55.results.toList (postN (kQuarter (a, b, c, d, ty, m, l)))) := by
  with_reducible refine Eq.mpr (vcQuarter a b c d ty m l) ?_
  intros
  and_intros <;> first | omega | exact True.intro | kernel_rfl
set_option maxHeartbeats 8000000 in
theorem cQuarter_ok : SpecOK Try.prog cQuarter := by
  refine callG_ok (c := Try.f55.body.getD .skip) mixed Try.func55 (by kernel_rfl) rfl (fun x hob => ?_)
  obtain ⟨a, b, c, d, ty, m, l⟩ := x
  have hob : (0 ≤ a ∧ a < 16) ∧ (0 ≤ b ∧ b < 16) ∧ (0 ≤ c ∧ c < 16) ∧ (0 ≤ d ∧ d < 16) ∧ (16 ≤ m) := hob
  obtain ⟨h1, h2, h3, h4, h5⟩ := hob
  exact ⟨FQuarter, rfl, evOKs ⟨.inl ⟨cHalf_ok, by kernel_rfl, gl_nil rfl⟩, trivial⟩, rfl, rfl, by with_reducible exact wpQuarter a b c d ty m l h1 h2 h3 h4 h5⟩

def twoL (l : List Int) : List Int := quarterL (quarterL (quarterL (quarterL (quarterL (quarterL (quarterL (quarterL l 0 4 8 12) 1 5 9 13) 2 6 10 14) 3 7 11 15) 0 5 10 15) 1 6 11 12) 2 7 8 13) 3 4 9 14
def kTwo : Nat × Nat × (List Int) → ClN := fun (ty, m, l) => ⟨[.o (.c (.ptr 0 0 none))], [.fix ty [.many m (.i .u32 l)]], .t [], [.fix ty [.many m (.i .u32 (twoL l))]], [0], [16 ≤ m]⟩
noncomputable def FTwo : FnE := ⟨mkEv Try.prog [] [cQuarter] 1, [0, 2, 3, 4, 5, 17, 18], fun _ _ => .rounds 6⟩
def mTwo : List AV → (Nat → Option MB) → Option (List Nat × (Nat × Nat × (List Int)))
  | [.o (.c (.ptr i 0 none))], lk => match lk i with
    | some (.fix ty [.many m (.i .u32 l)]) => some ([i], ty, m, l)
    | _ => none
  | _, _ => none
noncomputable def cTwo : Spec := callG 42 Try.f42.ntmps mTwo kTwo
theorem vcTwo (ty m : Nat) (l : List Int) : (wpE FTwo (Try.f42.body.getD .skip) ⟨Try.f42.ntmps, slotsOf 0 (kTwo (ty, m, l)).avs, (kTwo (ty, m, l)).mem⟩ (finK Try.prog Try.f42.results.toList (postN (kTwo (ty, m, l))))) = (let x1 := quarterL l (0 : Nat) (4 : Nat) (8 : Nat) (12 : Nat); let x2 := quarterL x1 (1 : Nat) (5 : Nat) (9 : Nat) (13 : Nat); let x3 := quarterL x2 (2 : Nat) (6 : Nat) (10 : Nat) (14 : Nat); let x4 := quarterL x3 (3 : Nat) (7 : Nat) (11 : Nat) (15 : Nat); let x5 := quarterL x4 (0 : Nat) (5 : Nat) (10 : Nat) (15 : Nat); let x6 := quarterL x5 (1 : Nat) (6 : Nat) (11 : Nat) (12 : Nat); let x7 := quarterL x6 (2 : Nat) (7 : Nat) (8 : Nat) (13 : Nat); true = true ∧ getL [(0 : Nat)] (0 : Nat) = some (0 : Nat) ∧ (0 : Nat) = (0 : Nat) ∧ Value.int IntKind.i64 (0 : Int) = Value.int IntKind.i64 (0 : Int) ∧ Value.int IntKind.i64 (4 : Int) = Value.int IntKind.i64 (4 : Int) ∧ Value.int IntKind.i64 (8 : Int) = Value.int IntKind.i64 (8 : Int) ∧ Value.int IntKind.i64 (12 : Int) = Value.int IntKind.i64 (12 : Int) ∧ ty = ty ∧ m = m ∧ l = l ∧ ((0 : Int) ≤ (0 : Int) ∧ (0 : Int) < (16 : Int)) ∧ ((0 : Int) ≤ (4 : Int) ∧ (4 : Int) < (16 : Int)) ∧ ((0 : Int) ≤ (8 : Int) ∧ (8 : Int) < (16 : Int)) ∧ ((0 : Int) ≤ (12 : Int) ∧ (12 : Int) < (16 : Int)) ∧ (16 : Nat) ≤ m ∧ true = true ∧ getL [(0 : Nat)] (0 : Nat) = some (0 : Nat) ∧ (0 : Nat) = (0 : Nat) ∧ Value.int IntKind.i64 (1 : Int) = Value.int IntKind.i64 (1 : Int) ∧ Value.int IntKind.i64 (5 : Int) = Value.int IntKind.i64 (5 : Int) ∧ Value.int IntKind.i64 (9 : Int) = Value.int IntKind.i64 (9 : Int) ∧ Value.int IntKind.i64 (13 : Int) = Value.int IntKind.i64 (13 : Int) ∧ ty = ty ∧ m = m ∧ x1 = x1 ∧ ((0 : Int) ≤ (1 : Int) ∧ (1 : Int) < (16 : Int)) ∧ ((0 : Int) ≤ (5 : Int) ∧ (5 : Int) < (16 : Int)) ∧ ((0 : Int) ≤ (9 : Int) ∧ (9 : Int) < (16 : Int)) ∧ ((0 : Int) ≤ (13 : Int) ∧ (13 : Int) < (16 : Int)) ∧ (16 : Nat) ≤ m ∧ true = true ∧ getL [(0 : Nat)] (0 : Nat) = some (0 : Nat) ∧ (0 : Nat) = (0 : Nat) ∧ Value.int IntKind.i64 (2 : Int) = Value.int IntKind.i64 (2 : Int) ∧ Value.int IntKind.i64 (6 : Int) = Value.int IntKind.i64 (6 : Int) ∧ Value.int IntKind.i64 (10 : Int) = Value.int IntKind.i64 (10 : Int) ∧ Value.int IntKind.i64 (14 : Int) = Value.int IntKind.i64 (14 : Int) ∧ ty = ty ∧ m = m ∧ x2 = x2 ∧ ((0 : Int) ≤ (2 : Int) ∧ (2 : Int) < (16 : Int)) ∧ ((0 : Int) ≤ (6 : Int) ∧ (6 : Int) < (16 : Int)) ∧ ((0 : Int) ≤ (10 : Int) ∧ (10 : Int) < (16 : Int)) ∧ ((0 : Int) ≤ (14 : Int) ∧ (14 : Int) < (16 : Int)) ∧ (16 : Nat) ≤ m ∧ true = true ∧ getL [(0 : Nat)] (0 : Nat) = some (0 : Nat) ∧ (0 : Nat) = (0 : Nat) ∧ Value.int IntKind.i64 (3 : Int) = Value.int IntKind.i64 (3 : Int) ∧ Value.int IntKind.i64 (7 : Int) = Value.int IntKind.i64 (7 : Int) ∧ Value.int IntKind.i64 (11 : Int) = Value.int IntKind.i64 (11 : Int) ∧ Value.int IntKind.i64 (15 : Int) = Value.int IntKind.i64 (15 : Int) ∧ ty = ty ∧ m = m ∧ x3 = x3 ∧ ((0 : Int) ≤ (3 : Int) ∧ (3 : Int) < (16 : Int)) ∧ ((0 : Int) ≤ (7 : Int) ∧ (7 : Int) < (16 : Int)) ∧ ((0 : Int) ≤ (11 : Int) ∧ (11 : Int) < (16 : Int)) ∧ ((0 : Int) ≤ (15 : Int) ∧ (15 : Int) < (16 : Int)) ∧ (16 : Nat) ≤ m ∧ (4 : Int) ≠ (0 : Int) ∧ (4 : Int) ≠ (0 : Int) ∧ (4 : Int) ≠ (0 : Int) ∧ true = true ∧ getL [(0 : Nat)] (0 : Nat) = some (0 : Nat) ∧ (0 : Nat) = (0 : Nat) ∧ Value.int IntKind.i64 (0 : Int) = Value.int IntKind.i64 (0 : Int) ∧ Value.int IntKind.i64 (5 : Int) = Value.int IntKind.i64 (5 : Int) ∧ Value.int IntKind.i64 (10 : Int) = Value.int IntKind.i64 (10 : Int) ∧ Value.int IntKind.i64 (15 : Int) = Value.int IntKind.i64 (15 : Int) ∧ ty = ty ∧ m = m ∧ x4 = x4 ∧ ((0 : Int) ≤ (0 : Int) ∧ (0 : Int) < (16 : Int)) ∧ ((0 : Int) ≤ (5 : Int) ∧ (5 : Int) < (16 : Int)) ∧ ((0 : Int) ≤ (10 : Int) ∧ (10 : Int) < (16 : Int)) ∧ ((0 : Int) ≤ (15 : Int) ∧ (15 : Int) < (16 : Int)) ∧ (16 : Nat) ≤ m ∧ (4 : Int) ≠ (0 : Int) ∧ (4 : Int) ≠ (0 : Int) ∧ (4 : Int) ≠ (0 : Int) ∧ true = true ∧ getL [(0 : Nat)] (0 : Nat) = some (0 : Nat) ∧ (0 : Nat) = (0 : Nat) ∧ Value.int IntKind.i64 (1 : Int) = Value.int IntKind.i64 (1 : Int) ∧ Value.int IntKind.i64 (6 : Int) = Value.int IntKind.i64 (6 : Int) ∧ Value.int IntKind.i64 (11 : Int) = Value.int IntKind.i64 (11 : Int) ∧ Value.int IntKind.i64 (12 : Int) = Value.int IntKind.i64 (12 : Int) ∧ ty = ty ∧ m = m ∧ x5 = x5 ∧ ((0 : Int) ≤ (1 : Int) ∧ (1 : Int) < (16 : Int)) ∧ ((0 : Int) ≤ (6 : Int) ∧ (6 : Int) < (16 : Int)) ∧ ((0 : Int) ≤ (11 : Int) ∧ (11 : Int) < (16 : Int)) ∧ ((0 : Int) ≤ (12 : Int) ∧ (12 : Int) < (16 : Int)) ∧ (16 : Nat) ≤ m ∧ (4 : Int) ≠ (0 : Int) ∧ (4 : Int) ≠ (0 : Int) ∧ (4 : Int) ≠ (0 : Int) ∧ true = true ∧ getL [(0 : Nat)] (0 : Nat) = some (0 : Nat) ∧ (0 : Nat) = (0 : Nat) ∧ Value.int IntKind.i64 (2 : Int) = Value.int IntKind.i64 (2 : Int) ∧ Value.int IntKind.i64 (7 : Int) = Value.int IntKind.i64 (7 : Int) ∧ Value.int IntKind.i64 (8 : Int) = Value.int IntKind.i64 (8 : Int) ∧ Value.int IntKind.i64 (13 : Int) = Value.int IntKind.i64 (13 : Int) ∧ ty = ty ∧ m = m ∧ x6 = x6 ∧ ((0 : Int) ≤ (2 : Int) ∧ (2 : Int) < (16 : Int)) ∧ ((0 : Int) ≤ (7 : Int) ∧ (7 : Int) < (16 : Int)) ∧ ((0 : Int) ≤ (8 : Int) ∧ (8 : Int) < (16 : Int)) ∧ ((0 : Int) ≤ (13 : Int) ∧ (13 : Int) < (16 : Int)) ∧ (16 : Nat) ≤ m ∧ (4 : Int) ≠ (0 : Int) ∧ (4 : Int) ≠ (0 : Int) ∧ (4 : Int) ≠ (0 : Int) ∧ true = true ∧ getL [(0 : Nat)] (0 : Nat) = some (0 : Nat) ∧ (0 : Nat) = (0 : Nat) ∧ Value.int IntKind.i64 (3 : Int) = Value.int IntKind.i64 (3 : Int) ∧ Value.int IntKind.i64 (4 : Int) = Value.int IntKind.i64 (4 : Int) ∧ Value.int IntKind.i64 (9 : Int) = Value.int IntKind.i64 (9 : Int) ∧ Value.int IntKind.i64 (14 : Int) = Value.int IntKind.i64 (14 : Int) ∧ ty = ty ∧ m = m ∧ x7 = x7 ∧ ((0 : Int) ≤ (3 : Int) ∧ (3 : Int) < (16 : Int)) ∧ ((0 : Int) ≤ (4 : Int) ∧ (4 : Int) < (16 : Int)) ∧ ((0 : Int) ≤ (9 : Int) ∧ (9 : Int) < (16 : Int)) ∧ ((0 : Int) ≤ (14 : Int) ∧ (14 : Int) < (16 : Int)) ∧ (16 : Nat) ≤ m ∧ true = true ∧ true = true ∧ (36 : Nat) = (36 : Nat) ∧ ty = ty ∧ m = m ∧ quarterL x7 (3 : Nat) (4 : Nat) (9 : Nat) (14 : Nat) = twoL l) := by kernel_rfl

set_option maxHeartbeats 8000000 in
theorem wpTwo (ty m : Nat) (l : List Int) (h1 : 16 ≤ m) : wpE FTwo (Try.f42.body.getD .skip) ⟨Try.f42.ntmps, slotsOf 0 (kTwo (ty, m, l)).avs, (kTwo (ty, m, l)).mem⟩ (finK Try.prog Try.f42.results.toList (postN (kTwo (ty, m, l)))) := by
  with_reducible refine Eq.mpr (vcTwo ty m l) ?_
  intros
  and_intros <;> first | omega | exact True.intro | kernel_rfl
set_option maxHeartbeats 8000000 in
theorem cTwo_ok : SpecOK Try.prog cTwo := by
  refine callG_ok (c := Try.f42.body.getD .skip) mixed Try.func42 (by kernel_rfl) rfl (fun x hob => ?_)
  obtain ⟨ty, m, l⟩ := x
  have hob : (16 ≤ m) := hob
  have h1 := hob
  exact ⟨FTwo, rfl, evOKs ⟨.inl ⟨cQuarter_ok, by kernel_rfl, gl_nil rfl⟩, trivial⟩, rfl, rfl, by with_reducible exact wpTwo ty m l h1⟩

/-- Ten times two rounds. -/
def tenL (l : List Int) : List Int := twoL (twoL (twoL (twoL (twoL (twoL (twoL (twoL (twoL (twoL l)))))))))
/-- The bytes of the words of x and l together, so many of them, over those of b. -/
def outL (x l : List Int) : Nat → List Int → List Int
  | 0, b => b
  | n + 1, b => putL (outL x l n b) (4 * n) (IntKind.wrap .u32 (x.getD n 0 + l.getD n 0))
def blockL (l : List Int) : List Int := outL (tenL l) l 16 (List.replicate 64 0)
def kBlk : (List Int) → ClN := fun l => ⟨[.o (.g [.many 16 (.i .u32 l)])], [], .o (.g [.many 64 (.i .u8 (blockL l))]), [], [], []⟩
noncomputable def FBlk : FnE := ⟨mkEv Try.prog [] [cTwo, cPut] 0, [0, 1, 2, 3, 4, 5, 7, 8, 11, 12], fun _ _ => .rounds 20⟩
def mBlk : List AV → (Nat → Option MB) → Option (List Nat × (List Int))
  | [.o (.g [.many 16 (.i .u32 l)])], _ => some ([], l)
  | _, _ => none
noncomputable def cBlk : Spec := callG 24 Try.f24.ntmps mBlk kBlk
theorem vcBlk (l : List Int) : (wpE FBlk (Try.f24.body.getD .skip) ⟨Try.f24.ntmps, slotsOf 0 (kBlk l).avs, (kBlk l).mem⟩ (finK Try.prog Try.f24.results.toList (postN (kBlk l)))) = (let x1 := IntKind.wrap IntKind.u32 (List.getD (twoL (twoL (twoL (twoL (twoL (twoL (twoL (twoL (twoL (twoL l)))))))))) (0 : Nat) (0 : Int) + List.getD l (0 : Nat) (0 : Int)); let x2 := IntKind.wrap IntKind.u32 (List.getD (twoL (twoL (twoL (twoL (twoL (twoL (twoL (twoL (twoL (twoL l)))))))))) (1 : Nat) (0 : Int) + List.getD l (1 : Nat) (0 : Int)); let x3 := putL (List.replicate (64 : Nat) (0 : Int)) (0 : Nat) x1; let x4 := IntKind.wrap IntKind.u32 (List.getD (twoL (twoL (twoL (twoL (twoL (twoL (twoL (twoL (twoL (twoL l)))))))))) (2 : Nat) (0 : Int) + List.getD l (2 : Nat) (0 : Int)); let x5 := putL x3 (4 : Nat) x2; let x6 := IntKind.wrap IntKind.u32 (List.getD (twoL (twoL (twoL (twoL (twoL (twoL (twoL (twoL (twoL (twoL l)))))))))) (3 : Nat) (0 : Int) + List.getD l (3 : Nat) (0 : Int)); let x7 := putL x5 (8 : Nat) x4; let x8 := IntKind.wrap IntKind.u32 (List.getD (twoL (twoL (twoL (twoL (twoL (twoL (twoL (twoL (twoL (twoL l)))))))))) (4 : Nat) (0 : Int) + List.getD l (4 : Nat) (0 : Int)); let x9 := putL x7 (12 : Nat) x6; let x10 := IntKind.wrap IntKind.u32 (List.getD (twoL (twoL (twoL (twoL (twoL (twoL (twoL (twoL (twoL (twoL l)))))))))) (5 : Nat) (0 : Int) + List.getD l (5 : Nat) (0 : Int)); let x11 := putL x9 (16 : Nat) x8; let x12 := IntKind.wrap IntKind.u32 (List.getD (twoL (twoL (twoL (twoL (twoL (twoL (twoL (twoL (twoL (twoL l)))))))))) (6 : Nat) (0 : Int) + List.getD l (6 : Nat) (0 : Int)); let x13 := putL x11 (20 : Nat) x10; let x14 := IntKind.wrap IntKind.u32 (List.getD (twoL (twoL (twoL (twoL (twoL (twoL (twoL (twoL (twoL (twoL l)))))))))) (7 : Nat) (0 : Int) + List.getD l (7 : Nat) (0 : Int)); let x15 := putL x13 (24 : Nat) x12; let x16 := IntKind.wrap IntKind.u32 (List.getD (twoL (twoL (twoL (twoL (twoL (twoL (twoL (twoL (twoL (twoL l)))))))))) (8 : Nat) (0 : Int) + List.getD l (8 : Nat) (0 : Int)); let x17 := putL x15 (28 : Nat) x14; let x18 := IntKind.wrap IntKind.u32 (List.getD (twoL (twoL (twoL (twoL (twoL (twoL (twoL (twoL (twoL (twoL l)))))))))) (9 : Nat) (0 : Int) + List.getD l (9 : Nat) (0 : Int)); let x19 := putL x17 (32 : Nat) x16; let x20 := IntKind.wrap IntKind.u32 (List.getD (twoL (twoL (twoL (twoL (twoL (twoL (twoL (twoL (twoL (twoL l)))))))))) (10 : Nat) (0 : Int) + List.getD l (10 : Nat) (0 : Int)); let x21 := putL x19 (36 : Nat) x18; let x22 := IntKind.wrap IntKind.u32 (List.getD (twoL (twoL (twoL (twoL (twoL (twoL (twoL (twoL (twoL (twoL l)))))))))) (11 : Nat) (0 : Int) + List.getD l (11 : Nat) (0 : Int)); let x23 := putL x21 (40 : Nat) x20; let x24 := IntKind.wrap IntKind.u32 (List.getD (twoL (twoL (twoL (twoL (twoL (twoL (twoL (twoL (twoL (twoL l)))))))))) (12 : Nat) (0 : Int) + List.getD l (12 : Nat) (0 : Int)); let x25 := putL x23 (44 : Nat) x22; let x26 := IntKind.wrap IntKind.u32 (List.getD (twoL (twoL (twoL (twoL (twoL (twoL (twoL (twoL (twoL (twoL l)))))))))) (13 : Nat) (0 : Int) + List.getD l (13 : Nat) (0 : Int)); let x27 := putL x25 (48 : Nat) x24; let x28 := IntKind.wrap IntKind.u32 (List.getD (twoL (twoL (twoL (twoL (twoL (twoL (twoL (twoL (twoL (twoL l)))))))))) (14 : Nat) (0 : Int) + List.getD l (14 : Nat) (0 : Int)); let x29 := putL x27 (52 : Nat) x26; let x30 := IntKind.wrap IntKind.u32 (List.getD (twoL (twoL (twoL (twoL (twoL (twoL (twoL (twoL (twoL (twoL l)))))))))) (15 : Nat) (0 : Int) + List.getD l (15 : Nat) (0 : Int)); let x31 := putL x29 (56 : Nat) x28; true = true ∧ getL [Nat.add (2 : Nat) (0 : Nat)] (0 : Nat) = some (Nat.add (2 : Nat) (0 : Nat)) ∧ (0 : Nat) = (0 : Nat) ∧ (55 : Nat) = (55 : Nat) ∧ (16 : Nat) = (16 : Nat) ∧ l = l ∧ (16 : Nat) ≤ (16 : Nat) ∧ true = true ∧ getL [Nat.add (2 : Nat) (0 : Nat)] (0 : Nat) = some (Nat.add (2 : Nat) (0 : Nat)) ∧ (0 : Nat) = (0 : Nat) ∧ (55 : Nat) = (55 : Nat) ∧ (16 : Nat) = (16 : Nat) ∧ twoL l = twoL l ∧ (16 : Nat) ≤ (16 : Nat) ∧ true = true ∧ getL [Nat.add (2 : Nat) (0 : Nat)] (0 : Nat) = some (Nat.add (2 : Nat) (0 : Nat)) ∧ (0 : Nat) = (0 : Nat) ∧ (55 : Nat) = (55 : Nat) ∧ (16 : Nat) = (16 : Nat) ∧ twoL (twoL l) = twoL (twoL l) ∧ (16 : Nat) ≤ (16 : Nat) ∧ true = true ∧ getL [Nat.add (2 : Nat) (0 : Nat)] (0 : Nat) = some (Nat.add (2 : Nat) (0 : Nat)) ∧ (0 : Nat) = (0 : Nat) ∧ (55 : Nat) = (55 : Nat) ∧ (16 : Nat) = (16 : Nat) ∧ twoL (twoL (twoL l)) = twoL (twoL (twoL l)) ∧ (16 : Nat) ≤ (16 : Nat) ∧ true = true ∧ getL [Nat.add (2 : Nat) (0 : Nat)] (0 : Nat) = some (Nat.add (2 : Nat) (0 : Nat)) ∧ (0 : Nat) = (0 : Nat) ∧ (55 : Nat) = (55 : Nat) ∧ (16 : Nat) = (16 : Nat) ∧ twoL (twoL (twoL (twoL l))) = twoL (twoL (twoL (twoL l))) ∧ (16 : Nat) ≤ (16 : Nat) ∧ true = true ∧ getL [Nat.add (2 : Nat) (0 : Nat)] (0 : Nat) = some (Nat.add (2 : Nat) (0 : Nat)) ∧ (0 : Nat) = (0 : Nat) ∧ (55 : Nat) = (55 : Nat) ∧ (16 : Nat) = (16 : Nat) ∧ twoL (twoL (twoL (twoL (twoL l)))) = twoL (twoL (twoL (twoL (twoL l)))) ∧ (16 : Nat) ≤ (16 : Nat) ∧ true = true ∧ getL [Nat.add (2 : Nat) (0 : Nat)] (0 : Nat) = some (Nat.add (2 : Nat) (0 : Nat)) ∧ (0 : Nat) = (0 : Nat) ∧ (55 : Nat) = (55 : Nat) ∧ (16 : Nat) = (16 : Nat) ∧ twoL (twoL (twoL (twoL (twoL (twoL l))))) = twoL (twoL (twoL (twoL (twoL (twoL l))))) ∧ (16 : Nat) ≤ (16 : Nat) ∧ true = true ∧ getL [Nat.add (2 : Nat) (0 : Nat)] (0 : Nat) = some (Nat.add (2 : Nat) (0 : Nat)) ∧ (0 : Nat) = (0 : Nat) ∧ (55 : Nat) = (55 : Nat) ∧ (16 : Nat) = (16 : Nat) ∧ twoL (twoL (twoL (twoL (twoL (twoL (twoL l)))))) = twoL (twoL (twoL (twoL (twoL (twoL (twoL l)))))) ∧ (16 : Nat) ≤ (16 : Nat) ∧ true = true ∧ getL [Nat.add (2 : Nat) (0 : Nat)] (0 : Nat) = some (Nat.add (2 : Nat) (0 : Nat)) ∧ (0 : Nat) = (0 : Nat) ∧ (55 : Nat) = (55 : Nat) ∧ (16 : Nat) = (16 : Nat) ∧ twoL (twoL (twoL (twoL (twoL (twoL (twoL (twoL l))))))) = twoL (twoL (twoL (twoL (twoL (twoL (twoL (twoL l))))))) ∧ (16 : Nat) ≤ (16 : Nat) ∧ true = true ∧ getL [Nat.add (2 : Nat) (0 : Nat)] (0 : Nat) = some (Nat.add (2 : Nat) (0 : Nat)) ∧ (0 : Nat) = (0 : Nat) ∧ (55 : Nat) = (55 : Nat) ∧ (16 : Nat) = (16 : Nat) ∧ twoL (twoL (twoL (twoL (twoL (twoL (twoL (twoL (twoL l)))))))) = twoL (twoL (twoL (twoL (twoL (twoL (twoL (twoL (twoL l)))))))) ∧ (16 : Nat) ≤ (16 : Nat) ∧ (0 : Int) ≤ (0 : Int) ∧ (0 : Nat) ≤ (64 : Nat) ∧ (64 : Nat) ≤ (9223372036854775807 : Nat) ∧ (0 : Int) ≤ (0 : Int) ∧ (0 : Int) < (16 : Int) ∧ (0 : Nat) < (16 : Nat) ∧ (0 : Int) ≤ (0 : Int) ∧ (0 : Int) < (16 : Int) ∧ (0 : Nat) < (16 : Nat) ∧ true = true ∧ getL [(3 : Nat)] (0 : Nat) = some (3 : Nat) ∧ (0 : Nat) = (0 : Nat) ∧ (64 : Nat) = (64 : Nat) ∧ Value.int IntKind.u32 x1 = Value.int IntKind.u32 x1 ∧ (28 : Nat) = (28 : Nat) ∧ (64 : Nat) = (64 : Nat) ∧ List.replicate (64 : Nat) (0 : Int) = List.replicate (64 : Nat) (0 : Int) ∧ (4 : Nat) ≤ (64 : Nat) ∧ (4 : Nat) ≤ (64 : Nat) ∧ (0 : Int) ≤ (4 : Int) ∧ (4 : Nat) ≤ (64 : Nat) ∧ (64 : Nat) ≤ (9223372036854775807 : Nat) ∧ (0 : Int) ≤ (1 : Int) ∧ (1 : Int) < (16 : Int) ∧ (1 : Nat) < (16 : Nat) ∧ (0 : Int) ≤ (1 : Int) ∧ (1 : Int) < (16 : Int) ∧ (1 : Nat) < (16 : Nat) ∧ true = true ∧ getL [(3 : Nat)] (0 : Nat) = some (3 : Nat) ∧ (4 : Nat) = (4 : Nat) ∧ (60 : Nat) = (60 : Nat) ∧ Value.int IntKind.u32 x2 = Value.int IntKind.u32 x2 ∧ (28 : Nat) = (28 : Nat) ∧ (64 : Nat) = (64 : Nat) ∧ x3 = x3 ∧ (4 : Nat) ≤ (60 : Nat) ∧ (8 : Nat) ≤ (64 : Nat) ∧ (0 : Int) ≤ (8 : Int) ∧ (8 : Nat) ≤ (64 : Nat) ∧ (64 : Nat) ≤ (9223372036854775807 : Nat) ∧ (0 : Int) ≤ (2 : Int) ∧ (2 : Int) < (16 : Int) ∧ (2 : Nat) < (16 : Nat) ∧ (0 : Int) ≤ (2 : Int) ∧ (2 : Int) < (16 : Int) ∧ (2 : Nat) < (16 : Nat) ∧ true = true ∧ getL [(3 : Nat)] (0 : Nat) = some (3 : Nat) ∧ (8 : Nat) = (8 : Nat) ∧ (56 : Nat) = (56 : Nat) ∧ Value.int IntKind.u32 x4 = Value.int IntKind.u32 x4 ∧ (28 : Nat) = (28 : Nat) ∧ (64 : Nat) = (64 : Nat) ∧ x5 = x5 ∧ (4 : Nat) ≤ (56 : Nat) ∧ (12 : Nat) ≤ (64 : Nat) ∧ (0 : Int) ≤ (12 : Int) ∧ (12 : Nat) ≤ (64 : Nat) ∧ (64 : Nat) ≤ (9223372036854775807 : Nat) ∧ (0 : Int) ≤ (3 : Int) ∧ (3 : Int) < (16 : Int) ∧ (3 : Nat) < (16 : Nat) ∧ (0 : Int) ≤ (3 : Int) ∧ (3 : Int) < (16 : Int) ∧ (3 : Nat) < (16 : Nat) ∧ true = true ∧ getL [(3 : Nat)] (0 : Nat) = some (3 : Nat) ∧ (12 : Nat) = (12 : Nat) ∧ (52 : Nat) = (52 : Nat) ∧ Value.int IntKind.u32 x6 = Value.int IntKind.u32 x6 ∧ (28 : Nat) = (28 : Nat) ∧ (64 : Nat) = (64 : Nat) ∧ x7 = x7 ∧ (4 : Nat) ≤ (52 : Nat) ∧ (16 : Nat) ≤ (64 : Nat) ∧ (0 : Int) ≤ (16 : Int) ∧ (16 : Nat) ≤ (64 : Nat) ∧ (64 : Nat) ≤ (9223372036854775807 : Nat) ∧ (0 : Int) ≤ (4 : Int) ∧ (4 : Int) < (16 : Int) ∧ (4 : Nat) < (16 : Nat) ∧ (0 : Int) ≤ (4 : Int) ∧ (4 : Int) < (16 : Int) ∧ (4 : Nat) < (16 : Nat) ∧ true = true ∧ getL [(3 : Nat)] (0 : Nat) = some (3 : Nat) ∧ (16 : Nat) = (16 : Nat) ∧ (48 : Nat) = (48 : Nat) ∧ Value.int IntKind.u32 x8 = Value.int IntKind.u32 x8 ∧ (28 : Nat) = (28 : Nat) ∧ (64 : Nat) = (64 : Nat) ∧ x9 = x9 ∧ (4 : Nat) ≤ (48 : Nat) ∧ (20 : Nat) ≤ (64 : Nat) ∧ (0 : Int) ≤ (20 : Int) ∧ (20 : Nat) ≤ (64 : Nat) ∧ (64 : Nat) ≤ (9223372036854775807 : Nat) ∧ (0 : Int) ≤ (5 : Int) ∧ (5 : Int) < (16 : Int) ∧ (5 : Nat) < (16 : Nat) ∧ (0 : Int) ≤ (5 : Int) ∧ (5 : Int) < (16 : Int) ∧ (5 : Nat) < (16 : Nat) ∧ true = true ∧ getL [(3 : Nat)] (0 : Nat) = some (3 : Nat) ∧ (20 : Nat) = (20 : Nat) ∧ (44 : Nat) = (44 : Nat) ∧ Value.int IntKind.u32 x10 = Value.int IntKind.u32 x10 ∧ (28 : Nat) = (28 : Nat) ∧ (64 : Nat) = (64 : Nat) ∧ x11 = x11 ∧ (4 : Nat) ≤ (44 : Nat) ∧ (24 : Nat) ≤ (64 : Nat) ∧ (0 : Int) ≤ (24 : Int) ∧ (24 : Nat) ≤ (64 : Nat) ∧ (64 : Nat) ≤ (9223372036854775807 : Nat) ∧ (0 : Int) ≤ (6 : Int) ∧ (6 : Int) < (16 : Int) ∧ (6 : Nat) < (16 : Nat) ∧ (0 : Int) ≤ (6 : Int) ∧ (6 : Int) < (16 : Int) ∧ (6 : Nat) < (16 : Nat) ∧ true = true ∧ getL [(3 : Nat)] (0 : Nat) = some (3 : Nat) ∧ (24 : Nat) = (24 : Nat) ∧ (40 : Nat) = (40 : Nat) ∧ Value.int IntKind.u32 x12 = Value.int IntKind.u32 x12 ∧ (28 : Nat) = (28 : Nat) ∧ (64 : Nat) = (64 : Nat) ∧ x13 = x13 ∧ (4 : Nat) ≤ (40 : Nat) ∧ (28 : Nat) ≤ (64 : Nat) ∧ (0 : Int) ≤ (28 : Int) ∧ (28 : Nat) ≤ (64 : Nat) ∧ (64 : Nat) ≤ (9223372036854775807 : Nat) ∧ (0 : Int) ≤ (7 : Int) ∧ (7 : Int) < (16 : Int) ∧ (7 : Nat) < (16 : Nat) ∧ (0 : Int) ≤ (7 : Int) ∧ (7 : Int) < (16 : Int) ∧ (7 : Nat) < (16 : Nat) ∧ true = true ∧ getL [(3 : Nat)] (0 : Nat) = some (3 : Nat) ∧ (28 : Nat) = (28 : Nat) ∧ (36 : Nat) = (36 : Nat) ∧ Value.int IntKind.u32 x14 = Value.int IntKind.u32 x14 ∧ (28 : Nat) = (28 : Nat) ∧ (64 : Nat) = (64 : Nat) ∧ x15 = x15 ∧ (4 : Nat) ≤ (36 : Nat) ∧ (32 : Nat) ≤ (64 : Nat) ∧ (0 : Int) ≤ (32 : Int) ∧ (32 : Nat) ≤ (64 : Nat) ∧ (64 : Nat) ≤ (9223372036854775807 : Nat) ∧ (0 : Int) ≤ (8 : Int) ∧ (8 : Int) < (16 : Int) ∧ (8 : Nat) < (16 : Nat) ∧ (0 : Int) ≤ (8 : Int) ∧ (8 : Int) < (16 : Int) ∧ (8 : Nat) < (16 : Nat) ∧ true = true ∧ getL [(3 : Nat)] (0 : Nat) = some (3 : Nat) ∧ (32 : Nat) = (32 : Nat) ∧ (32 : Nat) = (32 : Nat) ∧ Value.int IntKind.u32 x16 = Value.int IntKind.u32 x16 ∧ (28 : Nat) = (28 : Nat) ∧ (64 : Nat) = (64 : Nat) ∧ x17 = x17 ∧ (4 : Nat) ≤ (32 : Nat) ∧ (36 : Nat) ≤ (64 : Nat) ∧ (0 : Int) ≤ (36 : Int) ∧ (36 : Nat) ≤ (64 : Nat) ∧ (64 : Nat) ≤ (9223372036854775807 : Nat) ∧ (0 : Int) ≤ (9 : Int) ∧ (9 : Int) < (16 : Int) ∧ (9 : Nat) < (16 : Nat) ∧ (0 : Int) ≤ (9 : Int) ∧ (9 : Int) < (16 : Int) ∧ (9 : Nat) < (16 : Nat) ∧ true = true ∧ getL [(3 : Nat)] (0 : Nat) = some (3 : Nat) ∧ (36 : Nat) = (36 : Nat) ∧ (28 : Nat) = (28 : Nat) ∧ Value.int IntKind.u32 x18 = Value.int IntKind.u32 x18 ∧ (28 : Nat) = (28 : Nat) ∧ (64 : Nat) = (64 : Nat) ∧ x19 = x19 ∧ (4 : Nat) ≤ (28 : Nat) ∧ (40 : Nat) ≤ (64 : Nat) ∧ (0 : Int) ≤ (40 : Int) ∧ (40 : Nat) ≤ (64 : Nat) ∧ (64 : Nat) ≤ (9223372036854775807 : Nat) ∧ (0 : Int) ≤ (10 : Int) ∧ (10 : Int) < (16 : Int) ∧ (10 : Nat) < (16 : Nat) ∧ (0 : Int) ≤ (10 : Int) ∧ (10 : Int) < (16 : Int) ∧ (10 : Nat) < (16 : Nat) ∧ true = true ∧ getL [(3 : Nat)] (0 : Nat) = some (3 : Nat) ∧ (40 : Nat) = (40 : Nat) ∧ (24 : Nat) = (24 : Nat) ∧ Value.int IntKind.u32 x20 = Value.int IntKind.u32 x20 ∧ (28 : Nat) = (28 : Nat) ∧ (64 : Nat) = (64 : Nat) ∧ x21 = x21 ∧ (4 : Nat) ≤ (24 : Nat) ∧ (44 : Nat) ≤ (64 : Nat) ∧ (0 : Int) ≤ (44 : Int) ∧ (44 : Nat) ≤ (64 : Nat) ∧ (64 : Nat) ≤ (9223372036854775807 : Nat) ∧ (0 : Int) ≤ (11 : Int) ∧ (11 : Int) < (16 : Int) ∧ (11 : Nat) < (16 : Nat) ∧ (0 : Int) ≤ (11 : Int) ∧ (11 : Int) < (16 : Int) ∧ (11 : Nat) < (16 : Nat) ∧ true = true ∧ getL [(3 : Nat)] (0 : Nat) = some (3 : Nat) ∧ (44 : Nat) = (44 : Nat) ∧ (20 : Nat) = (20 : Nat) ∧ Value.int IntKind.u32 x22 = Value.int IntKind.u32 x22 ∧ (28 : Nat) = (28 : Nat) ∧ (64 : Nat) = (64 : Nat) ∧ x23 = x23 ∧ (4 : Nat) ≤ (20 : Nat) ∧ (48 : Nat) ≤ (64 : Nat) ∧ (0 : Int) ≤ (48 : Int) ∧ (48 : Nat) ≤ (64 : Nat) ∧ (64 : Nat) ≤ (9223372036854775807 : Nat) ∧ (0 : Int) ≤ (12 : Int) ∧ (12 : Int) < (16 : Int) ∧ (12 : Nat) < (16 : Nat) ∧ (0 : Int) ≤ (12 : Int) ∧ (12 : Int) < (16 : Int) ∧ (12 : Nat) < (16 : Nat) ∧ true = true ∧ getL [(3 : Nat)] (0 : Nat) = some (3 : Nat) ∧ (48 : Nat) = (48 : Nat) ∧ (16 : Nat) = (16 : Nat) ∧ Value.int IntKind.u32 x24 = Value.int IntKind.u32 x24 ∧ (28 : Nat) = (28 : Nat) ∧ (64 : Nat) = (64 : Nat) ∧ x25 = x25 ∧ (4 : Nat) ≤ (16 : Nat) ∧ (52 : Nat) ≤ (64 : Nat) ∧ (0 : Int) ≤ (52 : Int) ∧ (52 : Nat) ≤ (64 : Nat) ∧ (64 : Nat) ≤ (9223372036854775807 : Nat) ∧ (0 : Int) ≤ (13 : Int) ∧ (13 : Int) < (16 : Int) ∧ (13 : Nat) < (16 : Nat) ∧ (0 : Int) ≤ (13 : Int) ∧ (13 : Int) < (16 : Int) ∧ (13 : Nat) < (16 : Nat) ∧ true = true ∧ getL [(3 : Nat)] (0 : Nat) = some (3 : Nat) ∧ (52 : Nat) = (52 : Nat) ∧ (12 : Nat) = (12 : Nat) ∧ Value.int IntKind.u32 x26 = Value.int IntKind.u32 x26 ∧ (28 : Nat) = (28 : Nat) ∧ (64 : Nat) = (64 : Nat) ∧ x27 = x27 ∧ (4 : Nat) ≤ (12 : Nat) ∧ (56 : Nat) ≤ (64 : Nat) ∧ (0 : Int) ≤ (56 : Int) ∧ (56 : Nat) ≤ (64 : Nat) ∧ (64 : Nat) ≤ (9223372036854775807 : Nat) ∧ (0 : Int) ≤ (14 : Int) ∧ (14 : Int) < (16 : Int) ∧ (14 : Nat) < (16 : Nat) ∧ (0 : Int) ≤ (14 : Int) ∧ (14 : Int) < (16 : Int) ∧ (14 : Nat) < (16 : Nat) ∧ true = true ∧ getL [(3 : Nat)] (0 : Nat) = some (3 : Nat) ∧ (56 : Nat) = (56 : Nat) ∧ (8 : Nat) = (8 : Nat) ∧ Value.int IntKind.u32 x28 = Value.int IntKind.u32 x28 ∧ (28 : Nat) = (28 : Nat) ∧ (64 : Nat) = (64 : Nat) ∧ x29 = x29 ∧ (4 : Nat) ≤ (8 : Nat) ∧ (60 : Nat) ≤ (64 : Nat) ∧ (0 : Int) ≤ (60 : Int) ∧ (60 : Nat) ≤ (64 : Nat) ∧ (64 : Nat) ≤ (9223372036854775807 : Nat) ∧ (0 : Int) ≤ (15 : Int) ∧ (15 : Int) < (16 : Int) ∧ (15 : Nat) < (16 : Nat) ∧ (0 : Int) ≤ (15 : Int) ∧ (15 : Int) < (16 : Int) ∧ (15 : Nat) < (16 : Nat) ∧ true = true ∧ getL [(3 : Nat)] (0 : Nat) = some (3 : Nat) ∧ (60 : Nat) = (60 : Nat) ∧ (4 : Nat) = (4 : Nat) ∧ Value.int IntKind.u32 x30 = Value.int IntKind.u32 x30 ∧ (28 : Nat) = (28 : Nat) ∧ (64 : Nat) = (64 : Nat) ∧ x31 = x31 ∧ (4 : Nat) ≤ (4 : Nat) ∧ (64 : Nat) ≤ (64 : Nat) ∧ true = true ∧ true = true ∧ (27 : Nat) = (27 : Nat) ∧ (64 : Nat) = (64 : Nat) ∧ putL x31 (60 : Nat) x30 = blockL l) := by kernel_rfl

set_option maxHeartbeats 8000000 in
theorem wpBlk (l : List Int) : wpE FBlk (Try.f24.body.getD .skip) ⟨Try.f24.ntmps, slotsOf 0 (kBlk l).avs, (kBlk l).mem⟩ (finK Try.prog Try.f24.results.toList (postN (kBlk l))) := by
  with_reducible refine Eq.mpr (vcBlk l) ?_
  intros
  and_intros <;> first | omega | exact True.intro | kernel_rfl
set_option maxHeartbeats 8000000 in
theorem cBlk_ok : SpecOK Try.prog cBlk := by
  refine callG_ok (c := Try.f24.body.getD .skip) mixed Try.func24 (by kernel_rfl) rfl (fun l hob => ?_)
  exact ⟨FBlk, rfl, evOKs ⟨.inl ⟨cTwo_ok, by kernel_rfl, gl_nil rfl⟩, ⟨.inl ⟨cPut_ok, by kernel_rfl, gl_nil rfl⟩, trivial⟩⟩, rfl, rfl, by with_reducible exact wpBlk l ⟩

def beginL (k n : List Int) (x : Int) : List Int := [1634760805, 857760878, 2036477234, 1797285236, wordAt ((k.drop 0).take 32) 0, wordAt ((k.drop 4).take 28) 0, wordAt ((k.drop 8).take 24) 0, wordAt ((k.drop 12).take 20) 0, wordAt ((k.drop 16).take 16) 0, wordAt ((k.drop 20).take 12) 0, wordAt ((k.drop 24).take 8) 0, wordAt ((k.drop 28).take 4) 0, x, wordAt ((n.drop 0).take 12) 0, wordAt ((n.drop 4).take 8) 0, wordAt ((n.drop 8).take 4) 0]
def kBegin : (List Int) × (List Int) × Int → ClN := fun (k, n, x) => ⟨[.o (.g [.many 32 (.i .u8 k)]), .o (.g [.many 12 (.i .u8 n)]), vv (.int .u32 x)], [], .o (.g [.many 16 (.i .u32 (beginL k n x))]), [], [], [k.length = 32, n.length = 12]⟩
noncomputable def FBegin : FnE := ⟨mkEv Try.prog [] [cWord] 0, [0, 1, 2, 3, 4, 6, 7, 8, 9, 11, 12, 24, 25], fun _ _ => .rounds 12⟩
def mBegin : List AV → (Nat → Option MB) → Option (List Nat × ((List Int) × (List Int) × Int))
  | [.o (.g [.many 32 (.i .u8 k)]), .o (.g [.many 12 (.i .u8 n)]), .o (.c (.v (.int .u32 x)))], _ => some ([], (k, n, x))
  | _, _ => none
noncomputable def cBegin : Spec := callG 23 Try.f23.ntmps mBegin kBegin
theorem vcBegin (k n : List Int) (x : Int) : (wpE FBegin (Try.f23.body.getD .skip) ⟨Try.f23.ntmps, slotsOf 0 (kBegin (k, n, x)).avs, (kBegin (k, n, x)).mem⟩ (finK Try.prog Try.f23.results.toList (postN (kBegin (k, n, x))))) = (let x1 := List.take (32 : Nat) (List.drop (0 : Nat) k); let x2 := List.take (28 : Nat) (List.drop (4 : Nat) k); let x3 := List.take (24 : Nat) (List.drop (8 : Nat) k); let x4 := List.take (20 : Nat) (List.drop (12 : Nat) k); let x5 := List.take (16 : Nat) (List.drop (16 : Nat) k); let x6 := List.take (12 : Nat) (List.drop (20 : Nat) k); let x7 := List.take (8 : Nat) (List.drop (24 : Nat) k); let x8 := List.take (4 : Nat) (List.drop (28 : Nat) k); let x9 := List.take (12 : Nat) (List.drop (0 : Nat) n); let x10 := List.take (8 : Nat) (List.drop (4 : Nat) n); let x11 := List.take (4 : Nat) (List.drop (8 : Nat) n); (0 : Int) ≤ (0 : Int) ∧ (0 : Nat) ≤ (32 : Nat) ∧ (32 : Nat) ≤ (9223372036854775807 : Nat) ∧ true = true ∧ true = true ∧ (32 : Nat) = (32 : Nat) ∧ x1 = x1 ∧ (32 : Nat) ≤ (32 : Nat) ∧ (4 : Nat) ≤ (32 : Nat) ∧ List.length x1 = (32 : Nat) ∧ (0 : Int) ≤ (4 : Int) ∧ (4 : Int) < (16 : Int) ∧ (4 : Nat) < (16 : Nat) ∧ (0 : Int) ≤ (4 : Int) ∧ (4 : Nat) ≤ (32 : Nat) ∧ (32 : Nat) ≤ (9223372036854775807 : Nat) ∧ true = true ∧ true = true ∧ (28 : Nat) = (28 : Nat) ∧ x2 = x2 ∧ (32 : Nat) ≤ (32 : Nat) ∧ (4 : Nat) ≤ (28 : Nat) ∧ List.length x2 = (28 : Nat) ∧ (0 : Int) ≤ (5 : Int) ∧ (5 : Int) < (16 : Int) ∧ (5 : Nat) < (16 : Nat) ∧ (0 : Int) ≤ (8 : Int) ∧ (8 : Nat) ≤ (32 : Nat) ∧ (32 : Nat) ≤ (9223372036854775807 : Nat) ∧ true = true ∧ true = true ∧ (24 : Nat) = (24 : Nat) ∧ x3 = x3 ∧ (32 : Nat) ≤ (32 : Nat) ∧ (4 : Nat) ≤ (24 : Nat) ∧ List.length x3 = (24 : Nat) ∧ (0 : Int) ≤ (6 : Int) ∧ (6 : Int) < (16 : Int) ∧ (6 : Nat) < (16 : Nat) ∧ (0 : Int) ≤ (12 : Int) ∧ (12 : Nat) ≤ (32 : Nat) ∧ (32 : Nat) ≤ (9223372036854775807 : Nat) ∧ true = true ∧ true = true ∧ (20 : Nat) = (20 : Nat) ∧ x4 = x4 ∧ (32 : Nat) ≤ (32 : Nat) ∧ (4 : Nat) ≤ (20 : Nat) ∧ List.length x4 = (20 : Nat) ∧ (0 : Int) ≤ (7 : Int) ∧ (7 : Int) < (16 : Int) ∧ (7 : Nat) < (16 : Nat) ∧ (0 : Int) ≤ (16 : Int) ∧ (16 : Nat) ≤ (32 : Nat) ∧ (32 : Nat) ≤ (9223372036854775807 : Nat) ∧ true = true ∧ true = true ∧ (16 : Nat) = (16 : Nat) ∧ x5 = x5 ∧ (32 : Nat) ≤ (32 : Nat) ∧ (4 : Nat) ≤ (16 : Nat) ∧ List.length x5 = (16 : Nat) ∧ (0 : Int) ≤ (8 : Int) ∧ (8 : Int) < (16 : Int) ∧ (8 : Nat) < (16 : Nat) ∧ (0 : Int) ≤ (20 : Int) ∧ (20 : Nat) ≤ (32 : Nat) ∧ (32 : Nat) ≤ (9223372036854775807 : Nat) ∧ true = true ∧ true = true ∧ (12 : Nat) = (12 : Nat) ∧ x6 = x6 ∧ (32 : Nat) ≤ (32 : Nat) ∧ (4 : Nat) ≤ (12 : Nat) ∧ List.length x6 = (12 : Nat) ∧ (0 : Int) ≤ (9 : Int) ∧ (9 : Int) < (16 : Int) ∧ (9 : Nat) < (16 : Nat) ∧ (0 : Int) ≤ (24 : Int) ∧ (24 : Nat) ≤ (32 : Nat) ∧ (32 : Nat) ≤ (9223372036854775807 : Nat) ∧ true = true ∧ true = true ∧ (8 : Nat) = (8 : Nat) ∧ x7 = x7 ∧ (32 : Nat) ≤ (32 : Nat) ∧ (4 : Nat) ≤ (8 : Nat) ∧ List.length x7 = (8 : Nat) ∧ (0 : Int) ≤ (10 : Int) ∧ (10 : Int) < (16 : Int) ∧ (10 : Nat) < (16 : Nat) ∧ (0 : Int) ≤ (28 : Int) ∧ (28 : Nat) ≤ (32 : Nat) ∧ (32 : Nat) ≤ (9223372036854775807 : Nat) ∧ true = true ∧ true = true ∧ (4 : Nat) = (4 : Nat) ∧ x8 = x8 ∧ (32 : Nat) ≤ (32 : Nat) ∧ (4 : Nat) ≤ (4 : Nat) ∧ List.length x8 = (4 : Nat) ∧ (0 : Int) ≤ (11 : Int) ∧ (11 : Int) < (16 : Int) ∧ (11 : Nat) < (16 : Nat) ∧ (0 : Int) ≤ (12 : Int) ∧ (12 : Int) < (16 : Int) ∧ (12 : Nat) < (16 : Nat) ∧ (0 : Int) ≤ (0 : Int) ∧ (0 : Nat) ≤ (12 : Nat) ∧ (12 : Nat) ≤ (9223372036854775807 : Nat) ∧ true = true ∧ true = true ∧ (12 : Nat) = (12 : Nat) ∧ x9 = x9 ∧ (12 : Nat) ≤ (12 : Nat) ∧ (4 : Nat) ≤ (12 : Nat) ∧ List.length x9 = (12 : Nat) ∧ (0 : Int) ≤ (13 : Int) ∧ (13 : Int) < (16 : Int) ∧ (13 : Nat) < (16 : Nat) ∧ (0 : Int) ≤ (4 : Int) ∧ (4 : Nat) ≤ (12 : Nat) ∧ (12 : Nat) ≤ (9223372036854775807 : Nat) ∧ true = true ∧ true = true ∧ (8 : Nat) = (8 : Nat) ∧ x10 = x10 ∧ (12 : Nat) ≤ (12 : Nat) ∧ (4 : Nat) ≤ (8 : Nat) ∧ List.length x10 = (8 : Nat) ∧ (0 : Int) ≤ (14 : Int) ∧ (14 : Int) < (16 : Int) ∧ (14 : Nat) < (16 : Nat) ∧ (0 : Int) ≤ (8 : Int) ∧ (8 : Nat) ≤ (12 : Nat) ∧ (12 : Nat) ≤ (9223372036854775807 : Nat) ∧ true = true ∧ true = true ∧ (4 : Nat) = (4 : Nat) ∧ x11 = x11 ∧ (12 : Nat) ≤ (12 : Nat) ∧ (4 : Nat) ≤ (4 : Nat) ∧ List.length x11 = (4 : Nat) ∧ (0 : Int) ≤ (15 : Int) ∧ (15 : Int) < (16 : Int) ∧ (15 : Nat) < (16 : Nat) ∧ true = true ∧ true = true ∧ (36 : Nat) = (36 : Nat) ∧ (16 : Nat) = (16 : Nat) ∧ [(1634760805 : Int), (857760878 : Int), (2036477234 : Int), (1797285236 : Int), wordAt x1 (0 : Nat), wordAt x2 (0 : Nat), wordAt x3 (0 : Nat), wordAt x4 (0 : Nat), wordAt x5 (0 : Nat), wordAt x6 (0 : Nat), wordAt x7 (0 : Nat), wordAt x8 (0 : Nat), x, wordAt x9 (0 : Nat), wordAt x10 (0 : Nat), wordAt x11 (0 : Nat)] = beginL k n x) := by kernel_rfl

set_option maxHeartbeats 8000000 in
theorem wpBegin (k n : List Int) (x : Int) (h1 : k.length = 32) (h2 : n.length = 12) : wpE FBegin (Try.f23.body.getD .skip) ⟨Try.f23.ntmps, slotsOf 0 (kBegin (k, n, x)).avs, (kBegin (k, n, x)).mem⟩ (finK Try.prog Try.f23.results.toList (postN (kBegin (k, n, x)))) := by
  with_reducible refine Eq.mpr (vcBegin k n x) ?_
  have e1 : ∀ a b, ((k.drop a).take b).length = min b (32 - a) := fun a b => by simp [h1]
  have e2 : ∀ a b, ((n.drop a).take b).length = min b (12 - a) := fun a b => by simp [h2]
  simp only [e1, e2]
  and_intros <;> first | omega | exact True.intro | kernel_rfl
set_option maxHeartbeats 8000000 in
theorem cBegin_ok : SpecOK Try.prog cBegin := by
  refine callG_ok (c := Try.f23.body.getD .skip) mixed Try.func23 (by kernel_rfl) rfl (fun x hob => ?_)
  obtain ⟨k, n, x⟩ := x
  have hob : (k.length = 32) ∧ (n.length = 12) := hob
  obtain ⟨h1, h2⟩ := hob
  exact ⟨FBegin, rfl, evOKs ⟨.inl ⟨cWord_ok, by kernel_rfl, gl_nil rfl⟩, trivial⟩, rfl, rfl, by with_reducible exact wpBegin k n x h1 h2⟩

def chachaL (k n : List Int) (x : Int) : List Int := blockL (beginL k n x)
def kBlock : (List Int) × (List Int) × Int → ClN := fun (k, n, x) => ⟨[.o (.g [.many 32 (.i .u8 k)]), .o (.g [.many 12 (.i .u8 n)]), vv (.int .u32 x)], [], .o (.g [.many 64 (.i .u8 (chachaL k n x))]), [], [], [k.length = 32, n.length = 12]⟩
noncomputable def FBlock : FnE := ⟨mkEv Try.prog [] [cBegin, cBlk] 0, [0, 1, 2, 3, 4, 6], fun _ _ => .rounds 0⟩
def mBlock : List AV → (Nat → Option MB) → Option (List Nat × ((List Int) × (List Int) × Int))
  | [.o (.g [.many 32 (.i .u8 k)]), .o (.g [.many 12 (.i .u8 n)]), .o (.c (.v (.int .u32 x)))], _ => some ([], (k, n, x))
  | _, _ => none
noncomputable def cBlock : Spec := callG 11 Try.f11.ntmps mBlock kBlock
theorem vcBlock (k n : List Int) (x : Int) : (wpE FBlock (Try.f11.body.getD .skip) ⟨Try.f11.ntmps, slotsOf 0 (kBlock (k, n, x)).avs, (kBlock (k, n, x)).mem⟩ (finK Try.prog Try.f11.results.toList (postN (kBlock (k, n, x))))) = (true = true ∧ (32 : Nat) = (32 : Nat) ∧ k = k ∧ (12 : Nat) = (12 : Nat) ∧ n = n ∧ Value.int IntKind.u32 x = Value.int IntKind.u32 x ∧ List.length k = (32 : Nat) ∧ List.length n = (12 : Nat) ∧ true = true ∧ (16 : Nat) = (16 : Nat) ∧ beginL k n x = beginL k n x ∧ true = true ∧ true = true ∧ (12 : Nat) = (12 : Nat) ∧ (64 : Nat) = (64 : Nat) ∧ blockL (beginL k n x) = chachaL k n x) := by kernel_rfl

set_option maxHeartbeats 8000000 in
theorem wpBlock (k n : List Int) (x : Int) (h1 : k.length = 32) (h2 : n.length = 12) : wpE FBlock (Try.f11.body.getD .skip) ⟨Try.f11.ntmps, slotsOf 0 (kBlock (k, n, x)).avs, (kBlock (k, n, x)).mem⟩ (finK Try.prog Try.f11.results.toList (postN (kBlock (k, n, x)))) := by
  with_reducible refine Eq.mpr (vcBlock k n x) ?_
  intros
  and_intros <;> first | omega | exact True.intro | kernel_rfl
set_option maxHeartbeats 8000000 in
theorem cBlock_ok : SpecOK Try.prog cBlock := by
  refine callG_ok (c := Try.f11.body.getD .skip) mixed Try.func11 (by kernel_rfl) rfl (fun x hob => ?_)
  obtain ⟨k, n, x⟩ := x
  have hob : (k.length = 32) ∧ (n.length = 12) := hob
  obtain ⟨h1, h2⟩ := hob
  exact ⟨FBlock, rfl, evOKs ⟨.inl ⟨cBegin_ok, by kernel_rfl, gl_nil rfl⟩, ⟨.inl ⟨cBlk_ok, by kernel_rfl, gl_nil rfl⟩, trivial⟩⟩, rfl, rfl, by with_reducible exact wpBlock k n x h1 h2⟩
end Go.Proofs.Ythlleheeghiljaa
namespace Go.Proofs.Ythlleheeghiljaa
open Go.RowKit
set_option maxRecDepth 100000

/-- The first i bytes from k on, each with one of b. -/
def covL (l : List Int) (k : Nat) (b : List Int) : Nat → List Int
  | 0 => l
  | i + 1 => (covL l k b i).set (k + i) (bits .xor .u8 ((covL l k b i).getD (k + i) 0) (b.getD i 0))
theorem covL_len (l : List Int) (k : Nat) (b : List Int) : ∀ i, (covL l k b i).length = l.length
  | 0 => rfl
  | i + 1 => by rw [covL, List.length_set]; exact covL_len l k b i
theorem wrap64 {i : Nat} (h : i ≤ 64) : IntKind.wrap .i64 ((i : Int) + 1) = ((i + 1 : Nat) : Int) := by
  rw [IntKind.wrap_i64]; omega
noncomputable def stCover (k n ty : Nat) (l b : List Int) (i : Nat) : St := ⟨Try.f27.ntmps, [(0, .o (.c (.sub 0 0 k n))), (3, .o (.c (.ptr 1 0 none))), (7, vv (.int .i64 (if (64 : Int) < (n : Int) then 64 else (n : Int)))), (8, vv (.int .i64 (i : Int)))], [.grow ty 1 (.i .u8 (covL l k b i)), .fix 28 [.many 64 (.i .u8 b)]]⟩
def kCover : Nat × Nat × Nat × (List Int) × (List Int) → ClN := fun (k, n, ty, l, b) => ⟨[.o (.c (.sub 0 0 k n)), .o (.g [.many 64 (.i .u8 b)])], [.grow ty 1 (.i .u8 l)], .t [], [.grow ty 1 (.i .u8 (covL l k b (min n 64)))], [0], [k + n ≤ l.length, l.length ≤ 9223372036854775807]⟩
noncomputable def FCover (k n ty : Nat) (l b : List Int) : FnE := ⟨mkEv Try.prog [] [] 1, [0, 1, 3, 4, 7, 8, 9], fun _ _ => .inv { i : Nat // i ≤ min n 64 } (fun i => stCover k n ty l b i.val) (fun i => min n 64 - i.val) [0, 1] [0, 1]⟩
def mCover : List AV → (Nat → Option MB) → Option (List Nat × (Nat × Nat × Nat × (List Int) × (List Int)))
  | [.o (.c (.sub i 0 k n)), .o (.g [.many 64 (.i .u8 b)])], lk => match lk i with
    | some (.grow ty 1 (.i .u8 l)) => some ([i], k, n, ty, l, b)
    | _ => none
  | _, _ => none
noncomputable def cCover : Spec := callG 27 Try.f27.ntmps mCover kCover
theorem vcCover (k n ty : Nat) (l b : List Int) : (wpE (FCover k n ty l b) (Try.f27.body.getD .skip) ⟨Try.f27.ntmps, slotsOf 0 (kCover (k, n, ty, l, b)).avs, (kCover (k, n, ty, l, b)).mem⟩ (finK Try.prog Try.f27.results.toList (postN (kCover (k, n, ty, l, b))))) = (let x1 := if (64 : Int) < (↑n : Int) then (64 : Int) else (↑n : Int); (∃ (x : { i : Nat // i ≤ min n (64 : Nat) }), true = true ∧ true = true ∧ (21 : Nat) = (21 : Nat) ∧ getL [(0 : Nat), (1 : Nat)] (0 : Nat) = some (0 : Nat) ∧ (0 : Nat) + k = (0 : Nat) + k ∧ n = n ∧ getL [(0 : Nat), (1 : Nat)] (1 : Nat) = some (1 : Nat) ∧ (0 : Nat) = (0 : Nat) ∧ Value.int IntKind.i64 x1 = Value.int IntKind.i64 x1 ∧ Value.int IntKind.i64 (0 : Int) = Value.int IntKind.i64 (↑(Subtype.val x) : Int) ∧ ty = ty ∧ (1 : Nat) = (1 : Nat) ∧ l = covL l k b (Subtype.val x) ∧ (28 : Nat) = (28 : Nat) ∧ (64 : Nat) = (64 : Nat) ∧ b = b) ∧ ∀ (x : { i : Nat // i ≤ min n (64 : Nat) }), bif decide ((↑(Subtype.val x) : Int) < x1) then (0 : Int) ≤ (↑(Subtype.val x) : Int) ∧ (↑(Subtype.val x) : Int) < (↑n : Int) ∧ k + Int.toNat (↑(Subtype.val x) : Int) < List.length (covL l k b (Subtype.val x)) ∧ (0 : Int) ≤ (↑(Subtype.val x) : Int) ∧ (↑(Subtype.val x) : Int) < (64 : Int) ∧ Int.toNat (↑(Subtype.val x) : Int) < (64 : Nat) ∧ (0 : Int) ≤ (↑(Subtype.val x) : Int) ∧ (↑(Subtype.val x) : Int) < (↑n : Int) ∧ k + Int.toNat (↑(Subtype.val x) : Int) < List.length (covL l k b (Subtype.val x)) ∧ ∃ (y : { i : Nat // i ≤ min n (64 : Nat) }), (true = true ∧ true = true ∧ (21 : Nat) = (21 : Nat) ∧ getL [(0 : Nat), (1 : Nat)] (0 : Nat) = some (0 : Nat) ∧ (0 : Nat) + k = (0 : Nat) + k ∧ n = n ∧ getL [(0 : Nat), (1 : Nat)] (1 : Nat) = some (1 : Nat) ∧ (0 : Nat) = (0 : Nat) ∧ Value.int IntKind.i64 x1 = Value.int IntKind.i64 x1 ∧ Value.int IntKind.i64 (IntKind.wrap IntKind.i64 ((↑(Subtype.val x) : Int) + (1 : Int))) = Value.int IntKind.i64 (↑(Subtype.val y) : Int) ∧ ty = ty ∧ (1 : Nat) = (1 : Nat) ∧ List.set (covL l k b (Subtype.val x)) (k + Int.toNat (↑(Subtype.val x) : Int)) (bits BinOp.xor IntKind.u8 (List.getD (covL l k b (Subtype.val x)) (k + Int.toNat (↑(Subtype.val x) : Int)) (0 : Int)) (List.getD b (Int.toNat (↑(Subtype.val x) : Int)) (0 : Int))) = covL l k b (Subtype.val y) ∧ (28 : Nat) = (28 : Nat) ∧ (64 : Nat) = (64 : Nat) ∧ b = b) ∧ min n (64 : Nat) - Subtype.val y < min n (64 : Nat) - Subtype.val x else true = true ∧ true = true ∧ (21 : Nat) = (21 : Nat) ∧ ty = ty ∧ (1 : Nat) = (1 : Nat) ∧ covL l k b (Subtype.val x) = covL l k b (min n (64 : Nat))) := by kernel_rfl

set_option maxHeartbeats 8000000 in
theorem wpCover (k n ty : Nat) (l b : List Int) (h1 : k + n ≤ l.length) (h2 : l.length ≤ 9223372036854775807) : wpE (FCover k n ty l b) (Try.f27.body.getD .skip) ⟨Try.f27.ntmps, slotsOf 0 (kCover (k, n, ty, l, b)).avs, (kCover (k, n, ty, l, b)).mem⟩ (finK Try.prog Try.f27.results.toList (postN (kCover (k, n, ty, l, b)))) := by
  with_reducible refine Eq.mpr (vcCover k n ty l b) ?_
  intro x1
  have hx1 : x1 = ((min n 64 : Nat) : Int) := by
    show (if (64 : Int) < (n : Int) then (64 : Int) else (n : Int)) = _
    split <;> omega
  clear_value x1
  refine ⟨⟨⟨0, Nat.zero_le _⟩, ?_⟩, ?_⟩
  · and_intros <;> first | trivial | rfl
  · rintro ⟨i, hi⟩
    simp only [covL_len, Int.toNat_natCast]
    by_cases hc : i < min n 64
    · have hd : decide ((i : Int) < x1) = true := decide_eq_true (by omega)
      rw [hd, cond_true]
      refine ⟨by omega, by omega, by omega, by omega, by omega, by omega, by omega, by omega, by omega, ⟨i + 1, hc⟩, ?_, by show min n 64 - (i + 1) < min n 64 - i; omega⟩
      rw [wrap64 (by omega)]
      and_intros <;> first | trivial | rfl
    · have hd : decide ((i : Int) < x1) = false := decide_eq_false (by omega)
      rw [hd, cond_false]
      have : i = min n 64 := by omega
      subst this
      and_intros <;> first | trivial | rfl
set_option maxHeartbeats 8000000 in
theorem cCover_ok : SpecOK Try.prog cCover := by
  refine callG_ok (c := Try.f27.body.getD .skip) mixed Try.func27 (by kernel_rfl) rfl (fun x hob => ?_)
  obtain ⟨k, n, ty, l, b⟩ := x
  have hob : (k + n ≤ l.length) ∧ (l.length ≤ 9223372036854775807) := hob
  obtain ⟨h1, h2⟩ := hob
  exact ⟨FCover k n ty l b, rfl, evOKs trivial, rfl, rfl, by with_reducible exact wpCover k n ty l b h1 h2⟩

/-- How many bytes there are; beyond M no further. -/
def totA (M : Nat) : Nat → List (List Int) → Nat
  | s, [] => s
  | s, l :: r => if M < s + l.length then s + l.length else totA M (s + l.length) r
theorem totA_le {M : Nat} : ∀ {ls : List (List Int)} {s : Nat}, s + ls.flatten.length ≤ M → totA M s ls = s + ls.flatten.length
  | [], s, _ => by simp [totA]
  | l :: r, s, h => by
    have h' : s + (l.length + r.flatten.length) ≤ M := by simpa using h
    unfold totA
    rw [if_neg (by omega), totA_le (by omega), List.flatten_cons, List.length_append]; omega
theorem totA_gt {M : Nat} : ∀ {ls : List (List Int)} {s : Nat}, s ≤ M → M < s + ls.flatten.length → M < totA M s ls
  | [], s, h, h' => by simp at h'; omega
  | l :: r, s, h, h' => by
    have h'' : M < s + (l.length + r.flatten.length) := by simpa using h'
    unfold totA
    split
    · assumption
    · exact totA_gt (by omega) (by omega)
theorem totA_lt {M : Nat} : ∀ {ls : List (List Int)} {s : Nat}, (∀ l ∈ ls, l.length ≤ 140737488355328) → s ≤ M → totA M s ls ≤ M + 140737488355328
  | [], s, _, h => by simp only [totA]; omega
  | l :: r, s, hl, h => by
    unfold totA
    have := hl l (by simp)
    split
    · omega
    · exact totA_lt (fun x hx => hl x (by simp [hx])) (by omega)
theorem getD_at {ls : List (List Int)} {i : Nat} (h : i < ls.length) : ls.getD i [] = ls[i] := by
  rw [List.getD_eq_getElem?_getD, List.getElem?_eq_getElem h]; rfl
theorem totA_step {M s : Nat} {ls : List (List Int)} {i : Nat} (h : i < ls.length) : totA M s (ls.drop i) = if M < s + (ls.getD i []).length then s + (ls.getD i []).length else totA M (s + (ls.getD i []).length) (ls.drop (i + 1)) := by
  rw [List.drop_eq_getElem_cons h, totA, getD_at h]
noncomputable def stTot (nt : Nat) (ls : List (List Int)) (s i : Nat) : St := ⟨nt, [(3, vv (.int .i64 (s : Int))), (6, .o (.c (.rss ls))), (7, vv (.int .i64 (ls.length : Int))), (8, vv (.int .i64 (i : Int)))], []⟩
theorem add64 {a b : Nat} (h : a + b ≤ 9223372036854775807) : IntKind.wrap .i64 ((a : Int) + (b : Int)) = ((a + b : Nat) : Int) := by rw [IntKind.wrap_i64]; omega
theorem wrapS {i : Nat} (h : i < 9223372036854775807) : IntKind.wrap .i64 ((i : Int) + 1) = ((i + 1 : Nat) : Int) := by rw [IntKind.wrap_i64]; omega
def kTotal : (List (List Int)) → ClN := fun ls => ⟨[.o (.c (.rss ls))], [], vv (.int .i64 (totA 16777216 0 ls : Int)), [], [], [∀ l ∈ ls, l.length ≤ 140737488355328, ls.length ≤ 9223372036854775807]⟩
noncomputable def FTotal (ls : List (List Int)) : FnE := ⟨mkEv Try.prog [] [] 0, [0, 2, 3, 5, 6, 7, 8, 9, 17], fun _ _ => .inv { x : Nat × Nat // x.2 ≤ ls.length ∧ x.1 ≤ 16777216 ∧ totA 16777216 x.1 (ls.drop x.2) = totA 16777216 0 ls } (fun x => stTot Try.f26.ntmps ls x.1.1 x.1.2) (fun x => ls.length - x.1.2) [] []⟩
def mTotal : List AV → (Nat → Option MB) → Option (List Nat × (List (List Int)))
  | [.o (.c c)], lk => match slS lk c with
    | some ls => some ([], ls)
    | none => none
  | _, _ => none
noncomputable def cTotal : Spec := callG 26 Try.f26.ntmps mTotal kTotal
theorem vcTotal (ls : List (List Int)) : (wpE (FTotal ls) (Try.f26.body.getD .skip) ⟨Try.f26.ntmps, slotsOf 0 (kTotal ls).avs, (kTotal ls).mem⟩ (finK Try.prog Try.f26.results.toList (postN (kTotal ls)))) = ((∃ (x : { x : Nat × Nat // Prod.snd x ≤ List.length ls ∧ Prod.fst x ≤ (16777216 : Nat) ∧ totA (16777216 : Nat) (Prod.fst x) (List.drop (Prod.snd x) ls) = totA (16777216 : Nat) (0 : Nat) ls }), true = true ∧ true = true ∧ (20 : Nat) = (20 : Nat) ∧ Value.int IntKind.i64 (0 : Int) = Value.int IntKind.i64 (↑(Prod.fst (Subtype.val x)) : Int) ∧ ls = ls ∧ Value.int IntKind.i64 (↑(List.length ls) : Int) = Value.int IntKind.i64 (↑(List.length ls) : Int) ∧ Value.int IntKind.i64 (0 : Int) = Value.int IntKind.i64 (↑(Prod.snd (Subtype.val x)) : Int)) ∧ ∀ (x : { x : Nat × Nat // Prod.snd x ≤ List.length ls ∧ Prod.fst x ≤ (16777216 : Nat) ∧ totA (16777216 : Nat) (Prod.fst x) (List.drop (Prod.snd x) ls) = totA (16777216 : Nat) (0 : Nat) ls }), bif decide ((↑(Prod.snd (Subtype.val x)) : Int) < (↑(List.length ls) : Int)) then (0 : Int) ≤ (↑(Prod.snd (Subtype.val x)) : Int) ∧ (↑(Prod.snd (Subtype.val x)) : Int) < (↑(List.length ls) : Int) ∧ bif decide ((16777216 : Int) < IntKind.wrap IntKind.i64 ((↑(Prod.fst (Subtype.val x)) : Int) + (↑(List.length (List.getD ls (Int.toNat (↑(Prod.snd (Subtype.val x)) : Int)) [])) : Int))) then true = true ∧ true = true ∧ (20 : Nat) = (20 : Nat) ∧ Value.int IntKind.i64 (IntKind.wrap IntKind.i64 ((↑(Prod.fst (Subtype.val x)) : Int) + (↑(List.length (List.getD ls (Int.toNat (↑(Prod.snd (Subtype.val x)) : Int)) [])) : Int))) = Value.int IntKind.i64 (↑(totA (16777216 : Nat) (0 : Nat) ls) : Int) else ∃ (y : { x : Nat × Nat // Prod.snd x ≤ List.length ls ∧ Prod.fst x ≤ (16777216 : Nat) ∧ totA (16777216 : Nat) (Prod.fst x) (List.drop (Prod.snd x) ls) = totA (16777216 : Nat) (0 : Nat) ls }), (true = true ∧ true = true ∧ (20 : Nat) = (20 : Nat) ∧ Value.int IntKind.i64 (IntKind.wrap IntKind.i64 ((↑(Prod.fst (Subtype.val x)) : Int) + (↑(List.length (List.getD ls (Int.toNat (↑(Prod.snd (Subtype.val x)) : Int)) [])) : Int))) = Value.int IntKind.i64 (↑(Prod.fst (Subtype.val y)) : Int) ∧ ls = ls ∧ Value.int IntKind.i64 (↑(List.length ls) : Int) = Value.int IntKind.i64 (↑(List.length ls) : Int) ∧ Value.int IntKind.i64 (IntKind.wrap IntKind.i64 ((↑(Prod.snd (Subtype.val x)) : Int) + (1 : Int))) = Value.int IntKind.i64 (↑(Prod.snd (Subtype.val y)) : Int)) ∧ List.length ls - Prod.snd (Subtype.val y) < List.length ls - Prod.snd (Subtype.val x) else true = true ∧ true = true ∧ (20 : Nat) = (20 : Nat) ∧ Value.int IntKind.i64 (↑(Prod.fst (Subtype.val x)) : Int) = Value.int IntKind.i64 (↑(totA (16777216 : Nat) (0 : Nat) ls) : Int)) := by kernel_rfl

set_option maxHeartbeats 8000000 in
theorem wpTotal (ls : List (List Int)) (h1 : ∀ l ∈ ls, l.length ≤ 140737488355328) (h2 : ls.length ≤ 9223372036854775807) : wpE (FTotal ls) (Try.f26.body.getD .skip) ⟨Try.f26.ntmps, slotsOf 0 (kTotal ls).avs, (kTotal ls).mem⟩ (finK Try.prog Try.f26.results.toList (postN (kTotal ls))) := by
  with_reducible refine Eq.mpr (vcTotal ls) ?_
  simp only [Int.toNat_natCast, Bool.cond_decide]
  refine ⟨⟨⟨⟨0, 0⟩, Nat.zero_le _, Nat.zero_le _, rfl⟩, by and_intros <;> first | exact True.intro | rfl⟩, ?_⟩
  rintro ⟨⟨s, i⟩, hi, hs, ht⟩
  dsimp only at hi hs ht ⊢
  split
  · rename_i hil
    have hil' : i < ls.length := by omega
    have hl : (ls.getD i []).length ≤ 140737488355328 := h1 _ (by rw [getD_at hil']; exact List.getElem_mem hil')
    rw [totA_step hil'] at ht
    simp only [add64 (a := s) (b := (ls.getD i []).length) (by omega), wrapS (i := i) (by omega)]
    refine ⟨by omega, by omega, ?_⟩
    split
    · rename_i hM
      rw [if_pos (by omega)] at ht
      and_intros <;> first | exact True.intro | rfl | (rw [ht])
    · rename_i hM
      rw [if_neg (by omega)] at ht
      exact ⟨⟨⟨s + (ls.getD i []).length, i + 1⟩, by show i + 1 ≤ ls.length; omega, by show s + _ ≤ _; omega, ht⟩, by and_intros <;> first | exact True.intro | rfl, by show ls.length - (i + 1) < ls.length - i; omega⟩
  · rename_i hil
    have hil' : i = ls.length := by omega
    subst hil'
    rw [List.drop_length] at ht
    have ht' : s = totA 16777216 0 ls := ht
    and_intros <;> first | exact True.intro | rfl | (rw [ht'])
set_option maxHeartbeats 8000000 in
theorem cTotal_ok : SpecOK Try.prog cTotal := by
  refine callG_ok (c := Try.f26.body.getD .skip) mixed Try.func26 (by kernel_rfl) rfl (fun ls hob => ?_)
  have hob : (∀ l ∈ ls, l.length ≤ 140737488355328) ∧ (ls.length ≤ 9223372036854775807) := hob
  obtain ⟨h1, h2⟩ := hob
  exact ⟨FTotal ls, rfl, evOKs trivial, rfl, rfl, by with_reducible exact wpTotal ls h1 h2⟩

/-- The bytes after i blocks. -/
def mixL (key nonce : List Int) (x : Int) (t : List Int) (n : Nat) : Nat → List Int
  | 0 => t
  | i + 1 => covL (mixL key nonce x t n i) (64 * i) (chachaL key nonce (IntKind.wrap .u32 (x + IntKind.wrap .u32 (i : Int)))) (min (n - 64 * i) 64)
theorem mixL_len (key nonce : List Int) (x : Int) (t : List Int) (n : Nat) : ∀ i, (mixL key nonce x t n i).length = t.length
  | 0 => rfl
  | i + 1 => by rw [mixL, covL_len]; exact mixL_len key nonce x t n i
theorem quo64 {n : Nat} (h : n ≤ 16777216) : IntKind.wrap .i64 (Int.tdiv (IntKind.wrap .i64 (IntKind.wrap .i64 ((n : Int) + 64) - 1)) 64) = (((n + 63) / 64 : Nat) : Int) := by
  have h1 : IntKind.wrap .i64 ((n : Int) + 64) = ((n + 64 : Nat) : Int) := by rw [IntKind.wrap_i64]; omega
  have h2 : IntKind.wrap .i64 (((n + 64 : Nat) : Int) - 1) = ((n + 63 : Nat) : Int) := by rw [IntKind.wrap_i64]; omega
  rw [h1, h2, Int.tdiv_eq_ediv_of_nonneg (by omega), IntKind.wrap_i64]; omega
theorem mul64i {i : Nat} (h : i ≤ 16777216) : IntKind.wrap .i64 ((i : Int) * 64) = ((64 * i : Nat) : Int) := by rw [IntKind.wrap_i64]; omega
theorem wrap1 {i : Nat} (h : i ≤ 16777216) : IntKind.wrap .i64 ((i : Int) + 1) = ((i + 1 : Nat) : Int) := by rw [IntKind.wrap_i64]; omega
theorem mem_flat {ls : List (List Int)} : ∀ l ∈ ls, l.length ≤ ls.flatten.length := fun l hl => by
  obtain ⟨a, b, rfl⟩ := List.append_of_mem hl
  simp only [List.flatten_append, List.flatten_cons, List.length_append]; omega
theorem flat_take {ls : List (List Int)} {i : Nat} (h : i < ls.length) : (ls.take (i + 1)).flatten = (ls.take i).flatten ++ ls.getD i [] := by
  rw [getD_at h, List.take_add_one, List.getElem?_eq_getElem h, List.flatten_append]
  simp
theorem flat_take_le (ls : List (List Int)) (i : Nat) : (ls.take i).flatten.length ≤ ls.flatten.length := by
  conv => rhs; rw [← List.take_append_drop i ls, List.flatten_append, List.length_append]
  omega
noncomputable def stApp (key nonce : List Int) (x : Int) (ls : List (List Int)) (i : Nat) : St := ⟨Try.f13.ntmps, [(2, vv (.int .u32 x)), (4, .o (.c (.ptr 0 0 none))), (5, .o (.c (.ptr 1 0 none))), (10, vv (.int .i64 (ls.flatten.length : Int))), (11, .o (.c (.os 2 1 (ls.take i).flatten.length))), (22, .o (.c (.rss ls))), (23, vv (.int .i64 (ls.length : Int))), (24, vv (.int .i64 (i : Int)))], [.fix 23 [.many 32 (.i .u8 key)], .fix 25 [.many 12 (.i .u8 nonce)], .grow 5 1 (.i .u8 (ls.take i).flatten)]⟩
noncomputable def stMix (key nonce : List Int) (x : Int) (t : List Int) (i : Nat) : St := ⟨Try.f13.ntmps, [(2, vv (.int .u32 x)), (4, .o (.c (.ptr 0 0 none))), (5, .o (.c (.ptr 1 0 none))), (11, .o (.c (.os 2 1 t.length))), (35, vv (.int .i64 (((t.length + 63) / 64 : Nat) : Int))), (36, vv (.int .i64 (i : Int)))], [.fix 23 [.many 32 (.i .u8 key)], .fix 25 [.many 12 (.i .u8 nonce)], .grow 5 1 (.i .u8 (mixL key nonce x t t.length i))]⟩
/-- What parts are mixed to. -/
def mixA (key nonce : List Int) (x : Int) (t : List Int) : List Int := mixL key nonce x t t.length ((t.length + 63) / 64)
def kMix : (List Int) × (List Int) × Int × (List (List Int)) → ClN := fun (key, nonce, x, ls) => ⟨[.o (.g [.many 32 (.i .u8 key)]), .o (.g [.many 12 (.i .u8 nonce)]), vv (.int .u32 x), .o (.c (.rss ls))], [], .t [.c (.os 0 1 ls.flatten.length), .c (.v (.int .i64 0))], [.grow 5 1 (.i .u8 (mixA key nonce x ls.flatten))], [2], [ls.flatten.length ≤ 16777216, ls.length ≤ 140737488355328, key.length = 32, nonce.length = 12]⟩
noncomputable def FMix (key nonce : List Int) (x : Int) (ls : List (List Int)) : FnE := ⟨mkEv Try.prog [] [cTotal, cBlock, cCover] 0, [0, 1, 2, 3, 4, 5, 8, 9, 10, 11, 13, 14, 15, 19, 22, 23, 24, 25, 35, 36, 37], fun r _ => cond (Nat.beq r 6) (.inv { i : Nat // i ≤ ls.length } (fun i => stApp key nonce x ls i.val) (fun i => ls.length - i.val) [0, 1, 2] [0, 1, 3]) (.inv { i : Nat // i ≤ (ls.flatten.length + 63) / 64 } (fun i => stMix key nonce x ls.flatten i.val) (fun i => (ls.flatten.length + 63) / 64 - i.val) [0, 1, 2] [0, 1, 2])⟩
def mMix : List AV → (Nat → Option MB) → Option (List Nat × ((List Int) × (List Int) × Int × (List (List Int))))
  | [.o (.g [.many 32 (.i .u8 key)]), .o (.g [.many 12 (.i .u8 nonce)]), .o (.c (.v (.int .u32 x))), .o (.c c)], lk => match slS lk c with
    | some ls => some ([], key, nonce, x, ls)
    | none => none
  | _, _ => none
noncomputable def cMix : Spec := callG 13 Try.f13.ntmps mMix kMix
theorem vcMix (key nonce : List Int) (x : Int) (ls : List (List Int)) : (wpE (FMix key nonce x ls) (Try.f13.body.getD .skip) ⟨Try.f13.ntmps, slotsOf 0 (kMix (key, nonce, x, ls)).avs, (kMix (key, nonce, x, ls)).mem⟩ (finK Try.prog Try.f13.results.toList (postN (kMix (key, nonce, x, ls))))) = (true = true ∧ true = true ∧ ls = ls ∧ (∀ (l : List Int), l ∈ ls → List.length l ≤ (140737488355328 : Nat)) ∧ List.length ls ≤ (9223372036854775807 : Nat) ∧ bif decide ((16777216 : Int) < (↑(totA (16777216 : Nat) (0 : Nat) ls) : Int)) then true = true ∧ true = true ∧ (54 : Nat) = (54 : Nat) ∧ False ∧ False ∧ Value.int IntKind.i64 (2 : Int) = Value.int IntKind.i64 (0 : Int) else (0 : Int) ≤ (0 : Int) ∧ (0 : Int) ≤ (↑(totA (16777216 : Nat) (0 : Nat) ls) : Int) ∧ (1 : Int) * (↑(totA (16777216 : Nat) (0 : Nat) ls) : Int) ≤ (281474976710656 : Int) ∧ (↑(totA (16777216 : Nat) (0 : Nat) ls) : Int) ≤ (9223372036854775807 : Int) ∧ (∃ (x_1 : { i : Nat // i ≤ List.length ls }), true = true ∧ true = true ∧ (54 : Nat) = (54 : Nat) ∧ Value.int IntKind.u32 x = Value.int IntKind.u32 x ∧ getL [(0 : Nat), (1 : Nat), (2 : Nat)] (0 : Nat) = some (0 : Nat) ∧ (0 : Nat) = (0 : Nat) ∧ getL [(0 : Nat), (1 : Nat), (2 : Nat)] (1 : Nat) = some (Nat.add (0 : Nat) (1 : Nat)) ∧ (0 : Nat) = (0 : Nat) ∧ Value.int IntKind.i64 (↑(totA (16777216 : Nat) (0 : Nat) ls) : Int) = Value.int IntKind.i64 (↑(List.length (List.flatten ls)) : Int) ∧ getL [(0 : Nat), (1 : Nat), (2 : Nat)] (2 : Nat) = some (Nat.add (2 : Nat) (0 : Nat)) ∧ (1 : Nat) = (1 : Nat) ∧ (0 : Nat) = List.length (List.flatten (List.take (Subtype.val x_1) ls)) ∧ ls = ls ∧ Value.int IntKind.i64 (↑(List.length ls) : Int) = Value.int IntKind.i64 (↑(List.length ls) : Int) ∧ Value.int IntKind.i64 (0 : Int) = Value.int IntKind.i64 (↑(Subtype.val x_1) : Int) ∧ (23 : Nat) = (23 : Nat) ∧ (32 : Nat) = (32 : Nat) ∧ key = key ∧ (25 : Nat) = (25 : Nat) ∧ (12 : Nat) = (12 : Nat) ∧ nonce = nonce ∧ (5 : Nat) = (5 : Nat) ∧ (1 : Nat) = (1 : Nat) ∧ List.replicate (0 : Nat) (0 : Int) = List.flatten (List.take (Subtype.val x_1) ls)) ∧ ∀ (x_1 : { i : Nat // i ≤ List.length ls }), bif decide ((↑(Subtype.val x_1) : Int) < (↑(List.length ls) : Int)) then (0 : Int) ≤ (↑(Subtype.val x_1) : Int) ∧ (↑(Subtype.val x_1) : Int) < (↑(List.length ls) : Int) ∧ List.length (List.flatten (List.take (Subtype.val x_1) ls)) = List.length (List.flatten (List.take (Subtype.val x_1) ls)) ∧ (List.length (List.flatten (List.take (Subtype.val x_1) ls)) + List.length (List.getD ls (Int.toNat (↑(Subtype.val x_1) : Int)) [])) * (1 : Nat) ≤ (140737488355328 : Nat) ∧ List.length (List.flatten (List.take (Subtype.val x_1) ls)) + List.length (List.getD ls (Int.toNat (↑(Subtype.val x_1) : Int)) []) ≤ (9223372036854775807 : Nat) ∧ ∃ (y : { i : Nat // i ≤ List.length ls }), (true = true ∧ true = true ∧ (54 : Nat) = (54 : Nat) ∧ Value.int IntKind.u32 x = Value.int IntKind.u32 x ∧ getL [(0 : Nat), (1 : Nat), (3 : Nat)] (0 : Nat) = some (0 : Nat) ∧ (0 : Nat) = (0 : Nat) ∧ getL [(0 : Nat), (1 : Nat), (3 : Nat)] (1 : Nat) = some (1 : Nat) ∧ (0 : Nat) = (0 : Nat) ∧ Value.int IntKind.i64 (↑(List.length (List.flatten ls)) : Int) = Value.int IntKind.i64 (↑(List.length (List.flatten ls)) : Int) ∧ getL [(0 : Nat), (1 : Nat), (3 : Nat)] (2 : Nat) = some (Nat.add (Nat.add (3 : Nat) (0 : Nat)) (0 : Nat)) ∧ (1 : Nat) = (1 : Nat) ∧ List.length (List.flatten (List.take (Subtype.val x_1) ls)) + List.length (List.getD ls (Int.toNat (↑(Subtype.val x_1) : Int)) []) = List.length (List.flatten (List.take (Subtype.val y) ls)) ∧ ls = ls ∧ Value.int IntKind.i64 (↑(List.length ls) : Int) = Value.int IntKind.i64 (↑(List.length ls) : Int) ∧ Value.int IntKind.i64 (IntKind.wrap IntKind.i64 ((↑(Subtype.val x_1) : Int) + (1 : Int))) = Value.int IntKind.i64 (↑(Subtype.val y) : Int) ∧ (23 : Nat) = (23 : Nat) ∧ (32 : Nat) = (32 : Nat) ∧ key = key ∧ (25 : Nat) = (25 : Nat) ∧ (12 : Nat) = (12 : Nat) ∧ nonce = nonce ∧ (5 : Nat) = (5 : Nat) ∧ (1 : Nat) = (1 : Nat) ∧ List.flatten (List.take (Subtype.val x_1) ls) ++ List.getD ls (Int.toNat (↑(Subtype.val x_1) : Int)) [] = List.flatten (List.take (Subtype.val y) ls)) ∧ List.length ls - Subtype.val y < List.length ls - Subtype.val x_1 else (64 : Int) ≠ (0 : Int) ∧ (∃ (x_2 : { i : Nat // i ≤ (List.length (List.flatten ls) + (63 : Nat)) / (64 : Nat) }), true = true ∧ true = true ∧ (54 : Nat) = (54 : Nat) ∧ Value.int IntKind.u32 x = Value.int IntKind.u32 x ∧ getL [(0 : Nat), (1 : Nat), (2 : Nat)] (0 : Nat) = some (0 : Nat) ∧ (0 : Nat) = (0 : Nat) ∧ getL [(0 : Nat), (1 : Nat), (2 : Nat)] (1 : Nat) = some (1 : Nat) ∧ (0 : Nat) = (0 : Nat) ∧ getL [(0 : Nat), (1 : Nat), (2 : Nat)] (2 : Nat) = some (2 : Nat) ∧ (1 : Nat) = (1 : Nat) ∧ List.length (List.flatten (List.take (Subtype.val x_1) ls)) = List.length (List.flatten ls) ∧ Value.int IntKind.i64 (IntKind.wrap IntKind.i64 (Int.tdiv (IntKind.wrap IntKind.i64 (IntKind.wrap IntKind.i64 ((↑(List.length (List.flatten ls)) : Int) + (64 : Int)) - (1 : Int))) (64 : Int))) = Value.int IntKind.i64 (↑((List.length (List.flatten ls) + (63 : Nat)) / (64 : Nat)) : Int) ∧ Value.int IntKind.i64 (0 : Int) = Value.int IntKind.i64 (↑(Subtype.val x_2) : Int) ∧ (23 : Nat) = (23 : Nat) ∧ (32 : Nat) = (32 : Nat) ∧ key = key ∧ (25 : Nat) = (25 : Nat) ∧ (12 : Nat) = (12 : Nat) ∧ nonce = nonce ∧ (5 : Nat) = (5 : Nat) ∧ (1 : Nat) = (1 : Nat) ∧ List.flatten (List.take (Subtype.val x_1) ls) = mixL key nonce x (List.flatten ls) (List.length (List.flatten ls)) (Subtype.val x_2)) ∧ ∀ (x_2 : { i : Nat // i ≤ (List.length (List.flatten ls) + (63 : Nat)) / (64 : Nat) }), bif decide ((↑(Subtype.val x_2) : Int) < (↑((List.length (List.flatten ls) + (63 : Nat)) / (64 : Nat)) : Int)) then true = true ∧ (32 : Nat) = (32 : Nat) ∧ key = key ∧ (12 : Nat) = (12 : Nat) ∧ nonce = nonce ∧ Value.int IntKind.u32 (IntKind.wrap IntKind.u32 (x + IntKind.wrap IntKind.u32 (↑(Subtype.val x_2) : Int))) = Value.int IntKind.u32 (IntKind.wrap IntKind.u32 (x + IntKind.wrap IntKind.u32 (↑(Subtype.val x_2) : Int))) ∧ List.length key = (32 : Nat) ∧ List.length nonce = (12 : Nat) ∧ (0 : Int) ≤ IntKind.wrap IntKind.i64 ((↑(Subtype.val x_2) : Int) * (64 : Int)) ∧ Int.toNat (IntKind.wrap IntKind.i64 ((↑(Subtype.val x_2) : Int) * (64 : Int))) ≤ List.length (List.flatten ls) ∧ true = true ∧ getL [(2 : Nat)] (0 : Nat) = some (2 : Nat) ∧ (0 : Nat) + Int.toNat (IntKind.wrap IntKind.i64 ((↑(Subtype.val x_2) : Int) * (64 : Int))) = (0 : Nat) + Int.toNat (IntKind.wrap IntKind.i64 ((↑(Subtype.val x_2) : Int) * (64 : Int))) ∧ List.length (List.flatten ls) - Int.toNat (IntKind.wrap IntKind.i64 ((↑(Subtype.val x_2) : Int) * (64 : Int))) = List.length (List.flatten ls) - Int.toNat (IntKind.wrap IntKind.i64 ((↑(Subtype.val x_2) : Int) * (64 : Int))) ∧ (64 : Nat) = (64 : Nat) ∧ chachaL key nonce (IntKind.wrap IntKind.u32 (x + IntKind.wrap IntKind.u32 (↑(Subtype.val x_2) : Int))) = chachaL key nonce (IntKind.wrap IntKind.u32 (x + IntKind.wrap IntKind.u32 (↑(Subtype.val x_2) : Int))) ∧ (5 : Nat) = (5 : Nat) ∧ (1 : Nat) = (1 : Nat) ∧ mixL key nonce x (List.flatten ls) (List.length (List.flatten ls)) (Subtype.val x_2) = mixL key nonce x (List.flatten ls) (List.length (List.flatten ls)) (Subtype.val x_2) ∧ Int.toNat (IntKind.wrap IntKind.i64 ((↑(Subtype.val x_2) : Int) * (64 : Int))) + (List.length (List.flatten ls) - Int.toNat (IntKind.wrap IntKind.i64 ((↑(Subtype.val x_2) : Int) * (64 : Int)))) ≤ List.length (mixL key nonce x (List.flatten ls) (List.length (List.flatten ls)) (Subtype.val x_2)) ∧ List.length (mixL key nonce x (List.flatten ls) (List.length (List.flatten ls)) (Subtype.val x_2)) ≤ (9223372036854775807 : Nat) ∧ ∃ (y : { i : Nat // i ≤ (List.length (List.flatten ls) + (63 : Nat)) / (64 : Nat) }), (true = true ∧ true = true ∧ (54 : Nat) = (54 : Nat) ∧ Value.int IntKind.u32 x = Value.int IntKind.u32 x ∧ getL [(0 : Nat), (1 : Nat), (2 : Nat)] (0 : Nat) = some (0 : Nat) ∧ (0 : Nat) = (0 : Nat) ∧ getL [(0 : Nat), (1 : Nat), (2 : Nat)] (1 : Nat) = some (1 : Nat) ∧ (0 : Nat) = (0 : Nat) ∧ getL [(0 : Nat), (1 : Nat), (2 : Nat)] (2 : Nat) = some (2 : Nat) ∧ (1 : Nat) = (1 : Nat) ∧ List.length (List.flatten ls) = List.length (List.flatten ls) ∧ Value.int IntKind.i64 (↑((List.length (List.flatten ls) + (63 : Nat)) / (64 : Nat)) : Int) = Value.int IntKind.i64 (↑((List.length (List.flatten ls) + (63 : Nat)) / (64 : Nat)) : Int) ∧ Value.int IntKind.i64 (IntKind.wrap IntKind.i64 ((↑(Subtype.val x_2) : Int) + (1 : Int))) = Value.int IntKind.i64 (↑(Subtype.val y) : Int) ∧ (23 : Nat) = (23 : Nat) ∧ (32 : Nat) = (32 : Nat) ∧ key = key ∧ (25 : Nat) = (25 : Nat) ∧ (12 : Nat) = (12 : Nat) ∧ nonce = nonce ∧ (5 : Nat) = (5 : Nat) ∧ (1 : Nat) = (1 : Nat) ∧ covL (mixL key nonce x (List.flatten ls) (List.length (List.flatten ls)) (Subtype.val x_2)) (Int.toNat (IntKind.wrap IntKind.i64 ((↑(Subtype.val x_2) : Int) * (64 : Int)))) (chachaL key nonce (IntKind.wrap IntKind.u32 (x + IntKind.wrap IntKind.u32 (↑(Subtype.val x_2) : Int)))) (min (List.length (List.flatten ls) - Int.toNat (IntKind.wrap IntKind.i64 ((↑(Subtype.val x_2) : Int) * (64 : Int)))) (64 : Nat)) = mixL key nonce x (List.flatten ls) (List.length (List.flatten ls)) (Subtype.val y)) ∧ (List.length (List.flatten ls) + (63 : Nat)) / (64 : Nat) - Subtype.val y < (List.length (List.flatten ls) + (63 : Nat)) / (64 : Nat) - Subtype.val x_2 else true = true ∧ true = true ∧ (54 : Nat) = (54 : Nat) ∧ (5 : Nat) = (5 : Nat) ∧ (1 : Nat) = (1 : Nat) ∧ mixL key nonce x (List.flatten ls) (List.length (List.flatten ls)) (Subtype.val x_2) = mixA key nonce x (List.flatten ls) ∧ getL (ClN.ren (kMix (key, nonce, x, ls))) (0 : Nat) = some (2 : Nat) ∧ (1 : Nat) = (1 : Nat) ∧ List.length (List.flatten ls) = List.length (List.flatten ls) ∧ Value.int IntKind.i64 (0 : Int) = Value.int IntKind.i64 (0 : Int)) := by kernel_rfl

set_option maxHeartbeats 8000000 in
theorem wpMix (key nonce : List Int) (x : Int) (ls : List (List Int)) (h1 : ls.flatten.length ≤ 16777216) (h2 : ls.length ≤ 140737488355328) (h3 : key.length = 32) (h4 : nonce.length = 12) : wpE (FMix key nonce x ls) (Try.f13.body.getD .skip) ⟨Try.f13.ntmps, slotsOf 0 (kMix (key, nonce, x, ls)).avs, (kMix (key, nonce, x, ls)).mem⟩ (finK Try.prog Try.f13.results.toList (postN (kMix (key, nonce, x, ls)))) := by
  with_reducible refine Eq.mpr (vcMix key nonce x ls) ?_
  have ht : totA 16777216 0 ls = ls.flatten.length := by rw [totA_le (by omega)]; omega
  simp only [ht, Int.toNat_natCast]
  generalize hn : ls.flatten.length = n at *
  have hd : decide ((16777216 : Int) < (n : Int)) = false := decide_eq_false (by omega)
  rw [hd, cond_false, quo64 h1]
  simp only [Bool.cond_decide]
  have hT : mixA key nonce x ls.flatten = mixL key nonce x ls.flatten n ((n + 63) / 64) := by unfold mixA; rw [hn]
  and_intros
  all_goals first | omega | exact True.intro | rfl | (intro l hl; have := mem_flat l hl; omega) | skip
  · exact ⟨⟨0, Nat.zero_le _⟩, by and_intros <;> first | exact True.intro | rfl⟩
  · rintro ⟨i, hi⟩
    dsimp only at hi ⊢
    split
    · rename_i hil
      have hil' : i < ls.length := by omega
      have hf := flat_take hil'
      have hle := flat_take_le ls (i + 1)
      rw [hf, List.length_append] at hle
      simp only [wrapS (i := i) (by omega)]
      and_intros
      all_goals first | omega | exact True.intro | skip
      refine ⟨⟨i + 1, hil'⟩, ?_, by show ls.length - (i + 1) < ls.length - i; omega⟩
      dsimp only
      rw [hf, List.length_append]
      and_intros <;> first | exact True.intro | rfl
    · rename_i hil
      have hil' : i = ls.length := by omega
      subst hil'
      simp only [List.take_length, mixL_len, hn]
      and_intros
      all_goals first | omega | exact True.intro | skip
      · exact ⟨⟨0, Nat.zero_le _⟩, by and_intros <;> first | exact True.intro | rfl⟩
      · rintro ⟨j, hj⟩
        dsimp only at hj ⊢
        simp only [mul64i (i := j) (by omega), wrap1 (i := j) (by omega), Int.toNat_natCast]
        split
        · rename_i hjn
          have hjn' : j < (n + 63) / 64 := by omega
          and_intros
          all_goals first | omega | exact True.intro | rfl | skip
          refine ⟨⟨j + 1, hjn'⟩, ?_, by show (n + 63) / 64 - (j + 1) < (n + 63) / 64 - j; omega⟩
          and_intros <;> first | exact True.intro | rfl
        · rename_i hjn
          have hjn' : j = (n + 63) / 64 := by omega
          subst hjn'
          and_intros <;> first | exact True.intro | rfl | exact hT.symm
set_option maxHeartbeats 8000000 in
theorem cMix_ok : SpecOK Try.prog cMix := by
  refine callG_ok (c := Try.f13.body.getD .skip) mixed Try.func13 (by kernel_rfl) rfl (fun x hob => ?_)
  obtain ⟨key, nonce, x, ls⟩ := x
  have hob : (ls.flatten.length ≤ 16777216) ∧ (ls.length ≤ 140737488355328) ∧ (key.length = 32) ∧ (nonce.length = 12) := hob
  obtain ⟨h1, h2, h3, h4⟩ := hob
  exact ⟨FMix key nonce x ls, rfl, evOKs ⟨.inl ⟨cTotal_ok, by kernel_rfl, gl_nil rfl⟩, ⟨.inl ⟨cBlock_ok, by kernel_rfl, gl_nil rfl⟩, ⟨.inl ⟨cCover_ok, by kernel_rfl, gl_nil rfl⟩, trivial⟩⟩⟩, rfl, rfl, by with_reducible exact wpMix key nonce x ls h1 h2 h3 h4⟩
end Go.Proofs.Ythlleheeghiljaa
namespace Go.Proofs.Ythlleheeghiljaa
open Go.RowKit
set_option maxRecDepth 100000

theorem Bys.at {l : List Int} (h : Bys l) (k : Nat) : 0 ≤ l.getD k 0 ∧ l.getD k 0 < 256 := by
  rw [List.getD_eq_getElem?_getD]
  cases e : l[k]? with
  | none => simp
  | some x => exact h x (List.mem_of_getElem? e)
theorem Bys.set {l : List Int} (h : Bys l) (k : Nat) {x : Int} (hx : 0 ≤ x ∧ x < 256) : Bys (l.set k x) := by
  intro y hy
  rcases List.mem_or_eq_of_mem_set hy with h1 | rfl
  · exact h y h1
  · exact hx
theorem Bys.drop {l : List Int} (h : Bys l) (k : Nat) : Bys (l.drop k) := fun x hx => h x (List.mem_of_mem_drop hx)
theorem Bys.take {l : List Int} (h : Bys l) (k : Nat) : Bys (l.take k) := fun x hx => h x (List.mem_of_mem_take hx)
theorem wrapU8 (x : Int) : IntKind.wrap .u8 x = x % 256 := by simp [IntKind.wrap, IntKind.bits, IntKind.signed]
theorem wrapU32 (x : Int) : IntKind.wrap .u32 x = x % 4294967296 := by simp [IntKind.wrap, IntKind.bits, IntKind.signed]
theorem wrapU8_in (x : Int) : 0 ≤ IntKind.wrap .u8 x ∧ IntKind.wrap .u8 x < 256 := by rw [wrapU8]; omega
theorem putL_bys {l : List Int} (h : Bys l) (k : Nat) (x : Int) : Bys (putL l k x) :=
  (((h.set _ (wrapU8_in _)).set _ (wrapU8_in _)).set _ (wrapU8_in _)).set _ (wrapU8_in _)
theorem putL_len (l : List Int) (k : Nat) (x : Int) : (putL l k x).length = l.length := by simp [putL]
theorem outL_bys (x l : List Int) : ∀ n b, Bys b → Bys (outL x l n b)
  | 0, _, h => h
  | n + 1, b, h => putL_bys (outL_bys x l n b h) _ _
theorem outL_len (x l : List Int) : ∀ n b, (outL x l n b).length = b.length
  | 0, _ => rfl
  | n + 1, b => by rw [outL, putL_len, outL_len x l n b]
theorem chachaL_bys (k n : List Int) (x : Int) : Bys (chachaL k n x) := outL_bys _ _ _ _ (fun y hy => by rw [List.mem_replicate] at hy; omega)
theorem chachaL_len (k n : List Int) (x : Int) : (chachaL k n x).length = 64 := by
  unfold chachaL blockL
  rw [outL_len]; simp
def xorB (a b : Int) : Int := bits .xor .u8 a b
theorem xorB_nat (a b : Nat) (ha : a < 256) (hb : b < 256) : xorB a b = ((a ^^^ b : Nat) : Int) := by
  have ha' : a % 2 ^ IntKind.bits .u8 = a := Nat.mod_eq_of_lt ha
  have hb' : b % 2 ^ IntKind.bits .u8 = b := Nat.mod_eq_of_lt hb
  have hx : a ^^^ b < 256 := Nat.xor_lt_two_pow (n := 8) ha hb
  unfold xorB
  simp only [bits, BitVec.ofInt_natCast, BitVec.toNat_xor, BitVec.toNat_ofNat, ha', hb']
  rw [wrapU8]; omega
theorem xorB_in (a b : Int) : 0 ≤ xorB a b ∧ xorB a b < 256 := ⟨bits_lo_u8 _ _ _, by have := bits_hi_u8 .xor a b; unfold xorB; omega⟩
theorem xorB_back {a b : Int} (ha : 0 ≤ a ∧ a < 256) (hb : 0 ≤ b ∧ b < 256) : xorB (xorB a b) b = a := by
  obtain ⟨m, rfl⟩ := Int.eq_ofNat_of_zero_le ha.1
  obtain ⟨n, rfl⟩ := Int.eq_ofNat_of_zero_le hb.1
  have hm : m < 256 := by omega
  have hn : n < 256 := by omega
  rw [xorB_nat m n hm hn, xorB_nat _ _ (Nat.xor_lt_two_pow (n := 8) hm hn) hn, Nat.xor_assoc, Nat.xor_self, Nat.xor_zero]
theorem xorB_zero {b : Int} (hb : 0 ≤ b ∧ b < 256) : xorB 0 b = b := by
  obtain ⟨n, rfl⟩ := Int.eq_ofNat_of_zero_le hb.1
  have hn : n < 256 := by omega
  have := xorB_nat 0 n (by omega) hn
  rw [Nat.zero_xor] at this
  exact this
theorem getDset (l : List Int) (i p : Nat) (x : Int) (h : i < l.length) : (l.set i x).getD p 0 = if i = p then x else l.getD p 0 := by
  rw [List.getD_eq_getElem?_getD, List.getElem?_set, List.getD_eq_getElem?_getD]
  by_cases e : i = p
  · subst e; simp [h]
  · simp [e]
theorem covL_at (l : List Int) (k : Nat) (b : List Int) (p : Nat) : ∀ i, k + i ≤ l.length → (covL l k b i).getD p 0 = if k ≤ p ∧ p < k + i then xorB (l.getD p 0) (b.getD (p - k) 0) else l.getD p 0
  | 0, _ => by rw [if_neg (by omega)]; rfl
  | i + 1, h => by
    rw [covL, getDset _ _ _ _ (by rw [covL_len]; omega), covL_at l k b (k + i) i (by omega), covL_at l k b p i (by omega)]
    by_cases e : k + i = p
    · subst e
      rw [if_pos rfl, if_neg (by omega), if_pos (by omega), show k + i - k = i by omega]; rfl
    · rw [if_neg e]
      by_cases e2 : k ≤ p ∧ p < k + i
      · rw [if_pos e2, if_pos (by omega)]
      · rw [if_neg e2, if_neg (by omega)]
/-- The stream's byte at a place. -/
def strm (key nonce : List Int) (x : Int) (p : Nat) : Int := (chachaL key nonce (IntKind.wrap .u32 (x + IntKind.wrap .u32 ((p / 64 : Nat) : Int)))).getD (p % 64) 0
theorem strm_in (key nonce : List Int) (x : Int) (p : Nat) : 0 ≤ strm key nonce x p ∧ strm key nonce x p < 256 := (chachaL_bys _ _ _).at _
theorem mixL_at (key nonce : List Int) (x : Int) (t : List Int) (n : Nat) (hn : t.length = n) (p : Nat) (hp : p < n) : ∀ i, i ≤ (n + 63) / 64 → (mixL key nonce x t n i).getD p 0 = if p < 64 * i then xorB (t.getD p 0) (strm key nonce x p) else t.getD p 0
  | 0, _ => by rw [if_neg (by omega)]; rfl
  | i + 1, h => by
    have ih := mixL_at key nonce x t n hn p hp i (by omega)
    rw [mixL, covL_at _ _ _ _ _ (by rw [mixL_len]; omega), ih]
    by_cases e : p < 64 * i
    · rw [if_neg (by omega), if_pos e, if_pos (by omega)]
    · by_cases e2 : p < 64 * i + 64
      · rw [if_pos (by omega), if_neg e, if_pos (by omega)]
        unfold strm
        rw [show p / 64 = i by omega, show p % 64 = p - 64 * i by omega]
      · rw [if_neg (by omega), if_neg e, if_neg (by omega)]
theorem mixA_len (key nonce : List Int) (x : Int) (t : List Int) : (mixA key nonce x t).length = t.length := mixL_len _ _ _ _ _ _
theorem mixA_at (key nonce : List Int) (x : Int) (t : List Int) (p : Nat) (hp : p < t.length) : (mixA key nonce x t).getD p 0 = xorB (t.getD p 0) (strm key nonce x p) := by
  unfold mixA
  rw [mixL_at key nonce x t _ rfl p hp _ (Nat.le_refl _), if_pos (by omega)]
theorem ext_getD {l m : List Int} (hl : l.length = m.length) (h : ∀ p, p < l.length → l.getD p 0 = m.getD p 0) : l = m := by
  apply List.ext_getElem hl
  intro p h1 h2
  have := h p h1
  simpa [List.getD_eq_getElem?_getD, h1, h2] using this
theorem mixA_back (key nonce : List Int) (x : Int) {t : List Int} (ht : Bys t) : mixA key nonce x (mixA key nonce x t) = t := by
  refine ext_getD (by rw [mixA_len, mixA_len]) (fun p hp => ?_)
  rw [mixA_len, mixA_len] at hp
  rw [mixA_at _ _ _ _ _ (by rw [mixA_len]; exact hp), mixA_at _ _ _ _ _ hp, xorB_back (ht.at p) (strm_in _ _ _ _)]
end Go.Proofs.Ythlleheeghiljaa
