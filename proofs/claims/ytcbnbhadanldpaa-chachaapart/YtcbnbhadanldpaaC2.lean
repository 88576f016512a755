/-
  chacha: bytes mixed.
-/
import Derived.Test.YtcbnbhadanldpaaC1
namespace Go.Proofs.Ytcbnbhadanldpaa
open Go.RowKit
set_option maxRecDepth 100000

/-- The first i bytes from k on, each with one of b. -/
def covL (l : List Int) (k : Nat) (b : List Int) : Nat → List Int
  | 0 => l
  | i + 1 => (covL l k b i).set (k + i) (bits .xor .u8 ((covL l k b i).getD (k + i) 0) (b.getD i 0))
theorem covL_len (l : List Int) (k : Nat) (b : List Int) : ∀ i, (covL l k b i).length = l.length
  | 0 => rfl
  | i + 1 => by rw [covL, List.length_set]; exact covL_len l k b i
theorem wrap64 {i : Nat} (h : i ≤ 64) : IntKind.wrap .i64 ((i : Int) + 1) = ((i + 1 : Nat) : Int) := by
  rw [IntKind.wrap_i64]; omega
noncomputable def stCover (k n ty : Nat) (l b : List Int) (i : Nat) : St := ⟨Try.f32.ntmps, [(0, .o (.c (.sub 0 0 k n))), (3, .o (.c (.ptr 1 0 none))), (7, vv (.int .i64 (if (64 : Int) < (n : Int) then 64 else (n : Int)))), (8, vv (.int .i64 (i : Int)))], [.grow ty 1 (.i .u8 (covL l k b i)), .fix 28 [.many 64 (.i .u8 b)]]⟩
def kCover : Nat × Nat × Nat × (List Int) × (List Int) → ClN := fun (k, n, ty, l, b) => ⟨[.o (.c (.sub 0 0 k n)), .o (.g [.many 64 (.i .u8 b)])], [.grow ty 1 (.i .u8 l)], .t [], [.grow ty 1 (.i .u8 (covL l k b (min n 64)))], [0], [k + n ≤ l.length, l.length ≤ 9223372036854775807]⟩
noncomputable def FCover (k n ty : Nat) (l b : List Int) : FnE := ⟨mkEv Try.prog [] [] 1, [0, 1, 3, 4, 7, 8, 9], fun _ _ => .inv { i : Nat // i ≤ min n 64 } (fun i => stCover k n ty l b i.val) (fun i => min n 64 - i.val) [0, 1] [0, 1]⟩
def mCover : List AV → (Nat → Option MB) → Option (List Nat × (Nat × Nat × Nat × (List Int) × (List Int)))
  | [.o (.c (.sub i 0 k n)), .o (.g [.many 64 (.i .u8 b)])], lk => match lk i with
    | some (.grow ty 1 (.i .u8 l)) => some ([i], k, n, ty, l, b)
    | _ => none
  | _, _ => none
noncomputable def cCover : Spec := callG 32 Try.f32.ntmps mCover kCover
theorem vcCover (k n ty : Nat) (l b : List Int) : (wpE (FCover k n ty l b) (Try.f32.body.getD .skip) ⟨Try.f32.ntmps, slotsOf 0 (kCover (k, n, ty, l, b)).avs, (kCover (k, n, ty, l, b)).mem⟩ (finK Try.prog Try.f32.results.toList (postN (kCover (k, n, ty, l, b))))) = (let x1 := if (64 : Int) < (↑n : Int) then (64 : Int) else (↑n : Int); (∃ (x : { i : Nat // i ≤ min n (64 : Nat) }), true = true ∧ true = true ∧ (21 : Nat) = (21 : Nat) ∧ getL [(0 : Nat), (1 : Nat)] (0 : Nat) = some (0 : Nat) ∧ (0 : Nat) + k = (0 : Nat) + k ∧ n = n ∧ getL [(0 : Nat), (1 : Nat)] (1 : Nat) = some (1 : Nat) ∧ (0 : Nat) = (0 : Nat) ∧ Value.int IntKind.i64 x1 = Value.int IntKind.i64 x1 ∧ Value.int IntKind.i64 (0 : Int) = Value.int IntKind.i64 (↑(Subtype.val x) : Int) ∧ ty = ty ∧ (1 : Nat) = (1 : Nat) ∧ l = covL l k b (Subtype.val x) ∧ (28 : Nat) = (28 : Nat) ∧ (64 : Nat) = (64 : Nat) ∧ b = b) ∧ ∀ (x : { i : Nat // i ≤ min n (64 : Nat) }), bif decide ((↑(Subtype.val x) : Int) < x1) then (0 : Int) ≤ (↑(Subtype.val x) : Int) ∧ (↑(Subtype.val x) : Int) < (↑n : Int) ∧ k + Int.toNat (↑(Subtype.val x) : Int) < List.length (covL l k b (Subtype.val x)) ∧ (0 : Int) ≤ (↑(Subtype.val x) : Int) ∧ (↑(Subtype.val x) : Int) < (64 : Int) ∧ Int.toNat (↑(Subtype.val x) : Int) < (64 : Nat) ∧ (0 : Int) ≤ (↑(Subtype.val x) : Int) ∧ (↑(Subtype.val x) : Int) < (↑n : Int) ∧ k + Int.toNat (↑(Subtype.val x) : Int) < List.length (covL l k b (Subtype.val x)) ∧ ∃ (y : { i : Nat // i ≤ min n (64 : Nat) }), (true = true ∧ true = true ∧ (21 : Nat) = (21 : Nat) ∧ getL [(0 : Nat), (1 : Nat)] (0 : Nat) = some (0 : Nat) ∧ (0 : Nat) + k = (0 : Nat) + k ∧ n = n ∧ getL [(0 : Nat), (1 : Nat)] (1 : Nat) = some (1 : Nat) ∧ (0 : Nat) = (0 : Nat) ∧ Value.int IntKind.i64 x1 = Value.int IntKind.i64 x1 ∧ Value.int IntKind.i64 (IntKind.wrap IntKind.i64 ((↑(Subtype.val x) : Int) + (1 : Int))) = Value.int IntKind.i64 (↑(Subtype.val y) : Int) ∧ ty = ty ∧ (1 : Nat) = (1 : Nat) ∧ List.set (covL l k b (Subtype.val x)) (k + Int.toNat (↑(Subtype.val x) : Int)) (bits BinOp.xor IntKind.u8 (List.getD (covL l k b (Subtype.val x)) (k + Int.toNat (↑(Subtype.val x) : Int)) (0 : Int)) (List.getD b (Int.toNat (↑(Subtype.val x) : Int)) (0 : Int))) = covL l k b (Subtype.val y) ∧ (28 : Nat) = (28 : Nat) ∧ (64 : Nat) = (64 : Nat) ∧ b = b) ∧ min n (64 : Nat) - Subtype.val y < min n (64 : Nat) - Subtype.val x else true = true ∧ true = true ∧ (21 : Nat) = (21 : Nat) ∧ ty = ty ∧ (1 : Nat) = (1 : Nat) ∧ covL l k b (Subtype.val x) = covL l k b (min n (64 : Nat))) := by kernel_rfl

set_option maxHeartbeats 8000000 in
theorem wpCover (k n ty : Nat) (l b : List Int) (h1 : k + n ≤ l.length) (h2 : l.length ≤ 9223372036854775807) : wpE (FCover k n ty l b) (Try.f32.body.getD .skip) ⟨Try.f32.ntmps, slotsOf 0 (kCover (k, n, ty, l, b)).avs, (kCover (k, n, ty, l, b)).mem⟩ (finK Try.prog Try.f32.results.toList (postN (kCover (k, n, ty, l, b)))) := by
  with_reducible refine Eq.mpr (vcCover k n ty l b) ?_
  intro x1
  have hx1 : x1 = ((min n 64 : Nat) : Int) := by
    show (if (64 : Int) < (n : Int) then (64 : Int) else (n : Int)) = _
    split <;> omega
  clear_value x1
  refine ⟨⟨⟨0, Nat.zero_le _⟩, ?_⟩, ?_⟩
  · and_intros <;> first | trivial | rfl
  · rintro ⟨i, hi⟩
    simp only [covL_len, Int.toNat_natCast]
    by_cases hc : i < min n 64
    · have hd : decide ((i : Int) < x1) = true := decide_eq_true (by omega)
      rw [hd, cond_true]
      refine ⟨by omega, by omega, by omega, by omega, by omega, by omega, by omega, by omega, by omega, ⟨i + 1, hc⟩, ?_, by show min n 64 - (i + 1) < min n 64 - i; omega⟩
      rw [wrap64 (by omega)]
      and_intros <;> first | trivial | rfl
    · have hd : decide ((i : Int) < x1) = false := decide_eq_false (by omega)
      rw [hd, cond_false]
      have : i = min n 64 := by omega
      subst this
      and_intros <;> first | trivial | rfl
set_option maxHeartbeats 8000000 in
theorem cCover_ok : SpecOK Try.prog cCover := by
  refine callG_ok (c := Try.f32.body.getD .skip) mixed Try.func32 (by kernel_rfl) rfl (fun x hob => ?_)
  obtain ⟨k, n, ty, l, b⟩ := x
  have hob : (k + n ≤ l.length) ∧ (l.length ≤ 9223372036854775807) := hob
  obtain ⟨h1, h2⟩ := hob
  exact ⟨FCover k n ty l b, rfl, evOKs trivial, rfl, rfl, by with_reducible exact wpCover k n ty l b h1 h2⟩

theorem wrapN {n : Nat} (h : n ≤ 9223372036854775807) : IntKind.wrap .i64 ((0 : Int) + (n : Int)) = (n : Int) := by
  rw [IntKind.wrap_i64]; omega
def kTotal : Nat × Nat × (List Int) → ClN := fun (ty, n, l) => ⟨[.o (.c (.sub 0 0 0 1))], [.ro ty [.one (.rs 1 n (.i .u8 l))]], vv (.int .i64 (n : Int)), [.dead], [0], [n ≤ 9223372036854775807]⟩
noncomputable def FTotal : FnE := ⟨mkEv Try.prog [] [] 1, [0, 2, 3, 5, 6, 7, 8, 9, 17], fun _ _ => .rounds 2⟩
def mTotal : List AV → (Nat → Option MB) → Option (List Nat × (Nat × Nat × (List Int)))
  | [.o (.c (.sub i 0 0 1))], lk => match lk i with
    | some (.fix ty [.one (.rs 1 n (.i .u8 l))]) => some ([i], ty, n, l)
    | some (.ro ty [.one (.rs 1 n (.i .u8 l))]) => some ([i], ty, n, l)
    | _ => none
  | _, _ => none
noncomputable def cTotal : Spec := callG 31 Try.f31.ntmps mTotal kTotal
theorem vcTotal (ty n : Nat) (l : List Int) : (wpE FTotal (Try.f31.body.getD .skip) ⟨Try.f31.ntmps, slotsOf 0 (kTotal (ty, n, l)).avs, (kTotal (ty, n, l)).mem⟩ (finK Try.prog Try.f31.results.toList (postN (kTotal (ty, n, l))))) = (let x1 := IntKind.wrap IntKind.i64 ((0 : Int) + (↑n : Int)); (0 : Int) ≤ (0 : Int) ∧ (0 : Int) < (1 : Int) ∧ bif decide ((16777216 : Int) < x1) then true = true ∧ true = true ∧ (20 : Nat) = (20 : Nat) ∧ Value.int IntKind.i64 x1 = Value.int IntKind.i64 (↑n : Int) else true = true ∧ true = true ∧ (20 : Nat) = (20 : Nat) ∧ Value.int IntKind.i64 x1 = Value.int IntKind.i64 (↑n : Int)) := by kernel_rfl

set_option maxHeartbeats 8000000 in
theorem wpTotal (ty n : Nat) (l : List Int) (h1 : n ≤ 9223372036854775807) : wpE FTotal (Try.f31.body.getD .skip) ⟨Try.f31.ntmps, slotsOf 0 (kTotal (ty, n, l)).avs, (kTotal (ty, n, l)).mem⟩ (finK Try.prog Try.f31.results.toList (postN (kTotal (ty, n, l)))) := by
  with_reducible refine Eq.mpr (vcTotal ty n l) ?_
  rw [wrapN h1]
  refine ⟨by omega, by omega, ?_⟩
  cases decide ((16777216 : Int) < (n : Int)) <;> and_intros <;> rfl
set_option maxHeartbeats 8000000 in
theorem cTotal_ok : SpecOK Try.prog cTotal := by
  refine callG_ok (c := Try.f31.body.getD .skip) mixed Try.func31 (by kernel_rfl) rfl (fun x hob => ?_)
  obtain ⟨ty, n, l⟩ := x
  have hob : (n ≤ 9223372036854775807) := hob
  have h1 := hob
  exact ⟨FTotal, rfl, evOKs trivial, rfl, rfl, by with_reducible exact wpTotal ty n l h1⟩

/-- The bytes after i blocks. -/
def mixL (key nonce : List Int) (x : Int) (t : List Int) (n : Nat) : Nat → List Int
  | 0 => t
  | i + 1 => covL (mixL key nonce x t n i) (64 * i) (chachaL key nonce (IntKind.wrap .u32 (x + IntKind.wrap .u32 (i : Int)))) (min (n - 64 * i) 64)
theorem mixL_len (key nonce : List Int) (x : Int) (t : List Int) (n : Nat) : ∀ i, (mixL key nonce x t n i).length = t.length
  | 0 => rfl
  | i + 1 => by rw [mixL, covL_len]; exact mixL_len key nonce x t n i
theorem quo64 {n : Nat} (h : n ≤ 16777216) : IntKind.wrap .i64 (Int.tdiv (IntKind.wrap .i64 (IntKind.wrap .i64 ((n : Int) + 64) - 1)) 64) = (((n + 63) / 64 : Nat) : Int) := by
  have h1 : IntKind.wrap .i64 ((n : Int) + 64) = ((n + 64 : Nat) : Int) := by rw [IntKind.wrap_i64]; omega
  have h2 : IntKind.wrap .i64 (((n + 64 : Nat) : Int) - 1) = ((n + 63 : Nat) : Int) := by rw [IntKind.wrap_i64]; omega
  rw [h1, h2, Int.tdiv_eq_ediv_of_nonneg (by omega), IntKind.wrap_i64]; omega
theorem mul64i {i : Nat} (h : i ≤ 16777216) : IntKind.wrap .i64 ((i : Int) * 64) = ((64 * i : Nat) : Int) := by rw [IntKind.wrap_i64]; omega
theorem wrap1 {i : Nat} (h : i ≤ 16777216) : IntKind.wrap .i64 ((i : Int) + 1) = ((i + 1 : Nat) : Int) := by rw [IntKind.wrap_i64]; omega
noncomputable def stMix (key nonce : List Int) (x : Int) (ty n : Nat) (t : List Int) (i : Nat) : St := ⟨Try.f18.ntmps, [(2, vv (.int .u32 x)), (4, .o (.c (.ptr 1 0 none))), (5, .o (.c (.ptr 2 0 none))), (11, .o (.c (.os 3 1 n))), (35, vv (.int .i64 (((n + 63) / 64 : Nat) : Int))), (36, vv (.int .i64 (i : Int)))], [.ro ty [.one (.rs 1 n (.i .u8 t))], .fix 23 [.many 32 (.i .u8 key)], .fix 25 [.many 12 (.i .u8 nonce)], .grow 5 1 (.i .u8 (mixL key nonce x t n i))]⟩
def kMix : (List Int) × (List Int) × Int × Nat × Nat × (List Int) → ClN := fun (key, nonce, x, ty, n, t) => ⟨[.o (.g [.many 32 (.i .u8 key)]), .o (.g [.many 12 (.i .u8 nonce)]), vv (.int .u32 x), .o (.c (.sub 0 0 0 1))], [.ro ty [.one (.rs 1 n (.i .u8 t))]], .t [.c (.os 1 1 n), .c (.v (.int .i64 0))], [.dead, .grow 5 1 (.i .u8 (mixL key nonce x t n ((n + 63) / 64)))], [0, 3], [n ≤ 16777216, t.length = n, key.length = 32, nonce.length = 12]⟩
noncomputable def FMix (key nonce : List Int) (x : Int) (ty n : Nat) (t : List Int) : FnE := ⟨mkEv Try.prog [] [cTotal, cBlock, cCover] 1, [0, 1, 2, 3, 4, 5, 8, 9, 10, 11, 13, 14, 15, 19, 22, 23, 24, 25, 35, 36, 37], fun r _ => cond (Nat.beq r 6) (.rounds 2) (.inv { i : Nat // i ≤ (n + 63) / 64 } (fun i => stMix key nonce x ty n t i.val) (fun i => (n + 63) / 64 - i.val) [0, 1, 2, 4] [0, 1, 2, 3])⟩
def mMix : List AV → (Nat → Option MB) → Option (List Nat × ((List Int) × (List Int) × Int × Nat × Nat × (List Int)))
  | [.o (.g [.many 32 (.i .u8 key)]), .o (.g [.many 12 (.i .u8 nonce)]), .o (.c (.v (.int .u32 x))), .o (.c (.sub i 0 0 1))], lk => match lk i with
    | some (.fix ty [.one c]) => match slI lk c with
      | some (n, t) => some ([i], key, nonce, x, ty, n, t)
      | none => none
    | _ => none
  | _, _ => none
noncomputable def cMix : Spec := callG 18 Try.f18.ntmps mMix kMix
theorem vcMix (key nonce : List Int) (x : Int) (ty n : Nat) (t : List Int) : (wpE (FMix key nonce x ty n t) (Try.f18.body.getD .skip) ⟨Try.f18.ntmps, slotsOf 0 (kMix (key, nonce, x, ty, n, t)).avs, (kMix (key, nonce, x, ty, n, t)).mem⟩ (finK Try.prog Try.f18.results.toList (postN (kMix (key, nonce, x, ty, n, t))))) = (true = true ∧ getL [(0 : Nat)] (0 : Nat) = some (0 : Nat) ∧ (0 : Nat) = (0 : Nat) ∧ (1 : Nat) = (1 : Nat) ∧ ty = ty ∧ true = true ∧ n = n ∧ t = t ∧ n ≤ (9223372036854775807 : Nat) ∧ bif decide ((16777216 : Int) < (↑n : Int)) then true = true ∧ true = true ∧ (54 : Nat) = (54 : Nat) ∧ False ∧ False ∧ Value.int IntKind.i64 (2 : Int) = Value.int IntKind.i64 (0 : Int) else (0 : Int) ≤ (0 : Int) ∧ (0 : Int) ≤ (↑n : Int) ∧ (1 : Int) * (↑n : Int) ≤ (281474976710656 : Int) ∧ (↑n : Int) ≤ (9223372036854775807 : Int) ∧ (0 : Int) ≤ (0 : Int) ∧ (0 : Int) < (1 : Int) ∧ (0 : Nat) = (0 : Nat) ∧ ((0 : Nat) + n) * (1 : Nat) ≤ (140737488355328 : Nat) ∧ (0 : Nat) + n ≤ (9223372036854775807 : Nat) ∧ (64 : Int) ≠ (0 : Int) ∧ (∃ (x_1 : { i : Nat // i ≤ (n + (63 : Nat)) / (64 : Nat) }), true = true ∧ true = true ∧ (54 : Nat) = (54 : Nat) ∧ Value.int IntKind.u32 x = Value.int IntKind.u32 x ∧ getL [(0 : Nat), (1 : Nat), (2 : Nat), (4 : Nat)] (1 : Nat) = some (1 : Nat) ∧ (0 : Nat) = (0 : Nat) ∧ getL [(0 : Nat), (1 : Nat), (2 : Nat), (4 : Nat)] (2 : Nat) = some (Nat.add (1 : Nat) (1 : Nat)) ∧ (0 : Nat) = (0 : Nat) ∧ getL [(0 : Nat), (1 : Nat), (2 : Nat), (4 : Nat)] (3 : Nat) = some (Nat.add (Nat.add (4 : Nat) (0 : Nat)) (0 : Nat)) ∧ (1 : Nat) = (1 : Nat) ∧ (0 : Nat) + n = n ∧ Value.int IntKind.i64 (IntKind.wrap IntKind.i64 (Int.tdiv (IntKind.wrap IntKind.i64 (IntKind.wrap IntKind.i64 ((↑n : Int) + (64 : Int)) - (1 : Int))) (64 : Int))) = Value.int IntKind.i64 (↑((n + (63 : Nat)) / (64 : Nat)) : Int) ∧ Value.int IntKind.i64 (0 : Int) = Value.int IntKind.i64 (↑(Subtype.val x_1) : Int) ∧ ty = ty ∧ (1 : Nat) = (1 : Nat) ∧ n = n ∧ t = t ∧ (23 : Nat) = (23 : Nat) ∧ (32 : Nat) = (32 : Nat) ∧ key = key ∧ (25 : Nat) = (25 : Nat) ∧ (12 : Nat) = (12 : Nat) ∧ nonce = nonce ∧ (5 : Nat) = (5 : Nat) ∧ (1 : Nat) = (1 : Nat) ∧ List.replicate (0 : Nat) (0 : Int) ++ t = mixL key nonce x t n (Subtype.val x_1)) ∧ ∀ (x_1 : { i : Nat // i ≤ (n + (63 : Nat)) / (64 : Nat) }), bif decide ((↑(Subtype.val x_1) : Int) < (↑((n + (63 : Nat)) / (64 : Nat)) : Int)) then true = true ∧ (32 : Nat) = (32 : Nat) ∧ key = key ∧ (12 : Nat) = (12 : Nat) ∧ nonce = nonce ∧ Value.int IntKind.u32 (IntKind.wrap IntKind.u32 (x + IntKind.wrap IntKind.u32 (↑(Subtype.val x_1) : Int))) = Value.int IntKind.u32 (IntKind.wrap IntKind.u32 (x + IntKind.wrap IntKind.u32 (↑(Subtype.val x_1) : Int))) ∧ List.length key = (32 : Nat) ∧ List.length nonce = (12 : Nat) ∧ (0 : Int) ≤ IntKind.wrap IntKind.i64 ((↑(Subtype.val x_1) : Int) * (64 : Int)) ∧ Int.toNat (IntKind.wrap IntKind.i64 ((↑(Subtype.val x_1) : Int) * (64 : Int))) ≤ n ∧ true = true ∧ getL [(3 : Nat)] (0 : Nat) = some (3 : Nat) ∧ (0 : Nat) + Int.toNat (IntKind.wrap IntKind.i64 ((↑(Subtype.val x_1) : Int) * (64 : Int))) = (0 : Nat) + Int.toNat (IntKind.wrap IntKind.i64 ((↑(Subtype.val x_1) : Int) * (64 : Int))) ∧ n - Int.toNat (IntKind.wrap IntKind.i64 ((↑(Subtype.val x_1) : Int) * (64 : Int))) = n - Int.toNat (IntKind.wrap IntKind.i64 ((↑(Subtype.val x_1) : Int) * (64 : Int))) ∧ (64 : Nat) = (64 : Nat) ∧ chachaL key nonce (IntKind.wrap IntKind.u32 (x + IntKind.wrap IntKind.u32 (↑(Subtype.val x_1) : Int))) = chachaL key nonce (IntKind.wrap IntKind.u32 (x + IntKind.wrap IntKind.u32 (↑(Subtype.val x_1) : Int))) ∧ (5 : Nat) = (5 : Nat) ∧ (1 : Nat) = (1 : Nat) ∧ mixL key nonce x t n (Subtype.val x_1) = mixL key nonce x t n (Subtype.val x_1) ∧ Int.toNat (IntKind.wrap IntKind.i64 ((↑(Subtype.val x_1) : Int) * (64 : Int))) + (n - Int.toNat (IntKind.wrap IntKind.i64 ((↑(Subtype.val x_1) : Int) * (64 : Int)))) ≤ List.length (mixL key nonce x t n (Subtype.val x_1)) ∧ List.length (mixL key nonce x t n (Subtype.val x_1)) ≤ (9223372036854775807 : Nat) ∧ ∃ (y : { i : Nat // i ≤ (n + (63 : Nat)) / (64 : Nat) }), (true = true ∧ true = true ∧ (54 : Nat) = (54 : Nat) ∧ Value.int IntKind.u32 x = Value.int IntKind.u32 x ∧ getL [(0 : Nat), (1 : Nat), (2 : Nat), (3 : Nat)] (1 : Nat) = some (1 : Nat) ∧ (0 : Nat) = (0 : Nat) ∧ getL [(0 : Nat), (1 : Nat), (2 : Nat), (3 : Nat)] (2 : Nat) = some (2 : Nat) ∧ (0 : Nat) = (0 : Nat) ∧ getL [(0 : Nat), (1 : Nat), (2 : Nat), (3 : Nat)] (3 : Nat) = some (3 : Nat) ∧ (1 : Nat) = (1 : Nat) ∧ n = n ∧ Value.int IntKind.i64 (↑((n + (63 : Nat)) / (64 : Nat)) : Int) = Value.int IntKind.i64 (↑((n + (63 : Nat)) / (64 : Nat)) : Int) ∧ Value.int IntKind.i64 (IntKind.wrap IntKind.i64 ((↑(Subtype.val x_1) : Int) + (1 : Int))) = Value.int IntKind.i64 (↑(Subtype.val y) : Int) ∧ ty = ty ∧ (1 : Nat) = (1 : Nat) ∧ n = n ∧ t = t ∧ (23 : Nat) = (23 : Nat) ∧ (32 : Nat) = (32 : Nat) ∧ key = key ∧ (25 : Nat) = (25 : Nat) ∧ (12 : Nat) = (12 : Nat) ∧ nonce = nonce ∧ (5 : Nat) = (5 : Nat) ∧ (1 : Nat) = (1 : Nat) ∧ covL (mixL key nonce x t n (Subtype.val x_1)) (Int.toNat (IntKind.wrap IntKind.i64 ((↑(Subtype.val x_1) : Int) * (64 : Int)))) (chachaL key nonce (IntKind.wrap IntKind.u32 (x + IntKind.wrap IntKind.u32 (↑(Subtype.val x_1) : Int)))) (min (n - Int.toNat (IntKind.wrap IntKind.i64 ((↑(Subtype.val x_1) : Int) * (64 : Int)))) (64 : Nat)) = mixL key nonce x t n (Subtype.val y)) ∧ (n + (63 : Nat)) / (64 : Nat) - Subtype.val y < (n + (63 : Nat)) / (64 : Nat) - Subtype.val x_1 else true = true ∧ true = true ∧ (54 : Nat) = (54 : Nat) ∧ (5 : Nat) = (5 : Nat) ∧ (1 : Nat) = (1 : Nat) ∧ mixL key nonce x t n (Subtype.val x_1) = mixL key nonce x t n ((n + (63 : Nat)) / (64 : Nat)) ∧ getL (ClN.ren (kMix (key, nonce, x, ty, n, t))) (1 : Nat) = some (3 : Nat) ∧ (1 : Nat) = (1 : Nat) ∧ n = n ∧ Value.int IntKind.i64 (0 : Int) = Value.int IntKind.i64 (0 : Int)) := by kernel_rfl

set_option maxHeartbeats 8000000 in
theorem wpMix (key nonce : List Int) (x : Int) (ty n : Nat) (t : List Int) (h1 : n ≤ 16777216) (h2 : t.length = n) (h3 : key.length = 32) (h4 : nonce.length = 12) : wpE (FMix key nonce x ty n t) (Try.f18.body.getD .skip) ⟨Try.f18.ntmps, slotsOf 0 (kMix (key, nonce, x, ty, n, t)).avs, (kMix (key, nonce, x, ty, n, t)).mem⟩ (finK Try.prog Try.f18.results.toList (postN (kMix (key, nonce, x, ty, n, t)))) := by
  with_reducible refine Eq.mpr (vcMix key nonce x ty n t) ?_
  refine ⟨rfl, rfl, rfl, rfl, rfl, rfl, rfl, rfl, by omega, ?_⟩
  have hd : decide ((16777216 : Int) < (n : Int)) = false := decide_eq_false (by omega)
  rw [hd, cond_false, quo64 h1]
  refine ⟨by omega, by omega, by omega, by omega, by omega, by omega, by omega, by omega, by omega, by omega, ⟨⟨0, Nat.zero_le _⟩, ?_⟩, ?_⟩
  · and_intros <;> first | omega | exact True.intro | rfl
  · rintro ⟨i, hi⟩
    simp only [mixL_len]
    have hi2 : i ≤ 16777216 := by omega
    by_cases hc : i < (n + 63) / 64
    · have hd : decide ((i : Int) < (((n + 63) / 64 : Nat) : Int)) = true := decide_eq_true (by omega)
      rw [hd, cond_true, mul64i hi2, Int.toNat_natCast]
      simp only [true_and]
      refine ⟨h3, h4, by omega, by omega, rfl, by omega, by omega, ⟨i + 1, hc⟩, ?_, by show (n + 63) / 64 - (i + 1) < (n + 63) / 64 - i; omega⟩
      rw [wrap1 hi2]
      and_intros <;> first | exact True.intro | rfl
    · have hd : decide ((i : Int) < (((n + 63) / 64 : Nat) : Int)) = false := decide_eq_false (by omega)
      rw [hd, cond_false]
      have : i = (n + 63) / 64 := by omega
      subst this
      and_intros <;> first | exact True.intro | rfl
set_option maxHeartbeats 8000000 in
theorem cMix_ok : SpecOK Try.prog cMix := by
  refine callG_ok (c := Try.f18.body.getD .skip) mixed Try.func18 (by kernel_rfl) rfl (fun x hob => ?_)
  obtain ⟨key, nonce, x, ty, n, t⟩ := x
  have hob : (n ≤ 16777216) ∧ (t.length = n) ∧ (key.length = 32) ∧ (nonce.length = 12) := hob
  obtain ⟨h1, h2, h3, h4⟩ := hob
  exact ⟨FMix key nonce x ty n t, rfl, evOKs ⟨⟨cTotal_ok, by kernel_rfl, gl_nil rfl⟩, ⟨⟨cBlock_ok, by kernel_rfl, gl_nil rfl⟩, ⟨⟨cCover_ok, by kernel_rfl, gl_nil rfl⟩, trivial⟩⟩⟩, rfl, rfl, by with_reducible exact wpMix key nonce x ty n t h1 h2 h3 h4⟩
end Go.Proofs.Ytcbnbhadanldpaa
