/-
  chacha: bytes mixed.
-/
import Derived.Test.YthlleheeghiljaaC1
namespace Go.Proofs.Ythlleheeghiljaa
open Go.RowKit
set_option maxRecDepth 100000

/-- The first i bytes from k on, each with one of b. -/
def covL (l : List Int) (k : Nat) (b : List Int) : Nat → List Int
  | 0 => l
  | i + 1 => (covL l k b i).set (k + i) (bits .xor .u8 ((covL l k b i).getD (k + i) 0) (b.getD i 0))
theorem covL_len (l : List Int) (k : Nat) (b : List Int) : ∀ i, (covL l k b i).length = l.length
  | 0 => rfl
  | i + 1 => by rw [covL, List.length_set]; exact covL_len l k b i
theorem wrap64 {i : Nat} (h : i ≤ 64) : IntKind.wrap .i64 ((i : Int) + 1) = ((i + 1 : Nat) : Int) := by
  rw [IntKind.wrap_i64]; omega
noncomputable def stCover (k n ty : Nat) (l b : List Int) (i : Nat) : St := ⟨Try.f27.ntmps, [(0, .o (.c (.sub 0 0 k n))), (3, .o (.c (.ptr 1 0 none))), (7, vv (.int .i64 (if (64 : Int) < (n : Int) then 64 else (n : Int)))), (8, vv (.int .i64 (i : Int)))], [.grow ty 1 (.i .u8 (covL l k b i)), .fix 28 [.many 64 (.i .u8 b)]]⟩
def kCover : Nat × Nat × Nat × (List Int) × (List Int) → ClN := fun (k, n, ty, l, b) => ⟨[.o (.c (.sub 0 0 k n)), .o (.g [.many 64 (.i .u8 b)])], [.grow ty 1 (.i .u8 l)], .t [], [.grow ty 1 (.i .u8 (covL l k b (min n 64)))], [0], [k + n ≤ l.length, l.length ≤ 9223372036854775807]⟩
noncomputable def FCover (k n ty : Nat) (l b : List Int) : FnE := ⟨mkEv Try.prog [] [] 1, [0, 1, 3, 4, 7, 8, 9], fun _ _ => .inv { i : Nat // i ≤ min n 64 } (fun i => stCover k n ty l b i.val) (fun i => min n 64 - i.val) [0, 1] [0, 1]⟩
def mCover : List AV → (Nat → Option MB) → Option (List Nat × (Nat × Nat × Nat × (List Int) × (List Int)))
  | [.o (.c (.sub i 0 k n)), .o (.g [.many 64 (.i .u8 b)])], lk => match lk i with
    | some (.grow ty 1 (.i .u8 l)) => some ([i], k, n, ty, l, b)
    | _ => none
  | _, _ => none
noncomputable def cCover : Spec := callG 27 Try.f27.ntmps mCover kCover
theorem vcCover (k n ty : Nat) (l b : List Int) : (wpE (FCover k n ty l b) (Try.f27.body.getD .skip) ⟨Try.f27.ntmps, slotsOf 0 (kCover (k, n, ty, l, b)).avs, (kCover (k, n, ty, l, b)).mem⟩ (finK Try.prog Try.f27.results.toList (postN (kCover (k, n, ty, l, b))))) = (let x1 := if (64 : Int) < (↑n : Int) then (64 : Int) else (↑n : Int); (∃ (x : { i : Nat // i ≤ min n (64 : Nat) }), true = true ∧ true = true ∧ (21 : Nat) = (21 : Nat) ∧ getL [(0 : Nat), (1 : Nat)] (0 : Nat) = some (0 : Nat) ∧ (0 : Nat) + k = (0 : Nat) + k ∧ n = n ∧ getL [(0 : Nat), (1 : Nat)] (1 : Nat) = some (1 : Nat) ∧ (0 : Nat) = (0 : Nat) ∧ Value.int IntKind.i64 x1 = Value.int IntKind.i64 x1 ∧ Value.int IntKind.i64 (0 : Int) = Value.int IntKind.i64 (↑(Subtype.val x) : Int) ∧ ty = ty ∧ (1 : Nat) = (1 : Nat) ∧ l = covL l k b (Subtype.val x) ∧ (28 : Nat) = (28 : Nat) ∧ (64 : Nat) = (64 : Nat) ∧ b = b) ∧ ∀ (x : { i : Nat // i ≤ min n (64 : Nat) }), bif decide ((↑(Subtype.val x) : Int) < x1) then (0 : Int) ≤ (↑(Subtype.val x) : Int) ∧ (↑(Subtype.val x) : Int) < (↑n : Int) ∧ k + Int.toNat (↑(Subtype.val x) : Int) < List.length (covL l k b (Subtype.val x)) ∧ (0 : Int) ≤ (↑(Subtype.val x) : Int) ∧ (↑(Subtype.val x) : Int) < (64 : Int) ∧ Int.toNat (↑(Subtype.val x) : Int) < (64 : Nat) ∧ (0 : Int) ≤ (↑(Subtype.val x) : Int) ∧ (↑(Subtype.val x) : Int) < (↑n : Int) ∧ k + Int.toNat (↑(Subtype.val x) : Int) < List.length (covL l k b (Subtype.val x)) ∧ ∃ (y : { i : Nat // i ≤ min n (64 : Nat) }), (true = true ∧ true = true ∧ (21 : Nat) = (21 : Nat) ∧ getL [(0 : Nat), (1 : Nat)] (0 : Nat) = some (0 : Nat) ∧ (0 : Nat) + k = (0 : Nat) + k ∧ n = n ∧ getL [(0 : Nat), (1 : Nat)] (1 : Nat) = some (1 : Nat) ∧ (0 : Nat) = (0 : Nat) ∧ Value.int IntKind.i64 x1 = Value.int IntKind.i64 x1 ∧ Value.int IntKind.i64 (IntKind.wrap IntKind.i64 ((↑(Subtype.val x) : Int) + (1 : Int))) = Value.int IntKind.i64 (↑(Subtype.val y) : Int) ∧ ty = ty ∧ (1 : Nat) = (1 : Nat) ∧ List.set (covL l k b (Subtype.val x)) (k + Int.toNat (↑(Subtype.val x) : Int)) (bits BinOp.xor IntKind.u8 (List.getD (covL l k b (Subtype.val x)) (k + Int.toNat (↑(Subtype.val x) : Int)) (0 : Int)) (List.getD b (Int.toNat (↑(Subtype.val x) : Int)) (0 : Int))) = covL l k b (Subtype.val y) ∧ (28 : Nat) = (28 : Nat) ∧ (64 : Nat) = (64 : Nat) ∧ b = b) ∧ min n (64 : Nat) - Subtype.val y < min n (64 : Nat) - Subtype.val x else true = true ∧ true = true ∧ (21 : Nat) = (21 : Nat) ∧ ty = ty ∧ (1 : Nat) = (1 : Nat) ∧ covL l k b (Subtype.val x) = covL l k b (min n (64 : Nat))) := by kernel_rfl

set_option maxHeartbeats 8000000 in
theorem wpCover (k n ty : Nat) (l b : List Int) (h1 : k + n ≤ l.length) (h2 : l.length ≤ 9223372036854775807) : wpE (FCover k n ty l b) (Try.f27.body.getD .skip) ⟨Try.f27.ntmps, slotsOf 0 (kCover (k, n, ty, l, b)).avs, (kCover (k, n, ty, l, b)).mem⟩ (finK Try.prog Try.f27.results.toList (postN (kCover (k, n, ty, l, b)))) := by
  with_reducible refine Eq.mpr (vcCover k n ty l b) ?_
  intro x1
  have hx1 : x1 = ((min n 64 : Nat) : Int) := by
    show (if (64 : Int) < (n : Int) then (64 : Int) else (n : Int)) = _
    split <;> omega
  clear_value x1
  refine ⟨⟨⟨0, Nat.zero_le _⟩, ?_⟩, ?_⟩
  · and_intros <;> first | trivial | rfl
  · rintro ⟨i, hi⟩
    simp only [covL_len, Int.toNat_natCast]
    by_cases hc : i < min n 64
    · have hd : decide ((i : Int) < x1) = true := decide_eq_true (by omega)
      rw [hd, cond_true]
      refine ⟨by omega, by omega, by omega, by omega, by omega, by omega, by omega, by omega, by omega, ⟨i + 1, hc⟩, ?_, by show min n 64 - (i + 1) < min n 64 - i; omega⟩
      rw [wrap64 (by omega)]
      and_intros <;> first | trivial | rfl
    · have hd : decide ((i : Int) < x1) = false := decide_eq_false (by omega)
      rw [hd, cond_false]
      have : i = min n 64 := by omega
      subst this
      and_intros <;> first | trivial | rfl
set_option maxHeartbeats 8000000 in
theorem cCover_ok : SpecOK Try.prog cCover := by
  refine callG_ok (c := Try.f27.body.getD .skip) mixed Try.func27 (by kernel_rfl) rfl (fun x hob => ?_)
  obtain ⟨k, n, ty, l, b⟩ := x
  have hob : (k + n ≤ l.length) ∧ (l.length ≤ 9223372036854775807) := hob
  obtain ⟨h1, h2⟩ := hob
  exact ⟨FCover k n ty l b, rfl, evOKs trivial, rfl, rfl, by with_reducible exact wpCover k n ty l b h1 h2⟩

/-- How many bytes there are; beyond M no further. -/
def totA (M : Nat) : Nat → List (List Int) → Nat
  | s, [] => s
  | s, l :: r => if M < s + l.length then s + l.length else totA M (s + l.length) r
theorem totA_le {M : Nat} : ∀ {ls : List (List Int)} {s : Nat}, s + ls.flatten.length ≤ M → totA M s ls = s + ls.flatten.length
  | [], s, _ => by simp [totA]
  | l :: r, s, h => by
    have h' : s + (l.length + r.flatten.length) ≤ M := by simpa using h
    unfold totA
    rw [if_neg (by omega), totA_le (by omega), List.flatten_cons, List.length_append]; omega
theorem totA_gt {M : Nat} : ∀ {ls : List (List Int)} {s : Nat}, s ≤ M → M < s + ls.flatten.length → M < totA M s ls
  | [], s, h, h' => by simp at h'; omega
  | l :: r, s, h, h' => by
    have h'' : M < s + (l.length + r.flatten.length) := by simpa using h'
    unfold totA
    split
    · assumption
    · exact totA_gt (by omega) (by omega)
theorem totA_lt {M : Nat} : ∀ {ls : List (List Int)} {s : Nat}, (∀ l ∈ ls, l.length ≤ 140737488355328) → s ≤ M → totA M s ls ≤ M + 140737488355328
  | [], s, _, h => by simp only [totA]; omega
  | l :: r, s, hl, h => by
    unfold totA
    have := hl l (by simp)
    split
    · omega
    · exact totA_lt (fun x hx => hl x (by simp [hx])) (by omega)
theorem getD_at {ls : List (List Int)} {i : Nat} (h : i < ls.length) : ls.getD i [] = ls[i] := by
  rw [List.getD_eq_getElem?_getD, List.getElem?_eq_getElem h]; rfl
theorem totA_step {M s : Nat} {ls : List (List Int)} {i : Nat} (h : i < ls.length) : totA M s (ls.drop i) = if M < s + (ls.getD i []).length then s + (ls.getD i []).length else totA M (s + (ls.getD i []).length) (ls.drop (i + 1)) := by
  rw [List.drop_eq_getElem_cons h, totA, getD_at h]
noncomputable def stTot (nt : Nat) (ls : List (List Int)) (s i : Nat) : St := ⟨nt, [(3, vv (.int .i64 (s : Int))), (6, .o (.c (.rss ls))), (7, vv (.int .i64 (ls.length : Int))), (8, vv (.int .i64 (i : Int)))], []⟩
theorem add64 {a b : Nat} (h : a + b ≤ 9223372036854775807) : IntKind.wrap .i64 ((a : Int) + (b : Int)) = ((a + b : Nat) : Int) := by rw [IntKind.wrap_i64]; omega
theorem wrapS {i : Nat} (h : i < 9223372036854775807) : IntKind.wrap .i64 ((i : Int) + 1) = ((i + 1 : Nat) : Int) := by rw [IntKind.wrap_i64]; omega
def kTotal : (List (List Int)) → ClN := fun ls => ⟨[.o (.c (.rss ls))], [], vv (.int .i64 (totA 16777216 0 ls : Int)), [], [], [∀ l ∈ ls, l.length ≤ 140737488355328, ls.length ≤ 9223372036854775807]⟩
noncomputable def FTotal (ls : List (List Int)) : FnE := ⟨mkEv Try.prog [] [] 0, [0, 2, 3, 5, 6, 7, 8, 9, 17], fun _ _ => .inv { x : Nat × Nat // x.2 ≤ ls.length ∧ x.1 ≤ 16777216 ∧ totA 16777216 x.1 (ls.drop x.2) = totA 16777216 0 ls } (fun x => stTot Try.f26.ntmps ls x.1.1 x.1.2) (fun x => ls.length - x.1.2) [] []⟩
def mTotal : List AV → (Nat → Option MB) → Option (List Nat × (List (List Int)))
  | [.o (.c c)], lk => match slS lk c with
    | some ls => some ([], ls)
    | none => none
  | _, _ => none
noncomputable def cTotal : Spec := callG 26 Try.f26.ntmps mTotal kTotal
theorem vcTotal (ls : List (List Int)) : (wpE (FTotal ls) (Try.f26.body.getD .skip) ⟨Try.f26.ntmps, slotsOf 0 (kTotal ls).avs, (kTotal ls).mem⟩ (finK Try.prog Try.f26.results.toList (postN (kTotal ls)))) = ((∃ (x : { x : Nat × Nat // Prod.snd x ≤ List.length ls ∧ Prod.fst x ≤ (16777216 : Nat) ∧ totA (16777216 : Nat) (Prod.fst x) (List.drop (Prod.snd x) ls) = totA (16777216 : Nat) (0 : Nat) ls }), true = true ∧ true = true ∧ (20 : Nat) = (20 : Nat) ∧ Value.int IntKind.i64 (0 : Int) = Value.int IntKind.i64 (↑(Prod.fst (Subtype.val x)) : Int) ∧ ls = ls ∧ Value.int IntKind.i64 (↑(List.length ls) : Int) = Value.int IntKind.i64 (↑(List.length ls) : Int) ∧ Value.int IntKind.i64 (0 : Int) = Value.int IntKind.i64 (↑(Prod.snd (Subtype.val x)) : Int)) ∧ ∀ (x : { x : Nat × Nat // Prod.snd x ≤ List.length ls ∧ Prod.fst x ≤ (16777216 : Nat) ∧ totA (16777216 : Nat) (Prod.fst x) (List.drop (Prod.snd x) ls) = totA (16777216 : Nat) (0 : Nat) ls }), bif decide ((↑(Prod.snd (Subtype.val x)) : Int) < (↑(List.length ls) : Int)) then (0 : Int) ≤ (↑(Prod.snd (Subtype.val x)) : Int) ∧ (↑(Prod.snd (Subtype.val x)) : Int) < (↑(List.length ls) : Int) ∧ bif decide ((16777216 : Int) < IntKind.wrap IntKind.i64 ((↑(Prod.fst (Subtype.val x)) : Int) + (↑(List.length (List.getD ls (Int.toNat (↑(Prod.snd (Subtype.val x)) : Int)) [])) : Int))) then true = true ∧ true = true ∧ (20 : Nat) = (20 : Nat) ∧ Value.int IntKind.i64 (IntKind.wrap IntKind.i64 ((↑(Prod.fst (Subtype.val x)) : Int) + (↑(List.length (List.getD ls (Int.toNat (↑(Prod.snd (Subtype.val x)) : Int)) [])) : Int))) = Value.int IntKind.i64 (↑(totA (16777216 : Nat) (0 : Nat) ls) : Int) else ∃ (y : { x : Nat × Nat // Prod.snd x ≤ List.length ls ∧ Prod.fst x ≤ (16777216 : Nat) ∧ totA (16777216 : Nat) (Prod.fst x) (List.drop (Prod.snd x) ls) = totA (16777216 : Nat) (0 : Nat) ls }), (true = true ∧ true = true ∧ (20 : Nat) = (20 : Nat) ∧ Value.int IntKind.i64 (IntKind.wrap IntKind.i64 ((↑(Prod.fst (Subtype.val x)) : Int) + (↑(List.length (List.getD ls (Int.toNat (↑(Prod.snd (Subtype.val x)) : Int)) [])) : Int))) = Value.int IntKind.i64 (↑(Prod.fst (Subtype.val y)) : Int) ∧ ls = ls ∧ Value.int IntKind.i64 (↑(List.length ls) : Int) = Value.int IntKind.i64 (↑(List.length ls) : Int) ∧ Value.int IntKind.i64 (IntKind.wrap IntKind.i64 ((↑(Prod.snd (Subtype.val x)) : Int) + (1 : Int))) = Value.int IntKind.i64 (↑(Prod.snd (Subtype.val y)) : Int)) ∧ List.length ls - Prod.snd (Subtype.val y) < List.length ls - Prod.snd (Subtype.val x) else true = true ∧ true = true ∧ (20 : Nat) = (20 : Nat) ∧ Value.int IntKind.i64 (↑(Prod.fst (Subtype.val x)) : Int) = Value.int IntKind.i64 (↑(totA (16777216 : Nat) (0 : Nat) ls) : Int)) := by kernel_rfl

set_option maxHeartbeats 8000000 in
theorem wpTotal (ls : List (List Int)) (h1 : ∀ l ∈ ls, l.length ≤ 140737488355328) (h2 : ls.length ≤ 9223372036854775807) : wpE (FTotal ls) (Try.f26.body.getD .skip) ⟨Try.f26.ntmps, slotsOf 0 (kTotal ls).avs, (kTotal ls).mem⟩ (finK Try.prog Try.f26.results.toList (postN (kTotal ls))) := by
  with_reducible refine Eq.mpr (vcTotal ls) ?_
  simp only [Int.toNat_natCast, Bool.cond_decide]
  refine ⟨⟨⟨⟨0, 0⟩, Nat.zero_le _, Nat.zero_le _, rfl⟩, by and_intros <;> first | exact True.intro | rfl⟩, ?_⟩
  rintro ⟨⟨s, i⟩, hi, hs, ht⟩
  dsimp only at hi hs ht ⊢
  split
  · rename_i hil
    have hil' : i < ls.length := by omega
    have hl : (ls.getD i []).length ≤ 140737488355328 := h1 _ (by rw [getD_at hil']; exact List.getElem_mem hil')
    rw [totA_step hil'] at ht
    simp only [add64 (a := s) (b := (ls.getD i []).length) (by omega), wrapS (i := i) (by omega)]
    refine ⟨by omega, by omega, ?_⟩
    split
    · rename_i hM
      rw [if_pos (by omega)] at ht
      and_intros <;> first | exact True.intro | rfl | (rw [ht])
    · rename_i hM
      rw [if_neg (by omega)] at ht
      exact ⟨⟨⟨s + (ls.getD i []).length, i + 1⟩, by show i + 1 ≤ ls.length; omega, by show s + _ ≤ _; omega, ht⟩, by and_intros <;> first | exact True.intro | rfl, by show ls.length - (i + 1) < ls.length - i; omega⟩
  · rename_i hil
    have hil' : i = ls.length := by omega
    subst hil'
    rw [List.drop_length] at ht
    have ht' : s = totA 16777216 0 ls := ht
    and_intros <;> first | exact True.intro | rfl | (rw [ht'])
set_option maxHeartbeats 8000000 in
theorem cTotal_ok : SpecOK Try.prog cTotal := by
  refine callG_ok (c := Try.f26.body.getD .skip) mixed Try.func26 (by kernel_rfl) rfl (fun ls hob => ?_)
  have hob : (∀ l ∈ ls, l.length ≤ 140737488355328) ∧ (ls.length ≤ 9223372036854775807) := hob
  obtain ⟨h1, h2⟩ := hob
  exact ⟨FTotal ls, rfl, evOKs trivial, rfl, rfl, by with_reducible exact wpTotal ls h1 h2⟩

/-- The bytes after i blocks. -/
def mixL (key nonce : List Int) (x : Int) (t : List Int) (n : Nat) : Nat → List Int
  | 0 => t
  | i + 1 => covL (mixL key nonce x t n i) (64 * i) (chachaL key nonce (IntKind.wrap .u32 (x + IntKind.wrap .u32 (i : Int)))) (min (n - 64 * i) 64)
theorem mixL_len (key nonce : List Int) (x : Int) (t : List Int) (n : Nat) : ∀ i, (mixL key nonce x t n i).length = t.length
  | 0 => rfl
  | i + 1 => by rw [mixL, covL_len]; exact mixL_len key nonce x t n i
theorem quo64 {n : Nat} (h : n ≤ 16777216) : IntKind.wrap .i64 (Int.tdiv (IntKind.wrap .i64 (IntKind.wrap .i64 ((n : Int) + 64) - 1)) 64) = (((n + 63) / 64 : Nat) : Int) := by
  have h1 : IntKind.wrap .i64 ((n : Int) + 64) = ((n + 64 : Nat) : Int) := by rw [IntKind.wrap_i64]; omega
  have h2 : IntKind.wrap .i64 (((n + 64 : Nat) : Int) - 1) = ((n + 63 : Nat) : Int) := by rw [IntKind.wrap_i64]; omega
  rw [h1, h2, Int.tdiv_eq_ediv_of_nonneg (by omega), IntKind.wrap_i64]; omega
theorem mul64i {i : Nat} (h : i ≤ 16777216) : IntKind.wrap .i64 ((i : Int) * 64) = ((64 * i : Nat) : Int) := by rw [IntKind.wrap_i64]; omega
theorem wrap1 {i : Nat} (h : i ≤ 16777216) : IntKind.wrap .i64 ((i : Int) + 1) = ((i + 1 : Nat) : Int) := by rw [IntKind.wrap_i64]; omega
theorem mem_flat {ls : List (List Int)} : ∀ l ∈ ls, l.length ≤ ls.flatten.length := fun l hl => by
  obtain ⟨a, b, rfl⟩ := List.append_of_mem hl
  simp only [List.flatten_append, List.flatten_cons, List.length_append]; omega
theorem flat_take {ls : List (List Int)} {i : Nat} (h : i < ls.length) : (ls.take (i + 1)).flatten = (ls.take i).flatten ++ ls.getD i [] := by
  rw [getD_at h, List.take_add_one, List.getElem?_eq_getElem h, List.flatten_append]
  simp
theorem flat_take_le (ls : List (List Int)) (i : Nat) : (ls.take i).flatten.length ≤ ls.flatten.length := by
  conv => rhs; rw [← List.take_append_drop i ls, List.flatten_append, List.length_append]
  omega
noncomputable def stApp (key nonce : List Int) (x : Int) (ls : List (List Int)) (i : Nat) : St := ⟨Try.f13.ntmps, [(2, vv (.int .u32 x)), (4, .o (.c (.ptr 0 0 none))), (5, .o (.c (.ptr 1 0 none))), (10, vv (.int .i64 (ls.flatten.length : Int))), (11, .o (.c (.os 2 1 (ls.take i).flatten.length))), (22, .o (.c (.rss ls))), (23, vv (.int .i64 (ls.length : Int))), (24, vv (.int .i64 (i : Int)))], [.fix 23 [.many 32 (.i .u8 key)], .fix 25 [.many 12 (.i .u8 nonce)], .grow 5 1 (.i .u8 (ls.take i).flatten)]⟩
noncomputable def stMix (key nonce : List Int) (x : Int) (t : List Int) (i : Nat) : St := ⟨Try.f13.ntmps, [(2, vv (.int .u32 x)), (4, .o (.c (.ptr 0 0 none))), (5, .o (.c (.ptr 1 0 none))), (11, .o (.c (.os 2 1 t.length))), (35, vv (.int .i64 (((t.length + 63) / 64 : Nat) : Int))), (36, vv (.int .i64 (i : Int)))], [.fix 23 [.many 32 (.i .u8 key)], .fix 25 [.many 12 (.i .u8 nonce)], .grow 5 1 (.i .u8 (mixL key nonce x t t.length i))]⟩
/-- What parts are mixed to. -/
def mixA (key nonce : List Int) (x : Int) (t : List Int) : List Int := mixL key nonce x t t.length ((t.length + 63) / 64)
def kMix : (List Int) × (List Int) × Int × (List (List Int)) → ClN := fun (key, nonce, x, ls) => ⟨[.o (.g [.many 32 (.i .u8 key)]), .o (.g [.many 12 (.i .u8 nonce)]), vv (.int .u32 x), .o (.c (.rss ls))], [], .t [.c (.os 0 1 ls.flatten.length), .c (.v (.int .i64 0))], [.grow 5 1 (.i .u8 (mixA key nonce x ls.flatten))], [2], [ls.flatten.length ≤ 16777216, ls.length ≤ 140737488355328, key.length = 32, nonce.length = 12]⟩
noncomputable def FMix (key nonce : List Int) (x : Int) (ls : List (List Int)) : FnE := ⟨mkEv Try.prog [] [cTotal, cBlock, cCover] 0, [0, 1, 2, 3, 4, 5, 8, 9, 10, 11, 13, 14, 15, 19, 22, 23, 24, 25, 35, 36, 37], fun r _ => cond (Nat.beq r 6) (.inv { i : Nat // i ≤ ls.length } (fun i => stApp key nonce x ls i.val) (fun i => ls.length - i.val) [0, 1, 2] [0, 1, 3]) (.inv { i : Nat // i ≤ (ls.flatten.length + 63) / 64 } (fun i => stMix key nonce x ls.flatten i.val) (fun i => (ls.flatten.length + 63) / 64 - i.val) [0, 1, 2] [0, 1, 2])⟩
def mMix : List AV → (Nat → Option MB) → Option (List Nat × ((List Int) × (List Int) × Int × (List (List Int))))
  | [.o (.g [.many 32 (.i .u8 key)]), .o (.g [.many 12 (.i .u8 nonce)]), .o (.c (.v (.int .u32 x))), .o (.c c)], lk => match slS lk c with
    | some ls => some ([], key, nonce, x, ls)
    | none => none
  | _, _ => none
noncomputable def cMix : Spec := callG 13 Try.f13.ntmps mMix kMix
theorem vcMix (key nonce : List Int) (x : Int) (ls : List (List Int)) : (wpE (FMix key nonce x ls) (Try.f13.body.getD .skip) ⟨Try.f13.ntmps, slotsOf 0 (kMix (key, nonce, x, ls)).avs, (kMix (key, nonce, x, ls)).mem⟩ (finK Try.prog Try.f13.results.toList (postN (kMix (key, nonce, x, ls))))) = (true = true ∧ true = true ∧ ls = ls ∧ (∀ (l : List Int), l ∈ ls → List.length l ≤ (140737488355328 : Nat)) ∧ List.length ls ≤ (9223372036854775807 : Nat) ∧ bif decide ((16777216 : Int) < (↑(totA (16777216 : Nat) (0 : Nat) ls) : Int)) then true = true ∧ true = true ∧ (54 : Nat) = (54 : Nat) ∧ False ∧ False ∧ Value.int IntKind.i64 (2 : Int) = Value.int IntKind.i64 (0 : Int) else (0 : Int) ≤ (0 : Int) ∧ (0 : Int) ≤ (↑(totA (16777216 : Nat) (0 : Nat) ls) : Int) ∧ (1 : Int) * (↑(totA (16777216 : Nat) (0 : Nat) ls) : Int) ≤ (281474976710656 : Int) ∧ (↑(totA (16777216 : Nat) (0 : Nat) ls) : Int) ≤ (9223372036854775807 : Int) ∧ (∃ (x_1 : { i : Nat // i ≤ List.length ls }), true = true ∧ true = true ∧ (54 : Nat) = (54 : Nat) ∧ Value.int IntKind.u32 x = Value.int IntKind.u32 x ∧ getL [(0 : Nat), (1 : Nat), (2 : Nat)] (0 : Nat) = some (0 : Nat) ∧ (0 : Nat) = (0 : Nat) ∧ getL [(0 : Nat), (1 : Nat), (2 : Nat)] (1 : Nat) = some (Nat.add (0 : Nat) (1 : Nat)) ∧ (0 : Nat) = (0 : Nat) ∧ Value.int IntKind.i64 (↑(totA (16777216 : Nat) (0 : Nat) ls) : Int) = Value.int IntKind.i64 (↑(List.length (List.flatten ls)) : Int) ∧ getL [(0 : Nat), (1 : Nat), (2 : Nat)] (2 : Nat) = some (Nat.add (2 : Nat) (0 : Nat)) ∧ (1 : Nat) = (1 : Nat) ∧ (0 : Nat) = List.length (List.flatten (List.take (Subtype.val x_1) ls)) ∧ ls = ls ∧ Value.int IntKind.i64 (↑(List.length ls) : Int) = Value.int IntKind.i64 (↑(List.length ls) : Int) ∧ Value.int IntKind.i64 (0 : Int) = Value.int IntKind.i64 (↑(Subtype.val x_1) : Int) ∧ (23 : Nat) = (23 : Nat) ∧ (32 : Nat) = (32 : Nat) ∧ key = key ∧ (25 : Nat) = (25 : Nat) ∧ (12 : Nat) = (12 : Nat) ∧ nonce = nonce ∧ (5 : Nat) = (5 : Nat) ∧ (1 : Nat) = (1 : Nat) ∧ List.replicate (0 : Nat) (0 : Int) = List.flatten (List.take (Subtype.val x_1) ls)) ∧ ∀ (x_1 : { i : Nat // i ≤ List.length ls }), bif decide ((↑(Subtype.val x_1) : Int) < (↑(List.length ls) : Int)) then (0 : Int) ≤ (↑(Subtype.val x_1) : Int) ∧ (↑(Subtype.val x_1) : Int) < (↑(List.length ls) : Int) ∧ List.length (List.flatten (List.take (Subtype.val x_1) ls)) = List.length (List.flatten (List.take (Subtype.val x_1) ls)) ∧ (List.length (List.flatten (List.take (Subtype.val x_1) ls)) + List.length (List.getD ls (Int.toNat (↑(Subtype.val x_1) : Int)) [])) * (1 : Nat) ≤ (140737488355328 : Nat) ∧ List.length (List.flatten (List.take (Subtype.val x_1) ls)) + List.length (List.getD ls (Int.toNat (↑(Subtype.val x_1) : Int)) []) ≤ (9223372036854775807 : Nat) ∧ ∃ (y : { i : Nat // i ≤ List.length ls }), (true = true ∧ true = true ∧ (54 : Nat) = (54 : Nat) ∧ Value.int IntKind.u32 x = Value.int IntKind.u32 x ∧ getL [(0 : Nat), (1 : Nat), (3 : Nat)] (0 : Nat) = some (0 : Nat) ∧ (0 : Nat) = (0 : Nat) ∧ getL [(0 : Nat), (1 : Nat), (3 : Nat)] (1 : Nat) = some (1 : Nat) ∧ (0 : Nat) = (0 : Nat) ∧ Value.int IntKind.i64 (↑(List.length (List.flatten ls)) : Int) = Value.int IntKind.i64 (↑(List.length (List.flatten ls)) : Int) ∧ getL [(0 : Nat), (1 : Nat), (3 : Nat)] (2 : Nat) = some (Nat.add (Nat.add (3 : Nat) (0 : Nat)) (0 : Nat)) ∧ (1 : Nat) = (1 : Nat) ∧ List.length (List.flatten (List.take (Subtype.val x_1) ls)) + List.length (List.getD ls (Int.toNat (↑(Subtype.val x_1) : Int)) []) = List.length (List.flatten (List.take (Subtype.val y) ls)) ∧ ls = ls ∧ Value.int IntKind.i64 (↑(List.length ls) : Int) = Value.int IntKind.i64 (↑(List.length ls) : Int) ∧ Value.int IntKind.i64 (IntKind.wrap IntKind.i64 ((↑(Subtype.val x_1) : Int) + (1 : Int))) = Value.int IntKind.i64 (↑(Subtype.val y) : Int) ∧ (23 : Nat) = (23 : Nat) ∧ (32 : Nat) = (32 : Nat) ∧ key = key ∧ (25 : Nat) = (25 : Nat) ∧ (12 : Nat) = (12 : Nat) ∧ nonce = nonce ∧ (5 : Nat) = (5 : Nat) ∧ (1 : Nat) = (1 : Nat) ∧ List.flatten (List.take (Subtype.val x_1) ls) ++ List.getD ls (Int.toNat (↑(Subtype.val x_1) : Int)) [] = List.flatten (List.take (Subtype.val y) ls)) ∧ List.length ls - Subtype.val y < List.length ls - Subtype.val x_1 else (64 : Int) ≠ (0 : Int) ∧ (∃ (x_2 : { i : Nat // i ≤ (List.length (List.flatten ls) + (63 : Nat)) / (64 : Nat) }), true = true ∧ true = true ∧ (54 : Nat) = (54 : Nat) ∧ Value.int IntKind.u32 x = Value.int IntKind.u32 x ∧ getL [(0 : Nat), (1 : Nat), (2 : Nat)] (0 : Nat) = some (0 : Nat) ∧ (0 : Nat) = (0 : Nat) ∧ getL [(0 : Nat), (1 : Nat), (2 : Nat)] (1 : Nat) = some (1 : Nat) ∧ (0 : Nat) = (0 : Nat) ∧ getL [(0 : Nat), (1 : Nat), (2 : Nat)] (2 : Nat) = some (2 : Nat) ∧ (1 : Nat) = (1 : Nat) ∧ List.length (List.flatten (List.take (Subtype.val x_1) ls)) = List.length (List.flatten ls) ∧ Value.int IntKind.i64 (IntKind.wrap IntKind.i64 (Int.tdiv (IntKind.wrap IntKind.i64 (IntKind.wrap IntKind.i64 ((↑(List.length (List.flatten ls)) : Int) + (64 : Int)) - (1 : Int))) (64 : Int))) = Value.int IntKind.i64 (↑((List.length (List.flatten ls) + (63 : Nat)) / (64 : Nat)) : Int) ∧ Value.int IntKind.i64 (0 : Int) = Value.int IntKind.i64 (↑(Subtype.val x_2) : Int) ∧ (23 : Nat) = (23 : Nat) ∧ (32 : Nat) = (32 : Nat) ∧ key = key ∧ (25 : Nat) = (25 : Nat) ∧ (12 : Nat) = (12 : Nat) ∧ nonce = nonce ∧ (5 : Nat) = (5 : Nat) ∧ (1 : Nat) = (1 : Nat) ∧ List.flatten (List.take (Subtype.val x_1) ls) = mixL key nonce x (List.flatten ls) (List.length (List.flatten ls)) (Subtype.val x_2)) ∧ ∀ (x_2 : { i : Nat // i ≤ (List.length (List.flatten ls) + (63 : Nat)) / (64 : Nat) }), bif decide ((↑(Subtype.val x_2) : Int) < (↑((List.length (List.flatten ls) + (63 : Nat)) / (64 : Nat)) : Int)) then true = true ∧ (32 : Nat) = (32 : Nat) ∧ key = key ∧ (12 : Nat) = (12 : Nat) ∧ nonce = nonce ∧ Value.int IntKind.u32 (IntKind.wrap IntKind.u32 (x + IntKind.wrap IntKind.u32 (↑(Subtype.val x_2) : Int))) = Value.int IntKind.u32 (IntKind.wrap IntKind.u32 (x + IntKind.wrap IntKind.u32 (↑(Subtype.val x_2) : Int))) ∧ List.length key = (32 : Nat) ∧ List.length nonce = (12 : Nat) ∧ (0 : Int) ≤ IntKind.wrap IntKind.i64 ((↑(Subtype.val x_2) : Int) * (64 : Int)) ∧ Int.toNat (IntKind.wrap IntKind.i64 ((↑(Subtype.val x_2) : Int) * (64 : Int))) ≤ List.length (List.flatten ls) ∧ true = true ∧ getL [(2 : Nat)] (0 : Nat) = some (2 : Nat) ∧ (0 : Nat) + Int.toNat (IntKind.wrap IntKind.i64 ((↑(Subtype.val x_2) : Int) * (64 : Int))) = (0 : Nat) + Int.toNat (IntKind.wrap IntKind.i64 ((↑(Subtype.val x_2) : Int) * (64 : Int))) ∧ List.length (List.flatten ls) - Int.toNat (IntKind.wrap IntKind.i64 ((↑(Subtype.val x_2) : Int) * (64 : Int))) = List.length (List.flatten ls) - Int.toNat (IntKind.wrap IntKind.i64 ((↑(Subtype.val x_2) : Int) * (64 : Int))) ∧ (64 : Nat) = (64 : Nat) ∧ chachaL key nonce (IntKind.wrap IntKind.u32 (x + IntKind.wrap IntKind.u32 (↑(Subtype.val x_2) : Int))) = chachaL key nonce (IntKind.wrap IntKind.u32 (x + IntKind.wrap IntKind.u32 (↑(Subtype.val x_2) : Int))) ∧ (5 : Nat) = (5 : Nat) ∧ (1 : Nat) = (1 : Nat) ∧ mixL key nonce x (List.flatten ls) (List.length (List.flatten ls)) (Subtype.val x_2) = mixL key nonce x (List.flatten ls) (List.length (List.flatten ls)) (Subtype.val x_2) ∧ Int.toNat (IntKind.wrap IntKind.i64 ((↑(Subtype.val x_2) : Int) * (64 : Int))) + (List.length (List.flatten ls) - Int.toNat (IntKind.wrap IntKind.i64 ((↑(Subtype.val x_2) : Int) * (64 : Int)))) ≤ List.length (mixL key nonce x (List.flatten ls) (List.length (List.flatten ls)) (Subtype.val x_2)) ∧ List.length (mixL key nonce x (List.flatten ls) (List.length (List.flatten ls)) (Subtype.val x_2)) ≤ (9223372036854775807 : Nat) ∧ ∃ (y : { i : Nat // i ≤ (List.length (List.flatten ls) + (63 : Nat)) / (64 : Nat) }), (true = true ∧ true = true ∧ (54 : Nat) = (54 : Nat) ∧ Value.int IntKind.u32 x = Value.int IntKind.u32 x ∧ getL [(0 : Nat), (1 : Nat), (2 : Nat)] (0 : Nat) = some (0 : Nat) ∧ (0 : Nat) = (0 : Nat) ∧ getL [(0 : Nat), (1 : Nat), (2 : Nat)] (1 : Nat) = some (1 : Nat) ∧ (0 : Nat) = (0 : Nat) ∧ getL [(0 : Nat), (1 : Nat), (2 : Nat)] (2 : Nat) = some (2 : Nat) ∧ (1 : Nat) = (1 : Nat) ∧ List.length (List.flatten ls) = List.length (List.flatten ls) ∧ Value.int IntKind.i64 (↑((List.length (List.flatten ls) + (63 : Nat)) / (64 : Nat)) : Int) = Value.int IntKind.i64 (↑((List.length (List.flatten ls) + (63 : Nat)) / (64 : Nat)) : Int) ∧ Value.int IntKind.i64 (IntKind.wrap IntKind.i64 ((↑(Subtype.val x_2) : Int) + (1 : Int))) = Value.int IntKind.i64 (↑(Subtype.val y) : Int) ∧ (23 : Nat) = (23 : Nat) ∧ (32 : Nat) = (32 : Nat) ∧ key = key ∧ (25 : Nat) = (25 : Nat) ∧ (12 : Nat) = (12 : Nat) ∧ nonce = nonce ∧ (5 : Nat) = (5 : Nat) ∧ (1 : Nat) = (1 : Nat) ∧ covL (mixL key nonce x (List.flatten ls) (List.length (List.flatten ls)) (Subtype.val x_2)) (Int.toNat (IntKind.wrap IntKind.i64 ((↑(Subtype.val x_2) : Int) * (64 : Int)))) (chachaL key nonce (IntKind.wrap IntKind.u32 (x + IntKind.wrap IntKind.u32 (↑(Subtype.val x_2) : Int)))) (min (List.length (List.flatten ls) - Int.toNat (IntKind.wrap IntKind.i64 ((↑(Subtype.val x_2) : Int) * (64 : Int)))) (64 : Nat)) = mixL key nonce x (List.flatten ls) (List.length (List.flatten ls)) (Subtype.val y)) ∧ (List.length (List.flatten ls) + (63 : Nat)) / (64 : Nat) - Subtype.val y < (List.length (List.flatten ls) + (63 : Nat)) / (64 : Nat) - Subtype.val x_2 else true = true ∧ true = true ∧ (54 : Nat) = (54 : Nat) ∧ (5 : Nat) = (5 : Nat) ∧ (1 : Nat) = (1 : Nat) ∧ mixL key nonce x (List.flatten ls) (List.length (List.flatten ls)) (Subtype.val x_2) = mixA key nonce x (List.flatten ls) ∧ getL (ClN.ren (kMix (key, nonce, x, ls))) (0 : Nat) = some (2 : Nat) ∧ (1 : Nat) = (1 : Nat) ∧ List.length (List.flatten ls) = List.length (List.flatten ls) ∧ Value.int IntKind.i64 (0 : Int) = Value.int IntKind.i64 (0 : Int)) := by kernel_rfl

set_option maxHeartbeats 8000000 in
theorem wpMix (key nonce : List Int) (x : Int) (ls : List (List Int)) (h1 : ls.flatten.length ≤ 16777216) (h2 : ls.length ≤ 140737488355328) (h3 : key.length = 32) (h4 : nonce.length = 12) : wpE (FMix key nonce x ls) (Try.f13.body.getD .skip) ⟨Try.f13.ntmps, slotsOf 0 (kMix (key, nonce, x, ls)).avs, (kMix (key, nonce, x, ls)).mem⟩ (finK Try.prog Try.f13.results.toList (postN (kMix (key, nonce, x, ls)))) := by
  with_reducible refine Eq.mpr (vcMix key nonce x ls) ?_
  have ht : totA 16777216 0 ls = ls.flatten.length := by rw [totA_le (by omega)]; omega
  simp only [ht, Int.toNat_natCast]
  generalize hn : ls.flatten.length = n at *
  have hd : decide ((16777216 : Int) < (n : Int)) = false := decide_eq_false (by omega)
  rw [hd, cond_false, quo64 h1]
  simp only [Bool.cond_decide]
  have hT : mixA key nonce x ls.flatten = mixL key nonce x ls.flatten n ((n + 63) / 64) := by unfold mixA; rw [hn]
  and_intros
  all_goals first | omega | exact True.intro | rfl | (intro l hl; have := mem_flat l hl; omega) | skip
  · exact ⟨⟨0, Nat.zero_le _⟩, by and_intros <;> first | exact True.intro | rfl⟩
  · rintro ⟨i, hi⟩
    dsimp only at hi ⊢
    split
    · rename_i hil
      have hil' : i < ls.length := by omega
      have hf := flat_take hil'
      have hle := flat_take_le ls (i + 1)
      rw [hf, List.length_append] at hle
      simp only [wrapS (i := i) (by omega)]
      and_intros
      all_goals first | omega | exact True.intro | skip
      refine ⟨⟨i + 1, hil'⟩, ?_, by show ls.length - (i + 1) < ls.length - i; omega⟩
      dsimp only
      rw [hf, List.length_append]
      and_intros <;> first | exact True.intro | rfl
    · rename_i hil
      have hil' : i = ls.length := by omega
      subst hil'
      simp only [List.take_length, mixL_len, hn]
      and_intros
      all_goals first | omega | exact True.intro | skip
      · exact ⟨⟨0, Nat.zero_le _⟩, by and_intros <;> first | exact True.intro | rfl⟩
      · rintro ⟨j, hj⟩
        dsimp only at hj ⊢
        simp only [mul64i (i := j) (by omega), wrap1 (i := j) (by omega), Int.toNat_natCast]
        split
        · rename_i hjn
          have hjn' : j < (n + 63) / 64 := by omega
          and_intros
          all_goals first | omega | exact True.intro | rfl | skip
          refine ⟨⟨j + 1, hjn'⟩, ?_, by show (n + 63) / 64 - (j + 1) < (n + 63) / 64 - j; omega⟩
          and_intros <;> first | exact True.intro | rfl
        · rename_i hjn
          have hjn' : j = (n + 63) / 64 := by omega
          subst hjn'
          and_intros <;> first | exact True.intro | rfl | exact hT.symm
set_option maxHeartbeats 8000000 in
theorem cMix_ok : SpecOK Try.prog cMix := by
  refine callG_ok (c := Try.f13.body.getD .skip) mixed Try.func13 (by kernel_rfl) rfl (fun x hob => ?_)
  obtain ⟨key, nonce, x, ls⟩ := x
  have hob : (ls.flatten.length ≤ 16777216) ∧ (ls.length ≤ 140737488355328) ∧ (key.length = 32) ∧ (nonce.length = 12) := hob
  obtain ⟨h1, h2, h3, h4⟩ := hob
  exact ⟨FMix key nonce x ls, rfl, evOKs ⟨.inl ⟨cTotal_ok, by kernel_rfl, gl_nil rfl⟩, ⟨.inl ⟨cBlock_ok, by kernel_rfl, gl_nil rfl⟩, ⟨.inl ⟨cCover_ok, by kernel_rfl, gl_nil rfl⟩, trivial⟩⟩⟩, rfl, rfl, by with_reducible exact wpMix key nonce x ls h1 h2 h3 h4⟩
end Go.Proofs.Ythlleheeghiljaa
