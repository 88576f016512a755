/-
  What SHA-256 as the program makes it is, as plain functions on numbers. No program.
-/
import Derived.Test.YtcdcoennnmbbdaaDoorMem
namespace Go.Proofs.YtcdcoennnmbbdaaDoor
open Go.RowKit

def rotr (n : Nat) (x : Int) : Int := bits .or .u32 (x * 2 ^ (32 - n) % 4294967296) (x / 2 ^ n)
def big256 (i j k : Nat) (x : Int) : Int := bits .xor .u32 (bits .xor .u32 (rotr i x) (rotr j x)) (rotr k x)
def sml256 (i j : Nat) (m : Int) (x : Int) : Int := bits .xor .u32 (bits .xor .u32 (rotr i x) (rotr j x)) (x / m)
def word32 (f : Nat → Int) : Int := bits .or .u32 (bits .or .u32 (bits .or .u32 (f 0 % 4294967296 * 16777216 % 4294967296) (f 1 % 4294967296 * 65536 % 4294967296)) (f 2 % 4294967296 * 256 % 4294967296)) (f 3 % 4294967296)
/-- The first k words of a block whose bytes are f. -/
def words0 (f : Nat → Int) (k : Nat) : List Int := (List.range k).map fun j => word32 fun i => f (4 * j + i)
/-- The word behind those of l. -/
def wnext (l : List Int) : Int :=
  (sml256 17 19 1024 (l.getD (l.length - 2) 0) + l.getD (l.length - 7) 0 + sml256 7 18 8 (l.getD (l.length - 15) 0) + l.getD (l.length - 16) 0) % 4294967296
/-- The first 16 + k words. -/
def sched (f : Nat → Int) : Nat → List Int
  | 0 => words0 f 16
  | k + 1 => sched f k ++ [wnext (sched f k)]
theorem words0_length (f : Nat → Int) (k : Nat) : (words0 f k).length = k := by simp [words0]
theorem words0_succ (f : Nat → Int) (k : Nat) : words0 f (k + 1) = words0 f k ++ [word32 fun i => f (4 * k + i)] := by simp [words0, List.range_succ]
theorem sched_length (f : Nat → Int) (k : Nat) : (sched f k).length = 16 + k := by
  induction k with
  | zero => simp [sched, words0_length]
  | succ k ih => simp [sched, ih]; omega
theorem getD_snoc (l : List Int) (x : Int) (j : Nat) : (l ++ [x]).getD j 0 = if j = l.length then x else l.getD j 0 := by
  simp only [List.getD_eq_getElem?_getD, List.getElem?_append]
  by_cases h : j < l.length
  · simp [h, show j ≠ l.length by omega]
  · by_cases e : j = l.length
    · simp [e]
    · obtain ⟨m, hm⟩ : ∃ m, j - l.length = m + 1 := ⟨j - l.length - 1, by omega⟩
      simp [e, h, hm]
structure S8 where
  (a b c d e f g h : Int)
def S8.get (s : S8) (j : Nat) : Int := [s.a, s.b, s.c, s.d, s.e, s.f, s.g, s.h].getD j 0
def S8.of (s : Nat → Int) : S8 := ⟨s 0, s 1, s 2, s 3, s 4, s 5, s 6, s 7⟩
def one256 (k x : Int) (s : S8) : Int :=
  ((s.h + big256 6 11 25 s.e + bits .xor .u32 (bits .and .u32 s.e s.f) (bits .and .u32 (bits .xor .u32 (if IntKind.u32.signed = true then -1 else IntKind.u32.max) s.e) s.g) + k / 4294967296) % 4294967296 + x) % 4294967296
def two256 (s : S8) : Int :=
  (big256 2 13 22 s.a + bits .xor .u32 (bits .xor .u32 (bits .and .u32 s.a s.b) (bits .and .u32 s.a s.c)) (bits .and .u32 s.b s.c)) % 4294967296
def step1 (k x : Int) (s : S8) : S8 :=
  ⟨(one256 k x s + two256 s) % 4294967296, s.a, s.b, s.c, (s.d + one256 k x s) % 4294967296, s.e, s.f, s.g⟩
/-- The state behind the first n rounds. -/
def rnds (K : Nat → Int) (W : Nat → Int) (s : S8) : Nat → S8
  | 0 => s
  | n + 1 => step1 (K n) (W n) (rnds K W s n)
/-- The state behind a block whose bytes are f. -/
def compress (K f s : Nat → Int) (j : Nat) : Int := (s j + (rnds K (fun j => (sched f 48).getD j 0) (S8.of s) 64).get j) % 4294967296
/-- The first state and the constants of the rounds, as the program's text has them. -/
def tabH : List Int := [7640891576956012808, 13503953896175478587, 4354685564936845355, 11912009170470909681, 5840696475078001361, 11170449401992604703, 2270897969802886507, 6620516959819538809]
def tabK : List Int := [4794697086780616226, 8158064640168781261, 13096744586834688815, 16840607885511220156, 4131703408338449720, 6480981068601479193, 10538285296894168987, 12329834152419229976, 15566598209576043074, 1334009975649890238, 2608012711638119052, 6128411473006802146, 8268148722764581231, 9286055187155687089, 11230858885718282805, 13951009754708518548, 16472876342353939154, 17275323862435702243, 1135362057144423861, 2597628984639134821, 3308224258029322869, 5365058923640841347, 6679025012923562964, 8573033837759648693, 10970295158949994411, 12119686244451234320, 12683024718118986047, 13788192230050041572, 14330467153632333762, 15395433587784984357, 489312712824947311, 1452737877330783856, 2861767655752347644, 3322285676063803686, 5560940570517711597, 5996557281743188959, 7280758554555802590, 8532644243296465576, 9350256976987008742, 10552545826968843579, 11727347734174303076, 12113106623233404929, 14000437183269869457, 14369950271660146224, 15101387698204529176, 15463397548674623760, 17586052441742319658, 1182934255886127544, 1847814050463011016, 2177327727835720531, 2830643537854262169, 3796741975233480872, 4115178125766777443, 5681478168544905931, 6601373596472566643, 7507060721942968483, 8399075790359081724, 8693463985226723168, 9568029438360202098, 10144078919501101548, 10430055236837252648, 11840083180663258601, 13761210420658862357, 14299343276471374635, 14566680578165727644, 15097957966210449927, 16922976911328602910, 17689382322260857208, 500013540394364858, 748580250866718886, 1242879168328830382, 1977374033974150939, 2944078676154940804, 3659926193048069267, 4368137639120453308, 4836135668995329356, 5532061633213252278, 6448918945643986474, 6902733635092675308, 7801388544844847127]
def KK (j : Nat) : Int := tabK.getD j 0
def H0 (j : Nat) : Int := tabH.getD j 0 / 4294967296 % 4294967296
/-- The state behind the first n blocks of m. -/
def stAt (m : List Int) : Nat → Nat → Int
  | 0 => H0
  | n + 1 => compress KK (fun j => m.getD (64 * n + j) 0) (stAt m n)
theorem compress_congr (K f g s : Nat → Int) (h : ∀ j, j < 64 → f j = g j) : compress K f s = compress K g s := by
  have h0 : words0 f 16 = words0 g 16 := by
    unfold words0
    refine List.map_congr_left fun j hj => ?_
    have hj : j < 16 := List.mem_range.1 hj
    simp only [word32, h (4 * j + 0) (by omega), h (4 * j + 1) (by omega), h (4 * j + 2) (by omega), h (4 * j + 3) (by omega)]
  have h1 : ∀ k, sched f k = sched g k := by
    intro k
    induction k with
    | zero => exact h0
    | succ k ih => simp only [sched, ih]
  funext j
  simp only [compress, h1]
theorem stAt_append (m p : List Int) (n : Nat) (h : 64 * n ≤ m.length) : stAt (m ++ p) n = stAt m n := by
  induction n with
  | zero => rfl
  | succ n ih =>
    rw [stAt, stAt, ih (by omega)]
    refine compress_congr _ _ _ _ fun j hj => ?_
    simp only [List.getD_eq_getElem?_getD]
    rw [List.getElem?_append_left (by omega)]
/-- A word as four bytes; two words as eight. -/
def be32 (x : Int) : List Int := [x / 16777216 % 256, x / 65536 % 256, x / 256 % 256, x % 256]
/-- What is put behind n bytes. -/
def padBytes (n : Nat) : List Int := 128 :: (List.replicate ((64 - (n + 9) % 64) % 64) 0 ++ (be32 ((n : Int) * 8 / 4294967296 % 4294967296) ++ be32 ((n : Int) * 8 % 4294967296)))
/-- SHA-256 as the program makes it. -/
def sha (m : List Int) : List Int := (List.range 8).flatMap fun i => be32 (stAt (m ++ padBytes m.length) ((m ++ padBytes m.length).length / 64) i)
theorem be32_length (x : Int) : (be32 x).length = 4 := rfl
theorem padBytes_length (n : Nat) : (padBytes n).length = 9 + (64 - (n + 9) % 64) % 64 := by simp [padBytes, be32_length]; omega
theorem ret_int {k : IntKind} {a b : Int} (h : a = b) : Ending.returned (.int k a) = .returned (.int k b) := by rw [h]
end Go.Proofs.YtcdcoennnmbbdaaDoor
