/-
  The reference of layer 1: powers, rotation, mixtures, the table.
-/
import Derived.Test.YthhjcpiaoempfaaDoorRn
import Derived.Test.YthhjcpiaoempfaaDoorSha
import Derived.Test.YthhjcpiaoempfaaDoorOw
namespace Go.Proofs.YthhjcpiaoempfaaDoor
open Go.RowKit
set_option maxRecDepth 100000

theorem pw_pos (n : Nat) : 0 < pw n := by unfold pw; have := Nat.pow_pos (a := 2) (n := n) (by omega); omega
theorem pw_succ (n : Nat) (hn : n ≤ 62) : IntKind.wrap .u64 (pw n * 2) = pw (n + 1) := by
  have h1 : (2 : Nat) ^ (n + 1) ≤ 2 ^ 63 := Nat.pow_le_pow_right (by omega) (by omega)
  rw [wrapU64]
  unfold pw
  rw [Nat.pow_succ] at h1 ⊢
  omega
noncomputable def stPow (n i : Nat) : St := ⟨Tryd.f67.ntmps, [(0, vv (.int .i64 (n : Int))), (3, vv (.int .u64 (pw i))), (4, vv (.int .i64 (i : Int)))], []⟩
def kRPow : Nat → ClN := fun n => ⟨[vv (.int .i64 (n : Int))], [], vv (.int .u64 (pw n)), [], [], [n ≤ 63]⟩
noncomputable def FRPow (n : Nat) : FnE := ⟨mkEv Tryd.prog [] [] 0, [0, 2, 3, 4, 7], fun _ _ => .inv { i : Nat // i ≤ n } (fun i => stPow n i.val) (fun i => n - i.val) [] []⟩
def mRPow : List AV → (Nat → Option MB) → Option (List Nat × Nat)
  | [.o (.c (.v (.int .i64 n)))], _ => some ([], n.toNat)
  | _, _ => none
noncomputable def cRPow : Spec := callG 67 Tryd.f67.ntmps mRPow kRPow
theorem vcRPow (n : Nat) : (wpE (FRPow n) (Tryd.f67.body.getD .skip) ⟨Tryd.f67.ntmps, slotsOf 0 (kRPow n).avs, (kRPow n).mem⟩ (finK Tryd.prog Tryd.f67.results.toList (postN (kRPow n)))) = ((∃ (x : { i : Nat // i ≤ n }), true = true ∧ true = true ∧ (13 : Nat) = (13 : Nat) ∧ Value.int IntKind.i64 (↑n : Int) = Value.int IntKind.i64 (↑n : Int) ∧ Value.int IntKind.u64 (1 : Int) = Value.int IntKind.u64 (pw (Subtype.val x)) ∧ Value.int IntKind.i64 (0 : Int) = Value.int IntKind.i64 (↑(Subtype.val x) : Int)) ∧ ∀ (x : { i : Nat // i ≤ n }), bif decide ((↑(Subtype.val x) : Int) < (↑n : Int)) then ∃ (y : { i : Nat // i ≤ n }), (true = true ∧ true = true ∧ (13 : Nat) = (13 : Nat) ∧ Value.int IntKind.i64 (↑n : Int) = Value.int IntKind.i64 (↑n : Int) ∧ Value.int IntKind.u64 (IntKind.wrap IntKind.u64 (pw (Subtype.val x) * (2 : Int))) = Value.int IntKind.u64 (pw (Subtype.val y)) ∧ Value.int IntKind.i64 (IntKind.wrap IntKind.i64 ((↑(Subtype.val x) : Int) + (1 : Int))) = Value.int IntKind.i64 (↑(Subtype.val y) : Int)) ∧ n - Subtype.val y < n - Subtype.val x else true = true ∧ true = true ∧ (13 : Nat) = (13 : Nat) ∧ Value.int IntKind.u64 (pw (Subtype.val x)) = Value.int IntKind.u64 (pw n)) := by kernel_rfl

set_option maxHeartbeats 8000000 in
theorem wpRPow (n : Nat) (h1 : n ≤ 63) : wpE (FRPow n) (Tryd.f67.body.getD .skip) ⟨Tryd.f67.ntmps, slotsOf 0 (kRPow n).avs, (kRPow n).mem⟩ (finK Tryd.prog Tryd.f67.results.toList (postN (kRPow n))) := by
  with_reducible refine Eq.mpr (vcRPow n) ?_
  and_intros
  all_goals try omega
  all_goals try exact True.intro
  · exact ⟨⟨0, Nat.zero_le _⟩, by and_intros <;> first | exact True.intro | rfl⟩
  · rintro ⟨i, hi⟩
    dsimp only
    by_cases hg : (i : Int) < (n : Int)
    · rw [decide_eq_true hg, cond_true]
      have e1 : IntKind.wrap .i64 ((i : Int) + 1) = ((i + 1 : Nat) : Int) := by rw [IntKind.wrap_i64]; omega
      rw [e1, pw_succ i (by omega)]
      refine ⟨⟨i + 1, by omega⟩, ?_⟩
      and_intros <;> first | exact True.intro | with_reducible rfl | (show n - (i + 1) < n - i; omega)
    · rw [decide_eq_false hg, cond_false]
      have e : i = n := by omega
      subst e
      and_intros <;> first | exact True.intro | with_reducible rfl
set_option maxHeartbeats 8000000 in
theorem cRPow_ok : SpecOK Tryd.prog cRPow := by
  refine callG_ok (c := Tryd.f67.body.getD .skip) mixed Tryd.func67 (by kernel_rfl) rfl (fun n hob => ?_)
  have hob : (n ≤ 63) := hob
  have h1 := hob
  exact ⟨FRPow n, rfl, evOKs trivial, rfl, rfl, by with_reducible exact wpRPow n h1⟩

def kRTurn : Int × Nat → ClN := fun (x, n) => ⟨[vv (.int .u64 x), vv (.int .i64 (n : Int)), vv (.int .i64 32)], [], vv (.int .u64 (tnR x n)), [], [], [1 ≤ n, n ≤ 31]⟩
noncomputable def FRTurn : FnE := ⟨mkEv Tryd.prog [] [cRPow] 0, [0, 1, 2, 6, 8], fun _ _ => .rounds 0⟩
def mRTurn : List AV → (Nat → Option MB) → Option (List Nat × (Int × Nat))
  | [.o (.c (.v (.int .u64 x))), .o (.c (.v (.int .i64 n))), .o (.c (.v (.int .i64 32)))], _ => some ([], x, n.toNat)
  | _, _ => none
noncomputable def cRTurn : Spec := callG 66 Tryd.f66.ntmps mRTurn kRTurn
theorem vcRTurn (x : Int) (n : Nat) : (wpE FRTurn (Tryd.f66.body.getD .skip) ⟨Tryd.f66.ntmps, slotsOf 0 (kRTurn (x, n)).avs, (kRTurn (x, n)).mem⟩ (finK Tryd.prog Tryd.f66.results.toList (postN (kRTurn (x, n))))) = (let x1 := IntKind.wrap IntKind.i64 ((32 : Int) - (↑n : Int)); true = true ∧ Value.int IntKind.i64 (↑n : Int) = Value.int IntKind.i64 (↑(Int.toNat (↑n : Int)) : Int) ∧ Int.toNat (↑n : Int) ≤ (63 : Nat) ∧ pw (Int.toNat (↑n : Int)) ≠ (0 : Int) ∧ true = true ∧ Value.int IntKind.i64 (↑n : Int) = Value.int IntKind.i64 (↑(Int.toNat (↑n : Int)) : Int) ∧ Int.toNat (↑n : Int) ≤ (63 : Nat) ∧ pw (Int.toNat (↑n : Int)) ≠ (0 : Int) ∧ true = true ∧ Value.int IntKind.i64 x1 = Value.int IntKind.i64 (↑(Int.toNat x1) : Int) ∧ Int.toNat x1 ≤ (63 : Nat) ∧ true = true ∧ true = true ∧ (33 : Nat) = (33 : Nat) ∧ Value.int IntKind.u64 (IntKind.wrap IntKind.u64 (IntKind.wrap IntKind.u64 (Int.tdiv x (pw (Int.toNat (↑n : Int)))) + IntKind.wrap IntKind.u64 (Int.tmod x (pw (Int.toNat (↑n : Int))) * pw (Int.toNat x1)))) = Value.int IntKind.u64 (tnR x n)) := by kernel_rfl

set_option maxHeartbeats 8000000 in
theorem wpRTurn (x : Int) (n : Nat) (h1 : 1 ≤ n) (h2 : n ≤ 31) : wpE FRTurn (Tryd.f66.body.getD .skip) ⟨Tryd.f66.ntmps, slotsOf 0 (kRTurn (x, n)).avs, (kRTurn (x, n)).mem⟩ (finK Tryd.prog Tryd.f66.results.toList (postN (kRTurn (x, n)))) := by
  with_reducible refine Eq.mpr (vcRTurn x n) ?_
  have e1 : IntKind.wrap .i64 (32 - (n : Int)) = ((32 - n : Nat) : Int) := by rw [IntKind.wrap_i64]; omega
  have p1 := pw_pos n
  simp only [e1, Int.toNat_natCast]
  and_intros <;> first | omega | exact True.intro | with_reducible rfl | rfl
set_option maxHeartbeats 8000000 in
theorem cRTurn_ok : SpecOK Tryd.prog cRTurn := by
  refine callG_ok (c := Tryd.f66.body.getD .skip) mixed Tryd.func66 (by kernel_rfl) rfl (fun x hob => ?_)
  obtain ⟨x, n⟩ := x
  have hob : (1 ≤ n) ∧ (n ≤ 31) := hob
  obtain ⟨h1, h2⟩ := hob
  exact ⟨FRTurn, rfl, evOKs ⟨.inl ⟨cRPow_ok, by kernel_rfl, gl_nil rfl⟩, trivial⟩, rfl, rfl, by with_reducible exact wpRTurn x n h1 h2⟩

def kRMix : Int × Int × Int → ClN := fun (a, b, c) => ⟨[vv (.int .u64 a), vv (.int .u64 b), vv (.int .u64 c)], [], vv (.int .u64 (mixR a b c)), [], [], []⟩
noncomputable def FRMix : FnE := ⟨mkEv Tryd.prog [] [] 0, [0, 1, 2, 6], fun _ _ => .rounds 0⟩
def mRMix : List AV → (Nat → Option MB) → Option (List Nat × (Int × Int × Int))
  | [.o (.c (.v (.int .u64 a))), .o (.c (.v (.int .u64 b))), .o (.c (.v (.int .u64 c)))], _ => some ([], (a, b, c))
  | _, _ => none
noncomputable def cRMix : Spec := callG 65 Tryd.f65.ntmps mRMix kRMix
theorem vcRMix (a b c : Int) : (wpE FRMix (Tryd.f65.body.getD .skip) ⟨Tryd.f65.ntmps, slotsOf 0 (kRMix (a, b, c)).avs, (kRMix (a, b, c)).mem⟩ (finK Tryd.prog Tryd.f65.results.toList (postN (kRMix (a, b, c))))) = (true = true ∧ true = true ∧ (12 : Nat) = (12 : Nat) ∧ Value.int IntKind.u64 (bits BinOp.xor IntKind.u64 (bits BinOp.xor IntKind.u64 a b) c) = Value.int IntKind.u64 (mixR a b c)) := by kernel_rfl

set_option maxHeartbeats 8000000 in
theorem wpRMix (a b c : Int) : wpE FRMix (Tryd.f65.body.getD .skip) ⟨Tryd.f65.ntmps, slotsOf 0 (kRMix (a, b, c)).avs, (kRMix (a, b, c)).mem⟩ (finK Tryd.prog Tryd.f65.results.toList (postN (kRMix (a, b, c)))) := by
  with_reducible refine Eq.mpr (vcRMix a b c) ?_
  intros
  and_intros <;> first | omega | exact True.intro | kernel_rfl
set_option maxHeartbeats 8000000 in
theorem cRMix_ok : SpecOK Tryd.prog cRMix := by
  refine callG_ok (c := Tryd.f65.body.getD .skip) mixed Tryd.func65 (by kernel_rfl) rfl (fun x hob => ?_)
  obtain ⟨a, b, c⟩ := x
  exact ⟨FRMix, rfl, evOKs trivial, rfl, rfl, by with_reducible exact wpRMix a b c ⟩

def kRKeep : Int → ClN := fun x => ⟨[vv (.int .u64 x), vv (.int .i64 32)], [], vv (.int .u64 (keepR x)), [], [], []⟩
noncomputable def FRKeep : FnE := ⟨mkEv Tryd.prog [] [cRPow] 0, [0, 1, 4, 6], fun _ _ => .rounds 0⟩
def mRKeep : List AV → (Nat → Option MB) → Option (List Nat × Int)
  | [.o (.c (.v (.int .u64 x))), .o (.c (.v (.int .i64 32)))], _ => some ([], x)
  | _, _ => none
noncomputable def cRKeep : Spec := callG 68 Tryd.f68.ntmps mRKeep kRKeep
theorem vcRKeep (x : Int) : (wpE FRKeep (Tryd.f68.body.getD .skip) ⟨Tryd.f68.ntmps, slotsOf 0 (kRKeep x).avs, (kRKeep x).mem⟩ (finK Tryd.prog Tryd.f68.results.toList (postN (kRKeep x)))) = (true = true ∧ Value.int IntKind.i64 (32 : Int) = Value.int IntKind.i64 (32 : Int) ∧ (32 : Nat) ≤ (63 : Nat) ∧ (4294967296 : Int) ≠ (0 : Int) ∧ true = true ∧ true = true ∧ (12 : Nat) = (12 : Nat) ∧ Value.int IntKind.u64 (Int.tmod x (4294967296 : Int)) = Value.int IntKind.u64 (keepR x)) := by kernel_rfl

set_option maxHeartbeats 8000000 in
theorem wpRKeep (x : Int) : wpE FRKeep (Tryd.f68.body.getD .skip) ⟨Tryd.f68.ntmps, slotsOf 0 (kRKeep x).avs, (kRKeep x).mem⟩ (finK Tryd.prog Tryd.f68.results.toList (postN (kRKeep x))) := by
  with_reducible refine Eq.mpr (vcRKeep x) ?_
  have p1 := pw_pos 32
  and_intros <;> first | omega | exact True.intro | with_reducible rfl | kernel_rfl
set_option maxHeartbeats 8000000 in
theorem cRKeep_ok : SpecOK Tryd.prog cRKeep := by
  refine callG_ok (c := Tryd.f68.body.getD .skip) mixed Tryd.func68 (by kernel_rfl) rfl (fun x hob => ?_)
  exact ⟨FRKeep, rfl, evOKs ⟨.inl ⟨cRPow_ok, by kernel_rfl, gl_nil rfl⟩, trivial⟩, rfl, rfl, by with_reducible exact wpRKeep x ⟩

def kRTable : Unit → ClN := fun _ => ⟨[], [], .o (.c (.os 0 1 80)), [.grow 86 1 (.i .u64 tabR)], [0], []⟩
noncomputable def FRTable : FnE := ⟨mkEv Tryd.prog [] [] 0, [0], fun _ _ => .rounds 0⟩
def mRTable : List AV → (Nat → Option MB) → Option (List Nat × Unit)
  | [], _ => some ([], ())
  | _, _ => none
noncomputable def cRTable : Spec := callG 64 Tryd.f64.ntmps mRTable kRTable
theorem vcRTable (_ : Unit) : (wpE FRTable (Tryd.f64.body.getD .skip) ⟨Tryd.f64.ntmps, slotsOf 0 (kRTable ()).avs, (kRTable ()).mem⟩ (finK Tryd.prog Tryd.f64.results.toList (postN (kRTable ())))) = (true = true ∧ true = true ∧ (2 : Nat) = (2 : Nat) ∧ (86 : Nat) = (86 : Nat) ∧ (1 : Nat) = (1 : Nat) ∧ [(4794697086780616226 : Int), (8158064640168781261 : Int), (13096744586834688815 : Int), (16840607885511220156 : Int), (4131703408338449720 : Int), (6480981068601479193 : Int), (10538285296894168987 : Int), (12329834152419229976 : Int), (15566598209576043074 : Int), (1334009975649890238 : Int), (2608012711638119052 : Int), (6128411473006802146 : Int), (8268148722764581231 : Int), (9286055187155687089 : Int), (11230858885718282805 : Int), (13951009754708518548 : Int), (16472876342353939154 : Int), (17275323862435702243 : Int), (1135362057144423861 : Int), (2597628984639134821 : Int), (3308224258029322869 : Int), (5365058923640841347 : Int), (6679025012923562964 : Int), (8573033837759648693 : Int), (10970295158949994411 : Int), (12119686244451234320 : Int), (12683024718118986047 : Int), (13788192230050041572 : Int), (14330467153632333762 : Int), (15395433587784984357 : Int), (489312712824947311 : Int), (1452737877330783856 : Int), (2861767655752347644 : Int), (3322285676063803686 : Int), (5560940570517711597 : Int), (5996557281743188959 : Int), (7280758554555802590 : Int), (8532644243296465576 : Int), (9350256976987008742 : Int), (10552545826968843579 : Int), (11727347734174303076 : Int), (12113106623233404929 : Int), (14000437183269869457 : Int), (14369950271660146224 : Int), (15101387698204529176 : Int), (15463397548674623760 : Int), (17586052441742319658 : Int), (1182934255886127544 : Int), (1847814050463011016 : Int), (2177327727835720531 : Int), (2830643537854262169 : Int), (3796741975233480872 : Int), (4115178125766777443 : Int), (5681478168544905931 : Int), (6601373596472566643 : Int), (7507060721942968483 : Int), (8399075790359081724 : Int), (8693463985226723168 : Int), (9568029438360202098 : Int), (10144078919501101548 : Int), (10430055236837252648 : Int), (11840083180663258601 : Int), (13761210420658862357 : Int), (14299343276471374635 : Int), (14566680578165727644 : Int), (15097957966210449927 : Int), (16922976911328602910 : Int), (17689382322260857208 : Int), (500013540394364858 : Int), (748580250866718886 : Int), (1242879168328830382 : Int), (1977374033974150939 : Int), (2944078676154940804 : Int), (3659926193048069267 : Int), (4368137639120453308 : Int), (4836135668995329356 : Int), (5532061633213252278 : Int), (6448918945643986474 : Int), (6902733635092675308 : Int), (7801388544844847127 : Int)] = tabR ∧ getL (ClN.ren (kRTable ())) (0 : Nat) = some (0 : Nat) ∧ (1 : Nat) = (1 : Nat) ∧ (80 : Nat) = (80 : Nat)) := by kernel_rfl

set_option maxHeartbeats 8000000 in
theorem wpRTable  : wpE FRTable (Tryd.f64.body.getD .skip) ⟨Tryd.f64.ntmps, slotsOf 0 (kRTable ()).avs, (kRTable ()).mem⟩ (finK Tryd.prog Tryd.f64.results.toList (postN (kRTable ()))) := by
  with_reducible refine Eq.mpr (vcRTable ()) ?_
  intros
  and_intros <;> first | omega | exact True.intro | kernel_rfl
set_option maxHeartbeats 8000000 in
theorem cRTable_ok : SpecOK Tryd.prog cRTable := by
  refine callG_ok (c := Tryd.f64.body.getD .skip) mixed Tryd.func64 (by kernel_rfl) rfl (fun x hob => ?_)
  exact ⟨FRTable, rfl, evOKs trivial, rfl, rfl, by with_reducible exact wpRTable  ⟩
end Go.Proofs.YthhjcpiaoempfaaDoor
