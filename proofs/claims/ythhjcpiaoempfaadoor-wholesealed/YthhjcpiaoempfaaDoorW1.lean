/-
  WholeSealed: what must be shown, shown.
-/
import Derived.Test.YthhjcpiaoempfaaDoorW1v
namespace Go.Proofs.YthhjcpiaoempfaaDoor
open Go.RowKit
set_option maxRecDepth 100000

set_option maxHeartbeats 8000000 in
theorem wpWSeal (ns : Nat) (secret : List Int) (n : Nat) (t : List Int) (m : Nat) (b : List Int) (h1 : secret.length = ns) (h2 : t.length = n) (h3 : b.length = m) (h4 : Bys t) (_h5 : Bys b) (h6 : ns ≤ 300) (h7 : n ≤ 1000) (h8 : m ≤ 300) : wpE (FWSeal ns secret n t m b) (Tryd.f6.body.getD .skip) ⟨Tryd.f6.ntmps, slotsOf 0 (kWSeal (ns, secret, n, t, m, b)).avs, (kWSeal (ns, secret, n, t, m, b)).mem⟩ (finK Tryd.prog Tryd.f6.results.toList (postN (kWSeal (ns, secret, n, t, m, b)))) := by
  with_reducible refine Eq.mpr (vcWSeal ns secret n t m b) ?_
  intro x1 x2 x3 x4 x5 x8 x9 x10 x11 x12 x13 x14 x15 x16 x17
  have lk : (kxW secret).length = 64 := keysX_len _ _ _ 2
  have e2 : x2 = kxW secret := rfl
  have e3 : x3 = kxW secret := rfl
  have e4 : x4 = k1W secret := rfl
  have e5 : x5 = k1W secret := rfl
  have e10 : x10 = n1W secret := rfl
  have e11 : x11 = n1W secret := rfl
  have e12 : x12 = sW secret t b := rfl
  have lx1 : x1.length = ns := h1
  have ft : List.flatten [t] = t := by rw [List.flatten_cons, List.flatten_nil, List.append_nil]
  have fb : List.flatten [b] = b := by rw [List.flatten_cons, List.flatten_nil, List.append_nil]
  have e16 : x16 = mW secret t := by
    show mixA (k1W secret) (n1W secret) 1 (List.flatten [t]) = _
    rw [ft]; rfl
  have lm : (mW secret t).length = n := by unfold mW; rw [mixA_len, h2]
  have eS : sW secret t b = mW secret t ++ tagS (k1W secret) (n1W secret) [b] (mW secret t) m := by
    unfold sW sealT
    rw [fb, h3]; rfl
  have ls : (sW secret t b).length = n + 16 := by rw [eS, List.length_append, lm, (tagS_bys ..).2]
  have bs : Bys x12 := by
    rw [e12, eS]
    intro y hy
    rcases List.mem_append.1 hy with hy | hy
    · exact mixA_bys y hy
    · exact (tagS_bys ..).1 y hy
  have hn16 : n + 16 - 16 = n := by omega
  have e13 : x13 = mW secret t := by
    show List.take (n + 16 - 16) (sW secret t b) = _
    rw [eS, hn16]
    exact List.take_left' lm
  have ed : List.drop n (sW secret t b) = tagS (k1W secret) (n1W secret) [b] (mW secret t) m := by
    rw [eS]
    exact List.drop_left' lm
  have e14 : x14 = t := by
    show mixA x5 x11 1 x13 = t
    rw [e5, e11, e13]
    exact mixA_back _ _ _ h4
  have e15 : x15 = (n : Int) := by
    show IntKind.wrap .i64 (((n + 16 : Nat) : Int) - 16) = _
    rw [IntKind.wrap_i64]; omega
  have e15' : x15.toNat = n := by rw [e15]; exact Int.toNat_natCast _
  have g1 : (!decide (x4 = x5)) = false := by rw [decide_eq_true (show x4 = x5 from rfl)]; rfl
  have g2 : (!decide (List.take 32 x8 = List.take 32 x9)) = false := by rw [decide_eq_true (show List.take 32 x8 = List.take 32 x9 from rfl)]; rfl
  have g3 : tagS x5 x11 [b] x13 (List.length (List.flatten [b])) = List.drop (n + 16 - 16) x12 := by rw [e5, e11, e13, fb, h3, e12, hn16, ed]
  have g4 : (!strEq (bstr x14) (bstr t)) = false := by rw [e14, strEq_refl]; rfl
  have g5 : (!strEq (bstr (List.take x15.toNat (List.drop 0 x12))) (bstr x16)) = false := by
    rw [e15', List.drop_zero, e12, e16, eS, List.take_left' lm, strEq_refl]; rfl
  have d1 : decide ((300 : Int) < (ns : Int)) = false := decide_eq_false (by omega)
  have d2 : decide ((1000 : Int) < (n : Int)) = false := decide_eq_false (by omega)
  have d3 : decide ((300 : Int) < (m : Int)) = false := decide_eq_false (by omega)
  have l2 : x2.length = 64 := lk
  have l3 : x3.length = 64 := lk
  have l4 : x4.length = 32 := by rw [e4]; unfold k1W; rw [List.length_take, lk]; rfl
  have l5 : x5.length = 32 := l4
  have l10 : x10.length = 12 := by rw [e10]; unfold n1W; rw [List.length_take, List.length_drop, lk]; rfl
  have l11 : x11.length = 12 := l10
  have l12 : x12.length = n + 16 := ls
  have l14 : x14.length = n := by rw [e14]; exact h2
  have l16 : x16.length = n := by rw [e16]; exact lm
  have e17 : x17 = List.take 32 (bW secret) := rfl
  have fbl : (List.flatten [b]).length = m := by rw [fb]; exact h3
  have ftl : (List.flatten [t]).length = n := by rw [ft]; exact h2
  have ebW : chachaL x4 x10 0 = bW secret := rfl
  have l17 : x17.length = 32 := by rw [e17, List.length_take]; unfold bW; rw [chachaL_len]; rfl
  clear_value x17 x16 x15 x14 x13 x12 x11 x10 x9 x8 x5 x4 x3 x2 x1
  have hp0 : padK m < 16 := Nat.mod_lt _ (by decide)
  have hp1 : padK (m + padK m + n) < 16 := Nat.mod_lt _ (by decide)
  have hw0 : lW n m 0 = m := rfl
  have hw1 : lW n m 1 = m + padK m + n := rfl
  have hq0 : padK m = (16 - m % 16) % 16 := rfl
  have hq1 : padK (m + padK m + n) = (16 - (m + padK m + n) % 16) % 16 := rfl
  have la0 : ∀ k, (aW secret t b m 0 ++ List.replicate k 0).length = lW n m 0 + k := fun k => by
    rw [List.length_append, List.length_replicate]
    show b.length + k = m + k
    rw [h3]
  have la1 : ∀ k, (aW secret t b m 1 ++ List.replicate k 0).length = lW n m 1 + k := fun k => by
    rw [List.length_append, List.length_replicate]
    show (b ++ List.replicate (padK m) 0 ++ mW secret t).length + k = _
    rw [List.length_append, List.length_append, List.length_replicate, lm, h3, hw1]
  have hr : ∀ (A : List Int) (k : Nat), A ++ List.replicate k 0 ++ [0] = A ++ List.replicate (k + 1) 0 := fun A k => by
    rw [List.append_assoc, List.replicate_succ']
  and_intros
  all_goals try exact True.intro
  all_goals try with_reducible rfl
  all_goals try with_reducible assumption
  all_goals try omega
  all_goals try kernel_rfl
  · refine ⟨⟨0, Nat.zero_le _⟩, ?_⟩
    and_intros <;> first | exact True.intro | with_reducible assumption | with_reducible rfl | (show b = b ++ []; rw [List.append_nil]) | rfl
  · rintro ⟨k, hk⟩
    dsimp only
    have tm : Int.tmod ((lW n m 0 + k : Nat) : Int) 16 = (((m + k) % 16 : Nat) : Int) := (Int.ofNat_tmod (m + k) 16).symm
    have lk0 := la0 k
    rw [tm]
    by_cases hg : (m + k) % 16 = 0
    · rw [decide_eq_true (show (((m + k) % 16 : Nat) : Int) = 0 by omega), Bool.not_true, cond_false]
      have ek : k = padK m := by omega
      subst ek
      and_intros
      all_goals try exact True.intro
      all_goals try with_reducible rfl
      all_goals try with_reducible assumption
      all_goals try omega
      all_goals try kernel_rfl
      · refine ⟨⟨0, Nat.zero_le _⟩, ?_⟩
        and_intros <;> first | exact True.intro | with_reducible assumption | with_reducible rfl | (show b ++ List.replicate (padK m) 0 ++ mW secret t = b ++ List.replicate (padK m) 0 ++ mW secret t ++ []; rw [List.append_nil]) | rfl
      · rintro ⟨k, hk⟩
        dsimp only
        have tm : Int.tmod ((lW n m 1 + k : Nat) : Int) 16 = (((m + padK m + n + k) % 16 : Nat) : Int) := (Int.ofNat_tmod (m + padK m + n + k) 16).symm
        have lk1 := la1 k
        rw [tm]
        by_cases hg : (m + padK m + n + k) % 16 = 0
        · rw [decide_eq_true (show (((m + padK m + n + k) % 16 : Nat) : Int) = 0 by omega), Bool.not_true, cond_false]
          have ek : k = padK (m + padK m + n) := by omega
          subst ek
          rw [lenW (m := m) (by omega), lenW (m := n) (by omega)]
          have l8 : ∀ n, (lenL n).length = 8 := fun _ => rfl
          have f2 : strEq (bstr (List.take (n + 16 - x15.toNat) (List.drop x15.toNat (sW secret t b)))) (bstr (List.take 16 (List.drop 0 (sumL x17 (List.flatten [aW secret t b m 1 ++ List.replicate (padK (m + padK m + n)) 0 ++ lenL m ++ lenL n]))))) = true := by
            rw [e15', ed, List.drop_zero, List.take_of_length_le (by rw [(tagS_bys ..).2]; omega)]
            have hT : tagS (k1W secret) (n1W secret) [b] (mW secret t) m = sumL x17 (List.flatten [aW secret t b m 1 ++ List.replicate (padK (m + padK m + n)) 0 ++ lenL m ++ lenL n]) := by
              unfold tagS
              rw [e17, lm]
              have hp : padL n = List.replicate (padK (m + padK m + n)) 0 := by
                unfold padL
                rw [show (16 - n % 16) % 16 = padK (m + padK m + n) by omega]
              rw [hp]
              refine congrArg (sumL _) ?_
              show List.flatten ([b] ++ [padL m, mW secret t, List.replicate (padK (m + padK m + n)) 0, lenL m, lenL n]) = List.flatten [b ++ List.replicate (padK m) 0 ++ mW secret t ++ List.replicate (padK (m + padK m + n)) 0 ++ lenL m ++ lenL n]
              simp only [List.flatten_append, List.flatten_cons, List.flatten_nil, List.append_nil, List.append_assoc]
              rfl
            rw [← hT, List.take_of_length_le (by rw [(tagS_bys ..).2]; omega), strEq_refl]
          simp only [List.length_append, l8]
          and_intros
          all_goals try exact True.intro
          all_goals try with_reducible rfl
          all_goals try with_reducible assumption
          all_goals try omega
          all_goals try (rw [List.length_append] at lk1; omega)
          all_goals try kernel_rfl
        · rw [decide_eq_false (show ¬ (((m + padK m + n + k) % 16 : Nat) : Int) = 0 by omega), Bool.not_false, cond_true]
          and_intros
          all_goals try exact True.intro
          all_goals try with_reducible rfl
          all_goals try with_reducible assumption
          all_goals try omega
          refine ⟨⟨k + 1, by omega⟩, ?_⟩
          and_intros <;> first | exact True.intro | with_reducible assumption | with_reducible rfl | exact hr _ _ | (show padK (m + padK m + n) - (k + 1) < padK (m + padK m + n) - k; omega) | rfl
    · rw [decide_eq_false (show ¬ (((m + k) % 16 : Nat) : Int) = 0 by omega), Bool.not_false, cond_true]
      and_intros
      all_goals try exact True.intro
      all_goals try with_reducible rfl
      all_goals try with_reducible assumption
      all_goals try omega
      refine ⟨⟨k + 1, by omega⟩, ?_⟩
      and_intros <;> first | exact True.intro | with_reducible assumption | with_reducible rfl | exact hr _ _ | (show padK m - (k + 1) < padK m - k; omega) | rfl
set_option maxHeartbeats 8000000 in
theorem lwWSeal (ns : Nat) (secret : List Int) (n : Nat) (t : List Int) (m : Nat) (b : List Int) (h1 : secret.length = ns) (h2 : t.length = n) (h3 : b.length = m) (h4 : Bys t) (h5 : Bys b) (h6 : ns ≤ 300) (h7 : n ≤ 1000) (h8 : m ≤ 300) {W : World} {vs : List Value} (hgl : ∀ g l, (g, l) ∈ (tabH : List (Nat × L)) → Lies (cxL W (tabH)) g 0 l) (hD : All2 (DA (cxL W (tabH)) be0) (kWSeal (ns, secret, n, t, m, b)).avs vs) : Calls Tryd.prog 6 vs.toArray W (fun e W' => e = .returned (.bool true) ∧ Upd (fun _ => False) W W') :=
  law_calls (F := FWSeal ns secret n t m b) (fn := Tryd.f6) (c := Tryd.f6.body.getD .skip) (k := kWSeal (ns, secret, n, t, m, b)) rfl (evOKs ⟨.inl ⟨cMKeysX_ok, by kernel_rfl, gl_sub (by first | exact .inl rfl | exact .inr rfl)⟩, ⟨.inl ⟨cASeal_ok, by kernel_rfl, gl_sub (by first | exact .inl rfl | exact .inr rfl)⟩, ⟨.inl ⟨cOpenB_ok, by kernel_rfl, gl_sub (by first | exact .inl rfl | exact .inr rfl)⟩, ⟨.inl ⟨cMix_ok, by kernel_rfl, gl_sub (by first | exact .inl rfl | exact .inr rfl)⟩, ⟨.inl ⟨cBlock_ok, by kernel_rfl, gl_sub (by first | exact .inl rfl | exact .inr rfl)⟩, ⟨.inl ⟨cSum_ok, by kernel_rfl, gl_sub (by first | exact .inl rfl | exact .inr rfl)⟩, trivial⟩⟩⟩⟩⟩⟩) mixed rfl hgl Tryd.func6 (by kernel_rfl) rfl rfl hD (by kernel_rfl) (by with_reducible exact wpWSeal ns secret n t m b h1 h2 h3 h4 h5 h6 h7 h8)
end Go.Proofs.YthhjcpiaoempfaaDoor
