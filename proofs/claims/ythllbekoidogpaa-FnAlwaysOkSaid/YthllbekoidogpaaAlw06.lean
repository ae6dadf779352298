/-  -/
import Derived.Test.YthllbekoidogpaaAlw02
import Derived.Test.YthllbekoidogpaaAlw03
import Derived.Test.YthllbekoidogpaaAlw05
import Derived.Lib.OthersKept
import Derived.Laws.RangeAny
import Derived.Deep.RegionHeld3
import Derived.BigQuiet
namespace Go.Proofs.Ythllbekoidogpaa
open Go.RowKit
set_option linter.unusedVariables false


theorem eq_one (x y : UInt8) : ((bs [x]).toList == (bs [y]).toList) = decide ([x] = [y]) := eq_bs _ _
set_option maxRecDepth 20000 in
set_option maxHeartbeats 4000000 in
theorem sl7Same_any : ∀ (N : Nat) (u v : List UInt8) (w : World), u.length ≤ N → okE u → okE v →
    Calls Try.prog 88 #[.string (bs u), .string (bs v)] w fun e w' => e = .returned (.bool (sameB u v)) ∧ QD w w' := by
  intro N
  refine Nat.strongRecOn N fun N ihN => ?_
  intro u v w hN hu hv
  have Q0 := QD.refl w
  by_cases hu0 : u = []
  · subst hu0
    have HE := hide (sameB_nil (u := []) (v := v) (.inl rfl))
    have hb0 := toList_bs []
    have hd : decide (([] : List UInt8) = v) = decide (v = []) := by rw [decide_eq_decide]; exact ⟨Eq.symm, Eq.symm⟩
    go_enter Try.func88, Try.ntmps88
    go_wp2
    go_ret
    exact ⟨ret_bool (by rw [HE.out, toList_bs]; cases v <;> simp), Q0⟩
  by_cases hv0 : v = []
  · subst hv0
    have HE := hide (sameB_nil (u := u) (v := []) (.inr rfl))
    have hb0 := toList_bs []
    have hx : ((bs u).toList == (bs []).toList) = decide (u = []) := eq_bs u []
    have hx1 : ((bs u).toList == []) = false := by rw [toList_bs]; simpa using hu0
    have hx2 : (bs u).toList.isEmpty = false := by rw [toList_bs]; simpa using hu0
    have hx3 : ¬ (bs u).toList = [] := by rw [toList_bs]; exact hu0
    have HD := hide (decide_eq_false hu0)
    go_enter Try.func88, Try.ntmps88
    go_wp2
    go_ret
    exact ⟨ret_bool (by rw [HE.out, HD.out]), Q0⟩
  · have ku : okW u = true := hu.resolve_left hu0
    have kv : okW v = true := hv.resolve_left hv0
    have hnu : u.length ≤ 1048576 := by have := okE_len hu; omega
    have hnv : v.length ≤ 1048576 := by have := okE_len hv; omega
    have hx1 : ((bs u).toList == []) = false := by rw [toList_bs]; simpa using hu0
    have hx2 : (bs u).toList.isEmpty = false := by rw [toList_bs]; simpa using hu0
    have hx3 : ¬ (bs u).toList = [] := by rw [toList_bs]; exact hu0
    have hy1 : ((bs v).toList == []) = false := by rw [toList_bs]; simpa using hv0
    have hy2 : (bs v).toList.isEmpty = false := by rw [toList_bs]; simpa using hv0
    have hy3 : ¬ (bs v).toList = [] := by rw [toList_bs]; exact hv0
    by_cases hne : letN u = letN v
    · have HS := hide (sameB_step hu0 hv0)
      have HU := hide (show hdW u = hd u ∧ hlW u = [hl u] ∧ llW u = [ll u] ∧ tlW u = tl u from ⟨hdW_ok ku, hlW_ok ku, llW_ok ku, tlW_ok ku⟩)
      have HV := hide (show hdW v = hd v ∧ hlW v = [hl v] ∧ llW v = [ll v] ∧ tlW v = tl v from ⟨hdW_ok kv, hlW_ok kv, llW_ok kv, tlW_ok kv⟩)
      have ih1 := fun w => ihN (N - 1) (by have := hd_lt hu0; omega) (hd u) (hd v) w (by have := hd_lt hu0; omega) (okE_hd ku) (okE_hd kv)
      have ih2 := fun w => ihN (N - 1) (by have := tl_lt hu0; omega) (tl u) (tl v) w (by have := tl_lt hu0; omega) (okE_tl ku) (okE_tl kv)
      have hl1 := eq_one (hl u) (hl v)
      have hl2 := eq_one (ll u) (ll v)
      have IH := hide (And.intro ih1 ih2)
      obtain ⟨a, ha⟩ : ∃ a, a = hd u := ⟨_, rfl⟩
      obtain ⟨b, hb⟩ : ∃ b, b = hd v := ⟨_, rfl⟩
      obtain ⟨c, hc⟩ : ∃ c, c = tl u := ⟨_, rfl⟩
      obtain ⟨d, hd'⟩ : ∃ d, d = tl v := ⟨_, rfl⟩
      obtain ⟨x, hx⟩ : ∃ x, x = hl u := ⟨_, rfl⟩
      obtain ⟨y, hy⟩ : ∃ y, y = hl v := ⟨_, rfl⟩
      obtain ⟨p, hp⟩ : ∃ p, p = ll u := ⟨_, rfl⟩
      obtain ⟨q, hq⟩ : ∃ q, q = ll v := ⟨_, rfl⟩
      rw [← ha, ← hb, ← hc, ← hd'] at IH
      rw [← ha, ← hc, ← hx, ← hp] at HU
      rw [← hb, ← hd', ← hy, ← hq] at HV
      rw [← ha, ← hb, ← hc, ← hd', ← hx, ← hy, ← hp, ← hq] at HS
      rw [← hx, ← hy] at hl1
      rw [← hp, ← hq] at hl2
      clear ha hb hc hd' hx hy hp hq ih1 ih2
      obtain ⟨n1, hn1⟩ : ∃ n1, n1 = letN u := ⟨_, rfl⟩
      have HN := hide (show letN u = n1 ∧ letN v = n1 from ⟨hn1.symm, by rw [hn1, hne]⟩)
      clear hne hn1
      cases e1 : decide ([x] = [y])
      · rw [e1] at hl1
        go_enter Try.func88, Try.ntmps88
        go_wp2_with fail
        refine (sLettersIn_any u _ hnu).mono ?_
        rw [HN.out.1]
        rintro e w_ ⟨rfl, rfl⟩
        go_wp2_with fail
        refine (sLettersIn_any v _ hnv).mono ?_
        rw [HN.out.2]
        rintro e w_ ⟨rfl, rfl⟩
        go_wp2_with fail
        refine (sHeadOf_any u _ hnu).mono ?_
        rw [HU.out.1, HU.out.2.1]
        rintro e w1 ⟨rfl, q1⟩
        have Q1 := Q0.trans q1
        go_wp2_with fail
        refine (sHeadOf_any v _ hnv).mono ?_
        rw [HV.out.1, HV.out.2.1]
        rintro e w2 ⟨rfl, q2⟩
        have Q2 := Q1.trans q2
        go_wp2_with fail
        refine (sTailOf_any u _ hnu).mono ?_
        rw [HU.out.2.2.1, HU.out.2.2.2]
        rintro e w3 ⟨rfl, q3⟩
        have Q3 := Q2.trans q3
        go_wp2_with fail
        refine (sTailOf_any v _ hnv).mono ?_
        rw [HV.out.2.2.1, HV.out.2.2.2]
        rintro e w4 ⟨rfl, q4⟩
        have Q4 := Q3.trans q4
        go_wp2
        go_ret
        exact ⟨ret_bool (by rw [HS.out, e1]; simp), Q4⟩
      · rw [e1] at hl1
        cases e2 : decide ([p] = [q])
        · rw [e2] at hl2
          go_enter Try.func88, Try.ntmps88
          go_wp2_with fail
          refine (sLettersIn_any u _ hnu).mono ?_
          rw [HN.out.1]
          rintro e w_ ⟨rfl, rfl⟩
          go_wp2_with fail
          refine (sLettersIn_any v _ hnv).mono ?_
          rw [HN.out.2]
          rintro e w_ ⟨rfl, rfl⟩
          go_wp2_with fail
          refine (sHeadOf_any u _ hnu).mono ?_
          rw [HU.out.1, HU.out.2.1]
          rintro e w1 ⟨rfl, q1⟩
          have Q1 := Q0.trans q1
          go_wp2_with fail
          refine (sHeadOf_any v _ hnv).mono ?_
          rw [HV.out.1, HV.out.2.1]
          rintro e w2 ⟨rfl, q2⟩
          have Q2 := Q1.trans q2
          go_wp2_with fail
          refine (sTailOf_any u _ hnu).mono ?_
          rw [HU.out.2.2.1, HU.out.2.2.2]
          rintro e w3 ⟨rfl, q3⟩
          have Q3 := Q2.trans q3
          go_wp2_with fail
          refine (sTailOf_any v _ hnv).mono ?_
          rw [HV.out.2.2.1, HV.out.2.2.2]
          rintro e w4 ⟨rfl, q4⟩
          have Q4 := Q3.trans q4
          go_wp2
          go_ret
          exact ⟨ret_bool (by rw [HS.out, e1, e2]; simp), Q4⟩
        · rw [e2] at hl2
          cases e3 : sameB a b
          · go_enter Try.func88, Try.ntmps88
            go_wp2_with fail
            refine (sLettersIn_any u _ hnu).mono ?_
            rw [HN.out.1]
            rintro e w_ ⟨rfl, rfl⟩
            go_wp2_with fail
            refine (sLettersIn_any v _ hnv).mono ?_
            rw [HN.out.2]
            rintro e w_ ⟨rfl, rfl⟩
            go_wp2_with fail
            refine (sHeadOf_any u _ hnu).mono ?_
            rw [HU.out.1, HU.out.2.1]
            rintro e w1 ⟨rfl, q1⟩
            have Q1 := Q0.trans q1
            go_wp2_with fail
            refine (sHeadOf_any v _ hnv).mono ?_
            rw [HV.out.1, HV.out.2.1]
            rintro e w2 ⟨rfl, q2⟩
            have Q2 := Q1.trans q2
            go_wp2_with fail
            refine (sTailOf_any u _ hnu).mono ?_
            rw [HU.out.2.2.1, HU.out.2.2.2]
            rintro e w3 ⟨rfl, q3⟩
            have Q3 := Q2.trans q3
            go_wp2_with fail
            refine (sTailOf_any v _ hnv).mono ?_
            rw [HV.out.2.2.1, HV.out.2.2.2]
            rintro e w4 ⟨rfl, q4⟩
            have Q4 := Q3.trans q4
            go_wp2_with fail
            refine (IH.out.1 _).mono ?_
            rw [e3]
            rintro e w5 ⟨rfl, q5⟩
            have Q5 := Q4.trans q5
            go_wp2
            go_ret
            exact ⟨ret_bool (by rw [HS.out, e1, e2, e3]; simp), Q5⟩
          · go_enter Try.func88, Try.ntmps88
            go_wp2_with fail
            refine (sLettersIn_any u _ hnu).mono ?_
            rw [HN.out.1]
            rintro e w_ ⟨rfl, rfl⟩
            go_wp2_with fail
            refine (sLettersIn_any v _ hnv).mono ?_
            rw [HN.out.2]
            rintro e w_ ⟨rfl, rfl⟩
            go_wp2_with fail
            refine (sHeadOf_any u _ hnu).mono ?_
            rw [HU.out.1, HU.out.2.1]
            rintro e w1 ⟨rfl, q1⟩
            have Q1 := Q0.trans q1
            go_wp2_with fail
            refine (sHeadOf_any v _ hnv).mono ?_
            rw [HV.out.1, HV.out.2.1]
            rintro e w2 ⟨rfl, q2⟩
            have Q2 := Q1.trans q2
            go_wp2_with fail
            refine (sTailOf_any u _ hnu).mono ?_
            rw [HU.out.2.2.1, HU.out.2.2.2]
            rintro e w3 ⟨rfl, q3⟩
            have Q3 := Q2.trans q3
            go_wp2_with fail
            refine (sTailOf_any v _ hnv).mono ?_
            rw [HV.out.2.2.1, HV.out.2.2.2]
            rintro e w4 ⟨rfl, q4⟩
            have Q4 := Q3.trans q4
            go_wp2_with fail
            refine (IH.out.1 _).mono ?_
            rw [e3]
            rintro e w5 ⟨rfl, q5⟩
            have Q5 := Q4.trans q5
            go_wp2_with fail
            refine (IH.out.2 _).mono ?_
            rintro e w6 ⟨rfl, q6⟩
            have Q6 := Q5.trans q6
            go_wp2
            go_ret
            exact ⟨ret_bool (by rw [HS.out, e1, e2, e3]; simp), Q6⟩
    · have HS := hide (sameB_let ku kv hne)
      obtain ⟨n1, hn1⟩ : ∃ n1, n1 = letN u := ⟨_, rfl⟩
      obtain ⟨n2, hn2⟩ : ∃ n2, n2 = letN v := ⟨_, rfl⟩
      rw [← hn1, ← hn2] at hne
      have HN := hide (show letN u = n1 ∧ letN v = n2 from ⟨hn1.symm, hn2.symm⟩)
      have hnb : (n1 == n2) = false := beq_eq_false_iff_ne.2 hne
      clear hn1 hn2
      go_enter Try.func88, Try.ntmps88
      go_wp2_with fail
      refine (sLettersIn_any u _ hnu).mono ?_
      rw [HN.out.1]
      rintro e w_ ⟨rfl, rfl⟩
      go_wp2_with fail
      refine (sLettersIn_any v _ hnv).mono ?_
      rw [HN.out.2]
      rintro e w_ ⟨rfl, rfl⟩
      go_wp2
      go_ret
      exact ⟨ret_bool HS.out.symm, Q0⟩

set_option maxRecDepth 20000 in
set_option maxHeartbeats 4000000 in
theorem sl7Made_any : ∀ (N : Nat) (u : List UInt8) (w : World), u.length ≤ N → okE u →
    Calls Try.prog 74 #[.string (bs u)] w fun e w' => e = .returned (.string (bs (made u))) ∧ QD w w' := by
  intro N
  refine Nat.strongRecOn N fun N ihN => ?_
  intro u w hN hu
  have Q0 := QD.refl w
  by_cases hu0 : u = []
  · subst hu0
    have hb0 := toList_bs []
    go_enter Try.func74, Try.ntmps74
    go_wp2
    go_ret
    exact ⟨by rw [made_nil]; rfl, Q0⟩
  · have ku : okW u = true := hu.resolve_left hu0
    have hnu : u.length ≤ 1048576 := by have := okE_len hu; omega
    have hx1 : ((bs u).toList == []) = false := by rw [toList_bs]; simpa using hu0
    have hx2 : (bs u).toList.isEmpty = false := by rw [toList_bs]; simpa using hu0
    have hx3 : ¬ (bs u).toList = [] := by rw [toList_bs]; exact hu0
    have h1 := (okW_iff.1 ku).2.1
    obtain ⟨n1, hn1⟩ : ∃ n1, n1 = letN u := ⟨_, rfl⟩
    have HN := hide hn1.symm
    have hob : oneB u = (decide (1 ≤ n1) && decide (n1 ≤ 2) || n1 == 4) := by unfold oneB; rw [hn1]
    clear hn1
    cases ho : oneB u
    · have HM := hide (oneB_step ku ho)
      rw [ho] at hob
      have hob1 : (decide (1 ≤ n1) && decide (n1 ≤ 2)) = false := by cases e : (decide (1 ≤ n1) && decide (n1 ≤ 2)) with | false => rfl | true => rw [e] at hob; simp at hob
      have hob2 : (n1 == 4) = false := by cases e : (n1 == 4) with | false => rfl | true => rw [e] at hob; simp at hob
      have HU := hide (show hdW u = hd u ∧ hlW u = [hl u] ∧ llW u = [ll u] ∧ tlW u = tl u from ⟨hdW_ok ku, hlW_ok ku, llW_ok ku, tlW_ok ku⟩)
      have ih1 := fun w => ihN (N - 1) (by have := hd_lt hu0; omega) (hd u) w (by have := hd_lt hu0; omega) (okE_hd ku)
      have ih2 := fun w => ihN (N - 1) (by have := tl_lt hu0; omega) (tl u) w (by have := tl_lt hu0; omega) (okE_tl ku)
      have IH := hide (And.intro ih1 ih2)
      have s1 : (made (hd u)).length ≤ 10 := made_ten fun y hy => okC_iff.1 ((okW_iff.1 ku).1 y ((hdIs hu0).mem.2 (.inl hy)))
      have s2 : (made (tl u)).length ≤ 10 := made_ten fun y hy => okC_iff.1 ((okW_iff.1 ku).1 y ((tlIs hu0).mem.2 (.inl hy)))
      have a1 := fun w => add_bs (P := Try.prog) (made (hd u)) [hl u] (by simp; omega) w
      have a2 := fun w => add_bs (P := Try.prog) (made (hd u) ++ [hl u]) [ll u] (by simp; omega) w
      have a3 := fun w => add_bs (P := Try.prog) (made (hd u) ++ [hl u] ++ [ll u]) (made (tl u)) (by simp; omega) w
      obtain ⟨a, ha⟩ : ∃ a, a = hd u := ⟨_, rfl⟩
      obtain ⟨c, hc⟩ : ∃ c, c = tl u := ⟨_, rfl⟩
      obtain ⟨x, hx⟩ : ∃ x, x = hl u := ⟨_, rfl⟩
      obtain ⟨p, hp⟩ : ∃ p, p = ll u := ⟨_, rfl⟩
      rw [← ha, ← hc] at IH
      rw [← ha, ← hc, ← hx, ← hp] at HU HM
      rw [← ha, ← hx] at a1
      rw [← ha, ← hx, ← hp] at a2
      rw [← ha, ← hx, ← hp, ← hc] at a3
      obtain ⟨m1, hm1⟩ : ∃ m1, m1 = made a := ⟨_, rfl⟩
      obtain ⟨m2, hm2⟩ : ∃ m2, m2 = made c := ⟨_, rfl⟩
      rw [← hm1] at a1 a2
      rw [← hm1, ← hm2] at a3
      obtain ⟨v1, hv1⟩ : ∃ v1, v1 = m1 ++ [x] := ⟨_, rfl⟩
      rw [← hv1] at a1 a2 a3
      obtain ⟨v2, hv2⟩ : ∃ v2, v2 = v1 ++ [p] := ⟨_, rfl⟩
      rw [← hv2] at a2 a3
      obtain ⟨v3, hv3⟩ : ∃ v3, v3 = v2 ++ m2 := ⟨_, rfl⟩
      rw [← hv3] at a3
      have HR := hide (show made u = v3 from by rw [HM.out, hv3, hv2, hv1, hm1, hm2])
      have HM1 := hide hm1.symm
      have HM2 := hide hm2.symm
      clear ha hc hx hp ih1 ih2 hm1 hm2 hv1 hv2 hv3 s1 s2 HM hob
      go_enter Try.func74, Try.ntmps74
      go_wp2_with fail
      refine (sLettersIn_any u _ hnu).mono ?_
      rw [HN.out]
      rintro e w_ ⟨rfl, rfl⟩
      go_wp2_with fail
      refine (l1In_any n1 1 2 _).mono ?_
      rw [hob1]
      rintro e w_ ⟨rfl, rfl⟩
      go_wp2_with fail
      refine (sLettersIn_any u _ hnu).mono ?_
      rw [HN.out]
      rintro e w_ ⟨rfl, rfl⟩
      go_wp2_with fail
      refine (sHeadOf_any u _ hnu).mono ?_
      rw [HU.out.1, HU.out.2.1]
      rintro e w1 ⟨rfl, q1⟩
      have Q1 := Q0.trans q1
      go_wp2_with fail
      refine (sTailOf_any u _ hnu).mono ?_
      rw [HU.out.2.2.1, HU.out.2.2.2]
      rintro e w2 ⟨rfl, q2⟩
      have Q2 := Q1.trans q2
      go_wp2_with fail
      refine (IH.out.1 _).mono ?_
      rw [HM1.out]
      rintro e w3 ⟨rfl, q3⟩
      have Q3 := Q2.trans q3
      go_wp2_with fail
      refine (IH.out.2 _).mono ?_
      rw [HM2.out]
      rintro e w4 ⟨rfl, q4⟩
      have Q4 := Q3.trans q4
      go_wp2
      go_ret
      rw [HR.out]
      exact ⟨rfl, Q4⟩
    · have HM := hide (oneB_made ku ho)
      rw [ho] at hob
      have hsl := fun w => slice_to Try.underlying9 u 1 1 rfl h1 w
      obtain ⟨v, hv⟩ : ∃ v, v = u.take 1 := ⟨_, rfl⟩
      rw [← hv] at hsl HM
      clear hv
      cases hob1 : (decide (1 ≤ n1) && decide (n1 ≤ 2))
      · have hob2 : (n1 == 4) = true := by rw [hob1] at hob; simpa using hob.symm
        clear hob
        go_enter Try.func74, Try.ntmps74
        go_wp2_with fail
        refine (sLettersIn_any u _ hnu).mono ?_
        rw [HN.out]
        rintro e w_ ⟨rfl, rfl⟩
        go_wp2_with fail
        refine (l1In_any n1 1 2 _).mono ?_
        rw [hob1]
        rintro e w_ ⟨rfl, rfl⟩
        go_wp2_with fail
        refine (sLettersIn_any u _ hnu).mono ?_
        rw [HN.out]
        rintro e w_ ⟨rfl, rfl⟩
        go_wp2
        go_ret
        rw [HM.out]
        exact ⟨rfl, Q0⟩
      · clear hob
        go_enter Try.func74, Try.ntmps74
        go_wp2_with fail
        refine (sLettersIn_any u _ hnu).mono ?_
        rw [HN.out]
        rintro e w_ ⟨rfl, rfl⟩
        go_wp2_with fail
        refine (l1In_any n1 1 2 _).mono ?_
        rw [hob1]
        rintro e w_ ⟨rfl, rfl⟩
        go_wp2
        go_ret
        rw [HM.out]
        exact ⟨rfl, Q0⟩

set_option maxHeartbeats 1000000 in
theorem sSameWords_any (u v : List UInt8) (w : World) (hn : u.length ≤ 1048576) (hm : v.length ≤ 1048576) :
    Calls Try.prog 72 #[.string (bs u), .string (bs v)] w fun e w' => e = .returned (.bool (okW u && (okW v && sameB u v))) ∧ QD w w' := by
  cases hu : okW u
  · go_enter Try.func72, Try.ntmps72
    go_wp2_with fail
    refine (sWordOk_any u _ hn).mono ?_
    rw [hu]
    rintro e w_ ⟨rfl, rfl⟩
    go_wp2
    go_ret
    exact ⟨rfl, QD.refl _⟩
  · cases hv : okW v
    · go_enter Try.func72, Try.ntmps72
      go_wp2_with fail
      refine (sWordOk_any u _ hn).mono ?_
      rw [hu]
      rintro e w_ ⟨rfl, rfl⟩
      go_wp2_with fail
      refine (sWordOk_any v _ hm).mono ?_
      rw [hv]
      rintro e w_ ⟨rfl, rfl⟩
      go_wp2
      go_ret
      exact ⟨rfl, QD.refl _⟩
    · go_enter Try.func72, Try.ntmps72
      go_wp2_with fail
      refine (sWordOk_any u _ hn).mono ?_
      rw [hu]
      rintro e w_ ⟨rfl, rfl⟩
      go_wp2_with fail
      refine (sWordOk_any v _ hm).mono ?_
      rw [hv]
      rintro e w_ ⟨rfl, rfl⟩
      go_wp2_with fail
      refine (sl7Same_any u.length u v _ (Nat.le_refl _) (.inr hu) (.inr hv)).mono ?_
      rintro e w1 ⟨rfl, q1⟩
      go_wp2
      go_ret
      exact ⟨rfl, q1⟩
end Go.Proofs.Ythllbekoidogpaa

namespace Go.Proofs.Ythllbekoidogpaa
open Go.RowKit
set_option linter.unusedVariables false
set_option linter.unusedSimpArgs false

theorem hldW_can {T : List (List Int)} {u v : List UInt8} (h : canA T u v = true) : hldW T u v = (apart T u v).isNone := by unfold hldW; rw [h]; rfl
set_option maxHeartbeats 1000000 in
theorem sAlwaysOk_any (u v : List UInt8) (w : World) (hn : u.length ≤ 1048576) (hm : v.length ≤ 1048576) :
    Calls Try.prog 46 #[.string (bs u), .string (bs v)] w fun e w' => e = .returned (.bool (okW u && (okW v && sameB u v))) ∧ QD w w' := by
  go_enter Try.func46, Try.ntmps46
  go_wp2_with fail
  refine (sSameWords_any u v _ hn hm).mono ?_
  rintro e w1 ⟨rfl, q1⟩
  go_wp2
  go_ret
  exact ⟨rfl, q1⟩
end Go.Proofs.Ythllbekoidogpaa

namespace Go.Proofs.Ythllbekoidogpaa
set_option linter.unusedVariables false

/-- Of the first k letters of a word: the place where a letter comes first, or -1. -/
def FP (u : List UInt8) (k : Nat) (c : UInt8) (p : Int) : Prop := (c ∉ u.take k ∧ p = -1) ∨ ∃ a : Nat, p = (a : Int) ∧ a < k ∧ lt u a = c ∧ c ∉ u.take a
section
variable {u : List UInt8} {k : Nat} {c : UInt8} {p : Int}
theorem FP.zero : FP u 0 c (-1) := .inl ⟨by simp, rfl⟩
theorem FP.lo (h : FP u k c p) : -1 ≤ p := by
  rcases h with ⟨_, rfl⟩ | ⟨a, rfl, _⟩ <;> omega
theorem FP.hi (h : FP u k c p) : p < k := by
  rcases h with ⟨_, rfl⟩ | ⟨a, rfl, h, _⟩ <;> omega
theorem FP.old (h : FP u k c p) (hk : k < u.length) (ho : lt u k ≠ c ∨ p ≠ -1) : FP u (k + 1) c p := by
  rcases h with ⟨hm, rfl⟩ | ⟨a, rfl, ha, e, hm⟩
  · rcases ho with ho | ho
    · refine .inl ⟨?_, rfl⟩
      rw [take_lt hk, List.mem_append, List.mem_singleton]
      rintro (h | h)
      · exact hm h
      · exact ho h.symm
    · exact (ho rfl).elim
  · exact .inr ⟨a, rfl, by omega, e, hm⟩
theorem FP.fresh (h : FP u k c (-1)) (e : lt u k = c) : FP u (k + 1) c k := by
  rcases h with ⟨hm, _⟩ | ⟨a, ha, _⟩
  · exact .inr ⟨k, rfl, by omega, e, hm⟩
  · omega
theorem FP.neg (h : FP u u.length c p) : p = -1 ↔ c ∉ u := by
  rcases h with ⟨hm, rfl⟩ | ⟨a, rfl, ha, e, hm⟩
  · rw [List.take_length] at hm
    exact ⟨fun _ => hm, fun _ => rfl⟩
  · have hu : c ∈ u := e ▸ lt_mem ha
    exact ⟨fun h => by omega, fun h => (h hu).elim⟩
theorem FP.hd {a : Nat} (h : FP u u.length c a) (hu : ∀ y, y ∈ u → ∃ p, FP u u.length y p ∧ p ≤ a) : HdIs u (u.take a) (lt u a) := by
  rcases h with ⟨_, e⟩ | ⟨b, e, hb, ec, hm⟩
  · omega
  · obtain rfl : a = b := by omega
    rw [ec]
    refine ⟨⟨u.drop (a + 1), ?_, fun y hy => ?_⟩, hm⟩
    · have e1 : lt u a = u[a] := by simp [lt, hb]
      rw [← ec, e1, ← List.drop_eq_getElem_cons hb, List.take_append_drop]
    · obtain ⟨p, hp, hpa⟩ := hu y (List.mem_of_mem_drop hy)
      rcases hp with ⟨hn, _⟩ | ⟨d, rfl, hd, ed, _⟩
      · rw [List.take_length] at hn
        exact (hn (List.mem_of_mem_drop hy)).elim
      · by_cases hda : d = a
        · subst hda; exact .inr (ed.symm.trans ec)
        · left
          have hda2 : d < a := by omega
          have hlen : d < (u.take a).length := by rw [List.length_take]; omega
          have : lt (u.take a) d = lt u d := by
            have h1 : d < u.length := by omega
            simp [lt, hda2]
          rw [← ed, ← this]
          exact lt_mem hlen
end
/-- The letters whose first places these are. -/
def letsN (x y z : Int) : Nat := (if x = -1 then 0 else 1) ||| (if y = -1 then 0 else 2) ||| (if z = -1 then 0 else 4)
/-- The last of three places. -/
def max3 (x y z : Int) : Int := max (max x y) z
section
variable {u : List UInt8} {x y z : Int}
theorem letsN_ltr (hx : FP u u.length 97 x) (hy : FP u u.length 98 y) (hz : FP u u.length 99 z) : letsN x y z = ltr u := by
  unfold letsN ltr
  simp only [hx.neg, hy.neg, hz.neg]
  by_cases h1 : (97 : UInt8) ∈ u <;> by_cases h2 : (98 : UInt8) ∈ u <;> by_cases h3 : (99 : UInt8) ∈ u <;> simp [h1, h2, h3]
theorem max3_hd (hw : okW u = true) (hx : FP u u.length 97 x) (hy : FP u u.length 98 y) (hz : FP u u.length 99 z) : ∃ a : Nat, max3 x y z = a ∧ a < u.length ∧ HdIs u (u.take a) (lt u a) := by
  obtain ⟨ho, h1, h2⟩ := okW_iff.1 hw
  have hle : ∀ q, q ∈ u → ∃ p, FP u u.length q p ∧ p ≤ max3 x y z := fun q hq => by
    unfold max3
    rcases okC_iff.1 (ho q hq) with rfl | rfl | rfl
    · exact ⟨x, hx, by omega⟩
    · exact ⟨y, hy, by omega⟩
    · exact ⟨z, hz, by omega⟩
  have h0 : 0 ≤ max3 x y z := by
    have hm := lt_mem (u := u) (k := 0) (by omega)
    obtain ⟨p, hp, hp2⟩ := hle _ hm
    have hne : p ≠ -1 := fun e => (hp.neg.1 e) hm
    have := hp.lo
    omega
  have hcase : ∃ c, FP u u.length c (max3 x y z) := by
    have : max3 x y z = x ∨ max3 x y z = y ∨ max3 x y z = z := by unfold max3; omega
    rcases this with e | e | e
    · exact ⟨97, by rw [e]; exact hx⟩
    · exact ⟨98, by rw [e]; exact hy⟩
    · exact ⟨99, by rw [e]; exact hz⟩
  obtain ⟨c, hc⟩ := hcase
  obtain ⟨a, ha⟩ : ∃ a : Nat, max3 x y z = a := ⟨(max3 x y z).toNat, by omega⟩
  rw [ha] at hc hle
  have hlt := hc.hi
  exact ⟨a, ha, by omega, hc.hd hle⟩
end
end Go.Proofs.Ythllbekoidogpaa

namespace Go.Proofs.Ythllbekoidogpaa
open Go.RowKit
set_option linter.unusedVariables false

theorem step_one {u : List UInt8} {k : Nat} (hlt : k < u.length) (h : okC (lt u k) = true) : Utf8.decode (bs u) k = ((lt u k).toNat, 1) := by
  have hk : k < (bs u).size := by rw [size_bs]; exact hlt
  have h9 : (lt u k).toNat < 128 := by
    rcases okC_iff.1 h with h | h | h <;> rw [h] <;> decide
  rw [decode_ascii (bs u) k hk (by rw [get_bs hk]; exact h9), get_bs hk]
/-- A letter that is none: what is read there is none, too. -/
theorem step_bad {u : List UInt8} {k : Nat} (hlt : k < u.length) (h : okC (lt u k) = false) : ¬ (97 ≤ (Utf8.decode (bs u) k).1 ∧ (Utf8.decode (bs u) k).1 ≤ 99) := by
  have hk : k < (bs u).size := by rw [size_bs]; exact hlt
  have hg : (bs u)[k]'hk = lt u k := get_bs hk
  by_cases ha : (lt u k).toNat < 128
  · rw [decode_ascii (bs u) k hk (by rw [hg]; exact ha), hg]
    intro hh
    have : okC (lt u k) = true := by unfold okC; rw [Bool.and_eq_true, decide_eq_true_iff, decide_eq_true_iff]; exact hh
    rw [this] at h; cases h
  · have := (decode_high (bs u) k hk (by rw [hg]; omega)).1
    omega

set_option maxRecDepth 20000 in
set_option maxHeartbeats 2000000 in
theorem iWordOk_any (u : List UInt8) (w : World) (hn : u.length ≤ 1048576) :
    Calls Try.prog 29 #[.string (bs u)] w fun e w' => e = .returned (.bool (okW u)) ∧ Below w.heap.size w w' := by
  have hsz := size_bs u
  by_cases h1 : u.length < 1
  · have HE := hide (show okW u = false from by unfold okW; rw [show decide (1 ≤ u.length) = false from decide_eq_false (by omega)]; simp)
    go_enter Try.func29, Try.ntmps29
    go_wp2
    go_ret
    rw [HE.out]
    exact ⟨rfl, Below.refl _ _⟩
  by_cases h2 : 24 < u.length
  · have HE := hide (show okW u = false from by unfold okW; rw [show decide (u.length ≤ 24) = false from decide_eq_false (by omega)]; simp)
    go_enter Try.func29, Try.ntmps29
    go_wp2
    go_ret
    rw [HE.out]
    exact ⟨rfl, Below.refl _ _⟩
  go_enter Try.func29, Try.ntmps29
  go_wp2
  go_loopg [] u.length (fun g wr => ∃ k : Nat, k ≤ u.length ∧ Hid (g = u.length - k) ∧ Hid (∀ j, j < k → okC (lt u j) = true) ∧ wr = w.iter (bs u) k)
  case atStart => exact ⟨0, Nat.zero_le _, rfl, fun j hj => absurd hj (Nat.not_lt_zero _), rfl⟩
  case round =>
    obtain ⟨k, hk, hg, hH, rfl⟩ := hrel
    by_cases hlt : k < u.length
    · have hp : k < (bs u).size := by omega
      cases hc : okC (lt u k)
      · have hb := step_bad hlt hc
        have HE := hide (okW_bad hlt hc)
        have hnx : ∀ ty, (Instr.next (.pointer (some ⟨w.heap.size, 0, none⟩)) true ty).run Try.prog (w.iter (bs u) k) = _ := fun ty => run_next_any w (bs u) k ty hp
        generalize Utf8.decode (bs u) k = q at hb hnx
        obtain ⟨q1, q2⟩ := q
        simp only at hb hnx
        clear hc
        by_cases hl : q1 < 97
        · have hl2 : ((q1 : Nat) : Int) < 97 := by omega
          go_wp2
          go_ret
          rw [HE.out]
          exact ⟨rfl, (Below.refl _ w).alloc (Nat.le_refl _) _⟩
        · have hl2 : ¬ ((q1 : Nat) : Int) < 97 := by omega
          have hl3 : (99 : Int) < ((q1 : Nat) : Int) := by omega
          go_wp2
          go_ret
          rw [HE.out]
          exact ⟨rfl, (Below.refl _ w).alloc (Nat.le_refl _) _⟩
      · have hst := step_one hlt hc
        have hnx : ∀ ty, (Instr.next (.pointer (some ⟨w.heap.size, 0, none⟩)) true ty).run Try.prog (w.iter (bs u) k) = .ok (.tuple #[.bool true, .int .i64 k, .int .i32 (((lt u k).toNat : Nat) : Int)]) (w.iter (bs u) (k + 1)) := fun ty => by
          rw [run_next_any w (bs u) k ty hp, hst]
        have hc2 := okC_iff.1 hc
        have hl1 : ¬ ((((lt u k).toNat : Nat) : Int) < 97) := by rcases hc2 with h | h | h <;> rw [h] <;> decide
        have hl2 : ¬ ((99 : Int) < (((lt u k).toNat : Nat) : Int)) := by rcases hc2 with h | h | h <;> rw [h] <;> decide
        clear hst hc2
        go_wp2
        go_roundg (u.length - (k + 1))
        case measure => go_light; have := hg.out; omega
        case rel => go_light; exact ⟨k + 1, by omega, rfl, fun j hj => by
          by_cases e : j = k
          · subst e; exact hc
          · exact hH.out j (by omega), rfl⟩
    · obtain rfl : u.length = k := by omega
      have HE := hide (show okW u = true from by rw [okW_len hH.out, Bool.and_eq_true, decide_eq_true_iff, decide_eq_true_iff]; omega)
      have hnx : ∀ ty, (Instr.next (.pointer (some ⟨w.heap.size, 0, none⟩)) true ty).run Try.prog (w.iter (bs u) u.length) = _ := fun ty => run_next_end w (bs u) u.length ty (by omega)
      go_wp2
      go_ret
      rw [HE.out]
      exact ⟨rfl, (Below.refl _ w).alloc (Nat.le_refl _) _⟩

theorem num_any (c : UInt8) (w : World) (h : okC c = true) :
    Calls Try.prog 101 #[.int .i32 ((c.toNat : Nat) : Int)] w fun e w' => e = .returned (.int .i64 ((c.toNat - 97 : Nat) : Int)) ∧ w = w' := by
  rcases okC_iff.1 h with rfl | rfl | rfl
  all_goals
    go_enter Try.func101, Try.ntmps101
    go_wp2
    go_ret
    exact ⟨rfl, rfl⟩

theorem results_of_cell3 {fn : Func} {p : Tmp} {ty : TypeId} (h : fn.results = #[.cell p ty]) (tmps : Array Value) (P : Program) (w : World) :
    (results fn tmps).run P w = ((asAddr (tmps.getD p undef)).run P w).andThen fun a w₁ => (loadVar ty a).run P w₁ := by
  simp only [results, h]
  simp [Sem.run_bind, Result.andThen]
set_option maxHeartbeats 1000000 in
theorem res_places (tmps : Array Value) (g : Nat) (x y z : Int) (W : World) (c0 : W.cell? ⟨g, 0, none⟩ = some (.int .i64 x)) (c1 : W.cell? ⟨g, 1, none⟩ = some (.int .i64 y)) (c2 : W.cell? ⟨g, 2, none⟩ = some (.int .i64 z)) (h0 : tmps.getD 2 undef = .pointer (some ⟨g, 0, none⟩)) :
    (results Try.f119 tmps).run Try.prog W = .ok (.agg #[.int .i64 x, .int .i64 y, .int .i64 z]) W := by
  rw [results_of_cell3 rfl]
  simp [asAddr, Result.andThen, h0, go_sem, c0, c1, c2]

def pl3 (x y z : Int) (i : Nat) : Value := .int .i64 (if i = 0 then x else if i = 1 then y else z)
theorem pl3_0 (x y z : Int) : pl3 x y z 0 = .int .i64 x := rfl
theorem pl3_1 (x y z : Int) : pl3 x y z 1 = .int .i64 y := rfl
theorem pl3_2 (x y z : Int) : pl3 x y z 2 = .int .i64 z := rfl
end Go.Proofs.Ythllbekoidogpaa

namespace Go.Proofs.Ythllbekoidogpaa
open Go.RowKit Go.Lib
set_option linter.unusedVariables false
set_option linter.unusedSimpArgs false

theorem pl3_set0 {W : World} {g t : Nat} {x y z : Int} (h : W.rowIs g t 3 (pl3 x y z)) (v : Int) : (W.setCell ⟨g, 0, none⟩ (.int .i64 v)).rowIs g t 3 (pl3 v y z) :=
  World.rowIs.congr (World.rowIs.set h 0 (.int .i64 v)) fun i hi => by
    match i, hi with
    | 0, _ | 1, _ | 2, _ => rfl
theorem pl3_set1 {W : World} {g t : Nat} {x y z : Int} (h : W.rowIs g t 3 (pl3 x y z)) (v : Int) : (W.setCell ⟨g, 1, none⟩ (.int .i64 v)).rowIs g t 3 (pl3 x v z) :=
  World.rowIs.congr (World.rowIs.set h 1 (.int .i64 v)) fun i hi => by
    match i, hi with
    | 0, _ | 1, _ | 2, _ => rfl
theorem pl3_set2 {W : World} {g t : Nat} {x y z : Int} (h : W.rowIs g t 3 (pl3 x y z)) (v : Int) : (W.setCell ⟨g, 2, none⟩ (.int .i64 v)).rowIs g t 3 (pl3 x y v) :=
  World.rowIs.congr (World.rowIs.set h 2 (.int .i64 v)) fun i hi => by
    match i, hi with
    | 0, _ | 1, _ | 2, _ => rfl
theorem pl3_new (w : World) (t : TypeId) (x y z : Int) : (w.alloc (.cells #[.int .i64 x, .int .i64 y, .int .i64 z] t)).rowIs w.heap.size t 3 (pl3 x y z) :=
  World.rowIs_alloc w #[.int .i64 x, .int .i64 y, .int .i64 z] t _ fun i hi => by
    match i, hi with
    | 0, _ | 1, _ | 2, _ => rfl
theorem iter_kept {W : World} {g j : Nat} {s : ByteArray} {p : Nat} {i : Nat} {v : Value} (h : W.heap[g]? = some (.stringIter s p)) (hj : g ≠ j) : (W.setCell ⟨j, i, none⟩ v).heap[g]? = some (.stringIter s p) :=
  (Below.heap_setCell _ _ _ _ (by show g ≠ j; omega)).trans h

set_option maxRecDepth 20000 in
set_option maxHeartbeats 4000000 in
theorem places_any (u : List UInt8) (w : World) (hw : okW u = true) :
    Calls Try.prog 119 #[.string (bs u)] w fun e w' => ∃ x y z : Int, (FP u u.length 97 x ∧ FP u u.length 98 y ∧ FP u u.length 99 z) ∧ e = .returned (.agg #[.int .i64 x, .int .i64 y, .int .i64 z]) ∧ Below w.heap.size w w' := by
  have hsz := size_bs u
  have hok := hide (okW_iff.1 hw)
  have hln : u.length ≤ 24 := hok.out.2.2
  clear hw
  go_enter Try.func119, Try.ntmps119
  go_wp2
  go_loopg [] u.length (fun g wr => ∃ (k : Nat) (x y z : Int), k ≤ u.length ∧ Hid (g = u.length - k) ∧ Hid (FP u k 97 x ∧ FP u k 98 y ∧ FP u k 99 z) ∧ wr.rowIs (w.heap.size + 1) 108 3 (pl3 x y z) ∧ wr.rowIs w.heap.size 108 3 (pl3 0 0 0) ∧ wr.heap[w.heap.size + 2]? = some (.stringIter (bs u) k) ∧ Below w.heap.size w wr)
  case atStart =>
    have r0 := pl3_new w 108 0 0 0
    have b0 := (Below.refl w.heap.size w).alloc (Nat.le_refl _) (.cells #[.int .i64 0, .int .i64 0, .int .i64 0] 108)
    have s0 : (w.alloc (.cells #[.int .i64 0, .int .i64 0, .int .i64 0] 108)).heap.size = w.heap.size + 1 := by simp
    generalize w.alloc (.cells #[.int .i64 0, .int .i64 0, .int .i64 0] 108) = w0 at r0 b0 s0 ⊢
    have r1 := pl3_new w0 108 (-1) (-1) (-1)
    have b1 := b0.alloc (by omega) (.cells #[.int .i64 (-1), .int .i64 (-1), .int .i64 (-1)] 108)
    have r0' := World.rowIs.alloc r0 (.cells #[.int .i64 (-1), .int .i64 (-1), .int .i64 (-1)] 108)
    have s1 : (w0.alloc (.cells #[.int .i64 (-1), .int .i64 (-1), .int .i64 (-1)] 108)).heap.size = w.heap.size + 2 := by simp; omega
    rw [s0] at r1
    generalize w0.alloc (.cells #[.int .i64 (-1), .int .i64 (-1), .int .i64 (-1)] 108) = w1 at r0' r1 b1 s1 ⊢
    refine ⟨0, -1, -1, -1, Nat.zero_le _, rfl, ⟨FP.zero, FP.zero, FP.zero⟩, World.rowIs.alloc r1 _, World.rowIs.alloc r0' _, ?_, b1.alloc (by omega) _⟩
    rw [← s1]
    exact World.iter_heap _ _ _
  case round =>
    obtain ⟨k, x, y, z, hk, hg, hF, hR, hZ, hI, hB⟩ := hrel
    by_cases hlt : k < u.length
    · have hp : k < (bs u).size := by omega
      have hc1 := hok.out.1 _ (lt_mem hlt)
      have hst := step_one hlt hc1
      have hnx : ∀ ty, (Instr.next (.pointer (some ⟨w.heap.size + 2, 0, none⟩)) true ty).run Try.prog wr = .ok (.tuple #[.bool true, .int .i64 k, .int .i32 (((lt u k).toNat : Nat) : Int)]) (wr.iterAt (w.heap.size + 2) (bs u) (k + 1)) := fun ty => by
        rw [Lib.run_next_any_at wr (w.heap.size + 2) (bs u) k ty hI hp, hst]
      have hI1 := Lib.iterAt_heap wr (w.heap.size + 2) (bs u) k (k + 1) hI
      have hR1 := World.rowIs.of_block hR (Lib.iterAt_other wr (w.heap.size + 2) (w.heap.size + 1) (bs u) (k + 1) (by omega))
      have hZ1 := World.rowIs.of_block hZ (Lib.iterAt_other wr (w.heap.size + 2) w.heap.size (bs u) (k + 1) (by omega))
      have hB1 := Lib.below_iterAt hB (show w.heap.size ≤ w.heap.size + 2 by omega) (bs u) (k + 1)
      generalize wr.iterAt (w.heap.size + 2) (bs u) (k + 1) = W at hnx hI1 hR1 hZ1 hB1
      clear hst hR hZ hI hB
      obtain ⟨c, hc⟩ : ∃ c, c = lt u k := ⟨_, rfl⟩
      have HL := hide hlt
      have HC := hide hc
      rw [← hc] at hnx hc1
      clear hc
      rcases okC_iff.1 hc1 with rfl | rfl | rfl
      · have hc0 : W.cell? ⟨w.heap.size + 1, 0, none⟩ = some (.int .i64 x) := World.rowIs.cell hR1 (i := 0) (by omega)
        have hf0 : W.frozen? ⟨w.heap.size + 1, 0, none⟩ = false := World.rowIs.frozen hR1 0
        by_cases he : x = -1
        · have HFP := hide (show FP u (k + 1) 97 k ∧ FP u (k + 1) 98 y ∧ FP u (k + 1) 99 z from ⟨(he ▸ hF.out.1).fresh HC.out.symm, hF.out.2.1.old HL.out (.inl (by rw [← HC.out]; decide)), hF.out.2.2.old HL.out (.inl (by rw [← HC.out]; decide))⟩)
          have Y1 := hide (pl3_set0 hR1 (k : Int))
          have Y2 := hide (World.rowIs.setOther hZ1 (a := ⟨w.heap.size + 1, 0, none⟩) (by show w.heap.size ≠ w.heap.size + 1; omega) (.int .i64 (k : Int)))
          have Y3 := hide (iter_kept (j := w.heap.size + 1) (i := 0) (v := .int .i64 (k : Int)) hI1 (by omega))
          have Y4 := hide (hB1.setCell (p := ⟨w.heap.size + 1, 0, none⟩) (by show w.heap.size ≤ w.heap.size + 1; omega) (.int .i64 (k : Int)))
          subst he
          clear hR1 hZ1 hI1 hB1
          go_wp2_with fail
          refine (num_any 97 W (by decide)).mono ?_
          rintro e w1 ⟨rfl, rfl⟩
          go_wp2
          go_roundg (u.length - (k + 1))
          case measure => go_light; have := hg.out; omega
          case rel => go_light; exact ⟨k + 1, (k : Int), y, z, HL.out, rfl, HFP.out, Y1.out, Y2.out, Y3.out, Y4.out⟩
        · have HFP := hide (show FP u (k + 1) 97 x ∧ FP u (k + 1) 98 y ∧ FP u (k + 1) 99 z from ⟨hF.out.1.old HL.out (.inr he), hF.out.2.1.old HL.out (.inl (by rw [← HC.out]; decide)), hF.out.2.2.old HL.out (.inl (by rw [← HC.out]; decide))⟩)
          have hq : (x == (-1 : Int)) = false := beq_eq_false_iff_ne.2 he
          clear he
          go_wp2_with fail
          refine (num_any 97 W (by decide)).mono ?_
          rintro e w1 ⟨rfl, rfl⟩
          go_wp2
          go_roundg (u.length - (k + 1))
          case measure => go_light; have := hg.out; omega
          case rel => go_light; exact ⟨k + 1, x, y, z, HL.out, rfl, HFP.out, hR1, hZ1, hI1, hB1⟩
      · have hc0 : W.cell? ⟨w.heap.size + 1, 1, none⟩ = some (.int .i64 y) := World.rowIs.cell hR1 (i := 1) (by omega)
        have hf0 : W.frozen? ⟨w.heap.size + 1, 1, none⟩ = false := World.rowIs.frozen hR1 1
        by_cases he : y = -1
        · have HFP := hide (show FP u (k + 1) 97 x ∧ FP u (k + 1) 98 k ∧ FP u (k + 1) 99 z from ⟨hF.out.1.old HL.out (.inl (by rw [← HC.out]; decide)), (he ▸ hF.out.2.1).fresh HC.out.symm, hF.out.2.2.old HL.out (.inl (by rw [← HC.out]; decide))⟩)
          have Y1 := hide (pl3_set1 hR1 (k : Int))
          have Y2 := hide (World.rowIs.setOther hZ1 (a := ⟨w.heap.size + 1, 1, none⟩) (by show w.heap.size ≠ w.heap.size + 1; omega) (.int .i64 (k : Int)))
          have Y3 := hide (iter_kept (j := w.heap.size + 1) (i := 1) (v := .int .i64 (k : Int)) hI1 (by omega))
          have Y4 := hide (hB1.setCell (p := ⟨w.heap.size + 1, 1, none⟩) (by show w.heap.size ≤ w.heap.size + 1; omega) (.int .i64 (k : Int)))
          subst he
          clear hR1 hZ1 hI1 hB1
          go_wp2_with fail
          refine (num_any 98 W (by decide)).mono ?_
          rintro e w1 ⟨rfl, rfl⟩
          go_wp2
          go_roundg (u.length - (k + 1))
          case measure => go_light; have := hg.out; omega
          case rel => go_light; exact ⟨k + 1, x, (k : Int), z, HL.out, rfl, HFP.out, Y1.out, Y2.out, Y3.out, Y4.out⟩
        · have HFP := hide (show FP u (k + 1) 97 x ∧ FP u (k + 1) 98 y ∧ FP u (k + 1) 99 z from ⟨hF.out.1.old HL.out (.inl (by rw [← HC.out]; decide)), hF.out.2.1.old HL.out (.inr he), hF.out.2.2.old HL.out (.inl (by rw [← HC.out]; decide))⟩)
          have hq : (y == (-1 : Int)) = false := beq_eq_false_iff_ne.2 he
          clear he
          go_wp2_with fail
          refine (num_any 98 W (by decide)).mono ?_
          rintro e w1 ⟨rfl, rfl⟩
          go_wp2
          go_roundg (u.length - (k + 1))
          case measure => go_light; have := hg.out; omega
          case rel => go_light; exact ⟨k + 1, x, y, z, HL.out, rfl, HFP.out, hR1, hZ1, hI1, hB1⟩
      · have hc0 : W.cell? ⟨w.heap.size + 1, 2, none⟩ = some (.int .i64 z) := World.rowIs.cell hR1 (i := 2) (by omega)
        have hf0 : W.frozen? ⟨w.heap.size + 1, 2, none⟩ = false := World.rowIs.frozen hR1 2
        by_cases he : z = -1
        · have HFP := hide (show FP u (k + 1) 97 x ∧ FP u (k + 1) 98 y ∧ FP u (k + 1) 99 k from ⟨hF.out.1.old HL.out (.inl (by rw [← HC.out]; decide)), hF.out.2.1.old HL.out (.inl (by rw [← HC.out]; decide)), (he ▸ hF.out.2.2).fresh HC.out.symm⟩)
          have Y1 := hide (pl3_set2 hR1 (k : Int))
          have Y2 := hide (World.rowIs.setOther hZ1 (a := ⟨w.heap.size + 1, 2, none⟩) (by show w.heap.size ≠ w.heap.size + 1; omega) (.int .i64 (k : Int)))
          have Y3 := hide (iter_kept (j := w.heap.size + 1) (i := 2) (v := .int .i64 (k : Int)) hI1 (by omega))
          have Y4 := hide (hB1.setCell (p := ⟨w.heap.size + 1, 2, none⟩) (by show w.heap.size ≤ w.heap.size + 1; omega) (.int .i64 (k : Int)))
          subst he
          clear hR1 hZ1 hI1 hB1
          go_wp2_with fail
          refine (num_any 99 W (by decide)).mono ?_
          rintro e w1 ⟨rfl, rfl⟩
          go_wp2
          go_roundg (u.length - (k + 1))
          case measure => go_light; have := hg.out; omega
          case rel => go_light; exact ⟨k + 1, x, y, (k : Int), HL.out, rfl, HFP.out, Y1.out, Y2.out, Y3.out, Y4.out⟩
        · have HFP := hide (show FP u (k + 1) 97 x ∧ FP u (k + 1) 98 y ∧ FP u (k + 1) 99 z from ⟨hF.out.1.old HL.out (.inl (by rw [← HC.out]; decide)), hF.out.2.1.old HL.out (.inl (by rw [← HC.out]; decide)), hF.out.2.2.old HL.out (.inr he)⟩)
          have hq : (z == (-1 : Int)) = false := beq_eq_false_iff_ne.2 he
          clear he
          go_wp2_with fail
          refine (num_any 99 W (by decide)).mono ?_
          rintro e w1 ⟨rfl, rfl⟩
          go_wp2
          go_roundg (u.length - (k + 1))
          case measure => go_light; have := hg.out; omega
          case rel => go_light; exact ⟨k + 1, x, y, z, HL.out, rfl, HFP.out, hR1, hZ1, hI1, hB1⟩
    · obtain rfl : u.length = k := by omega
      have hnx : ∀ ty, (Instr.next (.pointer (some ⟨w.heap.size + 2, 0, none⟩)) true ty).run Try.prog wr = .ok (.tuple #[.bool false]) wr := fun ty => Lib.run_next_end_at wr (w.heap.size + 2) (bs u) u.length ty hI (by omega)
      have a0 : wr.cell? ⟨w.heap.size + 1, 0, none⟩ = some (.int .i64 x) := World.rowIs.cell hR (i := 0) (by omega)
      have a1 : wr.cell? ⟨w.heap.size + 1, 1, none⟩ = some (.int .i64 y) := World.rowIs.cell hR (i := 1) (by omega)
      have a2 : wr.cell? ⟨w.heap.size + 1, 2, none⟩ = some (.int .i64 z) := World.rowIs.cell hR (i := 2) (by omega)
      have z0 : wr.cell? ⟨w.heap.size, 0, none⟩ = some (.int .i64 0) := World.rowIs.cell hZ (i := 0) (by omega)
      have z1 : wr.cell? ⟨w.heap.size, 1, none⟩ = some (.int .i64 0) := World.rowIs.cell hZ (i := 1) (by omega)
      have z2 : wr.cell? ⟨w.heap.size, 2, none⟩ = some (.int .i64 0) := World.rowIs.cell hZ (i := 2) (by omega)
      have f0 : wr.frozen? ⟨w.heap.size, 0, none⟩ = false := World.rowIs.frozen hZ 0
      have f1 : wr.frozen? ⟨w.heap.size, 1, none⟩ = false := World.rowIs.frozen hZ 1
      have f2 : wr.frozen? ⟨w.heap.size, 2, none⟩ = false := World.rowIs.frozen hZ 2
      have hRR := pl3_set2 (pl3_set1 (pl3_set0 hZ x) y) z
      have d0 := World.rowIs.cell hRR (i := 0) (by omega)
      have d1 := World.rowIs.cell hRR (i := 1) (by omega)
      have d2 := World.rowIs.cell hRR (i := 2) (by omega)
      have hBB := ((hB.setCell (p := ⟨w.heap.size, 0, none⟩) (Nat.le_refl _) (.int .i64 x)).setCell (p := ⟨w.heap.size, 1, none⟩) (Nat.le_refl _) (.int .i64 y)).setCell (p := ⟨w.heap.size, 2, none⟩) (Nat.le_refl _) (.int .i64 z)
      have D := hide (And.intro d0 (And.intro d1 d2))
      clear hRR hR hZ hI hB d0 d1 d2
      go_wp2
      exact bodyPost_ret (res_places _ _ x y z _ D.out.1 D.out.2.1 D.out.2.2 rfl) rfl ⟨x, y, z, hF.out, rfl, hBB⟩
end Go.Proofs.Ythllbekoidogpaa
