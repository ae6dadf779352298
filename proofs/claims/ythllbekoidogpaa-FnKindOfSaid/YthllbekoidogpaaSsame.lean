/-  -/
import Derived.Test.YthllbekoidogpaaWordB
import Derived.Test.YthllbekoidogpaaSword
namespace Go.Proofs.Ythllbekoidogpaa
set_option linter.unusedVariables false
section
variable {u v : List UInt8}
def sameB (u v : List UInt8) : Bool := decide (made u = made v)
theorem sameB_iff : sameB u v = true ↔ Same u v := by unfold sameB; rw [decide_eq_true_iff, same_iff_made]
theorem sameB_nil (h : u = [] ∨ v = []) : sameB u v = decide (u = v) := by
  rw [Bool.eq_iff_iff, sameB_iff, decide_eq_true_iff]
  constructor
  · intro s
    rcases h with rfl | rfl
    · exact (s.nil_iff.1 rfl).symm
    · exact s.nil_iff.2 rfl
  · rintro rfl
    exact Same.refl _
theorem sameB_step (hu : u ≠ []) (hv : v ≠ []) : sameB u v = (decide ([hl u] = [hl v]) && (decide ([ll u] = [ll v]) && (sameB (hd u) (hd v) && sameB (tl u) (tl v)))) := by
  rw [Bool.eq_iff_iff, sameB_iff, same_iff hu hv]
  simp only [Bool.and_eq_true, decide_eq_true_iff, sameB_iff, List.cons.injEq, and_true]
theorem sameB_let (hu : okW u = true) (hv : okW v = true) (h : letN u ≠ letN v) : sameB u v = false := by
  cases e : sameB u v with
  | false => rfl
  | true => exact absurd (letN_mem hu hv (sameB_iff.1 e).mem) h
/-- Words, and the empty text. -/
def okE (u : List UInt8) : Prop := u = [] ∨ okW u = true
theorem okE_sub (h : okW u = true) (hs : ∀ c, c ∈ v → c ∈ u) (hl : v.length ≤ u.length) : okE v := by
  by_cases e : v = []
  · exact .inl e
  · exact .inr (okW_sub h hs hl e)
theorem okE_hd (h : okW u = true) : okE (hd u) := okE_sub h (fun c hc => (hdIs (okW_ne h)).mem.2 (.inl hc)) (Nat.le_of_lt (hd_lt (okW_ne h)))
theorem okE_tl (h : okW u = true) : okE (tl u) := okE_sub h (fun c hc => (tlIs (okW_ne h)).mem.2 (.inl hc)) (Nat.le_of_lt (tl_lt (okW_ne h)))
theorem okE_len (h : okE u) : u.length ≤ 24 := by
  rcases h with rfl | h
  · simp
  · exact (okW_iff.1 h).2.2
theorem made_sub (y : UInt8) (h : y ∈ made u) : y ∈ u := (made_mem y).1 h
theorem okW_made (h : okW u = true) : okW (made u) = true := by
  have h3 : ∀ y, y ∈ u → y = 97 ∨ y = 98 ∨ y = 99 := fun y hy => okC_iff.1 ((okW_iff.1 h).1 y hy)
  have hl := made_ten h3
  have hn : 1 ≤ (made u).length := List.length_pos_iff.2 (made_ne (okW_ne h))
  exact okW_iff.2 ⟨fun c hc => (okW_iff.1 h).1 c (made_sub c hc), hn, by omega⟩
theorem made_short (h : okW u = true) : (made u).length ≤ 10 := made_ten fun y hy => okC_iff.1 ((okW_iff.1 h).1 y hy)
/-- One letter, again and again: told by the set of letters. -/
theorem one_iff (h : okW u = true) : (ltr u = 1 ∨ ltr u = 2 ∨ ltr u = 4) ↔ ∀ y, y ∈ u → y = lt u 0 := by
  have h1 := (okW_iff.1 h).2.1
  have h0 : lt u 0 ∈ u := lt_mem h1
  have hc : ∀ y, y ∈ u → y = 97 ∨ y = 98 ∨ y = 99 := fun y hy => okC_iff.1 ((okW_iff.1 h).1 y hy)
  have hd : ∀ (p q r : Bool), ((if p then 1 else 0) ||| (if q then 2 else 0) ||| (if r then 4 else 0) : Nat) = 1 ∨ ((if p then 1 else 0) ||| (if q then 2 else 0) ||| (if r then 4 else 0) : Nat) = 2 ∨ ((if p then 1 else 0) ||| (if q then 2 else 0) ||| (if r then 4 else 0) : Nat) = 4 ↔ (p && !q && !r || !p && q && !r || !p && !q && r) = true := by decide
  have hk : ltr u = ((if decide (97 ∈ u) then 1 else 0) ||| (if decide (98 ∈ u) then 2 else 0) ||| (if decide (99 ∈ u) then 4 else 0) : Nat) := by
    unfold ltr
    simp only [decide_eq_true_eq]
  rw [hk, hd]
  simp only [Bool.or_eq_true, Bool.and_eq_true, Bool.not_eq_true', decide_eq_true_iff, decide_eq_false_iff_not]
  constructor
  · intro hh y hy
    have a := hc _ h0
    have b := hc y hy
    rcases hh with (⟨⟨p, q⟩, r⟩ | ⟨⟨p, q⟩, r⟩) | ⟨⟨p, q⟩, r⟩ <;> rcases a with a | a | a <;> rcases b with b | b | b <;> rw [a] at h0 <;> rw [b] at hy <;> first | (rw [a, b]; done) | exact absurd h0 ‹_› | exact absurd hy ‹_›
  · intro ha
    rcases hc _ h0 with a | a | a
    · exact .inl (.inl ⟨⟨a ▸ h0, fun hx => by have := ha _ hx; rw [a] at this; revert this; decide⟩, fun hx => by have := ha _ hx; rw [a] at this; revert this; decide⟩)
    · exact .inl (.inr ⟨⟨fun hx => by have := ha _ hx; rw [a] at this; revert this; decide, a ▸ h0⟩, fun hx => by have := ha _ hx; rw [a] at this; revert this; decide⟩)
    · exact .inr ⟨⟨fun hx => by have := ha _ hx; rw [a] at this; revert this; decide, fun hx => by have := ha _ hx; rw [a] at this; revert this; decide⟩, a ▸ h0⟩
def oneB (u : List UInt8) : Bool := decide (1 ≤ letN u) && decide (letN u ≤ 2) || letN u == 4
theorem oneB_made (h : okW u = true) (ho : oneB u = true) : made u = u.take 1 := by
  have h1 := (okW_iff.1 h).2.1
  have hr := ltr_range h
  have ha : ∀ y, y ∈ u → y = lt u 0 := (one_iff h).1 (by
    unfold oneB at ho
    rw [letN_ok h] at ho
    simp only [Bool.or_eq_true, Bool.and_eq_true, decide_eq_true_iff, beq_iff_eq] at ho
    omega)
  rw [made_one (okW_ne h) ha]
  cases u with
  | nil => simp at h1
  | cons a r => simp [lt]
theorem oneB_step (h : okW u = true) (ho : oneB u = false) : made u = made (hd u) ++ [hl u] ++ [ll u] ++ made (tl u) := by
  rw [made_step (okW_ne h) fun ha => ?_]
  · simp
  · have h0 : lt u 0 ∈ u := lt_mem (okW_iff.1 h).2.1
    have e : ltr u = 1 ∨ ltr u = 2 ∨ ltr u = 4 := (one_iff h).2 fun y hy => (ha y hy).trans (ha _ h0).symm
    unfold oneB at ho
    rw [letN_ok h] at ho
    have : (decide (1 ≤ ((ltr u : Nat) : Int)) && decide (((ltr u : Nat) : Int) ≤ 2) || ((ltr u : Nat) : Int) == 4) = true := by
      simp only [Bool.or_eq_true, Bool.and_eq_true, decide_eq_true_iff, beq_iff_eq]
      omega
    rw [this] at ho
    cases ho
def mdW (u : List UInt8) : List UInt8 := if okW u = true then made u else []
theorem mdW_not (h : okW u = false) : mdW u = [] := by unfold mdW; rw [if_neg (by rw [h]; exact Bool.false_ne_true)]
theorem mdW_ok (h : okW u = true) : mdW u = made u := by unfold mdW; rw [if_pos h]
def canJ (u v : List UInt8) : Bool := okW u && (okW v && (decide (u.length ≤ 12) && decide (v.length ≤ 12)))
def joinW (u v : List UInt8) : List UInt8 := if canJ u v = true then made (u ++ v) else []
theorem joinW_not (h : canJ u v = false) : joinW u v = [] := by unfold joinW; rw [if_neg (by rw [h]; exact Bool.false_ne_true)]
theorem joinW_ok (h : canJ u v = true) : joinW u v = made (u ++ v) := by unfold joinW; rw [if_pos h]
theorem canJ_iff : canJ u v = true ↔ okW u = true ∧ okW v = true ∧ u.length ≤ 12 ∧ v.length ≤ 12 := by
  unfold canJ
  simp only [Bool.and_eq_true, decide_eq_true_iff]
theorem canJ_app (h : canJ u v = true) : okW (u ++ v) = true := by
  obtain ⟨h1, h2, h3, h4⟩ := canJ_iff.1 h
  exact okW_app h1 h2 (by omega)
end
end Go.Proofs.Ythllbekoidogpaa

namespace Go.Proofs.Ythllbekoidogpaa
open Go.RowKit
set_option linter.unusedVariables false


theorem eq_one (x y : UInt8) : ((bs [x]).toList == (bs [y]).toList) = decide ([x] = [y]) := eq_bs _ _
set_option maxRecDepth 20000 in
set_option maxHeartbeats 4000000 in
theorem sl7Same_any : ∀ (N : Nat) (u v : List UInt8) (w : World), u.length ≤ N → okE u → okE v →
    Calls Try.prog 88 #[.string (bs u), .string (bs v)] w fun e w' => e = .returned (.bool (sameB u v)) ∧ QD w w' := by
  intro N
  refine Nat.strongRecOn N fun N ihN => ?_
  intro u v w hN hu hv
  have Q0 := QD.refl w
  by_cases hu0 : u = []
  · subst hu0
    have HE := hide (sameB_nil (u := []) (v := v) (.inl rfl))
    have hb0 := toList_bs []
    have hd : decide (([] : List UInt8) = v) = decide (v = []) := by rw [decide_eq_decide]; exact ⟨Eq.symm, Eq.symm⟩
    go_enter Try.func88, Try.ntmps88
    go_wp2
    go_ret
    exact ⟨ret_bool (by rw [HE.out, toList_bs]; cases v <;> simp), Q0⟩
  by_cases hv0 : v = []
  · subst hv0
    have HE := hide (sameB_nil (u := u) (v := []) (.inr rfl))
    have hb0 := toList_bs []
    have hx : ((bs u).toList == (bs []).toList) = decide (u = []) := eq_bs u []
    have hx1 : ((bs u).toList == []) = false := by rw [toList_bs]; simpa using hu0
    have hx2 : (bs u).toList.isEmpty = false := by rw [toList_bs]; simpa using hu0
    have hx3 : ¬ (bs u).toList = [] := by rw [toList_bs]; exact hu0
    have HD := hide (decide_eq_false hu0)
    go_enter Try.func88, Try.ntmps88
    go_wp2
    go_ret
    exact ⟨ret_bool (by rw [HE.out, HD.out]), Q0⟩
  · have ku : okW u = true := hu.resolve_left hu0
    have kv : okW v = true := hv.resolve_left hv0
    have hnu : u.length ≤ 1048576 := by have := okE_len hu; omega
    have hnv : v.length ≤ 1048576 := by have := okE_len hv; omega
    have hx1 : ((bs u).toList == []) = false := by rw [toList_bs]; simpa using hu0
    have hx2 : (bs u).toList.isEmpty = false := by rw [toList_bs]; simpa using hu0
    have hx3 : ¬ (bs u).toList = [] := by rw [toList_bs]; exact hu0
    have hy1 : ((bs v).toList == []) = false := by rw [toList_bs]; simpa using hv0
    have hy2 : (bs v).toList.isEmpty = false := by rw [toList_bs]; simpa using hv0
    have hy3 : ¬ (bs v).toList = [] := by rw [toList_bs]; exact hv0
    by_cases hne : letN u = letN v
    · have HS := hide (sameB_step hu0 hv0)
      have HU := hide (show hdW u = hd u ∧ hlW u = [hl u] ∧ llW u = [ll u] ∧ tlW u = tl u from ⟨hdW_ok ku, hlW_ok ku, llW_ok ku, tlW_ok ku⟩)
      have HV := hide (show hdW v = hd v ∧ hlW v = [hl v] ∧ llW v = [ll v] ∧ tlW v = tl v from ⟨hdW_ok kv, hlW_ok kv, llW_ok kv, tlW_ok kv⟩)
      have ih1 := fun w => ihN (N - 1) (by have := hd_lt hu0; omega) (hd u) (hd v) w (by have := hd_lt hu0; omega) (okE_hd ku) (okE_hd kv)
      have ih2 := fun w => ihN (N - 1) (by have := tl_lt hu0; omega) (tl u) (tl v) w (by have := tl_lt hu0; omega) (okE_tl ku) (okE_tl kv)
      have hl1 := eq_one (hl u) (hl v)
      have hl2 := eq_one (ll u) (ll v)
      have IH := hide (And.intro ih1 ih2)
      obtain ⟨a, ha⟩ : ∃ a, a = hd u := ⟨_, rfl⟩
      obtain ⟨b, hb⟩ : ∃ b, b = hd v := ⟨_, rfl⟩
      obtain ⟨c, hc⟩ : ∃ c, c = tl u := ⟨_, rfl⟩
      obtain ⟨d, hd'⟩ : ∃ d, d = tl v := ⟨_, rfl⟩
      obtain ⟨x, hx⟩ : ∃ x, x = hl u := ⟨_, rfl⟩
      obtain ⟨y, hy⟩ : ∃ y, y = hl v := ⟨_, rfl⟩
      obtain ⟨p, hp⟩ : ∃ p, p = ll u := ⟨_, rfl⟩
      obtain ⟨q, hq⟩ : ∃ q, q = ll v := ⟨_, rfl⟩
      rw [← ha, ← hb, ← hc, ← hd'] at IH
      rw [← ha, ← hc, ← hx, ← hp] at HU
      rw [← hb, ← hd', ← hy, ← hq] at HV
      rw [← ha, ← hb, ← hc, ← hd', ← hx, ← hy, ← hp, ← hq] at HS
      rw [← hx, ← hy] at hl1
      rw [← hp, ← hq] at hl2
      clear ha hb hc hd' hx hy hp hq ih1 ih2
      obtain ⟨n1, hn1⟩ : ∃ n1, n1 = letN u := ⟨_, rfl⟩
      have HN := hide (show letN u = n1 ∧ letN v = n1 from ⟨hn1.symm, by rw [hn1, hne]⟩)
      clear hne hn1
      cases e1 : decide ([x] = [y])
      · rw [e1] at hl1
        go_enter Try.func88, Try.ntmps88
        go_wp2_with fail
        refine (sLettersIn_any u _ hnu).mono ?_
        rw [HN.out.1]
        rintro e w_ ⟨rfl, rfl⟩
        go_wp2_with fail
        refine (sLettersIn_any v _ hnv).mono ?_
        rw [HN.out.2]
        rintro e w_ ⟨rfl, rfl⟩
        go_wp2_with fail
        refine (sHeadOf_any u _ hnu).mono ?_
        rw [HU.out.1, HU.out.2.1]
        rintro e w1 ⟨rfl, q1⟩
        have Q1 := Q0.trans q1
        go_wp2_with fail
        refine (sHeadOf_any v _ hnv).mono ?_
        rw [HV.out.1, HV.out.2.1]
        rintro e w2 ⟨rfl, q2⟩
        have Q2 := Q1.trans q2
        go_wp2_with fail
        refine (sTailOf_any u _ hnu).mono ?_
        rw [HU.out.2.2.1, HU.out.2.2.2]
        rintro e w3 ⟨rfl, q3⟩
        have Q3 := Q2.trans q3
        go_wp2_with fail
        refine (sTailOf_any v _ hnv).mono ?_
        rw [HV.out.2.2.1, HV.out.2.2.2]
        rintro e w4 ⟨rfl, q4⟩
        have Q4 := Q3.trans q4
        go_wp2
        go_ret
        exact ⟨ret_bool (by rw [HS.out, e1]; simp), Q4⟩
      · rw [e1] at hl1
        cases e2 : decide ([p] = [q])
        · rw [e2] at hl2
          go_enter Try.func88, Try.ntmps88
          go_wp2_with fail
          refine (sLettersIn_any u _ hnu).mono ?_
          rw [HN.out.1]
          rintro e w_ ⟨rfl, rfl⟩
          go_wp2_with fail
          refine (sLettersIn_any v _ hnv).mono ?_
          rw [HN.out.2]
          rintro e w_ ⟨rfl, rfl⟩
          go_wp2_with fail
          refine (sHeadOf_any u _ hnu).mono ?_
          rw [HU.out.1, HU.out.2.1]
          rintro e w1 ⟨rfl, q1⟩
          have Q1 := Q0.trans q1
          go_wp2_with fail
          refine (sHeadOf_any v _ hnv).mono ?_
          rw [HV.out.1, HV.out.2.1]
          rintro e w2 ⟨rfl, q2⟩
          have Q2 := Q1.trans q2
          go_wp2_with fail
          refine (sTailOf_any u _ hnu).mono ?_
          rw [HU.out.2.2.1, HU.out.2.2.2]
          rintro e w3 ⟨rfl, q3⟩
          have Q3 := Q2.trans q3
          go_wp2_with fail
          refine (sTailOf_any v _ hnv).mono ?_
          rw [HV.out.2.2.1, HV.out.2.2.2]
          rintro e w4 ⟨rfl, q4⟩
          have Q4 := Q3.trans q4
          go_wp2
          go_ret
          exact ⟨ret_bool (by rw [HS.out, e1, e2]; simp), Q4⟩
        · rw [e2] at hl2
          cases e3 : sameB a b
          · go_enter Try.func88, Try.ntmps88
            go_wp2_with fail
            refine (sLettersIn_any u _ hnu).mono ?_
            rw [HN.out.1]
            rintro e w_ ⟨rfl, rfl⟩
            go_wp2_with fail
            refine (sLettersIn_any v _ hnv).mono ?_
            rw [HN.out.2]
            rintro e w_ ⟨rfl, rfl⟩
            go_wp2_with fail
            refine (sHeadOf_any u _ hnu).mono ?_
            rw [HU.out.1, HU.out.2.1]
            rintro e w1 ⟨rfl, q1⟩
            have Q1 := Q0.trans q1
            go_wp2_with fail
            refine (sHeadOf_any v _ hnv).mono ?_
            rw [HV.out.1, HV.out.2.1]
            rintro e w2 ⟨rfl, q2⟩
            have Q2 := Q1.trans q2
            go_wp2_with fail
            refine (sTailOf_any u _ hnu).mono ?_
            rw [HU.out.2.2.1, HU.out.2.2.2]
            rintro e w3 ⟨rfl, q3⟩
            have Q3 := Q2.trans q3
            go_wp2_with fail
            refine (sTailOf_any v _ hnv).mono ?_
            rw [HV.out.2.2.1, HV.out.2.2.2]
            rintro e w4 ⟨rfl, q4⟩
            have Q4 := Q3.trans q4
            go_wp2_with fail
            refine (IH.out.1 _).mono ?_
            rw [e3]
            rintro e w5 ⟨rfl, q5⟩
            have Q5 := Q4.trans q5
            go_wp2
            go_ret
            exact ⟨ret_bool (by rw [HS.out, e1, e2, e3]; simp), Q5⟩
          · go_enter Try.func88, Try.ntmps88
            go_wp2_with fail
            refine (sLettersIn_any u _ hnu).mono ?_
            rw [HN.out.1]
            rintro e w_ ⟨rfl, rfl⟩
            go_wp2_with fail
            refine (sLettersIn_any v _ hnv).mono ?_
            rw [HN.out.2]
            rintro e w_ ⟨rfl, rfl⟩
            go_wp2_with fail
            refine (sHeadOf_any u _ hnu).mono ?_
            rw [HU.out.1, HU.out.2.1]
            rintro e w1 ⟨rfl, q1⟩
            have Q1 := Q0.trans q1
            go_wp2_with fail
            refine (sHeadOf_any v _ hnv).mono ?_
            rw [HV.out.1, HV.out.2.1]
            rintro e w2 ⟨rfl, q2⟩
            have Q2 := Q1.trans q2
            go_wp2_with fail
            refine (sTailOf_any u _ hnu).mono ?_
            rw [HU.out.2.2.1, HU.out.2.2.2]
            rintro e w3 ⟨rfl, q3⟩
            have Q3 := Q2.trans q3
            go_wp2_with fail
            refine (sTailOf_any v _ hnv).mono ?_
            rw [HV.out.2.2.1, HV.out.2.2.2]
            rintro e w4 ⟨rfl, q4⟩
            have Q4 := Q3.trans q4
            go_wp2_with fail
            refine (IH.out.1 _).mono ?_
            rw [e3]
            rintro e w5 ⟨rfl, q5⟩
            have Q5 := Q4.trans q5
            go_wp2_with fail
            refine (IH.out.2 _).mono ?_
            rintro e w6 ⟨rfl, q6⟩
            have Q6 := Q5.trans q6
            go_wp2
            go_ret
            exact ⟨ret_bool (by rw [HS.out, e1, e2, e3]; simp), Q6⟩
    · have HS := hide (sameB_let ku kv hne)
      obtain ⟨n1, hn1⟩ : ∃ n1, n1 = letN u := ⟨_, rfl⟩
      obtain ⟨n2, hn2⟩ : ∃ n2, n2 = letN v := ⟨_, rfl⟩
      rw [← hn1, ← hn2] at hne
      have HN := hide (show letN u = n1 ∧ letN v = n2 from ⟨hn1.symm, hn2.symm⟩)
      have hnb : (n1 == n2) = false := beq_eq_false_iff_ne.2 hne
      clear hn1 hn2
      go_enter Try.func88, Try.ntmps88
      go_wp2_with fail
      refine (sLettersIn_any u _ hnu).mono ?_
      rw [HN.out.1]
      rintro e w_ ⟨rfl, rfl⟩
      go_wp2_with fail
      refine (sLettersIn_any v _ hnv).mono ?_
      rw [HN.out.2]
      rintro e w_ ⟨rfl, rfl⟩
      go_wp2
      go_ret
      exact ⟨ret_bool HS.out.symm, Q0⟩

set_option maxRecDepth 20000 in
set_option maxHeartbeats 4000000 in
theorem sl7Made_any : ∀ (N : Nat) (u : List UInt8) (w : World), u.length ≤ N → okE u →
    Calls Try.prog 74 #[.string (bs u)] w fun e w' => e = .returned (.string (bs (made u))) ∧ QD w w' := by
  intro N
  refine Nat.strongRecOn N fun N ihN => ?_
  intro u w hN hu
  have Q0 := QD.refl w
  by_cases hu0 : u = []
  · subst hu0
    have hb0 := toList_bs []
    go_enter Try.func74, Try.ntmps74
    go_wp2
    go_ret
    exact ⟨by rw [made_nil]; rfl, Q0⟩
  · have ku : okW u = true := hu.resolve_left hu0
    have hnu : u.length ≤ 1048576 := by have := okE_len hu; omega
    have hx1 : ((bs u).toList == []) = false := by rw [toList_bs]; simpa using hu0
    have hx2 : (bs u).toList.isEmpty = false := by rw [toList_bs]; simpa using hu0
    have hx3 : ¬ (bs u).toList = [] := by rw [toList_bs]; exact hu0
    have h1 := (okW_iff.1 ku).2.1
    obtain ⟨n1, hn1⟩ : ∃ n1, n1 = letN u := ⟨_, rfl⟩
    have HN := hide hn1.symm
    have hob : oneB u = (decide (1 ≤ n1) && decide (n1 ≤ 2) || n1 == 4) := by unfold oneB; rw [hn1]
    clear hn1
    cases ho : oneB u
    · have HM := hide (oneB_step ku ho)
      rw [ho] at hob
      have hob1 : (decide (1 ≤ n1) && decide (n1 ≤ 2)) = false := by cases e : (decide (1 ≤ n1) && decide (n1 ≤ 2)) with | false => rfl | true => rw [e] at hob; simp at hob
      have hob2 : (n1 == 4) = false := by cases e : (n1 == 4) with | false => rfl | true => rw [e] at hob; simp at hob
      have HU := hide (show hdW u = hd u ∧ hlW u = [hl u] ∧ llW u = [ll u] ∧ tlW u = tl u from ⟨hdW_ok ku, hlW_ok ku, llW_ok ku, tlW_ok ku⟩)
      have ih1 := fun w => ihN (N - 1) (by have := hd_lt hu0; omega) (hd u) w (by have := hd_lt hu0; omega) (okE_hd ku)
      have ih2 := fun w => ihN (N - 1) (by have := tl_lt hu0; omega) (tl u) w (by have := tl_lt hu0; omega) (okE_tl ku)
      have IH := hide (And.intro ih1 ih2)
      have s1 : (made (hd u)).length ≤ 10 := made_ten fun y hy => okC_iff.1 ((okW_iff.1 ku).1 y ((hdIs hu0).mem.2 (.inl hy)))
      have s2 : (made (tl u)).length ≤ 10 := made_ten fun y hy => okC_iff.1 ((okW_iff.1 ku).1 y ((tlIs hu0).mem.2 (.inl hy)))
      have a1 := fun w => add_bs (P := Try.prog) (made (hd u)) [hl u] (by simp; omega) w
      have a2 := fun w => add_bs (P := Try.prog) (made (hd u) ++ [hl u]) [ll u] (by simp; omega) w
      have a3 := fun w => add_bs (P := Try.prog) (made (hd u) ++ [hl u] ++ [ll u]) (made (tl u)) (by simp; omega) w
      obtain ⟨a, ha⟩ : ∃ a, a = hd u := ⟨_, rfl⟩
      obtain ⟨c, hc⟩ : ∃ c, c = tl u := ⟨_, rfl⟩
      obtain ⟨x, hx⟩ : ∃ x, x = hl u := ⟨_, rfl⟩
      obtain ⟨p, hp⟩ : ∃ p, p = ll u := ⟨_, rfl⟩
      rw [← ha, ← hc] at IH
      rw [← ha, ← hc, ← hx, ← hp] at HU HM
      rw [← ha, ← hx] at a1
      rw [← ha, ← hx, ← hp] at a2
      rw [← ha, ← hx, ← hp, ← hc] at a3
      obtain ⟨m1, hm1⟩ : ∃ m1, m1 = made a := ⟨_, rfl⟩
      obtain ⟨m2, hm2⟩ : ∃ m2, m2 = made c := ⟨_, rfl⟩
      rw [← hm1] at a1 a2
      rw [← hm1, ← hm2] at a3
      obtain ⟨v1, hv1⟩ : ∃ v1, v1 = m1 ++ [x] := ⟨_, rfl⟩
      rw [← hv1] at a1 a2 a3
      obtain ⟨v2, hv2⟩ : ∃ v2, v2 = v1 ++ [p] := ⟨_, rfl⟩
      rw [← hv2] at a2 a3
      obtain ⟨v3, hv3⟩ : ∃ v3, v3 = v2 ++ m2 := ⟨_, rfl⟩
      rw [← hv3] at a3
      have HR := hide (show made u = v3 from by rw [HM.out, hv3, hv2, hv1, hm1, hm2])
      have HM1 := hide hm1.symm
      have HM2 := hide hm2.symm
      clear ha hc hx hp ih1 ih2 hm1 hm2 hv1 hv2 hv3 s1 s2 HM hob
      go_enter Try.func74, Try.ntmps74
      go_wp2_with fail
      refine (sLettersIn_any u _ hnu).mono ?_
      rw [HN.out]
      rintro e w_ ⟨rfl, rfl⟩
      go_wp2_with fail
      refine (l1In_any n1 1 2 _).mono ?_
      rw [hob1]
      rintro e w_ ⟨rfl, rfl⟩
      go_wp2_with fail
      refine (sLettersIn_any u _ hnu).mono ?_
      rw [HN.out]
      rintro e w_ ⟨rfl, rfl⟩
      go_wp2_with fail
      refine (sHeadOf_any u _ hnu).mono ?_
      rw [HU.out.1, HU.out.2.1]
      rintro e w1 ⟨rfl, q1⟩
      have Q1 := Q0.trans q1
      go_wp2_with fail
      refine (sTailOf_any u _ hnu).mono ?_
      rw [HU.out.2.2.1, HU.out.2.2.2]
      rintro e w2 ⟨rfl, q2⟩
      have Q2 := Q1.trans q2
      go_wp2_with fail
      refine (IH.out.1 _).mono ?_
      rw [HM1.out]
      rintro e w3 ⟨rfl, q3⟩
      have Q3 := Q2.trans q3
      go_wp2_with fail
      refine (IH.out.2 _).mono ?_
      rw [HM2.out]
      rintro e w4 ⟨rfl, q4⟩
      have Q4 := Q3.trans q4
      go_wp2
      go_ret
      rw [HR.out]
      exact ⟨rfl, Q4⟩
    · have HM := hide (oneB_made ku ho)
      rw [ho] at hob
      have hsl := fun w => slice_to Try.underlying9 u 1 1 rfl h1 w
      obtain ⟨v, hv⟩ : ∃ v, v = u.take 1 := ⟨_, rfl⟩
      rw [← hv] at hsl HM
      clear hv
      cases hob1 : (decide (1 ≤ n1) && decide (n1 ≤ 2))
      · have hob2 : (n1 == 4) = true := by rw [hob1] at hob; simpa using hob.symm
        clear hob
        go_enter Try.func74, Try.ntmps74
        go_wp2_with fail
        refine (sLettersIn_any u _ hnu).mono ?_
        rw [HN.out]
        rintro e w_ ⟨rfl, rfl⟩
        go_wp2_with fail
        refine (l1In_any n1 1 2 _).mono ?_
        rw [hob1]
        rintro e w_ ⟨rfl, rfl⟩
        go_wp2_with fail
        refine (sLettersIn_any u _ hnu).mono ?_
        rw [HN.out]
        rintro e w_ ⟨rfl, rfl⟩
        go_wp2
        go_ret
        rw [HM.out]
        exact ⟨rfl, Q0⟩
      · clear hob
        go_enter Try.func74, Try.ntmps74
        go_wp2_with fail
        refine (sLettersIn_any u _ hnu).mono ?_
        rw [HN.out]
        rintro e w_ ⟨rfl, rfl⟩
        go_wp2_with fail
        refine (l1In_any n1 1 2 _).mono ?_
        rw [hob1]
        rintro e w_ ⟨rfl, rfl⟩
        go_wp2
        go_ret
        rw [HM.out]
        exact ⟨rfl, Q0⟩

set_option maxHeartbeats 1000000 in
theorem sSameWords_any (u v : List UInt8) (w : World) (hn : u.length ≤ 1048576) (hm : v.length ≤ 1048576) :
    Calls Try.prog 72 #[.string (bs u), .string (bs v)] w fun e w' => e = .returned (.bool (okW u && (okW v && sameB u v))) ∧ QD w w' := by
  cases hu : okW u
  · go_enter Try.func72, Try.ntmps72
    go_wp2_with fail
    refine (sWordOk_any u _ hn).mono ?_
    rw [hu]
    rintro e w_ ⟨rfl, rfl⟩
    go_wp2
    go_ret
    exact ⟨rfl, QD.refl _⟩
  · cases hv : okW v
    · go_enter Try.func72, Try.ntmps72
      go_wp2_with fail
      refine (sWordOk_any u _ hn).mono ?_
      rw [hu]
      rintro e w_ ⟨rfl, rfl⟩
      go_wp2_with fail
      refine (sWordOk_any v _ hm).mono ?_
      rw [hv]
      rintro e w_ ⟨rfl, rfl⟩
      go_wp2
      go_ret
      exact ⟨rfl, QD.refl _⟩
    · go_enter Try.func72, Try.ntmps72
      go_wp2_with fail
      refine (sWordOk_any u _ hn).mono ?_
      rw [hu]
      rintro e w_ ⟨rfl, rfl⟩
      go_wp2_with fail
      refine (sWordOk_any v _ hm).mono ?_
      rw [hv]
      rintro e w_ ⟨rfl, rfl⟩
      go_wp2_with fail
      refine (sl7Same_any u.length u v _ (Nat.le_refl _) (.inr hu) (.inr hv)).mono ?_
      rintro e w1 ⟨rfl, q1⟩
      go_wp2
      go_ret
      exact ⟨rfl, q1⟩
end Go.Proofs.Ythllbekoidogpaa
