/- FnExactTimesOf returns true for every two tables, small or not, and leaves its arguments as they were: no condition. -/
import Derived.Test.YthiiniahkfjgmaaFrame
import Derived.Test.YthiiniahkfjgmaaHelp
import Derived.Test.YthiiniahkfjgmaaEq
import Derived.Test.YthiiniahkfjgmaaTab
import Derived.Test.YthiiniahkfjgmaaTimes2
import Derived.Test.YthiiniahkfjgmaaMark
import Derived.Test.YthiiniahkfjgmaaHelp2
namespace Go.Proofs.Ythiiniahkfjgmaa
open Go.ChangeShapes Go.WideShapes Go.ChangeAt Go.RowKit Go.Deep
set_option linter.unusedVariables false

set_option maxHeartbeats 2000000 in
theorem exactTimesOf_walk (A0 : Option Addr) (c0 : Nat) (T0 : List (List Int)) (A1 : Option Addr) (c1 : Nat) (T1 : List (List Int)) (w : World) (h0 : Mat w 0 w.heap.size A0 T0) (hS0 : Sized T0) (h1 : Mat w 0 w.heap.size A1 T1) (hS1 : Sized T1) :
    Calls Try.prog 14 #[.slice A0 T0.length c0, .slice A1 T1.length c1] w fun e w' => e = .returned (.bool true) ∧ Below w.heap.size w w' := by
  by_cases hz : szT T0 1048576 < 0
  · go_enter Try.func14, Try.ntmps14
    go_wp2_with (go_at_call 40; refine (szIntSS_any _ _ _ _ _ _ h0 hS0).mono ?_; rintro e w' ⟨rfl, rfl⟩)
    go_ret
    exact ⟨rfl, Below.refl _ _⟩
  have hs0 := szT_small (by omega : 0 ≤ szT T0 1048576)
  have hz0 := szT_le T0 1048576 (by omega)
  by_cases hz2 : szT T1 (szT T0 1048576) < 0
  · go_enter Try.func14, Try.ntmps14
    go_wp2_with fail
    refine (szIntSS_any _ _ _ _ _ _ h0 hS0).mono ?_
    rintro e w' ⟨rfl, rfl⟩
    go_wp2_with fail
    refine (szIntSS_gen _ _ _ _ _ _ _ h1 hS1 (by omega) hz0).mono ?_
    rintro e w' ⟨rfl, rfl⟩
    go_wp2
    go_ret
    exact ⟨rfl, Below.refl _ _⟩
  · have hs1 := szT_smallg hz0 (by omega : 0 ≤ szT T1 (szT T0 1048576))
    have hr := small_timesT (T := T0) (U := T1)
    have r0 := off_le hr _ (Nat.le_refl _)
    have r1 := off_le hs0 _ (Nat.le_refl _)
    have r11 := off_le hs1 _ (Nat.le_refl _)
    have r2 := hr.len
    have r3 := hs0.len
    have r4 := hs1.len
    have B0 := Below.refl w.heap.size w
    go_enter Try.func14, Try.ntmps14
    go_wp2_with fail
    refine (szIntSS_any _ _ _ _ _ _ h0 hS0).mono ?_
    rintro e w_ ⟨rfl, rfl⟩
    go_wp2_with fail
    refine (szIntSS_gen _ _ _ _ _ _ _ h1 hS1 (by omega) hz0).mono ?_
    rintro e w_ ⟨rfl, rfl⟩
    go_wp2_with fail
    refine (toIntSS_any _ _ _ _ _ _ (h0.below B0 (Nat.le_refl _)) hs0 (by omega)).mono ?_
    rintro e w1 ⟨rfl, b1, o1⟩
    have z1 := b1.size
    have B1 : Below w.heap.size w w1 := B0.trans (b1.mono (by omega))
    go_wp2_with fail
    refine (toIntSS_any _ _ _ _ _ _ (h1.below B1 (Nat.le_refl _)) hs1 (by omega)).mono ?_
    rintro e w2 ⟨rfl, b2, p1⟩
    have z2 := b2.size
    have B2 : Below w.heap.size w w2 := B1.trans (b2.mono (by omega))
    replace o1 := o1.below b2 (by omega)
    go_wp2_with fail
    refine (sTimesOf_any _ _ _ _ _ _ _ _ _ _ _ o1.mat (by omega) hs0 p1.mat (by omega) hs1).mono ?_
    rintro e w3 ⟨A1, c1, rfl, b3, m1⟩
    have z3 := b3.size
    have B3 : Below w.heap.size w w3 := B2.trans (b3.mono (by omega))
    replace o1 := o1.below b3 (by omega)
    replace p1 := p1.below b3 (by omega)
    go_wp2_with fail
    refine (toIntSS_any _ _ _ _ _ _ (h0.below B3 (Nat.le_refl _)) hs0 (by omega)).mono ?_
    rintro e w4 ⟨rfl, b4, o2⟩
    have z4 := b4.size
    have B4 : Below w.heap.size w w4 := B3.trans (b4.mono (by omega))
    replace o1 := o1.below b4 (by omega)
    replace p1 := p1.below b4 (by omega)
    replace m1 := m1.below b4 (by omega)
    go_wp2_with fail
    refine (toIntSS_any _ _ _ _ _ _ (h1.below B4 (Nat.le_refl _)) hs1 (by omega)).mono ?_
    rintro e w5 ⟨rfl, b5, p2⟩
    have z5 := b5.size
    have B5 : Below w.heap.size w w5 := B4.trans (b5.mono (by omega))
    replace o1 := o1.below b5 (by omega)
    replace p1 := p1.below b5 (by omega)
    replace m1 := m1.below b5 (by omega)
    replace o2 := o2.below b5 (by omega)
    go_wp2_with fail
    refine (iTimesOf_any _ _ _ _ _ _ _ _ _ _ _ o2.mat (by omega) hs0 p2.mat (by omega) hs1).mono ?_
    rintro e w6 ⟨A2, c2, rfl, b6, g1⟩
    have z6 := b6.size
    have B6 : Below w.heap.size w w6 := B5.trans (b6.mono (by omega))
    replace o1 := o1.below b6 (by omega)
    replace p1 := p1.below b6 (by omega)
    replace m1 := m1.below b6 (by omega)
    replace o2 := o2.below b6 (by omega)
    replace p2 := p2.below b6 (by omega)
    cases hcb : canB T0 T1
    all_goals
      go_wp2_with fail
      refine (eqIntSS_same _ _ _ _ _ _ _ _ _ _ g1.mat m1 hr).mono ?_
      rintro e w7 ⟨rfl, q7⟩
      have b7 := q7.below w6.heap.size
      have z7 := b7.size
      have B7 : Below w.heap.size w w7 := B6.trans (b7.mono (by omega))
      replace m1 := m1.below b7 (by omega)
      replace o2 := o2.below b7 (by omega)
      replace p2 := p2.below b7 (by omega)
      replace g1 := g1.below b7 (by omega)
      go_wp2_with fail
      refine (toIntSS_any _ _ _ _ _ _ (h0.below B7 (Nat.le_refl _)) hs0 (by omega)).mono ?_
      rintro e w8 ⟨rfl, b8, o3⟩
      have z8 := b8.size
      have B8 : Below w.heap.size w w8 := B7.trans (b8.mono (by omega))
      replace m1 := m1.below b8 (by omega)
      replace o2 := o2.below b8 (by omega)
      replace p2 := p2.below b8 (by omega)
      replace g1 := g1.below b8 (by omega)
      go_wp2_with fail
      refine (eqIntSS_same _ _ _ _ _ _ _ _ _ _ o2.mat o3.mat hs0).mono ?_
      rintro e w9 ⟨rfl, q9⟩
      have b9 := q9.below w8.heap.size
      have z9 := b9.size
      have B9 : Below w.heap.size w w9 := B8.trans (b9.mono (by omega))
      replace m1 := m1.below b9 (by omega)
      replace o2 := o2.below b9 (by omega)
      replace p2 := p2.below b9 (by omega)
      replace g1 := g1.below b9 (by omega)
      replace o3 := o3.below b9 (by omega)
      go_wp2_with fail
      refine (toIntSS_any _ _ _ _ _ _ (h1.below B9 (Nat.le_refl _)) hs1 (by omega)).mono ?_
      rintro e w10 ⟨rfl, b10, p3⟩
      have z10 := b10.size
      have B10 : Below w.heap.size w w10 := B9.trans (b10.mono (by omega))
      replace m1 := m1.below b10 (by omega)
      replace o2 := o2.below b10 (by omega)
      replace p2 := p2.below b10 (by omega)
      replace g1 := g1.below b10 (by omega)
      replace o3 := o3.below b10 (by omega)
      go_wp2_with fail
      refine (eqIntSS_same _ _ _ _ _ _ _ _ _ _ p2.mat p3.mat hs1).mono ?_
      rintro e w11 ⟨rfl, q11⟩
      have b11 := q11.below w10.heap.size
      have z11 := b11.size
      have B11 : Below w.heap.size w w11 := B10.trans (b11.mono (by omega))
      replace m1 := m1.below b11 (by omega)
      replace o2 := o2.below b11 (by omega)
      replace p2 := p2.below b11 (by omega)
      replace g1 := g1.below b11 (by omega)
      replace o3 := o3.below b11 (by omega)
      replace p3 := p3.below b11 (by omega)
      go_wp2_with fail
      refine (markIntSS_any _ _ _ _ _ _ o2 (by omega) hs0 1 (by omega) (by omega)).mono ?_
      rintro e w12 ⟨rfl, b12, o2m⟩
      have z12 := b12.size
      have B12 : Below w.heap.size w w12 := B11.trans (b12.below (by omega) (by omega))
      replace m1 := m1.only b12 (by omega) (by omega)
      replace p2 := p2.only b12 (by omega) (by omega)
      replace g1 := g1.only b12 (by omega) (by omega)
      go_wp2_with fail
      refine (markIntSS_any _ _ _ _ _ _ p2 (by omega) hs1 _ (by omega) (by omega)).mono ?_
      rintro e w13 ⟨rfl, b13, p2m⟩
      have z13 := b13.size
      have B13 : Below w.heap.size w w13 := B12.trans (b13.below (by omega) (by omega))
      replace m1 := m1.only b13 (by omega) (by omega)
      replace g1 := g1.only b13 (by omega) (by omega)
      go_wp2_with fail
      refine (eqIntSS_same _ _ _ _ _ _ _ _ _ _ g1.mat m1 hr).mono ?_
      rintro e w14 ⟨rfl, q14⟩
      have b14 := q14.below w13.heap.size
      have z14 := b14.size
      have B14 : Below w.heap.size w w14 := B13.trans (b14.mono (by omega))
      replace m1 := m1.below b14 (by omega)
      replace g1 := g1.below b14 (by omega)
      go_wp2_with fail
      refine (markIntSS_any _ _ _ _ _ _ g1 (by omega) hr 1 (by omega) (by omega)).mono ?_
      rintro e w15 ⟨rfl, b15, g1m⟩
      have z15 := b15.size
      have B15 : Below w.heap.size w w15 := B14.trans (b15.below (by omega) (by omega))
      replace m1 := m1.only b15 (by omega) (by omega)
      go_wp2_with fail
      refine (heldIntSS_any _ _ _ _ _ _ _ g1m.mat hr (by omega) (by omega)).mono ?_
      rintro e w_ ⟨rfl, rfl⟩
      go_wp2_with fail
      refine (toIntSS_any _ _ _ _ _ _ (h0.below B15 (Nat.le_refl _)) hs0 (by omega)).mono ?_
      rintro e w16 ⟨rfl, b16, o4⟩
      have z16 := b16.size
      have B16 : Below w.heap.size w w16 := B15.trans (b16.mono (by omega))
      replace m1 := m1.below b16 (by omega)
      replace g1m := g1m.below b16 (by omega)
      go_wp2_with fail
      refine (toIntSS_any _ _ _ _ _ _ (h1.below B16 (Nat.le_refl _)) hs1 (by omega)).mono ?_
      rintro e w17 ⟨rfl, b17, p4⟩
      have z17 := b17.size
      have B17 : Below w.heap.size w w17 := B16.trans (b17.mono (by omega))
      replace m1 := m1.below b17 (by omega)
      replace g1m := g1m.below b17 (by omega)
      replace o4 := o4.below b17 (by omega)
      go_wp2_with fail
      refine (iTimesOf_any _ _ _ _ _ _ _ _ _ _ _ o4.mat (by omega) hs0 p4.mat (by omega) hs1).mono ?_
      rintro e w18 ⟨A3, c3, rfl, b18, g2⟩
      have z18 := b18.size
      have B18 : Below w.heap.size w w18 := B17.trans (b18.mono (by omega))
      replace m1 := m1.below b18 (by omega)
      replace g1m := g1m.below b18 (by omega)
      replace o4 := o4.below b18 (by omega)
      replace p4 := p4.below b18 (by omega)
      go_wp2_with fail
      refine (eqIntSS_same _ _ _ _ _ _ _ _ _ _ g2.mat m1 hr).mono ?_
      rintro e w19 ⟨rfl, q19⟩
      have b19 := q19.below w18.heap.size
      have z19 := b19.size
      have B19 : Below w.heap.size w w19 := B18.trans (b19.mono (by omega))
      replace m1 := m1.below b19 (by omega)
      replace g1m := g1m.below b19 (by omega)
      replace o4 := o4.below b19 (by omega)
      replace p4 := p4.below b19 (by omega)
      replace g2 := g2.below b19 (by omega)
      go_wp2_with fail
      refine (heldIntSS_any _ _ _ _ _ _ _ g1m.mat hr (by omega) (by omega)).mono ?_
      rintro e w_ ⟨rfl, rfl⟩
      go_wp2
      go_ret
      exact ⟨rfl, B19⟩

set_option maxRecDepth 100000 in
theorem lifted_FnExactTimesOf (os : Os) (started : os.Started) (H : Type) (enc : TypeId × Value → H) :
    ReturnsInHanded {} Try.checked os 14 .any (Rows.fnExactTimesOfSpec.pre6 enc Try.prog Try.f14 Rows.fnExactTimesOfRow.domain false) (Rows.fnExactTimesOfSpec.post enc Try.prog Try.f14 false true false false) := by
  refine returnsInHanded_of_change (C := Try.checked) own started (by kernel_rfl) Try.func14
    (ChangeSpec.witness6 (enc := enc) (C := Try.checked) false ⟨#[], #[.slice none 0 0, .slice none 0 0], []⟩ 8 (by kernel_rfl) (by kernel_rfl) (by kernel_rfl) (by kernel_rfl)) ?_
  intro W base args ds gs before hval0 hW hcnd _
  have hval : ∀ (j : Nat) t v, Try.f14.params[j]? = some t → args[j]? = some v → Value.okWide Try.prog W .any base t v := hval0
  have hW' := hW
  obtain ⟨p, q, hA0, hV, rfl, hfz, hnd⟩ := hW
  have hA : DataW.TrodAll enc Try.prog W 0 (fun _ => true) true Try.f14.params.toList args.toList ds p := hA0
  rw [Try.params14] at hA hval
  obtain ⟨v0, vs0, d0, ds0, p0, q0, hargs, rfl, rfl, h0, r0⟩ := trodAll_cons hA
  obtain ⟨v1, vs1, d1, ds1, p1, q1, rfl, rfl, rfl, h1, r1⟩ := trodAll_cons r0
  obtain ⟨rfl, rfl, rfl⟩ := trodAll_nil r1
  obtain rfl : args = #[v0, v1] := by cases args; simp_all
  obtain ⟨rfl, rfl⟩ := trodVars_none hV
  obtain ⟨a0, len0, cap0, rfl⟩ := okWide_slice Try.underlying23 (hval 0 23 v0 rfl rfl)
  have k0 := h0
  have lt0 : ∀ x ∈ p0, x.block < W.heap.size := by obtain ⟨m, hm⟩ := k0; exact DataW.trod_lt m _ _ _ hm
  obtain ⟨fuel0, hf0⟩ := h0
  obtain ⟨T0, hl0, hS0, hT0⟩ := open_tab hf0
  subst hl0
  obtain ⟨a1, len1, cap1, rfl⟩ := okWide_slice Try.underlying23 (hval 1 23 v1 rfl rfl)
  have k1 := h1
  have lt1 : ∀ x ∈ p1, x.block < W.heap.size := by obtain ⟨m, hm⟩ := k1; exact DataW.trod_lt m _ _ _ hm
  obtain ⟨fuel1, hf1⟩ := h1
  obtain ⟨T1, hl1, hS1, hT1⟩ := open_tab hf1
  subst hl1
  clear hA0 hval0
  refine (exactTimesOf_walk a0 cap0 T0 a1 cap1 T1 W hT0 hS0 hT1 hS1).mono fun e W' ⟨he, bel⟩ => ?_
  subst he
  exact ⟨_, rfl, _, _, _, [], _, [], hW', trodAll_mk1 (shut_bool Try.underlying4 _), (trodAll_cons_mk (Below.trod laidOut (by kernel_rfl) (of_decide_eq_true (by kernel_rfl)) k0 bel lt0) (trodAll_cons_mk (Below.trod laidOut (by kernel_rfl) (of_decide_eq_true (by kernel_rfl)) k1 bel lt1) trodAll_mk0)), rfl, bel.frame _, fun h => by cases h⟩

theorem fnExactTimesOf_holds : Rows.FnExactTimesOfSaid :=
  OpenClaim.holds_of_wide 14 Try.f14 rfl rfl rfl rfl rfl rfl rfl ⟨rfl, rfl, rfl, rfl, rfl⟩ rfl rfl rfl rfl rfl (by kernel_rfl) Try.func14 (by kernel_rfl)
    (of_decide_eq_true (by kernel_rfl)) (by unfold Func.isWrapper; first | (rw [if_pos (by decide +kernel)]; kernel_rfl) | (rw [if_neg (by decide +kernel)]; exact ⟨rfl, rfl⟩))
    (fun os started H enc _ => lifted_FnExactTimesOf os started H enc)

#print axioms fnExactTimesOf_holds
end Go.Proofs.Ythiiniahkfjgmaa
