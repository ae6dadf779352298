/- FnExactProductOf returns true for every table and every row, small or not, and leaves its arguments as they were: no condition. -/
import Derived.Test.YthiiniahkfjgmaaFrame
import Derived.Test.YthiiniahkfjgmaaHelp
import Derived.Test.YthiiniahkfjgmaaEq
import Derived.Test.YthiiniahkfjgmaaTab
import Derived.Test.YthiiniahkfjgmaaProd
namespace Go.Proofs.Ythiiniahkfjgmaa
open Go.ChangeShapes Go.WideShapes Go.ChangeAt Go.RowKit Go.Deep
set_option linter.unusedVariables false

set_option maxHeartbeats 2000000 in
theorem exactProductOf_walk (A0 : Option Addr) (c0 : Nat) (T0 : List (List Int)) (A1 : Option Addr) (c1 : Nat) (T1 : List Int) (w : World) (h0 : Mat w 0 w.heap.size A0 T0) (hS0 : Sized T0) (h1 : Row w 0 w.heap.size A1 T1) (hS1 : T1.length ≤ 9223372036854775807) :
    Calls Try.prog 12 #[.slice A0 T0.length c0, .slice A1 T1.length c1] w fun e w' => e = .returned (.bool true) ∧ Below w.heap.size w w' := by
  by_cases hlr : 1048576 < T1.length
  · go_enter Try.func12, Try.ntmps12
    go_wp2
    go_ret
    exact ⟨rfl, Below.refl _ _⟩
  have hs1 : T1.length ≤ 1048576 := by omega
  by_cases hz : szT T0 1048576 < 0
  · go_enter Try.func12, Try.ntmps12
    go_wp2_with (go_at_call 40; refine (szIntSS_any _ _ _ _ _ _ h0 hS0).mono ?_; rintro e w' ⟨rfl, rfl⟩)
    go_ret
    exact ⟨rfl, Below.refl _ _⟩
  · have hs0 := szT_small (by omega : 0 ≤ szT T0 1048576)
    have r3 := hs0.len
    have B0 := Below.refl w.heap.size w
    go_enter Try.func12, Try.ntmps12
    go_wp2_with fail
    refine (szIntSS_any _ _ _ _ _ _ h0 hS0).mono ?_
    rintro e w_ ⟨rfl, rfl⟩
    go_wp2_with fail
    refine (toIntSS_any _ _ _ _ _ _ (h0.below B0 (Nat.le_refl _)) hs0 (by omega)).mono ?_
    rintro e w1 ⟨rfl, b1, o1⟩
    have z1 := b1.size
    have B1 : Below w.heap.size w w1 := B0.trans (b1.mono (by omega))
    go_wp2_with fail
    refine (toIntS_any _ _ _ _ _ _ (h1.below B1 (Nat.le_refl _)) hs1 (by omega)).mono ?_
    rintro e w2 ⟨rfl, b2, z_, y1_⟩
    have y1 := y1_.row (lo := w1.heap.size) (hi := w2.heap.size) (Nat.le_refl _) (by omega)
    clear z_ y1_
    have z2 := b2.size
    have B2 : Below w.heap.size w w2 := B1.trans (b2.mono (by omega))
    replace o1 := o1.below b2 (by omega)
    go_wp2_with fail
    refine (sProductOf_any _ _ _ _ _ _ _ _ _ _ _ o1.mat hs0 y1 hs1).mono ?_
    rintro e w3 ⟨rfl, q3⟩
    have b3 := q3.below w2.heap.size
    have z3 := b3.size
    have B3 : Below w.heap.size w w3 := B2.trans (b3.mono (by omega))
    replace o1 := o1.below b3 (by omega)
    replace y1 := y1.below b3 (by omega)
    go_wp2_with fail
    refine (toIntSS_any _ _ _ _ _ _ (h0.below B3 (Nat.le_refl _)) hs0 (by omega)).mono ?_
    rintro e w4 ⟨rfl, b4, o2⟩
    have z4 := b4.size
    have B4 : Below w.heap.size w w4 := B3.trans (b4.mono (by omega))
    replace o1 := o1.below b4 (by omega)
    replace y1 := y1.below b4 (by omega)
    go_wp2_with fail
    refine (toIntS_any _ _ _ _ _ _ (h1.below B4 (Nat.le_refl _)) hs1 (by omega)).mono ?_
    rintro e w5 ⟨rfl, b5, z_, y2_⟩
    have y2 := y2_.row (lo := w4.heap.size) (hi := w5.heap.size) (Nat.le_refl _) (by omega)
    clear z_ y2_
    have z5 := b5.size
    have B5 : Below w.heap.size w w5 := B4.trans (b5.mono (by omega))
    replace o1 := o1.below b5 (by omega)
    replace y1 := y1.below b5 (by omega)
    replace o2 := o2.below b5 (by omega)
    go_wp2_with fail
    refine (iProductOf_any _ _ _ _ _ _ _ _ _ _ _ o2.mat (by omega) hs0 y2 (by omega) hs1 (Nat.le_refl _) (by omega)).mono ?_
    rintro e w6 ⟨rfl, b6⟩
    have z6 := b6.size
    have B6 : Below w.heap.size w w6 := B5.trans (b6.mono (by omega))
    replace o1 := o1.below b6 (by omega)
    replace y1 := y1.below b6 (by omega)
    replace o2 := o2.below b6 (by omega)
    replace y2 := y2.below b6 (by omega)
    go_wp2_with fail
    refine (toIntSS_any _ _ _ _ _ _ (h0.below B6 (Nat.le_refl _)) hs0 (by omega)).mono ?_
    rintro e w7 ⟨rfl, b7, o3⟩
    have z7 := b7.size
    have B7 : Below w.heap.size w w7 := B6.trans (b7.mono (by omega))
    replace o1 := o1.below b7 (by omega)
    replace y1 := y1.below b7 (by omega)
    replace o2 := o2.below b7 (by omega)
    replace y2 := y2.below b7 (by omega)
    go_wp2_with fail
    refine (eqIntSS_same _ _ _ _ _ _ _ _ _ _ o2.mat o3.mat hs0).mono ?_
    rintro e w8 ⟨rfl, q8⟩
    have b8 := q8.below w7.heap.size
    have z8 := b8.size
    have B8 : Below w.heap.size w w8 := B7.trans (b8.mono (by omega))
    replace o1 := o1.below b8 (by omega)
    replace y1 := y1.below b8 (by omega)
    replace o2 := o2.below b8 (by omega)
    replace y2 := y2.below b8 (by omega)
    replace o3 := o3.below b8 (by omega)
    go_wp2_with fail
    refine (toIntS_any _ _ _ _ _ _ (h1.below B8 (Nat.le_refl _)) hs1 (by omega)).mono ?_
    rintro e w9 ⟨rfl, b9, z_, y3_⟩
    have y3 := y3_.row (lo := w8.heap.size) (hi := w9.heap.size) (Nat.le_refl _) (by omega)
    clear z_ y3_
    have z9 := b9.size
    have B9 : Below w.heap.size w w9 := B8.trans (b9.mono (by omega))
    replace o1 := o1.below b9 (by omega)
    replace y1 := y1.below b9 (by omega)
    replace o2 := o2.below b9 (by omega)
    replace y2 := y2.below b9 (by omega)
    replace o3 := o3.below b9 (by omega)
    go_wp2_with fail
    refine (eqIntS_same _ _ _ _ _ _ _ _ _ _ y2 y3 hs1).mono ?_
    rintro e w10 ⟨rfl, q10⟩
    have b10 := q10.below w9.heap.size
    have z10 := b10.size
    have B10 : Below w.heap.size w w10 := B9.trans (b10.mono (by omega))
    replace o1 := o1.below b10 (by omega)
    replace y1 := y1.below b10 (by omega)
    replace o2 := o2.below b10 (by omega)
    replace y2 := y2.below b10 (by omega)
    replace o3 := o3.below b10 (by omega)
    replace y3 := y3.below b10 (by omega)
    go_wp2
    go_ret
    exact ⟨rfl, B10⟩

set_option maxRecDepth 100000 in
theorem lifted_FnExactProductOf (os : Os) (started : os.Started) (H : Type) (enc : TypeId × Value → H) :
    ReturnsInHanded {} Try.checked os 12 .any (Rows.fnExactProductOfSpec.pre6 enc Try.prog Try.f12 Rows.fnExactProductOfRow.domain false) (Rows.fnExactProductOfSpec.post enc Try.prog Try.f12 false true false false) := by
  refine returnsInHanded_of_change (C := Try.checked) own started (by kernel_rfl) Try.func12
    (ChangeSpec.witness6 (enc := enc) (C := Try.checked) false ⟨#[], #[.slice none 0 0, .slice none 0 0], []⟩ 8 (by kernel_rfl) (by kernel_rfl) (by kernel_rfl) (by kernel_rfl)) ?_
  intro W base args ds gs before hval0 hW hcnd _
  have hval : ∀ (j : Nat) t v, Try.f12.params[j]? = some t → args[j]? = some v → Value.okWide Try.prog W .any base t v := hval0
  have hW' := hW
  obtain ⟨p, q, hA0, hV, rfl, hfz, hnd⟩ := hW
  have hA : DataW.TrodAll enc Try.prog W 0 (fun _ => true) true Try.f12.params.toList args.toList ds p := hA0
  rw [Try.params12] at hA hval
  obtain ⟨v0, vs0, d0, ds0, p0, q0, hargs, rfl, rfl, h0, r0⟩ := trodAll_cons hA
  obtain ⟨v1, vs1, d1, ds1, p1, q1, rfl, rfl, rfl, h1, r1⟩ := trodAll_cons r0
  obtain ⟨rfl, rfl, rfl⟩ := trodAll_nil r1
  obtain rfl : args = #[v0, v1] := by cases args; simp_all
  obtain ⟨rfl, rfl⟩ := trodVars_none hV
  obtain ⟨a0, len0, cap0, rfl⟩ := okWide_slice Try.underlying23 (hval 0 23 v0 rfl rfl)
  have k0 := h0
  have lt0 : ∀ x ∈ p0, x.block < W.heap.size := by obtain ⟨m, hm⟩ := k0; exact DataW.trod_lt m _ _ _ hm
  obtain ⟨fuel0, hf0⟩ := h0
  obtain ⟨T0, hl0, hS0, hT0⟩ := open_tab hf0
  subst hl0
  obtain ⟨a1, len1, cap1, rfl⟩ := okWide_slice Try.underlying26 (hval 1 26 v1 rfl rfl)
  have k1 := h1
  have lt1 : ∀ x ∈ p1, x.block < W.heap.size := by obtain ⟨m, hm⟩ := k1; exact DataW.trod_lt m _ _ _ hm
  obtain ⟨fuel1, hf1⟩ := h1
  obtain ⟨T1, hl1, hS1, hT1⟩ := open_row hf1
  subst hl1
  clear hA0 hval0
  refine (exactProductOf_walk a0 cap0 T0 a1 cap1 T1 W hT0 hS0 hT1 (by omega)).mono fun e W' ⟨he, bel⟩ => ?_
  subst he
  exact ⟨_, rfl, _, _, _, [], _, [], hW', trodAll_mk1 (shut_bool Try.underlying4 _), (trodAll_cons_mk (Below.trod laidOut (by kernel_rfl) (of_decide_eq_true (by kernel_rfl)) k0 bel lt0) (trodAll_cons_mk (Below.trod laidOut (by kernel_rfl) (of_decide_eq_true (by kernel_rfl)) k1 bel lt1) trodAll_mk0)), rfl, bel.frame _, fun h => by cases h⟩

theorem fnExactProductOf_holds : Rows.FnExactProductOfSaid :=
  OpenClaim.holds_of_wide 12 Try.f12 rfl rfl rfl rfl rfl rfl rfl ⟨rfl, rfl, rfl, rfl, rfl⟩ rfl rfl rfl rfl rfl (by kernel_rfl) Try.func12 (by kernel_rfl)
    (of_decide_eq_true (by kernel_rfl)) (by unfold Func.isWrapper; first | (rw [if_pos (by decide +kernel)]; kernel_rfl) | (rw [if_neg (by decide +kernel)]; exact ⟨rfl, rfl⟩))
    (fun os started H enc _ => lifted_FnExactProductOf os started H enc)

#print axioms fnExactProductOf_holds
end Go.Proofs.Ythiiniahkfjgmaa
