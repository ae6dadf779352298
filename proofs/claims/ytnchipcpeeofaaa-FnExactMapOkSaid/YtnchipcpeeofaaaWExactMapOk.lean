/- The walk of FnExactMapOk. -/
import Derived.Test.YtnchipcpeeofaaaMQ02
import Derived.Test.YtnchipcpeeofaaaMQ08
import Derived.Test.YtnchipcpeeofaaaMQ17
namespace Go.Proofs.Ytnchipcpeeofaaa
open Go.RowKit
set_option linter.unusedVariables false

set_option maxHeartbeats 2000000 in
theorem fnExactMapOk_walk (A0 : Option Addr) (c0 : Nat) (T0 : List (List Int)) (A1 : Option Addr) (c1 : Nat) (T1 : List (List Int)) (A2 : Option Addr) (c2 : Nat) (T2 : List Int) (w : World) (h0 : Mat w 0 w.heap.size A0 T0) (hS0 : Sized T0) (h1 : Mat w 0 w.heap.size A1 T1) (hS1 : Sized T1) (h2 : Row w 0 w.heap.size A2 T2) (hS2 : T2.length ≤ 9223372036854775807) :
    Calls Try.prog 8 #[.slice A0 T0.length c0, .slice A1 T1.length c1, .slice A2 T2.length c2] w fun e w' => e = .returned (.bool true) ∧ Below w.heap.size w w' := by
  by_cases hlr : 1048576 < T2.length
  · go_enter Try.func8, Try.ntmps8
    go_wp2
    go_ret
    exact ⟨rfl, Below.refl _ _⟩
  have hs2 : T2.length ≤ 1048576 := by omega
  by_cases hz : szT T0 1048576 < 0
  · go_enter Try.func8, Try.ntmps8
    go_wp2_with (go_at_call 41; refine (szIntSS_any _ _ _ _ _ _ h0 hS0).mono ?_; rintro e w' ⟨rfl, rfl⟩)
    go_ret
    exact ⟨rfl, Below.refl _ _⟩
  have hs0 := szT_small (by omega : 0 ≤ szT T0 1048576)
  have hz0 := szT_le T0 1048576 (by omega)
  by_cases hz2 : szT T1 (szT T0 1048576) < 0
  · go_enter Try.func8, Try.ntmps8
    go_wp2_with fail
    refine (szIntSS_any _ _ _ _ _ _ h0 hS0).mono ?_
    rintro e w' ⟨rfl, rfl⟩
    go_wp2_with fail
    refine (szIntSS_gen _ _ _ _ _ _ _ h1 hS1 (by omega) hz0).mono ?_
    rintro e w' ⟨rfl, rfl⟩
    go_wp2
    go_ret
    exact ⟨rfl, Below.refl _ _⟩
  · have hs1 := szT_smallg hz0 (by omega : 0 ≤ szT T1 (szT T0 1048576))
    have r3 := hs0.len
    have r4 := hs1.len
    have B0 := Below.refl w.heap.size w
    go_enter Try.func8, Try.ntmps8
    go_wp2_with fail
    refine (szIntSS_any _ _ _ _ _ _ h0 hS0).mono ?_
    rintro e w_ ⟨rfl, rfl⟩
    go_wp2_with fail
    refine (szIntSS_gen _ _ _ _ _ _ _ h1 hS1 (by omega) hz0).mono ?_
    rintro e w_ ⟨rfl, rfl⟩
    go_wp2_with fail
    refine (toIntSS_any _ _ _ _ _ _ (h0.below B0 (Nat.le_refl _)) hs0 (by omega)).mono ?_
    rintro e w1 ⟨rfl, b1, o1⟩
    have z1 := b1.size
    have B1 : Below w.heap.size w w1 := B0.trans (b1.mono (by omega))
    go_wp2_with fail
    refine (toIntSS_any _ _ _ _ _ _ (h1.below B1 (Nat.le_refl _)) hs1 (by omega)).mono ?_
    rintro e w2 ⟨rfl, b2, p1⟩
    have z2 := b2.size
    have B2 : Below w.heap.size w w2 := B1.trans (b2.mono (by omega))
    replace o1 := o1.below b2 (by omega)
    go_wp2_with fail
    refine (toIntS_any _ _ _ _ _ _ (h2.below B2 (Nat.le_refl _)) hs2 (by omega)).mono ?_
    rintro e w3 ⟨rfl, b3, z_, y1_⟩
    have y1 := y1_.row (lo := w2.heap.size) (hi := w3.heap.size) (Nat.le_refl _) (by omega)
    clear z_ y1_
    have z3 := b3.size
    have B3 : Below w.heap.size w w3 := B2.trans (b3.mono (by omega))
    replace o1 := o1.below b3 (by omega)
    replace p1 := p1.below b3 (by omega)
    go_wp2_with fail
    refine (sMapOk_any _ _ _ _ T0 _ _ _ _ T1 _ _ _ _ T2 _ o1.mat hs0 p1.mat hs1 y1 hs2).mono ?_
    rintro e w_ ⟨rfl, rfl⟩
    go_wp2_with fail
    refine (toIntSS_any _ _ _ _ _ _ (h0.below B3 (Nat.le_refl _)) hs0 (by omega)).mono ?_
    rintro e w4 ⟨rfl, b4, o2⟩
    have z4 := b4.size
    have B4 : Below w.heap.size w w4 := B3.trans (b4.mono (by omega))
    replace o1 := o1.below b4 (by omega)
    replace p1 := p1.below b4 (by omega)
    replace y1 := y1.below b4 (by omega)
    go_wp2_with fail
    refine (toIntSS_any _ _ _ _ _ _ (h1.below B4 (Nat.le_refl _)) hs1 (by omega)).mono ?_
    rintro e w5 ⟨rfl, b5, p2⟩
    have z5 := b5.size
    have B5 : Below w.heap.size w w5 := B4.trans (b5.mono (by omega))
    replace o1 := o1.below b5 (by omega)
    replace p1 := p1.below b5 (by omega)
    replace y1 := y1.below b5 (by omega)
    replace o2 := o2.below b5 (by omega)
    go_wp2_with fail
    refine (toIntS_any _ _ _ _ _ _ (h2.below B5 (Nat.le_refl _)) hs2 (by omega)).mono ?_
    rintro e w6 ⟨rfl, b6, z_, y2_⟩
    have y2 := y2_.row (lo := w5.heap.size) (hi := w6.heap.size) (Nat.le_refl _) (by omega)
    clear z_ y2_
    have z6 := b6.size
    have B6 : Below w.heap.size w w6 := B5.trans (b6.mono (by omega))
    replace o1 := o1.below b6 (by omega)
    replace p1 := p1.below b6 (by omega)
    replace y1 := y1.below b6 (by omega)
    replace o2 := o2.below b6 (by omega)
    replace p2 := p2.below b6 (by omega)
    clear o1 p1 y1
    go_wp2_with fail
    refine (iMapOk_any _ _ _ _ T0 _ _ _ _ T1 _ _ _ _ T2 _ o2.mat (by omega) hs0 p2.mat (by omega) hs1 y2 (by omega) hs2 (Nat.le_refl _) (by omega)).mono ?_
    rintro e w7 ⟨rfl, b7⟩
    have z7 := b7.size
    have B7 : Below w.heap.size w w7 := B6.trans (b7.mono (by omega))
    replace o2 := o2.below b7 (by omega)
    replace p2 := p2.below b7 (by omega)
    replace y2 := y2.below b7 (by omega)
    cases hcb : mapB T0 T1 T2
    all_goals
      go_wp2_with fail
      refine (toIntSS_any _ _ _ _ _ _ (h0.below B7 (Nat.le_refl _)) hs0 (by omega)).mono ?_
      rintro e w8 ⟨rfl, b8, o3⟩
      have z8 := b8.size
      have B8 : Below w.heap.size w w8 := B7.trans (b8.mono (by omega))
      replace o2 := o2.below b8 (by omega)
      replace p2 := p2.below b8 (by omega)
      replace y2 := y2.below b8 (by omega)
      go_wp2_with fail
      refine (eqIntSS_same _ _ _ _ _ _ _ _ _ _ o2.mat o3.mat hs0).mono ?_
      rintro e w9 ⟨rfl, q9⟩
      have b9 := q9.below w8.heap.size
      have z9 := b9.size
      have B9 : Below w.heap.size w w9 := B8.trans (b9.mono (by omega))
      replace o2 := o2.below b9 (by omega)
      replace p2 := p2.below b9 (by omega)
      replace y2 := y2.below b9 (by omega)
      replace o3 := o3.below b9 (by omega)
      go_wp2_with fail
      refine (toIntSS_any _ _ _ _ _ _ (h1.below B9 (Nat.le_refl _)) hs1 (by omega)).mono ?_
      rintro e w10 ⟨rfl, b10, p3⟩
      have z10 := b10.size
      have B10 : Below w.heap.size w w10 := B9.trans (b10.mono (by omega))
      replace o2 := o2.below b10 (by omega)
      replace p2 := p2.below b10 (by omega)
      replace y2 := y2.below b10 (by omega)
      replace o3 := o3.below b10 (by omega)
      go_wp2_with fail
      refine (eqIntSS_same _ _ _ _ _ _ _ _ _ _ p2.mat p3.mat hs1).mono ?_
      rintro e w11 ⟨rfl, q11⟩
      have b11 := q11.below w10.heap.size
      have z11 := b11.size
      have B11 : Below w.heap.size w w11 := B10.trans (b11.mono (by omega))
      replace o2 := o2.below b11 (by omega)
      replace p2 := p2.below b11 (by omega)
      replace y2 := y2.below b11 (by omega)
      replace o3 := o3.below b11 (by omega)
      replace p3 := p3.below b11 (by omega)
      go_wp2_with fail
      refine (toIntS_any _ _ _ _ _ _ (h2.below B11 (Nat.le_refl _)) hs2 (by omega)).mono ?_
      rintro e w12 ⟨rfl, b12, z_, y3_⟩
      have y3 := y3_.row (lo := w11.heap.size) (hi := w12.heap.size) (Nat.le_refl _) (by omega)
      clear z_ y3_
      have z12 := b12.size
      have B12 : Below w.heap.size w w12 := B11.trans (b12.mono (by omega))
      replace o2 := o2.below b12 (by omega)
      replace p2 := p2.below b12 (by omega)
      replace y2 := y2.below b12 (by omega)
      replace o3 := o3.below b12 (by omega)
      replace p3 := p3.below b12 (by omega)
      go_wp2_with fail
      refine (eqIntS_same _ _ _ _ _ _ _ _ _ _ y2 y3 hs2).mono ?_
      rintro e w13 ⟨rfl, q13⟩
      have b13 := q13.below w12.heap.size
      have z13 := b13.size
      have B13 : Below w.heap.size w w13 := B12.trans (b13.mono (by omega))
      replace o2 := o2.below b13 (by omega)
      replace p2 := p2.below b13 (by omega)
      replace y2 := y2.below b13 (by omega)
      replace o3 := o3.below b13 (by omega)
      replace p3 := p3.below b13 (by omega)
      replace y3 := y3.below b13 (by omega)
      go_wp2
      go_ret
      exact ⟨rfl, B13⟩
end Go.Proofs.Ytnchipcpeeofaaa
