/- The walk of FnExactCountKeeping. -/
import Derived.Test.YtnchipcpeeofaaaMQ02
import Derived.Test.YtnchipcpeeofaaaMQ09
import Derived.Test.YtnchipcpeeofaaaMQ17
namespace Go.Proofs.Ytnchipcpeeofaaa
open Go.RowKit
set_option linter.unusedVariables false

set_option maxHeartbeats 2000000 in
theorem fnExactCountKeeping_walk (A0 : Option Addr) (c0 : Nat) (T0 : List (List Int)) (A1 : Option Addr) (c1 : Nat) (T1 : List (List Int)) (w : World) (h0 : Mat w 0 w.heap.size A0 T0) (hS0 : Sized T0) (h1 : Mat w 0 w.heap.size A1 T1) (hS1 : Sized T1) :
    Calls Try.prog 11 #[.slice A0 T0.length c0, .slice A1 T1.length c1] w fun e w' => e = .returned (.bool true) ∧ Below w.heap.size w w' := by
  by_cases hz : szT T0 1048576 < 0
  · go_enter Try.func11, Try.ntmps11
    go_wp2_with (go_at_call 41; refine (szIntSS_any _ _ _ _ _ _ h0 hS0).mono ?_; rintro e w' ⟨rfl, rfl⟩)
    go_ret
    exact ⟨rfl, Below.refl _ _⟩
  have hs0 := szT_small (by omega : 0 ≤ szT T0 1048576)
  have hz0 := szT_le T0 1048576 (by omega)
  by_cases hz2 : szT T1 (szT T0 1048576) < 0
  · go_enter Try.func11, Try.ntmps11
    go_wp2_with fail
    refine (szIntSS_any _ _ _ _ _ _ h0 hS0).mono ?_
    rintro e w' ⟨rfl, rfl⟩
    go_wp2_with fail
    refine (szIntSS_gen _ _ _ _ _ _ _ h1 hS1 (by omega) hz0).mono ?_
    rintro e w' ⟨rfl, rfl⟩
    go_wp2
    go_ret
    exact ⟨rfl, Below.refl _ _⟩
  · have hs1 := szT_smallg hz0 (by omega : 0 ≤ szT T1 (szT T0 1048576))
    have r3 := hs0.len
    have r4 := hs1.len
    have B0 := Below.refl w.heap.size w
    go_enter Try.func11, Try.ntmps11
    go_wp2_with fail
    refine (szIntSS_any _ _ _ _ _ _ h0 hS0).mono ?_
    rintro e w_ ⟨rfl, rfl⟩
    go_wp2_with fail
    refine (szIntSS_gen _ _ _ _ _ _ _ h1 hS1 (by omega) hz0).mono ?_
    rintro e w_ ⟨rfl, rfl⟩
    go_wp2_with fail
    refine (toIntSS_any _ _ _ _ _ _ (h0.below B0 (Nat.le_refl _)) hs0 (by omega)).mono ?_
    rintro e w1 ⟨rfl, b1, o1⟩
    have z1 := b1.size
    have B1 : Below w.heap.size w w1 := B0.trans (b1.mono (by omega))
    go_wp2_with fail
    refine (toIntSS_any _ _ _ _ _ _ (h1.below B1 (Nat.le_refl _)) hs1 (by omega)).mono ?_
    rintro e w2 ⟨rfl, b2, p1⟩
    have z2 := b2.size
    have B2 : Below w.heap.size w w2 := B1.trans (b2.mono (by omega))
    replace o1 := o1.below b2 (by omega)
    go_wp2_with fail
    refine (sCountKeeping_any _ _ _ _ T0 _ _ _ _ T1 _ o1.mat (by omega) hs0 p1.mat (by omega) hs1).mono ?_
    rintro e w3 ⟨rfl, b3⟩
    have z3 := b3.size
    have B3 : Below w.heap.size w w3 := B2.trans (b3.mono (by omega))
    replace o1 := o1.below b3 (by omega)
    replace p1 := p1.below b3 (by omega)
    go_wp2_with fail
    refine (toIntSS_any _ _ _ _ _ _ (h0.below B3 (Nat.le_refl _)) hs0 (by omega)).mono ?_
    rintro e w4 ⟨rfl, b4, o2⟩
    have z4 := b4.size
    have B4 : Below w.heap.size w w4 := B3.trans (b4.mono (by omega))
    replace o1 := o1.below b4 (by omega)
    replace p1 := p1.below b4 (by omega)
    go_wp2_with fail
    refine (toIntSS_any _ _ _ _ _ _ (h1.below B4 (Nat.le_refl _)) hs1 (by omega)).mono ?_
    rintro e w5 ⟨rfl, b5, p2⟩
    have z5 := b5.size
    have B5 : Below w.heap.size w w5 := B4.trans (b5.mono (by omega))
    replace o1 := o1.below b5 (by omega)
    replace p1 := p1.below b5 (by omega)
    replace o2 := o2.below b5 (by omega)
    clear o1 p1
    go_wp2_with fail
    refine (iCountKeeping_any _ _ _ _ T0 _ _ _ _ T1 _ o2.mat (by omega) hs0 p2.mat (by omega) hs1).mono ?_
    rintro e w6 ⟨rfl, b6⟩
    have z6 := b6.size
    have B6 : Below w.heap.size w w6 := B5.trans (b6.mono (by omega))
    replace o2 := o2.below b6 (by omega)
    replace p2 := p2.below b6 (by omega)
    go_wp2_with fail
    refine (toIntSS_any _ _ _ _ _ _ (h0.below B6 (Nat.le_refl _)) hs0 (by omega)).mono ?_
    rintro e w7 ⟨rfl, b7, o3⟩
    have z7 := b7.size
    have B7 : Below w.heap.size w w7 := B6.trans (b7.mono (by omega))
    replace o2 := o2.below b7 (by omega)
    replace p2 := p2.below b7 (by omega)
    go_wp2_with fail
    refine (eqIntSS_same _ _ _ _ _ _ _ _ _ _ o2.mat o3.mat hs0).mono ?_
    rintro e w8 ⟨rfl, q8⟩
    have b8 := q8.below w7.heap.size
    have z8 := b8.size
    have B8 : Below w.heap.size w w8 := B7.trans (b8.mono (by omega))
    replace o2 := o2.below b8 (by omega)
    replace p2 := p2.below b8 (by omega)
    replace o3 := o3.below b8 (by omega)
    go_wp2_with fail
    refine (toIntSS_any _ _ _ _ _ _ (h1.below B8 (Nat.le_refl _)) hs1 (by omega)).mono ?_
    rintro e w9 ⟨rfl, b9, p3⟩
    have z9 := b9.size
    have B9 : Below w.heap.size w w9 := B8.trans (b9.mono (by omega))
    replace o2 := o2.below b9 (by omega)
    replace p2 := p2.below b9 (by omega)
    replace o3 := o3.below b9 (by omega)
    go_wp2_with fail
    refine (eqIntSS_same _ _ _ _ _ _ _ _ _ _ p2.mat p3.mat hs1).mono ?_
    rintro e w10 ⟨rfl, q10⟩
    have b10 := q10.below w9.heap.size
    have z10 := b10.size
    have B10 : Below w.heap.size w w10 := B9.trans (b10.mono (by omega))
    replace o2 := o2.below b10 (by omega)
    replace p2 := p2.below b10 (by omega)
    replace o3 := o3.below b10 (by omega)
    replace p3 := p3.below b10 (by omega)
    go_wp2
    go_ret
    exact ⟨rfl, B10⟩
end Go.Proofs.Ytnchipcpeeofaaa
