/- The walk of FnExactPushingOf. -/
import Derived.Test.YtnchipcpeeofaaaMQ02
import Derived.Test.YtnchipcpeeofaaaMQ03
import Derived.Test.YtnchipcpeeofaaaMQ09
import Derived.Test.YtnchipcpeeofaaaMQ17
namespace Go.Proofs.Ytnchipcpeeofaaa
open Go.RowKit
set_option linter.unusedVariables false

set_option maxHeartbeats 2000000 in
theorem fnExactPushingOf_walk (A0 : Option Addr) (c0 : Nat) (T0 : List (List Int)) (a1 : Int) (w : World) (h0 : Mat w 0 w.heap.size A0 T0) (hS0 : Sized T0) (h1 : (Lit.int .i64 a1).wf = true) :
    Calls Try.prog 12 #[.slice A0 T0.length c0, .int .i64 a1] w fun e w' => e = .returned (.bool true) ∧ Below w.heap.size w w' := by
  by_cases hz : szT T0 1048576 < 0
  · go_enter Try.func12, Try.ntmps12
    go_wp2_with (go_at_call 41; refine (szIntSS_any _ _ _ _ _ _ h0 hS0).mono ?_; rintro e w' ⟨rfl, rfl⟩)
    go_ret
    exact ⟨rfl, Below.refl _ _⟩
  · have hs0 := szT_small (by omega : 0 ≤ szT T0 1048576)
    have r1 := off_le hs0 _ (Nat.le_refl _)
    have r3 := hs0.len
    have B0 := Below.refl w.heap.size w
    have hr := len_pushL_le T0 a1
    go_enter Try.func12, Try.ntmps12
    go_wp2_with fail
    refine (szIntSS_any _ _ _ _ _ _ h0 hS0).mono ?_
    rintro e w_ ⟨rfl, rfl⟩
    go_wp2_with fail
    refine (toIntSS_any _ _ _ _ _ _ (h0.below B0 (Nat.le_refl _)) hs0 (by omega)).mono ?_
    rintro e w1 ⟨rfl, b1, o1⟩
    have z1 := b1.size
    have B1 : Below w.heap.size w w1 := B0.trans (b1.mono (by omega))
    go_wp2_with fail
    refine (sPushingOf_any _ _ _ _ T0 a1 _ o1.mat (by omega) hs0).mono ?_
    rintro e w2 ⟨A1, c1, rfl, b2, m1, _, _⟩
    have z2 := b2.size
    have B2 : Below w.heap.size w w2 := B1.trans (b2.mono (by omega))
    replace o1 := o1.below b2 (by omega)
    go_wp2_with fail
    refine (toIntSS_any _ _ _ _ _ _ (h0.below B2 (Nat.le_refl _)) hs0 (by omega)).mono ?_
    rintro e w3 ⟨rfl, b3, o2⟩
    have z3 := b3.size
    have B3 : Below w.heap.size w w3 := B2.trans (b3.mono (by omega))
    replace o1 := o1.below b3 (by omega)
    replace m1 := m1.below b3 (by omega)
    go_wp2_with fail
    refine (iPushingOf_any _ _ _ _ T0 a1 _ o2.mat (by omega) hs0).mono ?_
    rintro e w4 ⟨A2, c2, rfl, b4, g1, _, _⟩
    have z4 := b4.size
    have B4 : Below w.heap.size w w4 := B3.trans (b4.mono (by omega))
    replace o1 := o1.below b4 (by omega)
    replace m1 := m1.below b4 (by omega)
    replace o2 := o2.below b4 (by omega)
    go_wp2_with fail
    refine (eqIntS_same _ _ _ _ _ _ _ _ _ _ g1.row m1 hr).mono ?_
    rintro e w5 ⟨rfl, q5⟩
    have b5 := q5.below w4.heap.size
    have z5 := b5.size
    have B5 : Below w.heap.size w w5 := B4.trans (b5.mono (by omega))
    replace o1 := o1.below b5 (by omega)
    replace m1 := m1.below b5 (by omega)
    replace o2 := o2.below b5 (by omega)
    replace g1 := g1.below b5 (by omega)
    go_wp2_with fail
    refine (toIntSS_any _ _ _ _ _ _ (h0.below B5 (Nat.le_refl _)) hs0 (by omega)).mono ?_
    rintro e w6 ⟨rfl, b6, o3⟩
    have z6 := b6.size
    have B6 : Below w.heap.size w w6 := B5.trans (b6.mono (by omega))
    replace o1 := o1.below b6 (by omega)
    replace m1 := m1.below b6 (by omega)
    replace o2 := o2.below b6 (by omega)
    replace g1 := g1.below b6 (by omega)
    go_wp2_with fail
    refine (eqIntSS_same _ _ _ _ _ _ _ _ _ _ o2.mat o3.mat hs0).mono ?_
    rintro e w7 ⟨rfl, q7⟩
    have b7 := q7.below w6.heap.size
    have z7 := b7.size
    have B7 : Below w.heap.size w w7 := B6.trans (b7.mono (by omega))
    replace o1 := o1.below b7 (by omega)
    replace m1 := m1.below b7 (by omega)
    replace o2 := o2.below b7 (by omega)
    replace g1 := g1.below b7 (by omega)
    replace o3 := o3.below b7 (by omega)
    go_wp2_with fail
    refine (markIntSS_any _ _ _ _ _ _ o2 (by omega) hs0 1 (by omega) (by omega)).mono ?_
    rintro e w8 ⟨rfl, b8, o2m⟩
    have z8 := b8.size
    have B8 : Below w.heap.size w w8 := B7.trans (b8.below (by omega) (by omega))
    replace o1 := o1.only b8 (by omega) (by omega)
    replace m1 := m1.only b8 (by omega) (by omega)
    replace g1 := g1.only b8 (by omega) (by omega)
    replace o3 := o3.only b8 (by omega) (by omega)
    go_wp2_with fail
    refine (eqIntS_same _ _ _ _ _ _ _ _ _ _ g1.row m1 hr).mono ?_
    rintro e w9 ⟨rfl, q9⟩
    have b9 := q9.below w8.heap.size
    have z9 := b9.size
    have B9 : Below w.heap.size w w9 := B8.trans (b9.mono (by omega))
    replace o1 := o1.below b9 (by omega)
    replace m1 := m1.below b9 (by omega)
    replace g1 := g1.below b9 (by omega)
    replace o3 := o3.below b9 (by omega)
    go_wp2_with fail
    refine (markRow_any _ _ _ _ _ 1 _ g1 hr (by omega) (by omega)).mono ?_
    rintro e w10 ⟨rfl, b10, g1m⟩
    have z10 := b10.size
    have B10 : Below w.heap.size w w10 := B9.trans (b10.below (by omega) (by omega))
    replace o1 := o1.only b10 (by omega) (by omega)
    replace m1 := m1.only b10 (by omega) (by omega)
    replace o3 := o3.only b10 (by omega) (by omega)
    go_wp2_with fail
    refine (heldIntS_any _ _ _ _ _ _ _ g1m.row hr (by omega) (by omega)).mono ?_
    rintro e w_ ⟨rfl, rfl⟩
    go_wp2_with fail
    refine (toIntSS_any _ _ _ _ _ _ (h0.below B10 (Nat.le_refl _)) hs0 (by omega)).mono ?_
    rintro e w11 ⟨rfl, b11, o4⟩
    have z11 := b11.size
    have B11 : Below w.heap.size w w11 := B10.trans (b11.mono (by omega))
    replace o1 := o1.below b11 (by omega)
    replace m1 := m1.below b11 (by omega)
    replace o3 := o3.below b11 (by omega)
    replace g1m := g1m.below b11 (by omega)
    go_wp2_with fail
    refine (iPushingOf_any _ _ _ _ T0 a1 _ o4.mat (by omega) hs0).mono ?_
    rintro e w12 ⟨A3, c3, rfl, b12, g2, _, _⟩
    have z12 := b12.size
    have B12 : Below w.heap.size w w12 := B11.trans (b12.mono (by omega))
    replace o1 := o1.below b12 (by omega)
    replace m1 := m1.below b12 (by omega)
    replace o3 := o3.below b12 (by omega)
    replace g1m := g1m.below b12 (by omega)
    replace o4 := o4.below b12 (by omega)
    go_wp2_with fail
    refine (eqIntS_same _ _ _ _ _ _ _ _ _ _ g2.row m1 hr).mono ?_
    rintro e w13 ⟨rfl, q13⟩
    have b13 := q13.below w12.heap.size
    have z13 := b13.size
    have B13 : Below w.heap.size w w13 := B12.trans (b13.mono (by omega))
    replace o1 := o1.below b13 (by omega)
    replace m1 := m1.below b13 (by omega)
    replace o3 := o3.below b13 (by omega)
    replace g1m := g1m.below b13 (by omega)
    replace o4 := o4.below b13 (by omega)
    replace g2 := g2.below b13 (by omega)
    go_wp2_with fail
    refine (heldIntS_any _ _ _ _ _ _ _ g1m.row hr (by omega) (by omega)).mono ?_
    rintro e w_ ⟨rfl, rfl⟩
    go_wp2
    go_ret
    exact ⟨rfl, B13⟩
end Go.Proofs.Ytnchipcpeeofaaa
