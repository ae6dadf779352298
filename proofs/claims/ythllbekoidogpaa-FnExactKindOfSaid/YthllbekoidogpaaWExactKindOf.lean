/- The walk of FnExactKindOf. -/
import Derived.Test.YthllbekoidogpaaHelp
import Derived.Test.YthllbekoidogpaaEq
import Derived.Test.YthllbekoidogpaaTab
import Derived.Test.YthllbekoidogpaaMark
import Derived.Test.YthllbekoidogpaaSidenT
import Derived.Test.YthllbekoidogpaaIiden
namespace Go.Proofs.Ythllbekoidogpaa
open Go.RowKit
set_option linter.unusedVariables false

set_option maxHeartbeats 2000000 in
theorem fnExactKindOf_walk (A0 : Option Addr) (c0 : Nat) (T0 : List (List Int)) (w : World) (h0 : Mat w 0 w.heap.size A0 T0) (hS0 : Sized T0) :
    Calls Try.prog 10 #[.slice A0 T0.length c0] w fun e w' => e = .returned (.bool true) ∧ Below w.heap.size w w' := by
  by_cases hz : szT T0 1048576 < 0
  · go_enter Try.func10, Try.ntmps10
    go_wp2_with (go_at_call 50; refine (szIntSS_any _ _ _ _ _ _ h0 hS0).mono ?_; rintro e w' ⟨rfl, rfl⟩)
    go_ret
    exact ⟨rfl, Below.refl _ _⟩
  · have hs0 := szT_small (by omega : 0 ≤ szT T0 1048576)
    have r1 := off_le hs0 _ (Nat.le_refl _)
    have r3 := hs0.len
    have B0 := Below.refl w.heap.size w
    go_enter Try.func10, Try.ntmps10
    go_wp2_with fail
    refine (szIntSS_any _ _ _ _ _ _ h0 hS0).mono ?_
    rintro e w_ ⟨rfl, rfl⟩
    go_wp2_with fail
    refine (toIntSS_any _ _ _ _ _ _ (h0.below B0 (Nat.le_refl _)) hs0 (by omega)).mono ?_
    rintro e w1 ⟨rfl, b1, o1⟩
    have z1 := b1.size
    have B1 : Below w.heap.size w w1 := B0.trans (b1.mono (by omega))
    go_wp2_with fail
    refine (sKindOf_any _ _ _ _ _ _ o1.mat (by omega) hs0).mono ?_
    rintro e w2 ⟨rfl, b2⟩
    have z2 := b2.size
    have B2 : Below w.heap.size w w2 := B1.trans (b2.mono (by omega))
    replace o1 := o1.below b2 (by omega)
    go_wp2_with fail
    refine (toIntSS_any _ _ _ _ _ _ (h0.below B2 (Nat.le_refl _)) hs0 (by omega)).mono ?_
    rintro e w3 ⟨rfl, b3, o2⟩
    have z3 := b3.size
    have B3 : Below w.heap.size w w3 := B2.trans (b3.mono (by omega))
    replace o1 := o1.below b3 (by omega)
    go_wp2_with fail
    refine (iKindOf_any _ _ _ _ _ _ o2.mat (by omega) hs0).mono ?_
    rintro e w4 ⟨rfl, b4⟩
    have z4 := b4.size
    have B4 : Below w.heap.size w w4 := B3.trans (b4.mono (by omega))
    replace o1 := o1.below b4 (by omega)
    replace o2 := o2.below b4 (by omega)
    go_wp2_with fail
    refine (toIntSS_any _ _ _ _ _ _ (h0.below B4 (Nat.le_refl _)) hs0 (by omega)).mono ?_
    rintro e w5 ⟨rfl, b5, o3⟩
    have z5 := b5.size
    have B5 : Below w.heap.size w w5 := B4.trans (b5.mono (by omega))
    replace o1 := o1.below b5 (by omega)
    replace o2 := o2.below b5 (by omega)
    go_wp2_with fail
    refine (eqIntSS_same _ _ _ _ _ _ _ _ _ _ o2.mat o3.mat hs0).mono ?_
    rintro e w6 ⟨rfl, q6⟩
    have b6 := q6.below w5.heap.size
    have z6 := b6.size
    have B6 : Below w.heap.size w w6 := B5.trans (b6.mono (by omega))
    replace o1 := o1.below b6 (by omega)
    replace o2 := o2.below b6 (by omega)
    replace o3 := o3.below b6 (by omega)
    go_wp2
    go_ret
    exact ⟨rfl, B6⟩
end Go.Proofs.Ythllbekoidogpaa
