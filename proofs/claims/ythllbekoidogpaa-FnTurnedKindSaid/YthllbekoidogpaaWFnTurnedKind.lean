/- The walk of FnTurnedKind. -/
import Derived.Test.YthllbekoidogpaaSidenT
import Derived.Test.YthllbekoidogpaaIiden
import Derived.Test.YthllbekoidogpaaGrp
import Derived.Test.YthllbekoidogpaaPureX
import Derived.Test.YthllbekoidogpaaDrawIdens
namespace Go.Proofs.Ythllbekoidogpaa
open Go.RowKit
set_option linter.unusedVariables false

set_option maxRecDepth 20000 in
set_option maxHeartbeats 16000000 in
theorem fnTurnedKind_walk (A : Option Addr) (n c : Nat) (A' : Option Addr) (n' c' : Nat) (w : World) (h : Bytes w w.heap.size A n) (hc : n ≤ c) (hc2 : c ≤ 9223372036854775807) (h' : Bytes w w.heap.size A' n') (hc' : n' ≤ c') (hc2' : c' ≤ 9223372036854775807) :
    Calls Try.prog 6 #[.slice A n c, .slice A' n' c'] w fun e w' => e = .returned (.bool true) ∧ Below w.heap.size w w' := by
  by_cases hn : (1048576 : Int) < (n : Int)
  · go_enter Try.func6, Try.ntmps6
    go_wp2
    go_ret
    exact ⟨rfl, Below.refl _ _⟩
  by_cases hn' : (1048576 : Int) < (n' : Int)
  · go_enter Try.func6, Try.ntmps6
    go_wp2
    go_ret
    exact ⟨rfl, Below.refl _ _⟩
  · go_enter Try.func6, Try.ntmps6
    go_wp2_with fail
    refine (drawTurnedKind_any A n c w h hc hc2).mono ?_
    rintro e w1 ⟨s, rfl, hs1, hs2, B1⟩
    cases hin : (decide (0 ≤ s) && decide (s ≤ 511))
    · have HE := hide (tkW_not hin)
      clear hin
      go_wp2_with fail
      refine (iTurnedKind_any s _).mono ?_
      rw [HE.out]
      rintro e w2 ⟨rfl, b2⟩
      have B2 := B1.trans (b2.mono B1.size)
      go_wp2_with fail
      refine (sTurnedKind_any s _).mono ?_
      rw [HE.out]
      rintro e w3 ⟨rfl, b3⟩
      have B3 := B2.trans (b3.mono B2.size)
      go_wp2_with fail
      refine (alive_any _).mono ?_
      rintro e w4 ⟨rfl, b4⟩
      go_wp2
      go_ret
      exact ⟨rfl, B3.trans (b4.mono B3.size)⟩
    · obtain ⟨m, rfl, hm⟩ : ∃ n : Nat, s = n ∧ n ≤ 511 := by
        rw [Bool.and_eq_true, decide_eq_true_iff, decide_eq_true_iff] at hin
        exact ⟨s.toNat, by omega, by omega⟩
      have hlt := tkN_lt m
      have HE := hide (tkW_ok hm)
      have HB := hide (show tkW ((tkN m : Nat) : Int) = (m : Int) from by rw [tkW_ok (by omega), tk_tk (by omega)])
      obtain ⟨x, hx⟩ : ∃ x, x = tkN m := ⟨_, rfl⟩
      rw [← hx] at HE HB hlt
      clear hx hin
      go_wp2_with fail
      refine (iTurnedKind_any (m : Int) _).mono ?_
      rw [HE.out]
      rintro e w2 ⟨rfl, b2⟩
      have B2 := B1.trans (b2.mono B1.size)
      go_wp2_with fail
      refine (sTurnedKind_any (m : Int) _).mono ?_
      rw [HE.out]
      rintro e w3 ⟨rfl, b3⟩
      have B3 := B2.trans (b3.mono B2.size)
      go_wp2_with fail
      refine (drawGroupedOk_any A' n' c' _ (bytes_later h' B3) hc' hc2').mono ?_
      rintro e w4 ⟨A2, c2, T, rfl, b4, m4, hS⟩
      have B4 := B3.trans (b4.mono B3.size)
      go_wp2_with fail
      refine (iTurnedKind_any ((x : Nat) : Int) _).mono ?_
      rw [HB.out]
      rintro e w5 ⟨rfl, b5⟩
      have B5 := B4.trans (b5.mono B4.size)
      have m5 := m4.below b5 (Nat.le_refl _)
      cases hg : grpT T
      · go_wp2_with fail
        refine (sGroupedOk_any _ _ _ _ _ _ m5 hS).mono ?_
        rw [hg]
        rintro e w6 ⟨rfl, q6⟩
        have B6 := B5.trans (q6.below w.heap.size)
        go_wp2_with fail
        refine (alive_any _).mono ?_
        rintro e w7 ⟨rfl, b7⟩
        go_wp2
        go_ret
        exact ⟨rfl, B6.trans (b7.mono B6.size)⟩
      · have g := grpT_iff.1 hg
        have hk := okT_iff.2 g.tab
        have K1 := hide (kinW_ok hk)
        have hkl := kinN_lt T
        have K2 := hide (tkW_ok (show kinN T ≤ 511 by omega))
        have K3 := hide (show kinW (turnT T) = ((tkN (kinN T) : Nat) : Int) from by rw [kinW_ok (okT_iff.2 (isT_turnT hk)), kin_turn g])
        have hSt := small_turnT (T := T)
        clear g
        go_wp2_with fail
        refine (sGroupedOk_any _ _ _ _ _ _ m5 hS).mono ?_
        rw [hg]
        rintro e w6 ⟨rfl, q6⟩
        have B6 := B5.trans (q6.below w.heap.size)
        have m6 := m5.quiet q6
        have z6 : w4.heap.size ≤ w6.heap.size := Nat.le_trans b5.size (q6.below w5.heap.size).size
        clear hg hk
        go_wp2_with fail
        refine (iKindOf_any _ _ _ _ T _ m6 z6 hS).mono ?_
        rw [K1.out]
        rintro e w7 ⟨rfl, b7⟩
        have B7 := B6.trans (b7.mono B6.size)
        have m7 := m6.below b7 z6
        have z7 := Nat.le_trans z6 b7.size
        go_wp2_with fail
        refine (iTurnedKind_any ((kinN T : Nat) : Int) _).mono ?_
        rw [K2.out]
        rintro e w8 ⟨rfl, b8⟩
        have B8 := B7.trans (b8.mono B7.size)
        have m8 := m7.below b8 z7
        have z8 := Nat.le_trans z7 b8.size
        go_wp2_with fail
        refine (iTurnedOf_any _ _ _ _ T _ m8 z8 hS).mono ?_
        rintro e w9 ⟨A3, c3, rfl, b9, g9⟩
        have B9 := B8.trans (b9.mono B8.size)
        go_wp2_with fail
        refine (iKindOf_any _ _ _ _ (turnT T) _ g9.mat (Nat.le_refl _) hSt).mono ?_
        rw [K3.out]
        rintro e w10 ⟨rfl, b10⟩
        have B10 := B9.trans (b10.mono B9.size)
        go_wp2_with fail
        refine (alive_any _).mono ?_
        rintro e w11 ⟨rfl, b11⟩
        go_wp2
        go_ret
        exact ⟨rfl, B10.trans (b11.mono B10.size)⟩

end Go.Proofs.Ythllbekoidogpaa
