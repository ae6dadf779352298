/- The walk of FnReachedBy. -/
import Derived.Test.YtnchipcpeeofaaaMQ02
import Derived.Test.YtnchipcpeeofaaaMQ07
import Derived.Test.YtnchipcpeeofaaaMQ17
import Derived.Test.YtnchipcpeeofaaaMQ08
import Derived.Test.YtnchipcpeeofaaaMQ24
import Derived.Test.YtnchipcpeeofaaaMQ06
import Derived.Test.YtnchipcpeeofaaaMQ05
namespace Go.Proofs.Ytnchipcpeeofaaa
open Go.RowKit
set_option linter.unusedVariables false

set_option maxRecDepth 20000 in
set_option maxHeartbeats 8000000 in
theorem fnReachedBy_walk (A : Option Addr) (n c : Nat) (w : World) (h : Bytes w w.heap.size A n) (hc : n ≤ c) (hc2 : c ≤ 9223372036854775807) :
    Calls Try.prog 5 #[.slice A n c] w fun e w' => e = .returned (.bool true) ∧ Below w.heap.size w w' := by
  by_cases hn : (1048576 : Int) < (n : Int)
  · go_enter Try.func5, Try.ntmps5
    go_wp2
    go_ret
    exact ⟨rfl, Below.refl _ _⟩
  · go_enter Try.func5, Try.ntmps5
    go_wp2_with fail
    refine (drawReachedBy_any A n c w h hc hc2).mono ?_
    rintro e w1 ⟨⟨A1, c1, T, A2, c2, U, A3, c3, f, rfl, m1, hS, n1, hU, r1, hf, hfc, hfc2⟩, B1⟩
    have hlT := hS.len
    have hlU := hU.len
    have hfl : f.length ≤ 1048576 := by omega
    have Z1 : w1.heap.size ≤ w1.heap.size := Nat.le_refl _
    cases hm : mapB T U f
    · have HE := hide (reachS_not hm)
      go_wp2_with fail
      refine (iReachedBy_any _ _ _ _ T _ _ _ _ U _ _ _ _ f _ m1 Z1 hS n1 Z1 hU r1 Z1 hfl hfc hfc2).mono ?_
      rw [HE.out]
      rintro e w2 ⟨rfl, b2⟩
      have B2 := B1.trans (b2.mono B1.size)
      have m2 := m1.below b2 Z1
      have n2 := n1.below b2 Z1
      have r2 := r1.below b2 Z1
      have Z2 := Nat.le_trans Z1 b2.size
      clear m1 n1 r1 Z1
      go_wp2_with fail
      refine (sReachedBy_any _ _ _ _ T _ _ _ _ U _ _ _ _ f _ m2 hS n2 hU r2 hfl).mono ?_
      rw [HE.out]
      rintro e w3 ⟨rfl, q3⟩
      have B3 := B2.trans (q3.below w.heap.size)
      have m3 := m2.quiet q3
      have n3 := n2.quiet q3
      have r3 := r2.quiet q3
      have Z3 := Nat.le_trans Z2 (q3.below 0).size
      clear m2 n2 r2 Z2
      go_wp2_with fail
      refine (alive_any _).mono ?_
      rintro e w4 ⟨rfl, b4⟩
      go_wp2
      go_ret
      exact ⟨rfl, B3.trans (b4.mono B3.size)⟩
    · have M := mapB_iff.1 hm
      have HE := hide (reachS_ok hm)
      have hp := reach_pos M
      have hlt := reach_lt M
      have HK := hide (fun (h : keepB T U f = true) => reach_made (keepB_iff.1 h))
      have HB := hide (fun (h : keepB T U f = true) (hb : bandT T = true) (hg : grpT U = true) => reach_band (keepB_iff.1 h) hb hg)
      have hp9 := pow_le9 M.u.hi
      obtain ⟨s, hs⟩ : ∃ s, s = reachB f f.length := ⟨_, rfl⟩
      rw [← hs] at HE hp hlt HK HB
      have s1 : (0 : Int) < (s : Int) := by omega
      have s2 : ¬ (s : Int) < 0 := by omega
      clear hs M hm
      cases hk : keepB T U f
      · go_wp2_with fail
        refine (iReachedBy_any _ _ _ _ T _ _ _ _ U _ _ _ _ f _ m1 Z1 hS n1 Z1 hU r1 Z1 hfl hfc hfc2).mono ?_
        rw [HE.out]
        rintro e w2 ⟨rfl, b2⟩
        have B2 := B1.trans (b2.mono B1.size)
        have m2 := m1.below b2 Z1
        have n2 := n1.below b2 Z1
        have r2 := r1.below b2 Z1
        have Z2 := Nat.le_trans Z1 b2.size
        clear m1 n1 r1 Z1
        go_wp2_with fail
        refine (sReachedBy_any _ _ _ _ T _ _ _ _ U _ _ _ _ f _ m2 hS n2 hU r2 hfl).mono ?_
        rw [HE.out]
        rintro e w3 ⟨rfl, q3⟩
        have B3 := B2.trans (q3.below w.heap.size)
        have m3 := m2.quiet q3
        have n3 := n2.quiet q3
        have r3 := r2.quiet q3
        have Z3 := Nat.le_trans Z2 (q3.below 0).size
        clear m2 n2 r2 Z2
        go_wp2_with fail
        refine (iKeepsOk_any _ _ _ _ T _ _ _ _ U _ _ _ _ f _ m3 Z3 hS n3 Z3 hU r3 Z3 hfl hfc hfc2).mono ?_
        rw [hk]
        rintro e w4 ⟨rfl, b4⟩
        have B4 := B3.trans (b4.mono B3.size)
        have m4 := m3.below b4 Z3
        have n4 := n3.below b4 Z3
        have r4 := r3.below b4 Z3
        have Z4 := Nat.le_trans Z3 b4.size
        clear m3 n3 r3 Z3
        go_wp2_with fail
        refine (alive_any _).mono ?_
        rintro e w5 ⟨rfl, b5⟩
        go_wp2
        go_ret
        exact ⟨rfl, B4.trans (b5.mono B4.size)⟩
      cases hb : bandT T
      · go_wp2_with fail
        refine (iReachedBy_any _ _ _ _ T _ _ _ _ U _ _ _ _ f _ m1 Z1 hS n1 Z1 hU r1 Z1 hfl hfc hfc2).mono ?_
        rw [HE.out]
        rintro e w2 ⟨rfl, b2⟩
        have B2 := B1.trans (b2.mono B1.size)
        have m2 := m1.below b2 Z1
        have n2 := n1.below b2 Z1
        have r2 := r1.below b2 Z1
        have Z2 := Nat.le_trans Z1 b2.size
        clear m1 n1 r1 Z1
        go_wp2_with fail
        refine (sReachedBy_any _ _ _ _ T _ _ _ _ U _ _ _ _ f _ m2 hS n2 hU r2 hfl).mono ?_
        rw [HE.out]
        rintro e w3 ⟨rfl, q3⟩
        have B3 := B2.trans (q3.below w.heap.size)
        have m3 := m2.quiet q3
        have n3 := n2.quiet q3
        have r3 := r2.quiet q3
        have Z3 := Nat.le_trans Z2 (q3.below 0).size
        clear m2 n2 r2 Z2
        go_wp2_with fail
        refine (iKeepsOk_any _ _ _ _ T _ _ _ _ U _ _ _ _ f _ m3 Z3 hS n3 Z3 hU r3 Z3 hfl hfc hfc2).mono ?_
        rw [hk]
        rintro e w4 ⟨rfl, b4⟩
        have B4 := B3.trans (b4.mono B3.size)
        have m4 := m3.below b4 Z3
        have n4 := n3.below b4 Z3
        have r4 := r3.below b4 Z3
        have Z4 := Nat.le_trans Z3 b4.size
        clear m3 n3 r3 Z3
        go_wp2_with fail
        refine (iMadeBy_any _ _ _ _ U (s : Int) _ n4 Z4 hU).mono ?_
        rw [HK.out hk]
        rintro e w5 ⟨rfl, b5⟩
        have B5 := B4.trans (b5.mono B4.size)
        have m5 := m4.below b5 Z4
        have n5 := n4.below b5 Z4
        have r5 := r4.below b5 Z4
        have Z5 := Nat.le_trans Z4 b5.size
        clear m4 n4 r4 Z4
        go_wp2_with fail
        refine (iBandOk_any _ _ _ _ T _ m5 Z5 hS).mono ?_
        rw [hb]
        rintro e w6 ⟨rfl, b6⟩
        have B6 := B5.trans (b6.mono B5.size)
        have m6 := m5.below b6 Z5
        have n6 := n5.below b6 Z5
        have r6 := r5.below b6 Z5
        have Z6 := Nat.le_trans Z5 b6.size
        clear m5 n5 r5 Z5
        go_wp2_with fail
        refine (alive_any _).mono ?_
        rintro e w7 ⟨rfl, b7⟩
        go_wp2
        go_ret
        exact ⟨rfl, B6.trans (b7.mono B6.size)⟩
      cases hg : grpT U
      · go_wp2_with fail
        refine (iReachedBy_any _ _ _ _ T _ _ _ _ U _ _ _ _ f _ m1 Z1 hS n1 Z1 hU r1 Z1 hfl hfc hfc2).mono ?_
        rw [HE.out]
        rintro e w2 ⟨rfl, b2⟩
        have B2 := B1.trans (b2.mono B1.size)
        have m2 := m1.below b2 Z1
        have n2 := n1.below b2 Z1
        have r2 := r1.below b2 Z1
        have Z2 := Nat.le_trans Z1 b2.size
        clear m1 n1 r1 Z1
        go_wp2_with fail
        refine (sReachedBy_any _ _ _ _ T _ _ _ _ U _ _ _ _ f _ m2 hS n2 hU r2 hfl).mono ?_
        rw [HE.out]
        rintro e w3 ⟨rfl, q3⟩
        have B3 := B2.trans (q3.below w.heap.size)
        have m3 := m2.quiet q3
        have n3 := n2.quiet q3
        have r3 := r2.quiet q3
        have Z3 := Nat.le_trans Z2 (q3.below 0).size
        clear m2 n2 r2 Z2
        go_wp2_with fail
        refine (iKeepsOk_any _ _ _ _ T _ _ _ _ U _ _ _ _ f _ m3 Z3 hS n3 Z3 hU r3 Z3 hfl hfc hfc2).mono ?_
        rw [hk]
        rintro e w4 ⟨rfl, b4⟩
        have B4 := B3.trans (b4.mono B3.size)
        have m4 := m3.below b4 Z3
        have n4 := n3.below b4 Z3
        have r4 := r3.below b4 Z3
        have Z4 := Nat.le_trans Z3 b4.size
        clear m3 n3 r3 Z3
        go_wp2_with fail
        refine (iMadeBy_any _ _ _ _ U (s : Int) _ n4 Z4 hU).mono ?_
        rw [HK.out hk]
        rintro e w5 ⟨rfl, b5⟩
        have B5 := B4.trans (b5.mono B4.size)
        have m5 := m4.below b5 Z4
        have n5 := n4.below b5 Z4
        have r5 := r4.below b5 Z4
        have Z5 := Nat.le_trans Z4 b5.size
        clear m4 n4 r4 Z4
        go_wp2_with fail
        refine (iBandOk_any _ _ _ _ T _ m5 Z5 hS).mono ?_
        rw [hb]
        rintro e w6 ⟨rfl, b6⟩
        have B6 := B5.trans (b6.mono B5.size)
        have m6 := m5.below b6 Z5
        have n6 := n5.below b6 Z5
        have r6 := r5.below b6 Z5
        have Z6 := Nat.le_trans Z5 b6.size
        clear m5 n5 r5 Z5
        go_wp2_with fail
        refine (iGroupedOk_any _ _ _ _ U _ n6 Z6 hU).mono ?_
        rw [hg]
        rintro e w7 ⟨rfl, b7⟩
        have B7 := B6.trans (b7.mono B6.size)
        have m7 := m6.below b7 Z6
        have n7 := n6.below b7 Z6
        have r7 := r6.below b7 Z6
        have Z7 := Nat.le_trans Z6 b7.size
        clear m6 n6 r6 Z6
        go_wp2_with fail
        refine (alive_any _).mono ?_
        rintro e w8 ⟨rfl, b8⟩
        go_wp2
        go_ret
        exact ⟨rfl, B7.trans (b8.mono B7.size)⟩
      go_wp2_with fail
      refine (iReachedBy_any _ _ _ _ T _ _ _ _ U _ _ _ _ f _ m1 Z1 hS n1 Z1 hU r1 Z1 hfl hfc hfc2).mono ?_
      rw [HE.out]
      rintro e w2 ⟨rfl, b2⟩
      have B2 := B1.trans (b2.mono B1.size)
      have m2 := m1.below b2 Z1
      have n2 := n1.below b2 Z1
      have r2 := r1.below b2 Z1
      have Z2 := Nat.le_trans Z1 b2.size
      clear m1 n1 r1 Z1
      go_wp2_with fail
      refine (sReachedBy_any _ _ _ _ T _ _ _ _ U _ _ _ _ f _ m2 hS n2 hU r2 hfl).mono ?_
      rw [HE.out]
      rintro e w3 ⟨rfl, q3⟩
      have B3 := B2.trans (q3.below w.heap.size)
      have m3 := m2.quiet q3
      have n3 := n2.quiet q3
      have r3 := r2.quiet q3
      have Z3 := Nat.le_trans Z2 (q3.below 0).size
      clear m2 n2 r2 Z2
      go_wp2_with fail
      refine (iKeepsOk_any _ _ _ _ T _ _ _ _ U _ _ _ _ f _ m3 Z3 hS n3 Z3 hU r3 Z3 hfl hfc hfc2).mono ?_
      rw [hk]
      rintro e w4 ⟨rfl, b4⟩
      have B4 := B3.trans (b4.mono B3.size)
      have m4 := m3.below b4 Z3
      have n4 := n3.below b4 Z3
      have r4 := r3.below b4 Z3
      have Z4 := Nat.le_trans Z3 b4.size
      clear m3 n3 r3 Z3
      go_wp2_with fail
      refine (iMadeBy_any _ _ _ _ U (s : Int) _ n4 Z4 hU).mono ?_
      rw [HK.out hk]
      rintro e w5 ⟨rfl, b5⟩
      have B5 := B4.trans (b5.mono B4.size)
      have m5 := m4.below b5 Z4
      have n5 := n4.below b5 Z4
      have r5 := r4.below b5 Z4
      have Z5 := Nat.le_trans Z4 b5.size
      clear m4 n4 r4 Z4
      go_wp2_with fail
      refine (iBandOk_any _ _ _ _ T _ m5 Z5 hS).mono ?_
      rw [hb]
      rintro e w6 ⟨rfl, b6⟩
      have B6 := B5.trans (b6.mono B5.size)
      have m6 := m5.below b6 Z5
      have n6 := n5.below b6 Z5
      have r6 := r5.below b6 Z5
      have Z6 := Nat.le_trans Z5 b6.size
      clear m5 n5 r5 Z5
      go_wp2_with fail
      refine (iGroupedOk_any _ _ _ _ U _ n6 Z6 hU).mono ?_
      rw [hg]
      rintro e w7 ⟨rfl, b7⟩
      have B7 := B6.trans (b7.mono B6.size)
      have m7 := m6.below b7 Z6
      have n7 := n6.below b7 Z6
      have r7 := r6.below b7 Z6
      have Z7 := Nat.le_trans Z6 b7.size
      clear m6 n6 r6 Z6
      go_wp2_with fail
      refine (iPartOf_any _ _ _ _ U (s : Int) _ n7 Z7 hU).mono ?_
      rintro e w8 ⟨A8, c8, rfl, b8, o8⟩
      have B8 := B7.trans (b8.mono B7.size)
      go_wp2_with fail
      refine (iBandOk_any _ _ _ _ _ _ o8.mat (Nat.le_refl _) small_part).mono ?_
      rw [HB.out hk hb hg]
      rintro e w9 ⟨rfl, b9⟩
      have B9 := B8.trans (b9.mono B8.size)
      go_wp2_with fail
      refine (alive_any _).mono ?_
      rintro e w10 ⟨rfl, b10⟩
      go_wp2
      go_ret
      exact ⟨rfl, B9.trans (b10.mono B9.size)⟩

end Go.Proofs.Ytnchipcpeeofaaa
