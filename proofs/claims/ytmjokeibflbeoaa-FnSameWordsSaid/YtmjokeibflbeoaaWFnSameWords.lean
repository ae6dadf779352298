/- The walk of FnSameWords. -/
import Derived.Test.YtmjokeibflbeoaaSsame
import Derived.Test.YtmjokeibflbeoaaIword
import Derived.Test.YtmjokeibflbeoaaIsame
import Derived.Test.YtmjokeibflbeoaaDrawSames
import Derived.Deep.RegionHeld3
namespace Go.Proofs.Ytmjokeibflbeoaa
open Go.RowKit
set_option linter.unusedVariables false

set_option maxRecDepth 20000 in
set_option maxHeartbeats 16000000 in
theorem fnSameWords_walk (A : Option Addr) (n c : Nat) (A' : Option Addr) (n' c' : Nat) (w : World) (h : Bytes w w.heap.size A n) (hc : n ≤ c) (hc2 : c ≤ 9223372036854775807) (h' : Bytes w w.heap.size A' n') (hc' : n' ≤ c') (hc2' : c' ≤ 9223372036854775807) :
    Calls Try.prog 3 #[.slice A n c, .slice A' n' c'] w fun e w' => e = .returned (.bool true) ∧ Below w.heap.size w w' := by
  by_cases hn : (1048576 : Int) < (n : Int)
  · go_enter Try.func3, Try.ntmps3
    go_wp2
    go_ret
    exact ⟨rfl, Below.refl _ _⟩
  by_cases hn' : (1048576 : Int) < (n' : Int)
  · go_enter Try.func3, Try.ntmps3
    go_wp2
    go_ret
    exact ⟨rfl, Below.refl _ _⟩
  · go_enter Try.func3, Try.ntmps3
    go_wp2_with fail
    refine (drawSameWords_any A n c w h hc hc2).mono ?_
    rintro e w1 ⟨u, v, rfl, hu, hv, B1⟩
    have hn1 : u.length ≤ 1048576 := by omega
    have hn2 : v.length ≤ 1048576 := by omega
    have hsz := size_bs u
    have hszv := size_bs v
    cases hw1 : okW u
    · have HS := hide (show (okW u && (okW v && sameB u v)) = false from by rw [hw1]; rfl)
      go_wp2_with fail
      refine (iSameWords_any u v _ hn1 hn2).mono ?_
      rw [HS.out]
      rintro e w2 ⟨rfl, b2⟩
      have B2 := B1.trans (b2.mono B1.size)
      go_wp2_with fail
      refine (sSameWords_any u v _ hn1 hn2).mono ?_
      rw [HS.out]
      rintro e w3 ⟨rfl, q3⟩
      have B3 := B2.trans (q3.below w.heap.size)
      go_wp2_with fail
      refine (sWordOk_any u _ hn1).mono ?_
      rw [hw1]
      rintro e w_ ⟨rfl, rfl⟩
      go_wp2_with fail
      refine (alive_any _).mono ?_
      rintro e w4 ⟨rfl, b4⟩
      go_wp2
      go_ret
      exact ⟨rfl, B3.trans (b4.mono B3.size)⟩
    · cases hw2 : okW v
      · have HS := hide (show (okW u && (okW v && sameB u v)) = false from by rw [hw1, hw2]; rfl)
        go_wp2_with fail
        refine (iSameWords_any u v _ hn1 hn2).mono ?_
        rw [HS.out]
        rintro e w2 ⟨rfl, b2⟩
        have B2 := B1.trans (b2.mono B1.size)
        go_wp2_with fail
        refine (sSameWords_any u v _ hn1 hn2).mono ?_
        rw [HS.out]
        rintro e w3 ⟨rfl, q3⟩
        have B3 := B2.trans (q3.below w.heap.size)
        go_wp2_with fail
        refine (sWordOk_any u _ hn1).mono ?_
        rw [hw1]
        rintro e w_ ⟨rfl, rfl⟩
        go_wp2_with fail
        refine (sWordOk_any v _ hn2).mono ?_
        rw [hw2]
        rintro e w_ ⟨rfl, rfl⟩
        go_wp2_with fail
        refine (alive_any _).mono ?_
        rintro e w4 ⟨rfl, b4⟩
        go_wp2
        go_ret
        exact ⟨rfl, B3.trans (b4.mono B3.size)⟩
      · cases hsm : sameB u v
        · have HS := hide (show (okW u && (okW v && sameB u v)) = false from by rw [hw1, hw2]; exact hsm)
          go_wp2_with fail
          refine (iSameWords_any u v _ hn1 hn2).mono ?_
          rw [HS.out]
          rintro e w2 ⟨rfl, b2⟩
          have B2 := B1.trans (b2.mono B1.size)
          go_wp2_with fail
          refine (sSameWords_any u v _ hn1 hn2).mono ?_
          rw [HS.out]
          rintro e w3 ⟨rfl, q3⟩
          have B3 := B2.trans (q3.below w.heap.size)
          go_wp2_with fail
          refine (sWordOk_any u _ hn1).mono ?_
          rw [hw1]
          rintro e w_ ⟨rfl, rfl⟩
          go_wp2_with fail
          refine (sWordOk_any v _ hn2).mono ?_
          rw [hw2]
          rintro e w_ ⟨rfl, rfl⟩
          go_wp2_with fail
          refine (drawWordOk_any A' n' c' _ (bytes_later h' B3) hc' hc2').mono ?_
          rintro e w4 ⟨z, rfl, hz, b4⟩
          have B4 := B3.trans (b4.mono B3.size)
          have hnz : z.length ≤ 1048576 := by omega
          have hszz := size_bs z
          cases hw3 : okW z
          · go_wp2_with fail
            refine (sWordOk_any z _ hnz).mono ?_
            rw [hw3]
            rintro e w_ ⟨rfl, rfl⟩
            have HM1 := hide (mdW_ok hw1)
            have HM2 := hide (mdW_ok hw2)
            have HVU := hide (show (okW v && (okW u && sameB v u)) = false from by rw [hw1, hw2]; exact (by cases e : sameB v u with | false => rfl | true => rw [sameB_iff.2 (sameB_iff.1 e).symm] at hsm; cases hsm))
            obtain ⟨m1, hm1⟩ : ∃ m1, m1 = made u := ⟨_, rfl⟩
            obtain ⟨m2, hm2⟩ : ∃ m2, m2 = made v := ⟨_, rfl⟩
            have hq : decide (m1 = m2) = false := by rw [hm1, hm2]; exact hsm
            have heq := eq_bs m1 m2
            rw [hq] at heq
            rw [← hm1] at HM1
            rw [← hm2] at HM2
            clear hm1 hm2 hq
            by_cases h2 : 2 * (u.length : Int) > 24
            · go_wp2_with fail
              refine (iMadeOf_any u _ hn1).mono ?_
              rw [HM1.out]
              rintro e w5 ⟨rfl, b5⟩
              have B5 := B4.trans (b5.mono B4.size)
              go_wp2_with fail
              refine (iMadeOf_any v _ hn2).mono ?_
              rw [HM2.out]
              rintro e w6 ⟨rfl, b6⟩
              have B6 := B5.trans (b6.mono B5.size)
              go_wp2_with fail
              refine (iSameWords_any v u _ hn2 hn1).mono ?_
              rw [HVU.out]
              rintro e w7 ⟨rfl, b7⟩
              have B7 := B6.trans (b7.mono B6.size)
              go_wp2
              go_ret
              exact ⟨rfl, B7⟩
            · have HUU := hide (show (okW u && (okW (u ++ u) && sameB u (u ++ u))) = true from by rw [hw1, okW_app hw1 hw1 (by omega), sameB_iff.2 (same_twice u)]; rfl)
              have hadd := fun w => add_bs (P := Try.prog) u u (by omega) w
              have hnd : (u ++ u).length ≤ 1048576 := by rw [List.length_append]; omega
              obtain ⟨x, hx⟩ : ∃ x, x = u ++ u := ⟨_, rfl⟩
              rw [← hx] at hadd hnd HUU
              clear hx
              go_wp2_with fail
              refine (iMadeOf_any u _ hn1).mono ?_
              rw [HM1.out]
              rintro e w5 ⟨rfl, b5⟩
              have B5 := B4.trans (b5.mono B4.size)
              go_wp2_with fail
              refine (iMadeOf_any v _ hn2).mono ?_
              rw [HM2.out]
              rintro e w6 ⟨rfl, b6⟩
              have B6 := B5.trans (b6.mono B5.size)
              go_wp2_with fail
              refine (iSameWords_any v u _ hn2 hn1).mono ?_
              rw [HVU.out]
              rintro e w7 ⟨rfl, b7⟩
              have B7 := B6.trans (b7.mono B6.size)
              go_wp2_with fail
              refine (iSameWords_any u x _ hn1 hnd).mono ?_
              rw [HUU.out]
              rintro e w8 ⟨rfl, b8⟩
              have B8 := B7.trans (b8.mono B7.size)
              go_wp2
              go_ret
              exact ⟨rfl, B8⟩
          · by_cases l1 : (u.length : Int) + (z.length : Int) ≤ 24
            · by_cases l2 : (v.length : Int) + (z.length : Int) ≤ 24
              · go_wp2_with fail
                refine (sWordOk_any z _ hnz).mono ?_
                rw [hw3]
                rintro e w_ ⟨rfl, rfl⟩
                have HM1 := hide (mdW_ok hw1)
                have HM2 := hide (mdW_ok hw2)
                have HVU := hide (show (okW v && (okW u && sameB v u)) = false from by rw [hw1, hw2]; exact (by cases e : sameB v u with | false => rfl | true => rw [sameB_iff.2 (sameB_iff.1 e).symm] at hsm; cases hsm))
                obtain ⟨m1, hm1⟩ : ∃ m1, m1 = made u := ⟨_, rfl⟩
                obtain ⟨m2, hm2⟩ : ∃ m2, m2 = made v := ⟨_, rfl⟩
                have hq : decide (m1 = m2) = false := by rw [hm1, hm2]; exact hsm
                have heq := eq_bs m1 m2
                rw [hq] at heq
                rw [← hm1] at HM1
                rw [← hm2] at HM2
                clear hm1 hm2 hq
                by_cases h2 : 2 * (u.length : Int) > 24
                · go_wp2_with fail
                  refine (iMadeOf_any u _ hn1).mono ?_
                  rw [HM1.out]
                  rintro e w5 ⟨rfl, b5⟩
                  have B5 := B4.trans (b5.mono B4.size)
                  go_wp2_with fail
                  refine (iMadeOf_any v _ hn2).mono ?_
                  rw [HM2.out]
                  rintro e w6 ⟨rfl, b6⟩
                  have B6 := B5.trans (b6.mono B5.size)
                  go_wp2_with fail
                  refine (iSameWords_any v u _ hn2 hn1).mono ?_
                  rw [HVU.out]
                  rintro e w7 ⟨rfl, b7⟩
                  have B7 := B6.trans (b7.mono B6.size)
                  go_wp2
                  go_ret
                  exact ⟨rfl, B7⟩
                · have HUU := hide (show (okW u && (okW (u ++ u) && sameB u (u ++ u))) = true from by rw [hw1, okW_app hw1 hw1 (by omega), sameB_iff.2 (same_twice u)]; rfl)
                  have hadd := fun w => add_bs (P := Try.prog) u u (by omega) w
                  have hnd : (u ++ u).length ≤ 1048576 := by rw [List.length_append]; omega
                  obtain ⟨x, hx⟩ : ∃ x, x = u ++ u := ⟨_, rfl⟩
                  rw [← hx] at hadd hnd HUU
                  clear hx
                  go_wp2_with fail
                  refine (iMadeOf_any u _ hn1).mono ?_
                  rw [HM1.out]
                  rintro e w5 ⟨rfl, b5⟩
                  have B5 := B4.trans (b5.mono B4.size)
                  go_wp2_with fail
                  refine (iMadeOf_any v _ hn2).mono ?_
                  rw [HM2.out]
                  rintro e w6 ⟨rfl, b6⟩
                  have B6 := B5.trans (b6.mono B5.size)
                  go_wp2_with fail
                  refine (iSameWords_any v u _ hn2 hn1).mono ?_
                  rw [HVU.out]
                  rintro e w7 ⟨rfl, b7⟩
                  have B7 := B6.trans (b7.mono B6.size)
                  go_wp2_with fail
                  refine (iSameWords_any u x _ hn1 hnd).mono ?_
                  rw [HUU.out]
                  rintro e w8 ⟨rfl, b8⟩
                  have B8 := B7.trans (b8.mono B7.size)
                  go_wp2
                  go_ret
                  exact ⟨rfl, B8⟩
              · go_wp2_with fail
                refine (sWordOk_any z _ hnz).mono ?_
                rw [hw3]
                rintro e w_ ⟨rfl, rfl⟩
                have HM1 := hide (mdW_ok hw1)
                have HM2 := hide (mdW_ok hw2)
                have HVU := hide (show (okW v && (okW u && sameB v u)) = false from by rw [hw1, hw2]; exact (by cases e : sameB v u with | false => rfl | true => rw [sameB_iff.2 (sameB_iff.1 e).symm] at hsm; cases hsm))
                obtain ⟨m1, hm1⟩ : ∃ m1, m1 = made u := ⟨_, rfl⟩
                obtain ⟨m2, hm2⟩ : ∃ m2, m2 = made v := ⟨_, rfl⟩
                have hq : decide (m1 = m2) = false := by rw [hm1, hm2]; exact hsm
                have heq := eq_bs m1 m2
                rw [hq] at heq
                rw [← hm1] at HM1
                rw [← hm2] at HM2
                clear hm1 hm2 hq
                by_cases h2 : 2 * (u.length : Int) > 24
                · go_wp2_with fail
                  refine (iMadeOf_any u _ hn1).mono ?_
                  rw [HM1.out]
                  rintro e w5 ⟨rfl, b5⟩
                  have B5 := B4.trans (b5.mono B4.size)
                  go_wp2_with fail
                  refine (iMadeOf_any v _ hn2).mono ?_
                  rw [HM2.out]
                  rintro e w6 ⟨rfl, b6⟩
                  have B6 := B5.trans (b6.mono B5.size)
                  go_wp2_with fail
                  refine (iSameWords_any v u _ hn2 hn1).mono ?_
                  rw [HVU.out]
                  rintro e w7 ⟨rfl, b7⟩
                  have B7 := B6.trans (b7.mono B6.size)
                  go_wp2
                  go_ret
                  exact ⟨rfl, B7⟩
                · have HUU := hide (show (okW u && (okW (u ++ u) && sameB u (u ++ u))) = true from by rw [hw1, okW_app hw1 hw1 (by omega), sameB_iff.2 (same_twice u)]; rfl)
                  have hadd := fun w => add_bs (P := Try.prog) u u (by omega) w
                  have hnd : (u ++ u).length ≤ 1048576 := by rw [List.length_append]; omega
                  obtain ⟨x, hx⟩ : ∃ x, x = u ++ u := ⟨_, rfl⟩
                  rw [← hx] at hadd hnd HUU
                  clear hx
                  go_wp2_with fail
                  refine (iMadeOf_any u _ hn1).mono ?_
                  rw [HM1.out]
                  rintro e w5 ⟨rfl, b5⟩
                  have B5 := B4.trans (b5.mono B4.size)
                  go_wp2_with fail
                  refine (iMadeOf_any v _ hn2).mono ?_
                  rw [HM2.out]
                  rintro e w6 ⟨rfl, b6⟩
                  have B6 := B5.trans (b6.mono B5.size)
                  go_wp2_with fail
                  refine (iSameWords_any v u _ hn2 hn1).mono ?_
                  rw [HVU.out]
                  rintro e w7 ⟨rfl, b7⟩
                  have B7 := B6.trans (b7.mono B6.size)
                  go_wp2_with fail
                  refine (iSameWords_any u x _ hn1 hnd).mono ?_
                  rw [HUU.out]
                  rintro e w8 ⟨rfl, b8⟩
                  have B8 := B7.trans (b8.mono B7.size)
                  go_wp2
                  go_ret
                  exact ⟨rfl, B8⟩
            · go_wp2_with fail
              refine (sWordOk_any z _ hnz).mono ?_
              rw [hw3]
              rintro e w_ ⟨rfl, rfl⟩
              have HM1 := hide (mdW_ok hw1)
              have HM2 := hide (mdW_ok hw2)
              have HVU := hide (show (okW v && (okW u && sameB v u)) = false from by rw [hw1, hw2]; exact (by cases e : sameB v u with | false => rfl | true => rw [sameB_iff.2 (sameB_iff.1 e).symm] at hsm; cases hsm))
              obtain ⟨m1, hm1⟩ : ∃ m1, m1 = made u := ⟨_, rfl⟩
              obtain ⟨m2, hm2⟩ : ∃ m2, m2 = made v := ⟨_, rfl⟩
              have hq : decide (m1 = m2) = false := by rw [hm1, hm2]; exact hsm
              have heq := eq_bs m1 m2
              rw [hq] at heq
              rw [← hm1] at HM1
              rw [← hm2] at HM2
              clear hm1 hm2 hq
              by_cases h2 : 2 * (u.length : Int) > 24
              · go_wp2_with fail
                refine (iMadeOf_any u _ hn1).mono ?_
                rw [HM1.out]
                rintro e w5 ⟨rfl, b5⟩
                have B5 := B4.trans (b5.mono B4.size)
                go_wp2_with fail
                refine (iMadeOf_any v _ hn2).mono ?_
                rw [HM2.out]
                rintro e w6 ⟨rfl, b6⟩
                have B6 := B5.trans (b6.mono B5.size)
                go_wp2_with fail
                refine (iSameWords_any v u _ hn2 hn1).mono ?_
                rw [HVU.out]
                rintro e w7 ⟨rfl, b7⟩
                have B7 := B6.trans (b7.mono B6.size)
                go_wp2
                go_ret
                exact ⟨rfl, B7⟩
              · have HUU := hide (show (okW u && (okW (u ++ u) && sameB u (u ++ u))) = true from by rw [hw1, okW_app hw1 hw1 (by omega), sameB_iff.2 (same_twice u)]; rfl)
                have hadd := fun w => add_bs (P := Try.prog) u u (by omega) w
                have hnd : (u ++ u).length ≤ 1048576 := by rw [List.length_append]; omega
                obtain ⟨x, hx⟩ : ∃ x, x = u ++ u := ⟨_, rfl⟩
                rw [← hx] at hadd hnd HUU
                clear hx
                go_wp2_with fail
                refine (iMadeOf_any u _ hn1).mono ?_
                rw [HM1.out]
                rintro e w5 ⟨rfl, b5⟩
                have B5 := B4.trans (b5.mono B4.size)
                go_wp2_with fail
                refine (iMadeOf_any v _ hn2).mono ?_
                rw [HM2.out]
                rintro e w6 ⟨rfl, b6⟩
                have B6 := B5.trans (b6.mono B5.size)
                go_wp2_with fail
                refine (iSameWords_any v u _ hn2 hn1).mono ?_
                rw [HVU.out]
                rintro e w7 ⟨rfl, b7⟩
                have B7 := B6.trans (b7.mono B6.size)
                go_wp2_with fail
                refine (iSameWords_any u x _ hn1 hnd).mono ?_
                rw [HUU.out]
                rintro e w8 ⟨rfl, b8⟩
                have B8 := B7.trans (b8.mono B7.size)
                go_wp2
                go_ret
                exact ⟨rfl, B8⟩
        · have HS := hide (show (okW u && (okW v && sameB u v)) = true from by rw [hw1, hw2]; exact hsm)
          go_wp2_with fail
          refine (iSameWords_any u v _ hn1 hn2).mono ?_
          rw [HS.out]
          rintro e w2 ⟨rfl, b2⟩
          have B2 := B1.trans (b2.mono B1.size)
          go_wp2_with fail
          refine (sSameWords_any u v _ hn1 hn2).mono ?_
          rw [HS.out]
          rintro e w3 ⟨rfl, q3⟩
          have B3 := B2.trans (q3.below w.heap.size)
          go_wp2_with fail
          refine (sWordOk_any u _ hn1).mono ?_
          rw [hw1]
          rintro e w_ ⟨rfl, rfl⟩
          go_wp2_with fail
          refine (sWordOk_any v _ hn2).mono ?_
          rw [hw2]
          rintro e w_ ⟨rfl, rfl⟩
          go_wp2_with fail
          refine (drawWordOk_any A' n' c' _ (bytes_later h' B3) hc' hc2').mono ?_
          rintro e w4 ⟨z, rfl, hz, b4⟩
          have B4 := B3.trans (b4.mono B3.size)
          have hnz : z.length ≤ 1048576 := by omega
          have hszz := size_bs z
          cases hw3 : okW z
          · go_wp2_with fail
            refine (sWordOk_any z _ hnz).mono ?_
            rw [hw3]
            rintro e w_ ⟨rfl, rfl⟩
            have HM1 := hide (mdW_ok hw1)
            have HM2 := hide (mdW_ok hw2)
            have HVU := hide (show (okW v && (okW u && sameB v u)) = true from by rw [hw1, hw2]; exact sameB_iff.2 (sameB_iff.1 hsm).symm)
            obtain ⟨m1, hm1⟩ : ∃ m1, m1 = made u := ⟨_, rfl⟩
            obtain ⟨m2, hm2⟩ : ∃ m2, m2 = made v := ⟨_, rfl⟩
            have hq : decide (m1 = m2) = true := by rw [hm1, hm2]; exact hsm
            have heq := eq_bs m1 m2
            rw [hq] at heq
            rw [← hm1] at HM1
            rw [← hm2] at HM2
            clear hm1 hm2 hq
            by_cases h2 : 2 * (u.length : Int) > 24
            · go_wp2_with fail
              refine (iMadeOf_any u _ hn1).mono ?_
              rw [HM1.out]
              rintro e w5 ⟨rfl, b5⟩
              have B5 := B4.trans (b5.mono B4.size)
              go_wp2_with fail
              refine (iMadeOf_any v _ hn2).mono ?_
              rw [HM2.out]
              rintro e w6 ⟨rfl, b6⟩
              have B6 := B5.trans (b6.mono B5.size)
              go_wp2_with fail
              refine (iSameWords_any v u _ hn2 hn1).mono ?_
              rw [HVU.out]
              rintro e w7 ⟨rfl, b7⟩
              have B7 := B6.trans (b7.mono B6.size)
              go_wp2
              go_ret
              exact ⟨rfl, B7⟩
            · have HUU := hide (show (okW u && (okW (u ++ u) && sameB u (u ++ u))) = true from by rw [hw1, okW_app hw1 hw1 (by omega), sameB_iff.2 (same_twice u)]; rfl)
              have hadd := fun w => add_bs (P := Try.prog) u u (by omega) w
              have hnd : (u ++ u).length ≤ 1048576 := by rw [List.length_append]; omega
              obtain ⟨x, hx⟩ : ∃ x, x = u ++ u := ⟨_, rfl⟩
              rw [← hx] at hadd hnd HUU
              clear hx
              go_wp2_with fail
              refine (iMadeOf_any u _ hn1).mono ?_
              rw [HM1.out]
              rintro e w5 ⟨rfl, b5⟩
              have B5 := B4.trans (b5.mono B4.size)
              go_wp2_with fail
              refine (iMadeOf_any v _ hn2).mono ?_
              rw [HM2.out]
              rintro e w6 ⟨rfl, b6⟩
              have B6 := B5.trans (b6.mono B5.size)
              go_wp2_with fail
              refine (iSameWords_any v u _ hn2 hn1).mono ?_
              rw [HVU.out]
              rintro e w7 ⟨rfl, b7⟩
              have B7 := B6.trans (b7.mono B6.size)
              go_wp2_with fail
              refine (iSameWords_any u x _ hn1 hnd).mono ?_
              rw [HUU.out]
              rintro e w8 ⟨rfl, b8⟩
              have B8 := B7.trans (b8.mono B7.size)
              go_wp2
              go_ret
              exact ⟨rfl, B8⟩
          · by_cases l1 : (u.length : Int) + (z.length : Int) ≤ 24
            · by_cases l2 : (v.length : Int) + (z.length : Int) ≤ 24
              · have a1 := fun w => add_bs (P := Try.prog) z u (by omega) w
                have a2 := fun w => add_bs (P := Try.prog) z v (by omega) w
                have a3 := fun w => add_bs (P := Try.prog) u z (by omega) w
                have a4 := fun w => add_bs (P := Try.prog) v z (by omega) w
                have y1 : (z ++ u).length ≤ 1048576 := by rw [List.length_append]; omega
                have y2 : (z ++ v).length ≤ 1048576 := by rw [List.length_append]; omega
                have y3 : (u ++ z).length ≤ 1048576 := by rw [List.length_append]; omega
                have y4 : (v ++ z).length ≤ 1048576 := by rw [List.length_append]; omega
                have HL := hide (show (okW (z ++ u) && (okW (z ++ v) && sameB (z ++ u) (z ++ v))) = true from by rw [okW_app hw3 hw1 (by omega), okW_app hw3 hw2 (by omega), sameB_iff.2 ((sameB_iff.1 hsm).left z)]; rfl)
                have HR := hide (show (okW (u ++ z) && (okW (v ++ z) && sameB (u ++ z) (v ++ z))) = true from by rw [okW_app hw1 hw3 (by omega), okW_app hw2 hw3 (by omega), sameB_iff.2 ((sameB_iff.1 hsm).right z)]; rfl)
                obtain ⟨s1, hs1⟩ : ∃ s1, s1 = z ++ u := ⟨_, rfl⟩
                obtain ⟨s2, hs2⟩ : ∃ s2, s2 = z ++ v := ⟨_, rfl⟩
                obtain ⟨s3, hs3⟩ : ∃ s3, s3 = u ++ z := ⟨_, rfl⟩
                obtain ⟨s4, hs4⟩ : ∃ s4, s4 = v ++ z := ⟨_, rfl⟩
                rw [← hs1] at a1 y1 HL
                rw [← hs2] at a2 y2 HL
                rw [← hs3] at a3 y3 HR
                rw [← hs4] at a4 y4 HR
                clear hs1 hs2 hs3 hs4
                go_wp2_with fail
                refine (sWordOk_any z _ hnz).mono ?_
                rw [hw3]
                rintro e w_ ⟨rfl, rfl⟩
                go_wp2_with fail
                refine (iSameWords_any s1 s2 _ y1 y2).mono ?_
                rw [HL.out]
                rintro e w5 ⟨rfl, b5⟩
                have B5 := B4.trans (b5.mono B4.size)
                go_wp2_with fail
                refine (iSameWords_any s3 s4 _ y3 y4).mono ?_
                rw [HR.out]
                rintro e w6 ⟨rfl, b6⟩
                have B6 := B5.trans (b6.mono B5.size)
                have HM1 := hide (mdW_ok hw1)
                have HM2 := hide (mdW_ok hw2)
                have HVU := hide (show (okW v && (okW u && sameB v u)) = true from by rw [hw1, hw2]; exact sameB_iff.2 (sameB_iff.1 hsm).symm)
                obtain ⟨m1, hm1⟩ : ∃ m1, m1 = made u := ⟨_, rfl⟩
                obtain ⟨m2, hm2⟩ : ∃ m2, m2 = made v := ⟨_, rfl⟩
                have hq : decide (m1 = m2) = true := by rw [hm1, hm2]; exact hsm
                have heq := eq_bs m1 m2
                rw [hq] at heq
                rw [← hm1] at HM1
                rw [← hm2] at HM2
                clear hm1 hm2 hq
                by_cases h2 : 2 * (u.length : Int) > 24
                · go_wp2_with fail
                  refine (iMadeOf_any u _ hn1).mono ?_
                  rw [HM1.out]
                  rintro e w7 ⟨rfl, b7⟩
                  have B7 := B6.trans (b7.mono B6.size)
                  go_wp2_with fail
                  refine (iMadeOf_any v _ hn2).mono ?_
                  rw [HM2.out]
                  rintro e w8 ⟨rfl, b8⟩
                  have B8 := B7.trans (b8.mono B7.size)
                  go_wp2_with fail
                  refine (iSameWords_any v u _ hn2 hn1).mono ?_
                  rw [HVU.out]
                  rintro e w9 ⟨rfl, b9⟩
                  have B9 := B8.trans (b9.mono B8.size)
                  go_wp2
                  go_ret
                  exact ⟨rfl, B9⟩
                · have HUU := hide (show (okW u && (okW (u ++ u) && sameB u (u ++ u))) = true from by rw [hw1, okW_app hw1 hw1 (by omega), sameB_iff.2 (same_twice u)]; rfl)
                  have hadd := fun w => add_bs (P := Try.prog) u u (by omega) w
                  have hnd : (u ++ u).length ≤ 1048576 := by rw [List.length_append]; omega
                  obtain ⟨x, hx⟩ : ∃ x, x = u ++ u := ⟨_, rfl⟩
                  rw [← hx] at hadd hnd HUU
                  clear hx
                  go_wp2_with fail
                  refine (iMadeOf_any u _ hn1).mono ?_
                  rw [HM1.out]
                  rintro e w7 ⟨rfl, b7⟩
                  have B7 := B6.trans (b7.mono B6.size)
                  go_wp2_with fail
                  refine (iMadeOf_any v _ hn2).mono ?_
                  rw [HM2.out]
                  rintro e w8 ⟨rfl, b8⟩
                  have B8 := B7.trans (b8.mono B7.size)
                  go_wp2_with fail
                  refine (iSameWords_any v u _ hn2 hn1).mono ?_
                  rw [HVU.out]
                  rintro e w9 ⟨rfl, b9⟩
                  have B9 := B8.trans (b9.mono B8.size)
                  go_wp2_with fail
                  refine (iSameWords_any u x _ hn1 hnd).mono ?_
                  rw [HUU.out]
                  rintro e w10 ⟨rfl, b10⟩
                  have B10 := B9.trans (b10.mono B9.size)
                  go_wp2
                  go_ret
                  exact ⟨rfl, B10⟩
              · go_wp2_with fail
                refine (sWordOk_any z _ hnz).mono ?_
                rw [hw3]
                rintro e w_ ⟨rfl, rfl⟩
                have HM1 := hide (mdW_ok hw1)
                have HM2 := hide (mdW_ok hw2)
                have HVU := hide (show (okW v && (okW u && sameB v u)) = true from by rw [hw1, hw2]; exact sameB_iff.2 (sameB_iff.1 hsm).symm)
                obtain ⟨m1, hm1⟩ : ∃ m1, m1 = made u := ⟨_, rfl⟩
                obtain ⟨m2, hm2⟩ : ∃ m2, m2 = made v := ⟨_, rfl⟩
                have hq : decide (m1 = m2) = true := by rw [hm1, hm2]; exact hsm
                have heq := eq_bs m1 m2
                rw [hq] at heq
                rw [← hm1] at HM1
                rw [← hm2] at HM2
                clear hm1 hm2 hq
                by_cases h2 : 2 * (u.length : Int) > 24
                · go_wp2_with fail
                  refine (iMadeOf_any u _ hn1).mono ?_
                  rw [HM1.out]
                  rintro e w5 ⟨rfl, b5⟩
                  have B5 := B4.trans (b5.mono B4.size)
                  go_wp2_with fail
                  refine (iMadeOf_any v _ hn2).mono ?_
                  rw [HM2.out]
                  rintro e w6 ⟨rfl, b6⟩
                  have B6 := B5.trans (b6.mono B5.size)
                  go_wp2_with fail
                  refine (iSameWords_any v u _ hn2 hn1).mono ?_
                  rw [HVU.out]
                  rintro e w7 ⟨rfl, b7⟩
                  have B7 := B6.trans (b7.mono B6.size)
                  go_wp2
                  go_ret
                  exact ⟨rfl, B7⟩
                · have HUU := hide (show (okW u && (okW (u ++ u) && sameB u (u ++ u))) = true from by rw [hw1, okW_app hw1 hw1 (by omega), sameB_iff.2 (same_twice u)]; rfl)
                  have hadd := fun w => add_bs (P := Try.prog) u u (by omega) w
                  have hnd : (u ++ u).length ≤ 1048576 := by rw [List.length_append]; omega
                  obtain ⟨x, hx⟩ : ∃ x, x = u ++ u := ⟨_, rfl⟩
                  rw [← hx] at hadd hnd HUU
                  clear hx
                  go_wp2_with fail
                  refine (iMadeOf_any u _ hn1).mono ?_
                  rw [HM1.out]
                  rintro e w5 ⟨rfl, b5⟩
                  have B5 := B4.trans (b5.mono B4.size)
                  go_wp2_with fail
                  refine (iMadeOf_any v _ hn2).mono ?_
                  rw [HM2.out]
                  rintro e w6 ⟨rfl, b6⟩
                  have B6 := B5.trans (b6.mono B5.size)
                  go_wp2_with fail
                  refine (iSameWords_any v u _ hn2 hn1).mono ?_
                  rw [HVU.out]
                  rintro e w7 ⟨rfl, b7⟩
                  have B7 := B6.trans (b7.mono B6.size)
                  go_wp2_with fail
                  refine (iSameWords_any u x _ hn1 hnd).mono ?_
                  rw [HUU.out]
                  rintro e w8 ⟨rfl, b8⟩
                  have B8 := B7.trans (b8.mono B7.size)
                  go_wp2
                  go_ret
                  exact ⟨rfl, B8⟩
            · go_wp2_with fail
              refine (sWordOk_any z _ hnz).mono ?_
              rw [hw3]
              rintro e w_ ⟨rfl, rfl⟩
              have HM1 := hide (mdW_ok hw1)
              have HM2 := hide (mdW_ok hw2)
              have HVU := hide (show (okW v && (okW u && sameB v u)) = true from by rw [hw1, hw2]; exact sameB_iff.2 (sameB_iff.1 hsm).symm)
              obtain ⟨m1, hm1⟩ : ∃ m1, m1 = made u := ⟨_, rfl⟩
              obtain ⟨m2, hm2⟩ : ∃ m2, m2 = made v := ⟨_, rfl⟩
              have hq : decide (m1 = m2) = true := by rw [hm1, hm2]; exact hsm
              have heq := eq_bs m1 m2
              rw [hq] at heq
              rw [← hm1] at HM1
              rw [← hm2] at HM2
              clear hm1 hm2 hq
              by_cases h2 : 2 * (u.length : Int) > 24
              · go_wp2_with fail
                refine (iMadeOf_any u _ hn1).mono ?_
                rw [HM1.out]
                rintro e w5 ⟨rfl, b5⟩
                have B5 := B4.trans (b5.mono B4.size)
                go_wp2_with fail
                refine (iMadeOf_any v _ hn2).mono ?_
                rw [HM2.out]
                rintro e w6 ⟨rfl, b6⟩
                have B6 := B5.trans (b6.mono B5.size)
                go_wp2_with fail
                refine (iSameWords_any v u _ hn2 hn1).mono ?_
                rw [HVU.out]
                rintro e w7 ⟨rfl, b7⟩
                have B7 := B6.trans (b7.mono B6.size)
                go_wp2
                go_ret
                exact ⟨rfl, B7⟩
              · have HUU := hide (show (okW u && (okW (u ++ u) && sameB u (u ++ u))) = true from by rw [hw1, okW_app hw1 hw1 (by omega), sameB_iff.2 (same_twice u)]; rfl)
                have hadd := fun w => add_bs (P := Try.prog) u u (by omega) w
                have hnd : (u ++ u).length ≤ 1048576 := by rw [List.length_append]; omega
                obtain ⟨x, hx⟩ : ∃ x, x = u ++ u := ⟨_, rfl⟩
                rw [← hx] at hadd hnd HUU
                clear hx
                go_wp2_with fail
                refine (iMadeOf_any u _ hn1).mono ?_
                rw [HM1.out]
                rintro e w5 ⟨rfl, b5⟩
                have B5 := B4.trans (b5.mono B4.size)
                go_wp2_with fail
                refine (iMadeOf_any v _ hn2).mono ?_
                rw [HM2.out]
                rintro e w6 ⟨rfl, b6⟩
                have B6 := B5.trans (b6.mono B5.size)
                go_wp2_with fail
                refine (iSameWords_any v u _ hn2 hn1).mono ?_
                rw [HVU.out]
                rintro e w7 ⟨rfl, b7⟩
                have B7 := B6.trans (b7.mono B6.size)
                go_wp2_with fail
                refine (iSameWords_any u x _ hn1 hnd).mono ?_
                rw [HUU.out]
                rintro e w8 ⟨rfl, b8⟩
                have B8 := B7.trans (b8.mono B7.size)
                go_wp2
                go_ret
                exact ⟨rfl, B8⟩

end Go.Proofs.Ytmjokeibflbeoaa
