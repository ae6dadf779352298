/- The walk of FnWordOk. -/
import Derived.Test.YtjpdfkmlcjkcmaaSword
import Derived.Test.YtjpdfkmlcjkcmaaIword
import Derived.Test.YtjpdfkmlcjkcmaaDrawWords
import Derived.Deep.RegionHeld3
namespace Go.Proofs.Ytjpdfkmlcjkcmaa
open Go.RowKit
set_option linter.unusedVariables false

set_option maxRecDepth 20000 in
set_option maxHeartbeats 16000000 in
theorem fnWordOk_walk (A : Option Addr) (n c : Nat) (A' : Option Addr) (n' c' : Nat) (w : World) (h : Bytes w w.heap.size A n) (hc : n ≤ c) (hc2 : c ≤ 9223372036854775807) (h' : Bytes w w.heap.size A' n') (hc' : n' ≤ c') (hc2' : c' ≤ 9223372036854775807) :
    Calls Try.prog 3 #[.slice A n c, .slice A' n' c'] w fun e w' => e = .returned (.bool true) ∧ Below w.heap.size w w' := by
  by_cases hn : (1048576 : Int) < (n : Int)
  · go_enter Try.func3, Try.ntmps3
    go_wp2
    go_ret
    exact ⟨rfl, Below.refl _ _⟩
  by_cases hn' : (1048576 : Int) < (n' : Int)
  · go_enter Try.func3, Try.ntmps3
    go_wp2
    go_ret
    exact ⟨rfl, Below.refl _ _⟩
  · go_enter Try.func3, Try.ntmps3
    go_wp2_with fail
    refine (drawWordOk_any A n c w h hc hc2).mono ?_
    rintro e w1 ⟨u, rfl, hu, B1⟩
    have hn1 : u.length ≤ 1048576 := by omega
    have hsz := size_bs u
    have HC1 := hide (show okW [97] = true from by decide)
    have HC0 := hide (show okW [] = false from by decide)
    cases hw : okW u
    · go_wp2_with fail
      refine (iWordOk_any u _ hn1).mono ?_
      rw [hw]
      rintro e w2 ⟨rfl, b2⟩
      have B2 := B1.trans (b2.mono B1.size)
      go_wp2_with fail
      refine (sWordOk_any u _ hn1).mono ?_
      rw [hw]
      rintro e w_ ⟨rfl, rfl⟩
      go_wp2_with fail
      refine (drawWordOk_any A' n' c' _ (bytes_later h' B2) hc' hc2').mono ?_
      rintro e w3 ⟨v, rfl, hv, b3⟩
      have B3 := B2.trans (b3.mono B2.size)
      have hnv : v.length ≤ 1048576 := by omega
      have hszv := size_bs v
      by_cases h24 : (24 : Int) < (u.length : Int) + (v.length : Int)
      · go_wp2_with fail
        refine (iWordOk_any [97] _ (by simp)).mono ?_
        rw [HC1.out]
        rintro e w4 ⟨rfl, b4⟩
        have B4 := B3.trans (b4.mono B3.size)
        go_wp2_with fail
        refine (iWordOk_any [] _ (by simp)).mono ?_
        rw [HC0.out]
        rintro e w5 ⟨rfl, b5⟩
        have B5 := B4.trans (b5.mono B4.size)
        go_wp2_with fail
        refine (alive_any _).mono ?_
        rintro e w6 ⟨rfl, b6⟩
        go_wp2
        go_ret
        exact ⟨rfl, B5.trans (b6.mono B5.size)⟩
      · go_wp2_with fail
        refine (iWordOk_any [97] _ (by simp)).mono ?_
        rw [HC1.out]
        rintro e w4 ⟨rfl, b4⟩
        have B4 := B3.trans (b4.mono B3.size)
        go_wp2_with fail
        refine (iWordOk_any [] _ (by simp)).mono ?_
        rw [HC0.out]
        rintro e w5 ⟨rfl, b5⟩
        have B5 := B4.trans (b5.mono B4.size)
        go_wp2_with fail
        refine (alive_any _).mono ?_
        rintro e w6 ⟨rfl, b6⟩
        go_wp2
        go_ret
        exact ⟨rfl, B5.trans (b6.mono B5.size)⟩
    · go_wp2_with fail
      refine (iWordOk_any u _ hn1).mono ?_
      rw [hw]
      rintro e w2 ⟨rfl, b2⟩
      have B2 := B1.trans (b2.mono B1.size)
      go_wp2_with fail
      refine (sWordOk_any u _ hn1).mono ?_
      rw [hw]
      rintro e w_ ⟨rfl, rfl⟩
      go_wp2_with fail
      refine (drawWordOk_any A' n' c' _ (bytes_later h' B2) hc' hc2').mono ?_
      rintro e w3 ⟨v, rfl, hv, b3⟩
      have B3 := B2.trans (b3.mono B2.size)
      have hnv : v.length ≤ 1048576 := by omega
      have hszv := size_bs v
      by_cases h24 : (24 : Int) < (u.length : Int) + (v.length : Int)
      · go_wp2_with fail
        refine (iWordOk_any [97] _ (by simp)).mono ?_
        rw [HC1.out]
        rintro e w4 ⟨rfl, b4⟩
        have B4 := B3.trans (b4.mono B3.size)
        go_wp2_with fail
        refine (iWordOk_any [] _ (by simp)).mono ?_
        rw [HC0.out]
        rintro e w5 ⟨rfl, b5⟩
        have B5 := B4.trans (b5.mono B4.size)
        go_wp2_with fail
        refine (alive_any _).mono ?_
        rintro e w6 ⟨rfl, b6⟩
        go_wp2
        go_ret
        exact ⟨rfl, B5.trans (b6.mono B5.size)⟩
      · cases hv2 : okW v
        · go_wp2_with fail
          refine (iWordOk_any v _ hnv).mono ?_
          rw [hv2]
          rintro e w4 ⟨rfl, b4⟩
          have B4 := B3.trans (b4.mono B3.size)
          go_wp2_with fail
          refine (iWordOk_any [97] _ (by simp)).mono ?_
          rw [HC1.out]
          rintro e w5 ⟨rfl, b5⟩
          have B5 := B4.trans (b5.mono B4.size)
          go_wp2_with fail
          refine (iWordOk_any [] _ (by simp)).mono ?_
          rw [HC0.out]
          rintro e w6 ⟨rfl, b6⟩
          have B6 := B5.trans (b6.mono B5.size)
          go_wp2_with fail
          refine (alive_any _).mono ?_
          rintro e w7 ⟨rfl, b7⟩
          go_wp2
          go_ret
          exact ⟨rfl, B6.trans (b7.mono B6.size)⟩
        · have HA := hide (okW_app hw hv2 (by omega))
          have hadd := fun w => add_bs (P := Try.prog) u v (by omega) w
          have hnuv : (u ++ v).length ≤ 1048576 := by rw [List.length_append]; omega
          obtain ⟨x, hx⟩ : ∃ x, x = u ++ v := ⟨_, rfl⟩
          rw [← hx] at hadd hnuv HA
          clear hx
          go_wp2_with fail
          refine (iWordOk_any v _ hnv).mono ?_
          rw [hv2]
          rintro e w4 ⟨rfl, b4⟩
          have B4 := B3.trans (b4.mono B3.size)
          go_wp2_with fail
          refine (iWordOk_any x _ hnuv).mono ?_
          rw [HA.out]
          rintro e w5 ⟨rfl, b5⟩
          have B5 := B4.trans (b5.mono B4.size)
          go_wp2_with fail
          refine (iWordOk_any [97] _ (by simp)).mono ?_
          rw [HC1.out]
          rintro e w6 ⟨rfl, b6⟩
          have B6 := B5.trans (b6.mono B5.size)
          go_wp2_with fail
          refine (iWordOk_any [] _ (by simp)).mono ?_
          rw [HC0.out]
          rintro e w7 ⟨rfl, b7⟩
          have B7 := B6.trans (b7.mono B6.size)
          go_wp2_with fail
          refine (alive_any _).mono ?_
          rintro e w8 ⟨rfl, b8⟩
          go_wp2
          go_ret
          exact ⟨rfl, B7.trans (b8.mono B7.size)⟩

end Go.Proofs.Ytjpdfkmlcjkcmaa
