/- The walk of FnLettersIn. -/
import Derived.Test.YtjpdfkmlcjkcmaaSword
import Derived.Test.YtjpdfkmlcjkcmaaIword
import Derived.Test.YtjpdfkmlcjkcmaaDrawWords
import Derived.Deep.RegionHeld3
namespace Go.Proofs.Ytjpdfkmlcjkcmaa
open Go.RowKit
set_option linter.unusedVariables false

set_option maxRecDepth 20000 in
set_option maxHeartbeats 8000000 in
theorem fnLettersIn_walk (A : Option Addr) (n c : Nat) (w : World) (h : Bytes w w.heap.size A n) (hc : n ≤ c) (hc2 : c ≤ 9223372036854775807) :
    Calls Try.prog 4 #[.slice A n c] w fun e w' => e = .returned (.bool true) ∧ Below w.heap.size w w' := by
  by_cases hn : (1048576 : Int) < (n : Int)
  · go_enter Try.func4, Try.ntmps4
    go_wp2
    go_ret
    exact ⟨rfl, Below.refl _ _⟩
  · go_enter Try.func4, Try.ntmps4
    go_wp2_with fail
    refine (drawLettersIn_any A n c w h hc hc2).mono ?_
    rintro e w1 ⟨u, rfl, hu, B1⟩
    have hn1 : u.length ≤ 1048576 := by omega
    have hsz := size_bs u
    cases hw : okW u
    · have HE := hide (letN_not hw)
      go_wp2_with fail
      refine (iLettersIn_any u _ hn1).mono ?_
      rw [HE.out]
      rintro e w2 ⟨rfl, b2⟩
      have B2 := B1.trans (b2.mono B1.size)
      go_wp2_with fail
      refine (sLettersIn_any u _ hn1).mono ?_
      rw [HE.out]
      rintro e w_ ⟨rfl, rfl⟩
      go_wp2_with fail
      refine (alive_any _).mono ?_
      rintro e w3 ⟨rfl, b3⟩
      go_wp2
      go_ret
      exact ⟨rfl, B2.trans (b3.mono B2.size)⟩
    · obtain ⟨r1, r7⟩ := ltr_range hw
      have HE := hide (letN_ok hw)
      have HR := hide (rndW_ok hw)
      have hrv : okW u.reverse = true := by rw [okW_rev]; exact hw
      have HV := hide ((letN_mem hrv hw (fun c => by simp)).trans (letN_ok hw))
      have HC := hide (show letN [99, 97, 98] = 7 from by decide)
      have l24 := (okW_iff.1 hw).2.2
      have hnr : u.reverse.length ≤ 1048576 := by rw [List.length_reverse]; exact hn1
      have r0 : ¬ ((ltr u : Nat) : Int) < 0 := by omega
      have r1i : (1 : Int) ≤ ((ltr u : Nat) : Int) := by omega
      have r7i : ((ltr u : Nat) : Int) ≤ 7 := by omega
      by_cases h2 : 2 * (u.length : Int) > 24
      · go_wp2_with fail
        refine (iLettersIn_any u _ hn1).mono ?_
        rw [HE.out]
        rintro e w2 ⟨rfl, b2⟩
        have B2 := B1.trans (b2.mono B1.size)
        go_wp2_with fail
        refine (sLettersIn_any u _ hn1).mono ?_
        rw [HE.out]
        rintro e w_ ⟨rfl, rfl⟩
        go_wp2_with fail
        refine (iRoundOf_any u _ hn1).mono ?_
        rw [HR.out]
        rintro e w3 ⟨rfl, b3⟩
        have B3 := B2.trans (b3.mono B2.size)
        go_wp2_with fail
        refine (iLettersIn_any u.reverse _ hnr).mono ?_
        rw [HV.out]
        rintro e w4 ⟨rfl, b4⟩
        have B4 := B3.trans (b4.mono B3.size)
        go_wp2_with fail
        refine (iLettersIn_any [99, 97, 98] _ (by simp)).mono ?_
        rw [HC.out]
        rintro e w5 ⟨rfl, b5⟩
        have B5 := B4.trans (b5.mono B4.size)
        go_wp2
        go_ret
        exact ⟨rfl, B5⟩
      · have HT := hide ((letN_mem (okW_app hw hw (by omega)) hw (fun c => by simp)).trans (letN_ok hw))
        have hadd := fun w => add_bs (P := Try.prog) u u (by omega) w
        have hnd : (u ++ u).length ≤ 1048576 := by rw [List.length_append]; omega
        go_wp2_with fail
        refine (iLettersIn_any u _ hn1).mono ?_
        rw [HE.out]
        rintro e w2 ⟨rfl, b2⟩
        have B2 := B1.trans (b2.mono B1.size)
        go_wp2_with fail
        refine (sLettersIn_any u _ hn1).mono ?_
        rw [HE.out]
        rintro e w_ ⟨rfl, rfl⟩
        go_wp2_with fail
        refine (iLettersIn_any (u ++ u) _ hnd).mono ?_
        rw [HT.out]
        rintro e w3 ⟨rfl, b3⟩
        have B3 := B2.trans (b3.mono B2.size)
        go_wp2_with fail
        refine (iRoundOf_any u _ hn1).mono ?_
        rw [HR.out]
        rintro e w4 ⟨rfl, b4⟩
        have B4 := B3.trans (b4.mono B3.size)
        go_wp2_with fail
        refine (iLettersIn_any u.reverse _ hnr).mono ?_
        rw [HV.out]
        rintro e w5 ⟨rfl, b5⟩
        have B5 := B4.trans (b5.mono B4.size)
        go_wp2_with fail
        refine (iLettersIn_any [99, 97, 98] _ (by simp)).mono ?_
        rw [HC.out]
        rintro e w6 ⟨rfl, b6⟩
        have B6 := B5.trans (b6.mono B5.size)
        go_wp2
        go_ret
        exact ⟨rfl, B6⟩

end Go.Proofs.Ytjpdfkmlcjkcmaa
