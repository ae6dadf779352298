/- The walk of FnMadeOf. -/
import Derived.Test.YtmjokeibflbeoaaSsame
import Derived.Test.YtmjokeibflbeoaaIword
import Derived.Test.YtmjokeibflbeoaaIsame
import Derived.Test.YtmjokeibflbeoaaDrawSames
import Derived.Deep.RegionHeld3
namespace Go.Proofs.Ytmjokeibflbeoaa
open Go.RowKit
set_option linter.unusedVariables false

set_option maxRecDepth 20000 in
set_option maxHeartbeats 8000000 in
theorem fnMadeOf_walk (A : Option Addr) (n c : Nat) (w : World) (h : Bytes w w.heap.size A n) (hc : n ≤ c) (hc2 : c ≤ 9223372036854775807) :
    Calls Try.prog 4 #[.slice A n c] w fun e w' => e = .returned (.bool true) ∧ Below w.heap.size w w' := by
  by_cases hn : (1048576 : Int) < (n : Int)
  · go_enter Try.func4, Try.ntmps4
    go_wp2
    go_ret
    exact ⟨rfl, Below.refl _ _⟩
  · go_enter Try.func4, Try.ntmps4
    go_wp2_with fail
    refine (drawMadeOf_any A n c w h hc hc2).mono ?_
    rintro e w1 ⟨u, rfl, hu, B1⟩
    have hn1 : u.length ≤ 1048576 := by omega
    have hsz := size_bs u
    cases hw : okW u
    · have HE := hide (mdW_not hw)
      have hb0 := toList_bs []
      go_wp2_with fail
      refine (iMadeOf_any u _ hn1).mono ?_
      rw [HE.out]
      rintro e w2 ⟨rfl, b2⟩
      have B2 := B1.trans (b2.mono B1.size)
      go_wp2_with fail
      refine (sMadeOf_any u _ hn1).mono ?_
      rw [HE.out]
      rintro e w3 ⟨rfl, q3⟩
      have B3 := B2.trans (q3.below w.heap.size)
      go_wp2_with fail
      refine (iWordOk_any u _ hn1).mono ?_
      rw [hw]
      rintro e w4 ⟨rfl, b4⟩
      have B4 := B3.trans (b4.mono B3.size)
      go_wp2_with fail
      refine (alive_any _).mono ?_
      rintro e w5 ⟨rfl, b5⟩
      go_wp2
      go_ret
      exact ⟨rfl, B4.trans (b5.mono B4.size)⟩
    · have HE := hide (mdW_ok hw)
      have hmk := okW_made hw
      have hms := made_short hw
      have hne : made u ≠ [] := made_ne (okW_ne hw)
      have HS := hide (show (okW (made u) && (okW u && sameB (made u) u)) = true from by rw [hmk, hw, sameB_iff.2 (same_made u)]; rfl)
      have HM := hide (show mdW (made u) = made u from by rw [mdW_ok hmk, made_made])
      obtain ⟨x, hx⟩ : ∃ x, x = made u := ⟨_, rfl⟩
      rw [← hx] at HE hms hne HS HM
      clear hx hmk
      have hnx : x.length ≤ 1048576 := by omega
      have hsx := size_bs x
      have h10 := decide_eq_true (show (x.length : Int) ≤ 10 by omega)
      have hx1 : ((bs x).toList == []) = false := by rw [toList_bs]; simpa using hne
      have hx2 : (bs x).toList.isEmpty = false := by rw [toList_bs]; simpa using hne
      have hx3 : ¬ (bs x).toList = [] := by rw [toList_bs]; exact hne
      clear hne
      go_wp2_with fail
      refine (iMadeOf_any u _ hn1).mono ?_
      rw [HE.out]
      rintro e w2 ⟨rfl, b2⟩
      have B2 := B1.trans (b2.mono B1.size)
      go_wp2_with fail
      refine (sMadeOf_any u _ hn1).mono ?_
      rw [HE.out]
      rintro e w3 ⟨rfl, q3⟩
      have B3 := B2.trans (q3.below w.heap.size)
      go_wp2_with fail
      refine (iSameWords_any x u _ hnx hn1).mono ?_
      rw [HS.out]
      rintro e w4 ⟨rfl, b4⟩
      have B4 := B3.trans (b4.mono B3.size)
      go_wp2_with fail
      refine (iMadeOf_any x _ hnx).mono ?_
      rw [HM.out]
      rintro e w5 ⟨rfl, b5⟩
      have B5 := B4.trans (b5.mono B4.size)
      go_wp2
      go_ret
      exact ⟨rfl, B5⟩

end Go.Proofs.Ytmjokeibflbeoaa
