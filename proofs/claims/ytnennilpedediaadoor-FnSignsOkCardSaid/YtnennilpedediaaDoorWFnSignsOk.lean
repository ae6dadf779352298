/- The walk of FnSignsOk. -/
import Derived.Test.YtnennilpedediaaDoorSsignT
import Derived.Test.YtnennilpedediaaDoorIsignB
import Derived.Test.YtnennilpedediaaDoorDrawSigns
import Derived.Deep.RegionHeld3
namespace Go.Proofs.YtnennilpedediaaDoor
open Go.RowKit
set_option linter.unusedVariables false

set_option maxRecDepth 20000 in
set_option maxHeartbeats 16000000 in
theorem fnSignsOk_walk (A : Option Addr) (n c : Nat) (w : World) (h : Bytes w w.heap.size A n) (hc : n ≤ c) (hc2 : c ≤ 9223372036854775807) :
    Calls Tryd.prog 3 #[.slice A n c] w fun e w' => e = .returned (.bool true) ∧ Below w.heap.size w w' := by
  by_cases hn : (1048576 : Int) < (n : Int)
  · go_enter Tryd.func3, Tryd.ntmps3
    go_wp2
    go_ret
    exact ⟨rfl, Below.refl _ _⟩
  · go_enter Tryd.func3, Tryd.ntmps3
    go_wp2_with fail
    refine (drawSignsOk_any A n c w h hc hc2).mono ?_
    rintro e w1 ⟨u, rfl, hu, B1⟩
    have hn1 : u.length ≤ 1048576 := by omega
    have hsz := size_bs u
    have o0 : okG [48] = true := by decide
    have o1 : okG [] = false := by decide
    cases hok : okG u
    · go_wp2_with fail
      refine (iSignsOk_any u _ hn1).mono ?_
      rw [hok]
      rintro e w2 ⟨rfl, b2⟩
      have B2 := B1.trans (b2.mono B1.size)
      go_wp2_with fail
      refine (sSignsOk_any u _ hn1).mono ?_
      rw [hok]
      rintro e w_ ⟨rfl, rfl⟩
      go_wp2_with fail
      refine (show Calls _ _ #[.string ⟨#[48]⟩] _ _ from iSignsOk_any [48] _ (by simp)).mono ?_
      rw [o0]
      rintro e w3 ⟨rfl, b3⟩
      have B3 := B2.trans (b3.mono B2.size)
      go_wp2_with fail
      refine (show Calls _ _ #[.string ⟨#[]⟩] _ _ from iSignsOk_any [] _ (by simp)).mono ?_
      rw [o1]
      rintro e w4 ⟨rfl, b4⟩
      have B4 := B3.trans (b4.mono B3.size)
      go_wp2_with fail
      refine (alive_any _).mono ?_
      rintro e w5 ⟨rfl, b5⟩
      go_wp2
      go_ret
      exact ⟨rfl, B4.trans (b5.mono B4.size)⟩
    · have h1 := (okG_iff.1 hok).2.1
      by_cases h2 : u.length = 1
      · have H2 := hide h2
        have hq : ((u.length : Int) == 1) = true := beq_iff_eq.2 (by omega)
        clear h2
        go_wp2_with fail
        refine (iSignsOk_any u _ hn1).mono ?_
        rw [hok]
        rintro e w2 ⟨rfl, b2⟩
        have B2 := B1.trans (b2.mono B1.size)
        go_wp2_with fail
        refine (sSignsOk_any u _ hn1).mono ?_
        rw [hok]
        rintro e w_ ⟨rfl, rfl⟩
        go_wp2_with fail
        refine (show Calls _ _ #[.string ⟨#[48]⟩] _ _ from iSignsOk_any [48] _ (by simp)).mono ?_
        rw [o0]
        rintro e w3 ⟨rfl, b3⟩
        have B3 := B2.trans (b3.mono B2.size)
        go_wp2_with fail
        refine (show Calls _ _ #[.string ⟨#[]⟩] _ _ from iSignsOk_any [] _ (by simp)).mono ?_
        rw [o1]
        rintro e w4 ⟨rfl, b4⟩
        have B4 := B3.trans (b4.mono B3.size)
        go_wp2_with fail
        refine (alive_any _).mono ?_
        rintro e w5 ⟨rfl, b5⟩
        go_wp2
        go_ret
        exact ⟨rfl, B4.trans (b5.mono B4.size)⟩
      · have hq : ((u.length : Int) == 1) = false := beq_eq_false_iff_ne.2 (by omega)
        have hx := fun w => slice_to Tryd.underlying9 u ((u.length : Int) - 1) (u.length - 1) (by omega) (by omega) w
        have ot : okG (u.take (u.length - 1)) = true := okG_take hok (by omega) (by omega)
        have hnt : (u.take (u.length - 1)).length ≤ 1048576 := by rw [List.length_take]; omega
        obtain ⟨v, hv⟩ : ∃ v, v = u.take (u.length - 1) := ⟨_, rfl⟩
        rw [← hv] at hx ot hnt
        clear hv
        go_wp2_with fail
        refine (iSignsOk_any u _ hn1).mono ?_
        rw [hok]
        rintro e w2 ⟨rfl, b2⟩
        have B2 := B1.trans (b2.mono B1.size)
        go_wp2_with fail
        refine (sSignsOk_any u _ hn1).mono ?_
        rw [hok]
        rintro e w_ ⟨rfl, rfl⟩
        go_wp2_with fail
        refine (show Calls _ _ #[.string ⟨#[48]⟩] _ _ from iSignsOk_any [48] _ (by simp)).mono ?_
        rw [o0]
        rintro e w3 ⟨rfl, b3⟩
        have B3 := B2.trans (b3.mono B2.size)
        go_wp2_with fail
        refine (iSignsOk_any v _ hnt).mono ?_
        rw [ot]
        rintro e w4 ⟨rfl, b4⟩
        have B4 := B3.trans (b4.mono B3.size)
        go_wp2_with fail
        refine (show Calls _ _ #[.string ⟨#[]⟩] _ _ from iSignsOk_any [] _ (by simp)).mono ?_
        rw [o1]
        rintro e w5 ⟨rfl, b5⟩
        have B5 := B4.trans (b5.mono B4.size)
        go_wp2_with fail
        refine (alive_any _).mono ?_
        rintro e w6 ⟨rfl, b6⟩
        go_wp2
        go_ret
        exact ⟨rfl, B5.trans (b6.mono B5.size)⟩

end Go.Proofs.YtnennilpedediaaDoor
