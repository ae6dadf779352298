/- The walk of FnJoinedOf. -/
import Derived.Test.YtmjokeibflbeoaaSsame
import Derived.Test.YtmjokeibflbeoaaIword
import Derived.Test.YtmjokeibflbeoaaIsame
import Derived.Test.YtmjokeibflbeoaaDrawSames
import Derived.Deep.RegionHeld3
namespace Go.Proofs.Ytmjokeibflbeoaa
open Go.RowKit
set_option linter.unusedVariables false

theorem joinW_len (u v : List UInt8) : (joinW u v).length ≤ 10 := by
  cases h : canJ u v
  · rw [joinW_not h]; simp
  · rw [joinW_ok h]; exact made_short (canJ_app h)
set_option maxRecDepth 20000 in
set_option maxHeartbeats 16000000 in
theorem fnJoinedOf_walk (A : Option Addr) (n c : Nat) (A' : Option Addr) (n' c' : Nat) (w : World) (h : Bytes w w.heap.size A n) (hc : n ≤ c) (hc2 : c ≤ 9223372036854775807) (h' : Bytes w w.heap.size A' n') (hc' : n' ≤ c') (hc2' : c' ≤ 9223372036854775807) :
    Calls Try.prog 5 #[.slice A n c, .slice A' n' c'] w fun e w' => e = .returned (.bool true) ∧ Below w.heap.size w w' := by
  by_cases hn : (1048576 : Int) < (n : Int)
  · go_enter Try.func5, Try.ntmps5
    go_wp2
    go_ret
    exact ⟨rfl, Below.refl _ _⟩
  by_cases hn' : (1048576 : Int) < (n' : Int)
  · go_enter Try.func5, Try.ntmps5
    go_wp2
    go_ret
    exact ⟨rfl, Below.refl _ _⟩
  · go_enter Try.func5, Try.ntmps5
    go_wp2_with fail
    refine (drawJoinedOf_any A n c w h hc hc2).mono ?_
    rintro e w1 ⟨u, v, rfl, hu, hv, B1⟩
    have hn1 : u.length ≤ 1048576 := by omega
    have hn2 : v.length ≤ 1048576 := by omega
    have hsz := size_bs u
    have hszv := size_bs v
    cases hcj : canJ u v
    · have HE := hide (joinW_not hcj)
      have hb0 := toList_bs []
      go_wp2_with fail
      refine (iJoinedOf_any u v _ hn1 hn2).mono ?_
      rw [HE.out]
      rintro e w2 ⟨rfl, b2⟩
      have B2 := B1.trans (b2.mono B1.size)
      go_wp2_with fail
      refine (sJoinedOf_any u v _ hn1 hn2).mono ?_
      rw [HE.out]
      rintro e w3 ⟨rfl, q3⟩
      have B3 := B2.trans (q3.below w.heap.size)
      go_wp2_with fail
      refine (alive_any _).mono ?_
      rintro e w4 ⟨rfl, b4⟩
      go_wp2
      go_ret
      exact ⟨rfl, B3.trans (b4.mono B3.size)⟩
    · obtain ⟨k1, k2, k3, k4⟩ := canJ_iff.1 hcj
      have hkx := okW_made (canJ_app hcj)
      have hlx := made_short (canJ_app hcj)
      have hnex := made_ne (okW_ne (canJ_app hcj))
      have HE := hide (joinW_ok hcj)
      have HMX := hide (show mdW (made (u ++ v)) = made (u ++ v) from by rw [mdW_ok hkx, made_made])
      have hcu : canJ u u = true := canJ_iff.2 ⟨k1, k1, k3, k3⟩
      have HJU := hide (show joinW u u = made u from by rw [joinW_ok hcu, made_twice])
      have HMU := hide (mdW_ok k1)
      have HJN := hide (fun z => made_join u v z)
      obtain ⟨m, hm⟩ : ∃ m, m = made u := ⟨_, rfl⟩
      rw [← hm] at HJU HMU
      clear hm
      obtain ⟨x, hx⟩ : ∃ x, x = made (u ++ v) := ⟨_, rfl⟩
      rw [← hx] at hkx hlx hnex HE HMX HJN
      clear hx hcu
      have hnx : x.length ≤ 1048576 := by omega
      have hsx := size_bs x
      have hx1 : ((bs x).toList == []) = false := by rw [toList_bs]; simpa using hnex
      have hx2 : (bs x).toList.isEmpty = false := by rw [toList_bs]; simpa using hnex
      have hx3 : ¬ (bs x).toList = [] := by rw [toList_bs]; exact hnex
      go_wp2_with fail
      refine (iJoinedOf_any u v _ hn1 hn2).mono ?_
      rw [HE.out]
      rintro e w2 ⟨rfl, b2⟩
      have B2 := B1.trans (b2.mono B1.size)
      go_wp2_with fail
      refine (sJoinedOf_any u v _ hn1 hn2).mono ?_
      rw [HE.out]
      rintro e w3 ⟨rfl, q3⟩
      have B3 := B2.trans (q3.below w.heap.size)
      go_wp2_with fail
      refine (drawWordOk_any A' n' c' _ (bytes_later h' B3) hc' hc2').mono ?_
      rintro e w4 ⟨z, rfl, hz, b4⟩
      have B4 := B3.trans (b4.mono B3.size)
      have hnz : z.length ≤ 1048576 := by omega
      have hszz := size_bs z
      cases hxz : canJ x z
      · have HL := hide (joinW_not hxz)
        have hb0 := toList_bs []
        have hly := joinW_len v z
        obtain ⟨y, hy⟩ : ∃ y, y = joinW v z := ⟨_, rfl⟩
        rw [← hy] at hly
        have HY := hide hy.symm
        have hny : y.length ≤ 1048576 := by omega
        obtain ⟨r, hr⟩ : ∃ r, r = joinW u y := ⟨_, rfl⟩
        have HR := hide hr.symm
        clear hy hr
        go_wp2_with fail
        refine (iJoinedOf_any x z _ hnx hnz).mono ?_
        rw [HL.out]
        rintro e w5 ⟨rfl, b5⟩
        have B5 := B4.trans (b5.mono B4.size)
        go_wp2_with fail
        refine (iJoinedOf_any v z _ hn2 hnz).mono ?_
        rw [HY.out]
        rintro e w6 ⟨rfl, b6⟩
        have B6 := B5.trans (b6.mono B5.size)
        go_wp2_with fail
        refine (iJoinedOf_any u y _ hn1 hny).mono ?_
        rw [HR.out]
        rintro e w7 ⟨rfl, b7⟩
        have B7 := B6.trans (b7.mono B6.size)
        go_wp2_with fail
        refine (iJoinedOf_any u u _ hn1 hn1).mono ?_
        rw [HJU.out]
        rintro e w8 ⟨rfl, b8⟩
        have B8 := B7.trans (b8.mono B7.size)
        go_wp2_with fail
        refine (iMadeOf_any u _ hn1).mono ?_
        rw [HMU.out]
        rintro e w9 ⟨rfl, b9⟩
        have B9 := B8.trans (b9.mono B8.size)
        go_wp2_with fail
        refine (iMadeOf_any x _ hnx).mono ?_
        rw [HMX.out]
        rintro e w10 ⟨rfl, b10⟩
        have B10 := B9.trans (b10.mono B9.size)
        go_wp2
        go_ret
        exact ⟨rfl, B10⟩
      · obtain ⟨_, q2, _, q4⟩ := canJ_iff.1 hxz
        have hvz : canJ v z = true := canJ_iff.2 ⟨k2, q2, k4, q4⟩
        have hky := okW_made (canJ_app hvz)
        have hly := made_short (canJ_app hvz)
        have HY := hide (joinW_ok hvz)
        have huy : canJ u (made (v ++ z)) = true := canJ_iff.2 ⟨k1, hky, k3, by omega⟩
        have HR := hide ((joinW_ok huy).trans (HJN.out z).symm)
        have HL := hide (joinW_ok hxz)
        have hner := made_ne (okW_ne (canJ_app hxz))
        obtain ⟨y, hy⟩ : ∃ y, y = made (v ++ z) := ⟨_, rfl⟩
        rw [← hy] at HY hly HR
        obtain ⟨r, hr⟩ : ∃ r, r = made (x ++ z) := ⟨_, rfl⟩
        rw [← hr] at HL HR hner
        have hny : y.length ≤ 1048576 := by omega
        clear hky huy hy hr
        have hr1 : ((bs r).toList == []) = false := by rw [toList_bs]; simpa using hner
        have hr2 : (bs r).toList.isEmpty = false := by rw [toList_bs]; simpa using hner
        have hr3 : ¬ (bs r).toList = [] := by rw [toList_bs]; exact hner
        go_wp2_with fail
        refine (iJoinedOf_any x z _ hnx hnz).mono ?_
        rw [HL.out]
        rintro e w5 ⟨rfl, b5⟩
        have B5 := B4.trans (b5.mono B4.size)
        go_wp2_with fail
        refine (iJoinedOf_any v z _ hn2 hnz).mono ?_
        rw [HY.out]
        rintro e w6 ⟨rfl, b6⟩
        have B6 := B5.trans (b6.mono B5.size)
        go_wp2_with fail
        refine (iJoinedOf_any u y _ hn1 hny).mono ?_
        rw [HR.out]
        rintro e w7 ⟨rfl, b7⟩
        have B7 := B6.trans (b7.mono B6.size)
        go_wp2_with fail
        refine (iJoinedOf_any u u _ hn1 hn1).mono ?_
        rw [HJU.out]
        rintro e w8 ⟨rfl, b8⟩
        have B8 := B7.trans (b8.mono B7.size)
        go_wp2_with fail
        refine (iMadeOf_any u _ hn1).mono ?_
        rw [HMU.out]
        rintro e w9 ⟨rfl, b9⟩
        have B9 := B8.trans (b9.mono B8.size)
        go_wp2_with fail
        refine (iMadeOf_any x _ hnx).mono ?_
        rw [HMX.out]
        rintro e w10 ⟨rfl, b10⟩
        have B10 := B9.trans (b10.mono B9.size)
        go_wp2
        go_ret
        exact ⟨rfl, B10⟩

end Go.Proofs.Ytmjokeibflbeoaa
