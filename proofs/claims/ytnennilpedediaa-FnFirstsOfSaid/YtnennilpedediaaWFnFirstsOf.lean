/- The walk of FnFirstsOf. -/
import Derived.Test.YtnennilpedediaaSsignT
import Derived.Test.YtnennilpedediaaIsignD
import Derived.Test.YtnennilpedediaaIsignC
import Derived.Test.YtnennilpedediaaIword
import Derived.Test.YtnennilpedediaaSsame
import Derived.Test.YtnennilpedediaaValP
import Derived.Test.YtnennilpedediaaHelp
import Derived.Test.YtnennilpedediaaDrawSigns
import Derived.Deep.RegionHeld3
namespace Go.Proofs.Ytnennilpedediaa
open Go.RowKit
set_option linter.unusedVariables false

set_option maxRecDepth 20000 in
set_option maxHeartbeats 16000000 in
theorem fnFirstsOf_walk (A : Option Addr) (n c : Nat) (A' : Option Addr) (n' c' : Nat) (w : World) (h : Bytes w w.heap.size A n) (hc : n ≤ c) (hc2 : c ≤ 9223372036854775807) (h' : Bytes w w.heap.size A' n') (hc' : n' ≤ c') (hc2' : c' ≤ 9223372036854775807) :
    Calls Try.prog 4 #[.slice A n c, .slice A' n' c'] w fun e w' => e = .returned (.bool true) ∧ Below w.heap.size w w' := by
  by_cases hn : (1048576 : Int) < (n : Int)
  · go_enter Try.func4, Try.ntmps4
    go_wp2
    go_ret
    exact ⟨rfl, Below.refl _ _⟩
  by_cases hn' : (1048576 : Int) < (n' : Int)
  · go_enter Try.func4, Try.ntmps4
    go_wp2
    go_ret
    exact ⟨rfl, Below.refl _ _⟩
  · go_enter Try.func4, Try.ntmps4
    go_wp2_with fail
    refine (drawFirstsOf_any A n c w h hc hc2).mono ?_
    rintro e w1 ⟨u, rfl, hu, B1⟩
    have hn1 : u.length ≤ 1048576 := by omega
    have hsz := size_bs u
    cases hw : okW u
    · have HE := hide (fsW_not hw)
      have hb0 := toList_bs []
      go_wp2_with fail
      refine (iFirstsOf_any u _ hn1).mono ?_
      rw [HE.out]
      rintro e w2 ⟨rfl, b2⟩
      have B2 := B1.trans (b2.mono B1.size)
      go_wp2_with fail
      refine (sFirstsOf_any u _ hn1).mono ?_
      rw [HE.out]
      rintro e w3 ⟨rfl, q3⟩
      have B3 := B2.trans (q3.below w.heap.size)
      go_wp2_with fail
      refine (iWordOk_any u _ hn1).mono ?_
      rw [hw]
      rintro e w4 ⟨rfl, b4⟩
      have B4 := B3.trans (b4.mono B3.size)
      go_wp2_with fail
      refine (alive_any _).mono ?_
      rintro e w5 ⟨rfl, b5⟩
      go_wp2
      go_ret
      exact ⟨rfl, B4.trans (b5.mono B4.size)⟩
    · have HE0 := fsW_ok hw
      have hxo := fs_ok hw
      have hx3 := fs_short hw
      have hxl := letN_mem hxo hw (fun c => fs_mem hw)
      have hff := fs_fs hw
      have hmu := mdW_ok hw
      have hfm := fsW_made hw
      have hms := made_short hw
      have hne : fsW u ≠ [] := okW_ne hxo
      have HW := hide hw
      have HVW0 := hide (fun (p q r : Nat) (hp : p ≤ 8) (hq : q ≤ 8) (hr : r ≤ 8) => valW_firsts (T := sgT 2) (a := (p : Int)) (b := (q : Int)) (c := (r : Int)) sg2_left hw (inT_iff.2 ⟨p, rfl, show p < 9 by omega⟩) (inT_iff.2 ⟨q, rfl, show q < 9 by omega⟩) (inT_iff.2 ⟨r, rfl, show r < 9 by omega⟩))
      obtain ⟨x, hxe⟩ : ∃ x, x = fsW u := ⟨_, rfl⟩
      obtain ⟨y, hye⟩ : ∃ y, y = made u := ⟨_, rfl⟩
      rw [← hxe] at hxo hx3 hxl hff hne hfm HVW0
      rw [← hye] at hmu hfm hms
      have HX := hide hxe.symm
      have HFX := hide hff
      have HFY := hide hfm
      have HMU := hide hmu
      obtain ⟨zl, hzl⟩ : ∃ z, z = letN u := ⟨_, rfl⟩
      rw [← hzl] at hxl
      have HLX := hide hxl
      have HLU := hide hzl.symm
      have hnx : x.length ≤ 1048576 := by omega
      have hny : y.length ≤ 1048576 := by omega
      have hxx := size_bs x
      have hx3i : ((x.length : Nat) : Int) ≤ 3 := by omega
      have hx1 : ((bs x).toList == []) = false := by rw [toList_bs]; simpa using hne
      have hx2 : (bs x).toList.isEmpty = false := by rw [toList_bs]; simpa using hne
      have hx4 : ¬ (bs x).toList = [] := by rw [toList_bs]; exact hne
      clear hxe hye hzl hxl hff hfm hmu hms hne hxo HE0 hw
      go_wp2_with fail
      refine (iFirstsOf_any u _ hn1).mono ?_
      rw [HX.out]
      rintro e w2 ⟨rfl, b2⟩
      have B2 := B1.trans (b2.mono B1.size)
      go_wp2_with fail
      refine (sFirstsOf_any u _ hn1).mono ?_
      rw [HX.out]
      rintro e w3 ⟨rfl, q3⟩
      have B3 := B2.trans (q3.below w.heap.size)
      go_wp2_with fail
      refine (sSignTable_any 2 _).mono ?_
      rintro e w5 ⟨A9, c9, rfl, b5, m5'⟩
      have B5 := B3.trans (b5.mono B3.size)
      have hS := small_sgT 2
      have m5 := m5'.mono (Nat.zero_le _) (Nat.le_refl _)
      clear m5'
      obtain ⟨T, hT⟩ : ∃ T : List (List Int), T = sgT 2 := ⟨_, rfl⟩
      rw [← hT] at m5 hS HVW0
      try rw [← hT]
      have HVW := HVW0
      clear hT HVW0
      go_wp2
      go_loopg [9, 8] 3 (fun g i v wr => ∃ k a : Nat, k ≤ 3 ∧ Hid (g = 3 - k) ∧ i = .int .i64 k ∧ v = .int .i64 a ∧ Hid (a < 9 ^ k) ∧ w5 = wr)
      case atStart => exact ⟨0, 0, Nat.zero_le _, rfl, rfl, rfl, (show (0 : Nat) < 9 ^ 0 from by decide), rfl⟩
      case round =>
        obtain ⟨k, a, hk, hg, rfl, rfl, hak, rfl⟩ := hrel
        have hak' := hak.out
        by_cases hkt : k < n' ∧ k < 3
        · obtain ⟨hk1, hk3⟩ := hkt
          obtain ⟨bb, oo, z, rfl, hlt, hcz, hz⟩ := h' k hk1
          have hcw := (B5.cell (p := ⟨bb, oo + k, none⟩) hlt).trans hcz
          have k1 : (k : Int) < (n' : Int) := by omega
          have k3 : (k : Int) < 3 := by omega
          obtain ⟨zn, rfl, hzn⟩ : ∃ zn : Nat, z = (zn : Int) ∧ zn ≤ 255 := ⟨z.toNat, by omega, by omega⟩
          have p9 : 9 ^ k ≤ 81 := Nat.le_trans (Nat.pow_le_pow_right (n := 9) (by omega) (show k ≤ 2 by omega)) (by decide)
          have HB := hide (show 9 * a + zn % 9 < 9 ^ (k + 1) from by rw [Nat.pow_succ]; omega)
          have a81 : a ≤ 80 := by omega
          have c1 : ((zn : Int) % 9) = ((zn % 9 : Nat) : Int) := by omega
          have c2 : ((zn : Int).tmod 9) = ((zn % 9 : Nat) : Int) := by rw [Int.tmod_eq_emod_of_nonneg (by omega)]; exact c1
          have c3 : zn % 9 ≤ 8 := by omega
          obtain ⟨zr, hzr⟩ : ∃ r, r = zn % 9 := ⟨_, rfl⟩
          rw [← hzr] at c1 c2 c3 HB
          clear hzr p9 hak' hcz
          go_wp2
          go_roundg (3 - (k + 1))
          case measure => go_light; have := hg.out; omega
          case rel => go_light; exact ⟨k + 1, 9 * a + zr, by omega, rfl, by go_num, by go_num, HB.out, rfl⟩
        · have hkn : ¬ ((k : Int) < (n' : Int) ∧ (k : Int) < 3) := by omega
          have a729 : a < 729 := Nat.lt_of_lt_of_le hak' (Nat.le_trans (Nat.pow_le_pow_right (n := 9) (by omega) hk) (by decide))
          obtain ⟨a1, ha1⟩ : ∃ q, q = a / 81 := ⟨_, rfl⟩
          obtain ⟨a2, ha2⟩ : ∃ q, q = a / 9 := ⟨_, rfl⟩
          obtain ⟨p, hp⟩ : ∃ q, q = a1 % 9 := ⟨_, rfl⟩
          obtain ⟨q, hq⟩ : ∃ q, q = a2 % 9 := ⟨_, rfl⟩
          obtain ⟨r, hr⟩ : ∃ q, q = a % 9 := ⟨_, rfl⟩
          have d1 : ((a : Int) / 81) = (a1 : Int) := by omega
          have d2 : ((a : Int) / 9) = (a2 : Int) := by omega
          have d3 : ((a1 : Int) % 9) = (p : Int) := by omega
          have d4 : ((a2 : Int) % 9) = (q : Int) := by omega
          have d5 : ((a : Int) % 9) = (r : Int) := by omega
          have f1 : ((a : Int).tdiv 81) = (a1 : Int) := by rw [Int.tdiv_eq_ediv_of_nonneg (by omega)]; exact d1
          have f2 : ((a : Int).tdiv 9) = (a2 : Int) := by rw [Int.tdiv_eq_ediv_of_nonneg (by omega)]; exact d2
          have f3 : ((a1 : Int).tmod 9) = (p : Int) := by rw [Int.tmod_eq_emod_of_nonneg (by omega)]; exact d3
          have f4 : ((a2 : Int).tmod 9) = (q : Int) := by rw [Int.tmod_eq_emod_of_nonneg (by omega)]; exact d4
          have f5 : ((a : Int).tmod 9) = (r : Int) := by rw [Int.tmod_eq_emod_of_nonneg (by omega)]; exact d5
          have g1 : a1 ≤ 8 := by omega
          have g2 : a2 ≤ 80 := by omega
          have g3 : p ≤ 8 := by omega
          have g4 : q ≤ 8 := by omega
          have g5 : r ≤ 8 := by omega
          obtain ⟨V, hV⟩ : ∃ V, V = valW T u (p : Int) (q : Int) (r : Int) := ⟨_, rfl⟩
          have HV1 := hide hV.symm
          have HV2 := hide ((HVW.out p q r g3 g4 g5).symm.trans hV.symm)
          clear hV ha1 ha2 hp hq hr hak' hkt
          by_cases hkk : (k : Int) < (n' : Int)
          · have hk3 : ¬ (k : Int) < 3 := by omega
            clear hkn
            go_wp2_with fail
            refine (iValueIn_any A9 c9 _ _ T u (p : Int) (q : Int) (r : Int) _ m5 (Nat.le_refl _) hS hn1).mono ?_
            rw [HV1.out]
            rintro e w6 ⟨rfl, b6⟩
            have B6 := B5.trans (b6.mono B5.size)
            have m6 := m5.below b6 (Nat.le_refl _)
            go_wp2_with fail
            refine (iValueIn_any A9 c9 _ _ T x (p : Int) (q : Int) (r : Int) _ m6 b6.size hS hnx).mono ?_
            rw [HV2.out]
            rintro e w7 ⟨rfl, b7⟩
            have B7 := B6.trans (b7.mono B6.size)
            go_wp2_with fail
            refine (iLettersIn_any x _ hnx).mono ?_
            rw [HLX.out]
            rintro e w8 ⟨rfl, b8⟩
            have B8 := B7.trans (b8.mono B7.size)
            go_wp2_with fail
            refine (iLettersIn_any u _ hn1).mono ?_
            rw [HLU.out]
            rintro e w9 ⟨rfl, b9⟩
            have B9 := B8.trans (b9.mono B8.size)
            go_wp2_with fail
            refine (iFirstsOf_any x _ hnx).mono ?_
            rw [HFX.out]
            rintro e w10 ⟨rfl, b10⟩
            have B10 := B9.trans (b10.mono B9.size)
            go_wp2_with fail
            refine (sMadeOf_any u _ hn1).mono ?_
            rw [HMU.out]
            rintro e w11 ⟨rfl, q11⟩
            have B11 := B10.trans (q11.below w.heap.size)
            go_wp2_with fail
            refine (iFirstsOf_any y _ hny).mono ?_
            rw [HFY.out]
            rintro e w12 ⟨rfl, b12⟩
            have B12 := B11.trans (b12.mono B11.size)
            go_wp2_with fail
            refine (alive_any _).mono ?_
            rintro e w13 ⟨rfl, b13⟩
            go_wp2
            go_ret
            exact ⟨rfl, B12.trans (b13.mono B12.size)⟩
          · clear hkn
            go_wp2_with fail
            refine (iValueIn_any A9 c9 _ _ T u (p : Int) (q : Int) (r : Int) _ m5 (Nat.le_refl _) hS hn1).mono ?_
            rw [HV1.out]
            rintro e w6 ⟨rfl, b6⟩
            have B6 := B5.trans (b6.mono B5.size)
            have m6 := m5.below b6 (Nat.le_refl _)
            go_wp2_with fail
            refine (iValueIn_any A9 c9 _ _ T x (p : Int) (q : Int) (r : Int) _ m6 b6.size hS hnx).mono ?_
            rw [HV2.out]
            rintro e w7 ⟨rfl, b7⟩
            have B7 := B6.trans (b7.mono B6.size)
            go_wp2_with fail
            refine (iLettersIn_any x _ hnx).mono ?_
            rw [HLX.out]
            rintro e w8 ⟨rfl, b8⟩
            have B8 := B7.trans (b8.mono B7.size)
            go_wp2_with fail
            refine (iLettersIn_any u _ hn1).mono ?_
            rw [HLU.out]
            rintro e w9 ⟨rfl, b9⟩
            have B9 := B8.trans (b9.mono B8.size)
            go_wp2_with fail
            refine (iFirstsOf_any x _ hnx).mono ?_
            rw [HFX.out]
            rintro e w10 ⟨rfl, b10⟩
            have B10 := B9.trans (b10.mono B9.size)
            go_wp2_with fail
            refine (sMadeOf_any u _ hn1).mono ?_
            rw [HMU.out]
            rintro e w11 ⟨rfl, q11⟩
            have B11 := B10.trans (q11.below w.heap.size)
            go_wp2_with fail
            refine (iFirstsOf_any y _ hny).mono ?_
            rw [HFY.out]
            rintro e w12 ⟨rfl, b12⟩
            have B12 := B11.trans (b12.mono B11.size)
            go_wp2_with fail
            refine (alive_any _).mono ?_
            rintro e w13 ⟨rfl, b13⟩
            go_wp2
            go_ret
            exact ⟨rfl, B12.trans (b13.mono B12.size)⟩

end Go.Proofs.Ytnennilpedediaa
