/- The walk of FnAlwaysOk. -/
import Derived.Test.YthllbekoidogpaaAlw06
import Derived.Test.YthllbekoidogpaaAlw09
import Derived.Test.YthllbekoidogpaaAlw11
import Derived.Test.YthllbekoidogpaaAlw12
import Derived.Test.YthllbekoidogpaaAlw03
import Derived.Test.YthllbekoidogpaaAlw14
import Derived.Test.YthllbekoidogpaaAlw05
import Derived.Deep.RegionHeld3
namespace Go.Proofs.Ythllbekoidogpaa
open Go.RowKit
set_option linter.unusedVariables false

theorem low_two {u : List UInt8} (hw : okW u = true) (h : letN u ≤ 3) : ∀ y, y ∈ u → y = 97 ∨ y = 98 := fun y hy => by
  rw [letN_ok hw] at h
  rcases okC_iff.1 ((okW_iff.1 hw).1 y hy) with rfl | rfl | rfl
  · exact .inl rfl
  · exact .inr rfl
  · exfalso
    unfold ltr at h
    rw [if_pos hy] at h
    have h4 : 4 ≤ ((if 97 ∈ u then 1 else 0) ||| (if 98 ∈ u then 2 else 0) ||| 4 : Nat) := Nat.right_le_or
    omega
set_option maxRecDepth 20000 in
set_option maxHeartbeats 16000000 in
theorem fnAlwaysOk_walk (A : Option Addr) (n c : Nat) (w : World) (h : Bytes w w.heap.size A n) (hc : n ≤ c) (hc2 : c ≤ 9223372036854775807) :
    Calls Try.prog 7 #[.slice A n c] w fun e w' => e = .returned (.bool true) ∧ Below w.heap.size w w' := by
  by_cases hn : (1048576 : Int) < (n : Int)
  · go_enter Try.func7, Try.ntmps7
    go_wp2
    go_ret
    exact ⟨rfl, Below.refl _ _⟩
  · go_enter Try.func7, Try.ntmps7
    go_wp2_with fail
    refine (drawAlwaysOk_any A n c w h hc hc2).mono ?_
    rintro e w1 ⟨u, v, rfl, hu, hv, B1⟩
    have hn1 : u.length ≤ 1048576 := by omega
    have hn2 : v.length ≤ 1048576 := by omega
    have hsz := size_bs u
    have hszv := size_bs v
    cases hw1 : okW u
    · have HS := hide (show (okW u && (okW v && sameB u v)) = false from by rw [hw1]; rfl)
      go_wp2_with fail
      refine (iAlwaysOk_any u v _ hn1 hn2).mono ?_
      rw [HS.out]
      rintro e w2 ⟨rfl, b2⟩
      have B2 := B1.trans (b2.mono B1.size)
      go_wp2_with fail
      refine (sAlwaysOk_any u v _ hn1 hn2).mono ?_
      rw [HS.out]
      rintro e w3 ⟨rfl, q3⟩
      have B3 := B2.trans (q3.below w.heap.size)
      go_wp2_with fail
      refine (sWordOk_any u _ hn1).mono ?_
      rw [hw1]
      rintro e w_ ⟨rfl, rfl⟩
      go_wp2_with fail
      refine (alive_any _).mono ?_
      rintro e w4 ⟨rfl, b4⟩
      go_wp2
      go_ret
      exact ⟨rfl, B3.trans (b4.mono B3.size)⟩
    · cases hw2 : okW v
      · have HS := hide (show (okW u && (okW v && sameB u v)) = false from by rw [hw1, hw2]; rfl)
        go_wp2_with fail
        refine (iAlwaysOk_any u v _ hn1 hn2).mono ?_
        rw [HS.out]
        rintro e w2 ⟨rfl, b2⟩
        have B2 := B1.trans (b2.mono B1.size)
        go_wp2_with fail
        refine (sAlwaysOk_any u v _ hn1 hn2).mono ?_
        rw [HS.out]
        rintro e w3 ⟨rfl, q3⟩
        have B3 := B2.trans (q3.below w.heap.size)
        go_wp2_with fail
        refine (sWordOk_any u _ hn1).mono ?_
        rw [hw1]
        rintro e w_ ⟨rfl, rfl⟩
        go_wp2_with fail
        refine (sWordOk_any v _ hn2).mono ?_
        rw [hw2]
        rintro e w_ ⟨rfl, rfl⟩
        go_wp2_with fail
        refine (alive_any _).mono ?_
        rintro e w4 ⟨rfl, b4⟩
        go_wp2
        go_ret
        exact ⟨rfl, B3.trans (b4.mono B3.size)⟩
      · cases hsm : sameB u v
        · have HS := hide (show (okW u && (okW v && sameB u v)) = false from by rw [hw1, hw2, hsm]; rfl)
          obtain ⟨al, hal⟩ : ∃ al, al = hldW f2L u v := ⟨_, rfl⟩
          have HAL := hide hal.symm
          have HSG := hide (rfl : sgT 1 = sgT 1)
          have HST := hide (rfl : sgT 1 = sgT 1)
          obtain ⟨x, hx⟩ : ∃ x, x = letN u := ⟨_, rfl⟩
          obtain ⟨y, hy⟩ : ∃ y, y = letN v := ⟨_, rfl⟩
          have HX := hide hx.symm
          have HY := hide hy.symm
          have HN := hide (show x ≤ 3 → y ≤ 3 → al = false from fun h1 h2 => by
            rw [hal]
            cases e : hldW f2L u v with
            | false => rfl
            | true =>
              have hs := two_same (okW_ne hw1) (okW_ne hw2) (low_two hw1 (by rw [← hx]; exact h1)) (low_two hw2 (by rw [← hy]; exact h2)) (hld_iff.1 e).2
              rw [sameB_iff.2 hs] at hsm; cases hsm)
          clear hx hy hal hsm
          go_wp2_with fail
          refine (iAlwaysOk_any u v _ hn1 hn2).mono ?_
          rw [HS.out]
          rintro e w2 ⟨rfl, b2⟩
          have B2 := B1.trans (b2.mono B1.size)
          go_wp2_with fail
          refine (sAlwaysOk_any u v _ hn1 hn2).mono ?_
          rw [HS.out]
          rintro e w3 ⟨rfl, q3⟩
          have B3 := B2.trans (q3.below w.heap.size)
          go_wp2_with fail
          refine (sWordOk_any u _ hn1).mono ?_
          rw [hw1]
          rintro e w_ ⟨rfl, rfl⟩
          go_wp2_with fail
          refine (sWordOk_any v _ hn2).mono ?_
          rw [hw2]
          rintro e w_ ⟨rfl, rfl⟩
          go_wp2_with fail
          refine (sFreeTable_any 2 _).mono ?_
          rw [freeT_two]
          rintro e w4 ⟨A4, c4, rfl, b4, m4⟩
          have B4 := B3.trans (b4.mono B3.size)
          have hSf : Small f2L := ⟨by decide, by decide⟩
          obtain ⟨F, hF⟩ : ∃ F : List (List Int), F = f2L := ⟨_, rfl⟩
          rw [← hF] at m4 hSf
          try rw [← hF]
          rw [← hF] at HAL
          clear hF
          go_wp2_with fail
          refine (sSignTable_any 1 _).mono ?_
          rintro e w5 ⟨A5, c5, rfl, b5, m5⟩
          have B5 := B4.trans (b5.mono B4.size)
          have hSs := small_sgT 1
          obtain ⟨G, hG⟩ : ∃ G : List (List Int), G = sgT 1 := ⟨_, rfl⟩
          rw [← hG] at m5 hSs
          try rw [← hG] at HSG
          try rw [← hG] at HST
          try rw [← hG]
          clear hG
          have m4' := m4.below b5 (Nat.le_refl _)
          go_wp2_with fail
          refine (iHoldsIn_any A4 c4 _ _ F u v _ m4' b5.size hSf hn1 hn2).mono ?_
          rw [HAL.out]
          rintro e w6 ⟨rfl, b6⟩
          have B6 := B5.trans (b6.mono B5.size)
          have m5' := m5.below b6 (Nat.le_refl _)
          clear HSG HST
          by_cases hx3 : x ≤ 3
          · go_wp2_with fail
            refine (sLettersIn_any u _ hn1).mono ?_
            rw [HX.out]
            rintro e w_ ⟨rfl, rfl⟩
            go_wp2_with fail
            refine (sLettersIn_any v _ hn2).mono ?_
            rw [HY.out]
            rintro e w_ ⟨rfl, rfl⟩
            by_cases hy3 : y ≤ 3
            · have hf := HN.out hx3 hy3
              subst hf
              go_wp2
              go_ret
              exact ⟨rfl, B6⟩
            · go_wp2
              go_ret
              exact ⟨rfl, B6⟩
          · go_wp2_with fail
            refine (sLettersIn_any u _ hn1).mono ?_
            rw [HX.out]
            rintro e w_ ⟨rfl, rfl⟩
            go_wp2
            go_ret
            exact ⟨rfl, B6⟩
        · have s := sameB_iff.1 hsm
          have HS := hide (show (okW u && (okW v && sameB u v)) = true from by rw [hw1, hw2, hsm]; rfl)
          have HAL := hide (hldW_same (T := f2L) (bandT_iff.1 f2_band) hw1 hw2 s)
          have HSG := hide (hldW_same (T := sgT 1) (leftT_iff.1 sg1_left).1 hw1 hw2 s)
          have HST := hide (hldW_same (T := turnT (sgT 1)) (isB_turn (leftT_iff.1 sg1_left).1) hw1 hw2 s)
          clear s hsm
          obtain ⟨x, hx⟩ : ∃ x, x = letN u := ⟨_, rfl⟩
          obtain ⟨y, hy⟩ : ∃ y, y = letN v := ⟨_, rfl⟩
          have HX := hide hx.symm
          have HY := hide hy.symm
          clear hx hy
          go_wp2_with fail
          refine (iAlwaysOk_any u v _ hn1 hn2).mono ?_
          rw [HS.out]
          rintro e w2 ⟨rfl, b2⟩
          have B2 := B1.trans (b2.mono B1.size)
          go_wp2_with fail
          refine (sAlwaysOk_any u v _ hn1 hn2).mono ?_
          rw [HS.out]
          rintro e w3 ⟨rfl, q3⟩
          have B3 := B2.trans (q3.below w.heap.size)
          go_wp2_with fail
          refine (sWordOk_any u _ hn1).mono ?_
          rw [hw1]
          rintro e w_ ⟨rfl, rfl⟩
          go_wp2_with fail
          refine (sWordOk_any v _ hn2).mono ?_
          rw [hw2]
          rintro e w_ ⟨rfl, rfl⟩
          go_wp2_with fail
          refine (sFreeTable_any 2 _).mono ?_
          rw [freeT_two]
          rintro e w4 ⟨A4, c4, rfl, b4, m4⟩
          have B4 := B3.trans (b4.mono B3.size)
          have hSf : Small f2L := ⟨by decide, by decide⟩
          obtain ⟨F, hF⟩ : ∃ F : List (List Int), F = f2L := ⟨_, rfl⟩
          rw [← hF] at m4 hSf
          try rw [← hF]
          rw [← hF] at HAL
          clear hF
          go_wp2_with fail
          refine (sSignTable_any 1 _).mono ?_
          rintro e w5 ⟨A5, c5, rfl, b5, m5⟩
          have B5 := B4.trans (b5.mono B4.size)
          have hSs := small_sgT 1
          obtain ⟨G, hG⟩ : ∃ G : List (List Int), G = sgT 1 := ⟨_, rfl⟩
          rw [← hG] at m5 hSs
          try rw [← hG] at HSG
          try rw [← hG] at HST
          try rw [← hG]
          clear hG
          have m4' := m4.below b5 (Nat.le_refl _)
          go_wp2_with fail
          refine (iHoldsIn_any A4 c4 _ _ F u v _ m4' b5.size hSf hn1 hn2).mono ?_
          rw [HAL.out]
          rintro e w6 ⟨rfl, b6⟩
          have B6 := B5.trans (b6.mono B5.size)
          have m5' := m5.below b6 (Nat.le_refl _)
          by_cases hx3 : x ≤ 3
          · go_wp2_with fail
            refine (sLettersIn_any u _ hn1).mono ?_
            rw [HX.out]
            rintro e w_ ⟨rfl, rfl⟩
            go_wp2_with fail
            refine (sLettersIn_any v _ hn2).mono ?_
            rw [HY.out]
            rintro e w_ ⟨rfl, rfl⟩
            by_cases hy3 : y ≤ 3
            · go_wp2_with fail
              refine (iHoldsIn_any A5 c5 _ _ G u v _ m5' b6.size hSs hn1 hn2).mono ?_
              rw [HSG.out]
              rintro e w7 ⟨rfl, b7⟩
              have B7 := B6.trans (b7.mono B6.size)
              have m7 := m5'.below b7 b6.size
              have z7 := Nat.le_trans b6.size b7.size
              go_wp2_with fail
              refine (iTurnedOf_any A5 c5 _ _ G _ m7 z7 hSs).mono ?_
              rintro e w8 ⟨A8, c8, rfl, b8, g8⟩
              have B8 := B7.trans (b8.mono B7.size)
              have hSt := small_turnT (T := G)
              go_wp2_with fail
              refine (iHoldsIn_any A8 c8 _ _ (turnT G) u v _ g8.mat (Nat.le_refl _) hSt hn1 hn2).mono ?_
              rw [HST.out]
              rintro e w9 ⟨rfl, b9⟩
              have B9 := B8.trans (b9.mono B8.size)
              go_wp2
              go_ret
              exact ⟨rfl, B9⟩
            · go_wp2_with fail
              refine (iHoldsIn_any A5 c5 _ _ G u v _ m5' b6.size hSs hn1 hn2).mono ?_
              rw [HSG.out]
              rintro e w7 ⟨rfl, b7⟩
              have B7 := B6.trans (b7.mono B6.size)
              have m7 := m5'.below b7 b6.size
              have z7 := Nat.le_trans b6.size b7.size
              go_wp2_with fail
              refine (iTurnedOf_any A5 c5 _ _ G _ m7 z7 hSs).mono ?_
              rintro e w8 ⟨A8, c8, rfl, b8, g8⟩
              have B8 := B7.trans (b8.mono B7.size)
              have hSt := small_turnT (T := G)
              go_wp2_with fail
              refine (iHoldsIn_any A8 c8 _ _ (turnT G) u v _ g8.mat (Nat.le_refl _) hSt hn1 hn2).mono ?_
              rw [HST.out]
              rintro e w9 ⟨rfl, b9⟩
              have B9 := B8.trans (b9.mono B8.size)
              go_wp2
              go_ret
              exact ⟨rfl, B9⟩
          · go_wp2_with fail
            refine (sLettersIn_any u _ hn1).mono ?_
            rw [HX.out]
            rintro e w_ ⟨rfl, rfl⟩
            go_wp2_with fail
            refine (iHoldsIn_any A5 c5 _ _ G u v _ m5' b6.size hSs hn1 hn2).mono ?_
            rw [HSG.out]
            rintro e w7 ⟨rfl, b7⟩
            have B7 := B6.trans (b7.mono B6.size)
            have m7 := m5'.below b7 b6.size
            have z7 := Nat.le_trans b6.size b7.size
            go_wp2_with fail
            refine (iTurnedOf_any A5 c5 _ _ G _ m7 z7 hSs).mono ?_
            rintro e w8 ⟨A8, c8, rfl, b8, g8⟩
            have B8 := B7.trans (b8.mono B7.size)
            have hSt := small_turnT (T := G)
            go_wp2_with fail
            refine (iHoldsIn_any A8 c8 _ _ (turnT G) u v _ g8.mat (Nat.le_refl _) hSt hn1 hn2).mono ?_
            rw [HST.out]
            rintro e w9 ⟨rfl, b9⟩
            have B9 := B8.trans (b9.mono B8.size)
            go_wp2
            go_ret
            exact ⟨rfl, B9⟩

end Go.Proofs.Ythllbekoidogpaa
