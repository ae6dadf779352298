/-  -/
import Derived.Test.YthllbekoidogpaaAlw11
import Derived.Test.YthllbekoidogpaaAlw02
import Derived.Deep.RegionHeld3
import Derived.WalkLawsBesides
import Derived.Deep.DeepCutAuto
import Derived.Deep.CutBlock
namespace Go.Proofs.Ythllbekoidogpaa
open Go.RowKit
set_option linter.unusedVariables false
set_option linter.unusedSimpArgs false

set_option maxRecDepth 20000 in
set_option maxHeartbeats 8000000 in
theorem sSignTable_any (m : Int) (w : World) : Calls Try.prog 48 #[.int .i64 m] w (NewTab w (sgT m)) := by
  cases hc : (decide (1 ≤ m) && decide (m ≤ 2))
  · have hcm : m < 1 ∨ 2 < m := by simp at hc; omega
    rcases hcm with h1 | h1
    · by_cases h0 : m = 0
      · subst h0
        have HE := hide (sgT_not hc)
        have bn := (Below.refl w.heap.size w).alloc (Nat.le_refl _) (.cells #[] 58)
        have b1 := bn.alloc (by simp) (.cells #[.int .i64 0, .int .i64 3, .int .i64 9] 3)
        go_enter Try.func48, Try.ntmps48
        go_wp2
        go_loopg [5, 3] 1 (fun g i v wr => i = .int .i64 0 ∧ v = .slice (some ⟨w.heap.size, 0, none⟩) 0 0 ∧ Below w.heap.size w wr)
        case atStart => exact ⟨rfl, rfl, b1⟩
        case round =>
          obtain ⟨rfl, rfl, hB⟩ := hrel
          go_wp2
          go_ret
          rw [HE.out]
          exact ⟨_, 0, rfl, hB, Mat.nil _ _ _ _⟩
      · have h0 : m < 0 := by omega
        have h2 : m < 2 := by omega
        have HE := hide (sgT_not hc)
        have bn := (Below.refl w.heap.size w).alloc (Nat.le_refl _) (.cells #[] 58)
        have b1 := bn.alloc (by simp) (.cells #[.int .i64 0, .int .i64 3, .int .i64 9] 3)
        go_enter Try.func48, Try.ntmps48
        go_wp2
        go_loopg [5, 3] 1 (fun g i v wr => i = .int .i64 0 ∧ v = .slice (some ⟨w.heap.size, 0, none⟩) 0 0 ∧ Below w.heap.size w wr)
        case atStart => exact ⟨rfl, rfl, b1⟩
        case round =>
          obtain ⟨rfl, rfl, hB⟩ := hrel
          go_wp2
          go_ret
          rw [HE.out]
          exact ⟨_, 0, rfl, hB, Mat.nil _ _ _ _⟩
    · have h2 : ¬ m < 2 := by omega
      have HE := hide (sgT_not hc)
      have bn := (Below.refl w.heap.size w).alloc (Nat.le_refl _) (.cells #[] 58)
      have b1 := bn.alloc (by simp) (.cells #[.int .i64 0, .int .i64 3, .int .i64 9] 3)
      go_enter Try.func48, Try.ntmps48
      go_wp2
      go_loopg [5, 3] 1 (fun g i v wr => i = .int .i64 0 ∧ v = .slice (some ⟨w.heap.size, 0, none⟩) 0 0 ∧ Below w.heap.size w wr)
      case atStart => exact ⟨rfl, rfl, b1⟩
      case round =>
        obtain ⟨rfl, rfl, hB⟩ := hrel
        go_wp2_with fail
        refine (l1In_any m 1 2 _).mono ?_
        rw [hc]
        rintro e w' ⟨rfl, rfl⟩
        go_wp2
        go_ret
        rw [HE.out]
        exact ⟨_, 0, rfl, hB, Mat.nil _ _ _ _⟩
  · have hcm : m = 1 ∨ m = 2 := by simp at hc; omega
    clear hc
    rcases hcm with rfl | rfl
    · have HE := hide (show sgT 1 = sgM 3 3 from rfl)
      have T0 : ATab w.heap.size (w.alloc (.cells #[] 58)) (.slice (some ⟨w.heap.size, 0, none⟩) 0 0) [] := ATab.made (Nat.le_refl _)
      have bn := (Below.refl w.heap.size w).alloc (Nat.le_refl _) (.cells #[] 58)
      have zn : (w.alloc (.cells #[] 58)).heap.size = w.heap.size + 1 := by simp
      have b1 := (Below.refl (w.alloc (.cells #[] 58)).heap.size (w.alloc (.cells #[] 58))).alloc (Nat.le_refl _) (.cells #[.int .i64 0, .int .i64 3, .int .i64 9] 3)
      have T1 := T0.below b1
      have B1 := bn.trans (b1.mono (by omega))
      go_enter Try.func48, Try.ntmps48
      go_wp2
      go_loopg [5, 3] 3 (fun g i v wr => ∃ k : Nat, k ≤ 3 ∧ Hid (g = 3 - k) ∧ i = .int .i64 k ∧ ATab w.heap.size wr v (sgM 3 k) ∧ Below w.heap.size w wr)
      case atStart => exact ⟨0, Nat.zero_le _, rfl, rfl, T1, B1⟩
      case round =>
        clear T0 T1 B1 bn zn b1
        obtain ⟨k, hk, hgk, rfl, hA, hB⟩ := hrel
        by_cases hkt : k < 3
        · obtain ⟨wo, rfl⟩ : ∃ wo : World, wo = wr := ⟨_, rfl⟩
          have hki : (k : Int) < 3 := by omega
          have hb1 := (Below.refl wo.heap.size wo).alloc (Nat.le_refl _) (.cells #[] 3)
          have hr0 := ARow.made (w := wo) (Nat.le_refl _)
          go_wp2_with fail
          refine (l1In_any 1 1 2 _).mono ?_
          rw [show (decide ((1 : Int) ≤ 1) && decide ((1 : Int) ≤ 2)) = true from rfl]
          rintro e w' ⟨rfl, rfl⟩
          go_wp2
          go_loopg [7, 6] 3 (fun g i u wi => ∃ j : Nat, j ≤ 3 ∧ Hid (g = 3 - j) ∧ i = .int .i64 j ∧ ARow wo.heap.size wi u (sgR k j) ∧ Below wo.heap.size wo wi)
          case atStart => exact ⟨0, Nat.zero_le _, rfl, rfl, hr0, hb1⟩
          case round =>
            clear hb1 hr0
            obtain ⟨j, hj, hgk2, rfl, hR, hW⟩ := hrel
            by_cases hjt : j < 3
            · have hji : (j : Int) < 3 := by omega
              have HX := hide (sgR_succ k j)
              have hl' : (sgR k j).length ≤ 1048576 := by rw [len_sgR]; omega
              have hs' := hW.size
              obtain ⟨a, ha⟩ : ∃ a, a = k / 3 := ⟨_, rfl⟩
              obtain ⟨b, hb⟩ : ∃ a, a = k % 3 := ⟨_, rfl⟩
              obtain ⟨c_, hc_⟩ : ∃ a, a = j / 3 := ⟨_, rfl⟩
              obtain ⟨d, hd⟩ : ∃ a, a = j % 3 := ⟨_, rfl⟩
              by_cases hA0 : a = 0
              · by_cases hB0 : b = 0
                · have HE := hide (show 3 * ((c_ : Nat) : Int) + ((d : Nat) : Int) = ((sgE k j : Nat) : Int) from by unfold sgE; rw [← ha, ← hb, ← hc_, ← hd]; simp [hA0, hB0])
                  have ga : ((k : Int) / 3) = (a : Int) := by omega
                  have gb : ((k : Int) % 3) = (b : Int) := by omega
                  have gc : ((j : Int) / 3) = (c_ : Int) := by omega
                  have gd : ((j : Int) % 3) = (d : Int) := by omega
                  have ta : ((k : Int).tdiv 3) = (a : Int) := by rw [Int.tdiv_eq_ediv_of_nonneg (by omega)]; exact ga
                  have tb : ((k : Int).tmod 3) = (b : Int) := by rw [Int.tmod_eq_emod_of_nonneg (by omega)]; exact gb
                  have tc : ((j : Int).tdiv 3) = (c_ : Int) := by rw [Int.tdiv_eq_ediv_of_nonneg (by omega)]; exact gc
                  have td : ((j : Int).tmod 3) = (d : Int) := by rw [Int.tmod_eq_emod_of_nonneg (by omega)]; exact gd
                  have a3 : a ≤ 2 := by omega
                  have b3 : b ≤ 2 := by omega
                  have c3 : c_ ≤ 2 := by omega
                  have d3 : d ≤ 2 := by omega
                  subst hA0
                  subst hB0
                  clear ha hb hc_ hd
                  go_wp2_with (at_builtin; refine wp_app_int rfl (.tmp 44) (.tmp 49) rfl wo.heap.size _ _ _ _ rfl rfl hR hl' hs' ?_; intro v2 w3 hown2 hg2)
                  go_roundg (3 - (j + 1))
                  case measure => go_light; have := hgk2.out; omega
                  case rel => go_light; exact ⟨j + 1, by omega, rfl, by go_num, by rw [← HX.out, ← HE.out]; exact hown2, hW.trans (hR.belowOf hg2 (Nat.le_refl _) hs')⟩
                · have HE := hide (show 3 * ((c_ : Nat) : Int) + ((b : Nat) : Int) = ((sgE k j : Nat) : Int) from by unfold sgE; rw [← ha, ← hb, ← hc_, ← hd]; simp [hA0, hB0])
                  have ga : ((k : Int) / 3) = (a : Int) := by omega
                  have gb : ((k : Int) % 3) = (b : Int) := by omega
                  have gc : ((j : Int) / 3) = (c_ : Int) := by omega
                  have gd : ((j : Int) % 3) = (d : Int) := by omega
                  have ta : ((k : Int).tdiv 3) = (a : Int) := by rw [Int.tdiv_eq_ediv_of_nonneg (by omega)]; exact ga
                  have tb : ((k : Int).tmod 3) = (b : Int) := by rw [Int.tmod_eq_emod_of_nonneg (by omega)]; exact gb
                  have tc : ((j : Int).tdiv 3) = (c_ : Int) := by rw [Int.tdiv_eq_ediv_of_nonneg (by omega)]; exact gc
                  have td : ((j : Int).tmod 3) = (d : Int) := by rw [Int.tmod_eq_emod_of_nonneg (by omega)]; exact gd
                  have a3 : a ≤ 2 := by omega
                  have b3 : b ≤ 2 := by omega
                  have c3 : c_ ≤ 2 := by omega
                  have d3 : d ≤ 2 := by omega
                  subst hA0
                  have hBz : ((b : Int) == 0) = false := beq_eq_false_iff_ne.2 (by omega)
                  clear hB0
                  clear ha hb hc_ hd
                  go_wp2_with (at_builtin; refine wp_app_int rfl (.tmp 44) (.tmp 49) rfl wo.heap.size _ _ _ _ rfl rfl hR hl' hs' ?_; intro v2 w3 hown2 hg2)
                  go_roundg (3 - (j + 1))
                  case measure => go_light; have := hgk2.out; omega
                  case rel => go_light; exact ⟨j + 1, by omega, rfl, by go_num, by rw [← HX.out, ← HE.out]; exact hown2, hW.trans (hR.belowOf hg2 (Nat.le_refl _) hs')⟩
              · by_cases hB0 : b = 0
                · have HE := hide (show 3 * ((a : Nat) : Int) + ((d : Nat) : Int) = ((sgE k j : Nat) : Int) from by unfold sgE; rw [← ha, ← hb, ← hc_, ← hd]; simp [hA0, hB0])
                  have ga : ((k : Int) / 3) = (a : Int) := by omega
                  have gb : ((k : Int) % 3) = (b : Int) := by omega
                  have gc : ((j : Int) / 3) = (c_ : Int) := by omega
                  have gd : ((j : Int) % 3) = (d : Int) := by omega
                  have ta : ((k : Int).tdiv 3) = (a : Int) := by rw [Int.tdiv_eq_ediv_of_nonneg (by omega)]; exact ga
                  have tb : ((k : Int).tmod 3) = (b : Int) := by rw [Int.tmod_eq_emod_of_nonneg (by omega)]; exact gb
                  have tc : ((j : Int).tdiv 3) = (c_ : Int) := by rw [Int.tdiv_eq_ediv_of_nonneg (by omega)]; exact gc
                  have td : ((j : Int).tmod 3) = (d : Int) := by rw [Int.tmod_eq_emod_of_nonneg (by omega)]; exact gd
                  have a3 : a ≤ 2 := by omega
                  have b3 : b ≤ 2 := by omega
                  have c3 : c_ ≤ 2 := by omega
                  have d3 : d ≤ 2 := by omega
                  have hAz : ((a : Int) == 0) = false := beq_eq_false_iff_ne.2 (by omega)
                  clear hA0
                  subst hB0
                  clear ha hb hc_ hd
                  go_wp2_with (at_builtin; refine wp_app_int rfl (.tmp 44) (.tmp 49) rfl wo.heap.size _ _ _ _ rfl rfl hR hl' hs' ?_; intro v2 w3 hown2 hg2)
                  go_roundg (3 - (j + 1))
                  case measure => go_light; have := hgk2.out; omega
                  case rel => go_light; exact ⟨j + 1, by omega, rfl, by go_num, by rw [← HX.out, ← HE.out]; exact hown2, hW.trans (hR.belowOf hg2 (Nat.le_refl _) hs')⟩
                · have HE := hide (show 3 * ((a : Nat) : Int) + ((b : Nat) : Int) = ((sgE k j : Nat) : Int) from by unfold sgE; rw [← ha, ← hb, ← hc_, ← hd]; simp [hA0, hB0])
                  have ga : ((k : Int) / 3) = (a : Int) := by omega
                  have gb : ((k : Int) % 3) = (b : Int) := by omega
                  have gc : ((j : Int) / 3) = (c_ : Int) := by omega
                  have gd : ((j : Int) % 3) = (d : Int) := by omega
                  have ta : ((k : Int).tdiv 3) = (a : Int) := by rw [Int.tdiv_eq_ediv_of_nonneg (by omega)]; exact ga
                  have tb : ((k : Int).tmod 3) = (b : Int) := by rw [Int.tmod_eq_emod_of_nonneg (by omega)]; exact gb
                  have tc : ((j : Int).tdiv 3) = (c_ : Int) := by rw [Int.tdiv_eq_ediv_of_nonneg (by omega)]; exact gc
                  have td : ((j : Int).tmod 3) = (d : Int) := by rw [Int.tmod_eq_emod_of_nonneg (by omega)]; exact gd
                  have a3 : a ≤ 2 := by omega
                  have b3 : b ≤ 2 := by omega
                  have c3 : c_ ≤ 2 := by omega
                  have d3 : d ≤ 2 := by omega
                  have hAz : ((a : Int) == 0) = false := beq_eq_false_iff_ne.2 (by omega)
                  clear hA0
                  have hBz : ((b : Int) == 0) = false := beq_eq_false_iff_ne.2 (by omega)
                  clear hB0
                  clear ha hb hc_ hd
                  go_wp2_with (at_builtin; refine wp_app_int rfl (.tmp 44) (.tmp 49) rfl wo.heap.size _ _ _ _ rfl rfl hR hl' hs' ?_; intro v2 w3 hown2 hg2)
                  go_roundg (3 - (j + 1))
                  case measure => go_light; have := hgk2.out; omega
                  case rel => go_light; exact ⟨j + 1, by omega, rfl, by go_num, by rw [← HX.out, ← HE.out]; exact hown2, hW.trans (hR.belowOf hg2 (Nat.le_refl _) hs')⟩
            · obtain rfl : j = 3 := by omega
              have hA2 := hA.below hW
              obtain ⟨Ar, cr, hAr, _, _, _⟩ := hR.val
              rw [len_sgR] at hAr
              subst hAr
              have hwi := hB.size
              have hl' : (sgM 3 k).length ≤ 1048576 := by rw [len_sgM]; omega
              have hs2 : w.heap.size ≤ wr.heap.size := Nat.le_trans hwi hW.size
              go_wp2_with (at_builtin; refine wp_app_row rfl (.tmp 51) (.tmp 53) rfl w.heap.size _ _ _ _ _ rfl rfl hA2 (hR.mono hwi) hl' hs2 ?_; intro v1 w3 hown1 hg1)
              go_roundg (3 - (k + 1))
              case measure => go_light; have := hgk.out; omega
              case rel => go_light; exact ⟨k + 1, by omega, rfl, by go_num, by rw [← sgM_succ]; exact hown1, (hB.trans (hW.mono hwi)).trans (hA2.belowOf hg1 (Nat.le_refl _) hs2)⟩
        · obtain rfl : k = 3 := by omega
          obtain ⟨A9, c9, hv, _, _, hM⟩ := hA.val
          subst hv
          go_wp2
          go_ret
          rw [HE.out]
          exact ⟨A9, c9, rfl, hB, hM⟩
    · have HE := hide (show sgT 2 = sgM 9 9 from rfl)
      have T0 : ATab w.heap.size (w.alloc (.cells #[] 58)) (.slice (some ⟨w.heap.size, 0, none⟩) 0 0) [] := ATab.made (Nat.le_refl _)
      have bn := (Below.refl w.heap.size w).alloc (Nat.le_refl _) (.cells #[] 58)
      have zn : (w.alloc (.cells #[] 58)).heap.size = w.heap.size + 1 := by simp
      have b1 := (Below.refl (w.alloc (.cells #[] 58)).heap.size (w.alloc (.cells #[] 58))).alloc (Nat.le_refl _) (.cells #[.int .i64 0, .int .i64 3, .int .i64 9] 3)
      have T1 := T0.below b1
      have B1 := bn.trans (b1.mono (by omega))
      go_enter Try.func48, Try.ntmps48
      go_wp2
      go_loopg [5, 3] 9 (fun g i v wr => ∃ k : Nat, k ≤ 9 ∧ Hid (g = 9 - k) ∧ i = .int .i64 k ∧ ATab w.heap.size wr v (sgM 9 k) ∧ Below w.heap.size w wr)
      case atStart => exact ⟨0, Nat.zero_le _, rfl, rfl, T1, B1⟩
      case round =>
        clear T0 T1 B1 bn zn b1
        obtain ⟨k, hk, hgk, rfl, hA, hB⟩ := hrel
        by_cases hkt : k < 9
        · obtain ⟨wo, rfl⟩ : ∃ wo : World, wo = wr := ⟨_, rfl⟩
          have hki : (k : Int) < 9 := by omega
          have hb1 := (Below.refl wo.heap.size wo).alloc (Nat.le_refl _) (.cells #[] 3)
          have hr0 := ARow.made (w := wo) (Nat.le_refl _)
          go_wp2_with fail
          refine (l1In_any 2 1 2 _).mono ?_
          rw [show (decide ((1 : Int) ≤ 2) && decide ((2 : Int) ≤ 2)) = true from rfl]
          rintro e w' ⟨rfl, rfl⟩
          go_wp2
          go_loopg [7, 6] 9 (fun g i u wi => ∃ j : Nat, j ≤ 9 ∧ Hid (g = 9 - j) ∧ i = .int .i64 j ∧ ARow wo.heap.size wi u (sgR k j) ∧ Below wo.heap.size wo wi)
          case atStart => exact ⟨0, Nat.zero_le _, rfl, rfl, hr0, hb1⟩
          case round =>
            clear hb1 hr0
            obtain ⟨j, hj, hgk2, rfl, hR, hW⟩ := hrel
            by_cases hjt : j < 9
            · have hji : (j : Int) < 9 := by omega
              have HX := hide (sgR_succ k j)
              have hl' : (sgR k j).length ≤ 1048576 := by rw [len_sgR]; omega
              have hs' := hW.size
              obtain ⟨a, ha⟩ : ∃ a, a = k / 3 := ⟨_, rfl⟩
              obtain ⟨b, hb⟩ : ∃ a, a = k % 3 := ⟨_, rfl⟩
              obtain ⟨c_, hc_⟩ : ∃ a, a = j / 3 := ⟨_, rfl⟩
              obtain ⟨d, hd⟩ : ∃ a, a = j % 3 := ⟨_, rfl⟩
              by_cases hA0 : a = 0
              · by_cases hB0 : b = 0
                · have HE := hide (show 3 * ((c_ : Nat) : Int) + ((d : Nat) : Int) = ((sgE k j : Nat) : Int) from by unfold sgE; rw [← ha, ← hb, ← hc_, ← hd]; simp [hA0, hB0])
                  have ga : ((k : Int) / 3) = (a : Int) := by omega
                  have gb : ((k : Int) % 3) = (b : Int) := by omega
                  have gc : ((j : Int) / 3) = (c_ : Int) := by omega
                  have gd : ((j : Int) % 3) = (d : Int) := by omega
                  have ta : ((k : Int).tdiv 3) = (a : Int) := by rw [Int.tdiv_eq_ediv_of_nonneg (by omega)]; exact ga
                  have tb : ((k : Int).tmod 3) = (b : Int) := by rw [Int.tmod_eq_emod_of_nonneg (by omega)]; exact gb
                  have tc : ((j : Int).tdiv 3) = (c_ : Int) := by rw [Int.tdiv_eq_ediv_of_nonneg (by omega)]; exact gc
                  have td : ((j : Int).tmod 3) = (d : Int) := by rw [Int.tmod_eq_emod_of_nonneg (by omega)]; exact gd
                  have a3 : a ≤ 2 := by omega
                  have b3 : b ≤ 2 := by omega
                  have c3 : c_ ≤ 2 := by omega
                  have d3 : d ≤ 2 := by omega
                  subst hA0
                  subst hB0
                  clear ha hb hc_ hd
                  go_wp2_with (at_builtin; refine wp_app_int rfl (.tmp 44) (.tmp 49) rfl wo.heap.size _ _ _ _ rfl rfl hR hl' hs' ?_; intro v2 w3 hown2 hg2)
                  go_roundg (9 - (j + 1))
                  case measure => go_light; have := hgk2.out; omega
                  case rel => go_light; exact ⟨j + 1, by omega, rfl, by go_num, by rw [← HX.out, ← HE.out]; exact hown2, hW.trans (hR.belowOf hg2 (Nat.le_refl _) hs')⟩
                · have HE := hide (show 3 * ((c_ : Nat) : Int) + ((b : Nat) : Int) = ((sgE k j : Nat) : Int) from by unfold sgE; rw [← ha, ← hb, ← hc_, ← hd]; simp [hA0, hB0])
                  have ga : ((k : Int) / 3) = (a : Int) := by omega
                  have gb : ((k : Int) % 3) = (b : Int) := by omega
                  have gc : ((j : Int) / 3) = (c_ : Int) := by omega
                  have gd : ((j : Int) % 3) = (d : Int) := by omega
                  have ta : ((k : Int).tdiv 3) = (a : Int) := by rw [Int.tdiv_eq_ediv_of_nonneg (by omega)]; exact ga
                  have tb : ((k : Int).tmod 3) = (b : Int) := by rw [Int.tmod_eq_emod_of_nonneg (by omega)]; exact gb
                  have tc : ((j : Int).tdiv 3) = (c_ : Int) := by rw [Int.tdiv_eq_ediv_of_nonneg (by omega)]; exact gc
                  have td : ((j : Int).tmod 3) = (d : Int) := by rw [Int.tmod_eq_emod_of_nonneg (by omega)]; exact gd
                  have a3 : a ≤ 2 := by omega
                  have b3 : b ≤ 2 := by omega
                  have c3 : c_ ≤ 2 := by omega
                  have d3 : d ≤ 2 := by omega
                  subst hA0
                  have hBz : ((b : Int) == 0) = false := beq_eq_false_iff_ne.2 (by omega)
                  clear hB0
                  clear ha hb hc_ hd
                  go_wp2_with (at_builtin; refine wp_app_int rfl (.tmp 44) (.tmp 49) rfl wo.heap.size _ _ _ _ rfl rfl hR hl' hs' ?_; intro v2 w3 hown2 hg2)
                  go_roundg (9 - (j + 1))
                  case measure => go_light; have := hgk2.out; omega
                  case rel => go_light; exact ⟨j + 1, by omega, rfl, by go_num, by rw [← HX.out, ← HE.out]; exact hown2, hW.trans (hR.belowOf hg2 (Nat.le_refl _) hs')⟩
              · by_cases hB0 : b = 0
                · have HE := hide (show 3 * ((a : Nat) : Int) + ((d : Nat) : Int) = ((sgE k j : Nat) : Int) from by unfold sgE; rw [← ha, ← hb, ← hc_, ← hd]; simp [hA0, hB0])
                  have ga : ((k : Int) / 3) = (a : Int) := by omega
                  have gb : ((k : Int) % 3) = (b : Int) := by omega
                  have gc : ((j : Int) / 3) = (c_ : Int) := by omega
                  have gd : ((j : Int) % 3) = (d : Int) := by omega
                  have ta : ((k : Int).tdiv 3) = (a : Int) := by rw [Int.tdiv_eq_ediv_of_nonneg (by omega)]; exact ga
                  have tb : ((k : Int).tmod 3) = (b : Int) := by rw [Int.tmod_eq_emod_of_nonneg (by omega)]; exact gb
                  have tc : ((j : Int).tdiv 3) = (c_ : Int) := by rw [Int.tdiv_eq_ediv_of_nonneg (by omega)]; exact gc
                  have td : ((j : Int).tmod 3) = (d : Int) := by rw [Int.tmod_eq_emod_of_nonneg (by omega)]; exact gd
                  have a3 : a ≤ 2 := by omega
                  have b3 : b ≤ 2 := by omega
                  have c3 : c_ ≤ 2 := by omega
                  have d3 : d ≤ 2 := by omega
                  have hAz : ((a : Int) == 0) = false := beq_eq_false_iff_ne.2 (by omega)
                  clear hA0
                  subst hB0
                  clear ha hb hc_ hd
                  go_wp2_with (at_builtin; refine wp_app_int rfl (.tmp 44) (.tmp 49) rfl wo.heap.size _ _ _ _ rfl rfl hR hl' hs' ?_; intro v2 w3 hown2 hg2)
                  go_roundg (9 - (j + 1))
                  case measure => go_light; have := hgk2.out; omega
                  case rel => go_light; exact ⟨j + 1, by omega, rfl, by go_num, by rw [← HX.out, ← HE.out]; exact hown2, hW.trans (hR.belowOf hg2 (Nat.le_refl _) hs')⟩
                · have HE := hide (show 3 * ((a : Nat) : Int) + ((b : Nat) : Int) = ((sgE k j : Nat) : Int) from by unfold sgE; rw [← ha, ← hb, ← hc_, ← hd]; simp [hA0, hB0])
                  have ga : ((k : Int) / 3) = (a : Int) := by omega
                  have gb : ((k : Int) % 3) = (b : Int) := by omega
                  have gc : ((j : Int) / 3) = (c_ : Int) := by omega
                  have gd : ((j : Int) % 3) = (d : Int) := by omega
                  have ta : ((k : Int).tdiv 3) = (a : Int) := by rw [Int.tdiv_eq_ediv_of_nonneg (by omega)]; exact ga
                  have tb : ((k : Int).tmod 3) = (b : Int) := by rw [Int.tmod_eq_emod_of_nonneg (by omega)]; exact gb
                  have tc : ((j : Int).tdiv 3) = (c_ : Int) := by rw [Int.tdiv_eq_ediv_of_nonneg (by omega)]; exact gc
                  have td : ((j : Int).tmod 3) = (d : Int) := by rw [Int.tmod_eq_emod_of_nonneg (by omega)]; exact gd
                  have a3 : a ≤ 2 := by omega
                  have b3 : b ≤ 2 := by omega
                  have c3 : c_ ≤ 2 := by omega
                  have d3 : d ≤ 2 := by omega
                  have hAz : ((a : Int) == 0) = false := beq_eq_false_iff_ne.2 (by omega)
                  clear hA0
                  have hBz : ((b : Int) == 0) = false := beq_eq_false_iff_ne.2 (by omega)
                  clear hB0
                  clear ha hb hc_ hd
                  go_wp2_with (at_builtin; refine wp_app_int rfl (.tmp 44) (.tmp 49) rfl wo.heap.size _ _ _ _ rfl rfl hR hl' hs' ?_; intro v2 w3 hown2 hg2)
                  go_roundg (9 - (j + 1))
                  case measure => go_light; have := hgk2.out; omega
                  case rel => go_light; exact ⟨j + 1, by omega, rfl, by go_num, by rw [← HX.out, ← HE.out]; exact hown2, hW.trans (hR.belowOf hg2 (Nat.le_refl _) hs')⟩
            · obtain rfl : j = 9 := by omega
              have hA2 := hA.below hW
              obtain ⟨Ar, cr, hAr, _, _, _⟩ := hR.val
              rw [len_sgR] at hAr
              subst hAr
              have hwi := hB.size
              have hl' : (sgM 9 k).length ≤ 1048576 := by rw [len_sgM]; omega
              have hs2 : w.heap.size ≤ wr.heap.size := Nat.le_trans hwi hW.size
              go_wp2_with (at_builtin; refine wp_app_row rfl (.tmp 51) (.tmp 53) rfl w.heap.size _ _ _ _ _ rfl rfl hA2 (hR.mono hwi) hl' hs2 ?_; intro v1 w3 hown1 hg1)
              go_roundg (9 - (k + 1))
              case measure => go_light; have := hgk.out; omega
              case rel => go_light; exact ⟨k + 1, by omega, rfl, by go_num, by rw [← sgM_succ]; exact hown1, (hB.trans (hW.mono hwi)).trans (hA2.belowOf hg1 (Nat.le_refl _) hs2)⟩
        · obtain rfl : k = 9 := by omega
          obtain ⟨A9, c9, hv, _, _, hM⟩ := hA.val
          subst hv
          go_wp2
          go_ret
          rw [HE.out]
          exact ⟨A9, c9, rfl, hB, hM⟩

end Go.Proofs.Ythllbekoidogpaa

namespace Go.Proofs.Ythllbekoidogpaa
open Go.RowKit
set_option linter.unusedVariables false


theorem xor_nat (a b : Nat) (ha : a < 4611686018427387904) (hb : b < 4611686018427387904) : bits .xor .i64 (a : Int) (b : Int) = ((a ^^^ b : Nat) : Int) := by
  have ha' : a % 2 ^ 64 = a := Nat.mod_eq_of_lt (by omega)
  have hb' : b % 2 ^ 64 = b := Nat.mod_eq_of_lt (by omega)
  have h : a ^^^ b < 2 ^ 62 := Nat.xor_lt_two_pow (by omega) (by omega)
  have e : IntKind.i64.bits = 64 := rfl
  simp only [bits, BitVec.ofInt_natCast, BitVec.toNat_xor, BitVec.toNat_ofNat, e, ha', hb']
  exact IntWalk.i64_in _ (by omega)
theorem xor_nonneg {x y : Int} (hx0 : 0 ≤ x) (hx1 : x < 4611686018427387904) (hy0 : 0 ≤ y) (hy1 : y < 4611686018427387904) : 0 ≤ bits .xor .i64 x y := by
  have := xor_nat x.toNat y.toNat (by omega) (by omega)
  rw [Int.toNat_of_nonneg hx0, Int.toNat_of_nonneg hy0] at this
  rw [this]; exact Int.natCast_nonneg _

/-- Bytes that came in, below block B. -/
def Bytes (w : World) (B : Nat) (A : Option Addr) (n : Nat) : Prop :=
  ∀ j, j < n → ∃ b o z, A = some ⟨b, o, none⟩ ∧ b < B ∧ w.cell? ⟨b, o + j, none⟩ = some (.int .u8 z) ∧ 0 ≤ z ∧ z ≤ 255
/-- The reader in block g, after P picks. -/
structure Rd (w : World) (B g P : Nat) (A : Option Addr) (n c : Nat) : Prop where
  heap : w.heap[g]? = some (.cells #[.slice A n c, .int .i64 (P : Nat)] 80 (0, 0))
  low : B ≤ g
  len : n ≤ 2000
  bytes : Bytes w B A n
theorem Rd.lt {w : World} {B g P n c : Nat} {A : Option Addr} (h : Rd w B g P A n c) : g < w.heap.size := (Array.getElem?_eq_some_iff.1 h.heap).1
theorem Rd.c0 {w : World} {B g P n c : Nat} {A : Option Addr} (h : Rd w B g P A n c) : w.cell? ⟨g, 0, none⟩ = some (.slice A n c) := by simp [World.cell?, h.heap]
theorem Rd.c1 {w : World} {B g P n c : Nat} {A : Option Addr} (h : Rd w B g P A n c) : w.cell? ⟨g, 1, none⟩ = some (.int .i64 (P : Nat)) := by simp [World.cell?, h.heap]
theorem Rd.f1 {w : World} {B g P n c : Nat} {A : Option Addr} (h : Rd w B g P A n c) : w.frozen? ⟨g, 1, none⟩ = false := by simp [World.frozen?, h.heap]
theorem Rd.next {w : World} {B g P n c : Nat} {A : Option Addr} (h : Rd w B g P A n c) : Rd (w.setCell ⟨g, 1, none⟩ (.int .i64 ((P : Int) + 1))) B g (P + 1) A n c := by
  refine ⟨?_, h.low, h.len, fun j hj => ?_⟩
  · simp [World.setCell, Array.getElem?_modify, h.heap]
  · obtain ⟨b, o, z, e, hb, hc, hz⟩ := h.bytes j hj
    exact ⟨b, o, z, e, hb, (World.cell?_of_block (w := w) (Below.heap_setCell _ _ _ _ (by show b ≠ g; have := h.low; omega))).trans hc, hz⟩
theorem Rd.below {w w' : World} {B g P n c : Nat} {A : Option Addr} (h : Rd w B g P A n c) (hb : Below w.heap.size w w') : Rd w' B g P A n c :=
  ⟨(hb.block g h.lt).trans h.heap, h.low, h.len, fun j hj => by
    obtain ⟨b, o, z, e, hlt, hc, hz⟩ := h.bytes j hj
    exact ⟨b, o, z, e, hlt, (hb.cell (p := ⟨b, o + j, none⟩) (by show b < _; have := h.low; have := h.lt; omega)).trans hc, hz⟩⟩
theorem Rd.drewN {w : World} {B g P n c : Nat} {A : Option Addr} (h : Rd w B g P A n c) (k : Nat) : Rd (w.drewN k) B g P A n c := ⟨h.heap, h.low, h.len, h.bytes⟩

/-- What a pick of m gives: a number below m (0 for m < 1), and only the reader has turned. -/
def Picked (w : World) (B g P : Nat) (A : Option Addr) (n c : Nat) (m : Int) (e : Ending) (w' : World) : Prop :=
  ∃ v : Int, e = .returned (.int .i64 v) ∧ 0 ≤ v ∧ (v < m ∨ v = 0) ∧ Rd w' B g (P + 1) A n c ∧ Only g (g + 1) w w' ∧ w'.heap.size = w.heap.size

set_option maxHeartbeats 4000000 in
theorem pick_any (B g P : Nat) (A : Option Addr) (n c : Nat) (m : Int) (w : World) (h : Rd w B g P A n c) (hP : P ≤ 100000) (hm0 : -100000 ≤ m) (hm : m ≤ 100000) :
    Calls Try.prog 55 #[.pointer (some ⟨g, 0, none⟩), .int .i64 m] w (Picked w B g P A n c m) := by
  have c0 := h.c0
  have c1 := h.c1
  have f1 := h.f1
  have hN := h.next
  have hO : Only g (g + 1) w (w.setCell ⟨g, 1, none⟩ (.int .i64 ((P : Int) + 1))) := Only.setCell (p := ⟨g, 1, none⟩) (Only.refl _ _ _) (Nat.le_refl _) (by show g < g + 1; omega) _
  have hsz : (w.setCell ⟨g, 1, none⟩ (.int .i64 ((P : Int) + 1))).heap.size = w.heap.size := by simp [World.setCell]
  have HZ := hide hsz
  clear hsz
  have n0 := hN.c0
  have n1 := hN.c1
  have n1' : (w.setCell ⟨g, 1, none⟩ (.int .i64 ((P : Int) + 1))).cell? ⟨g, 1, none⟩ = some (.int .i64 ((P : Int) + 1)) := by simpa using n1
  clear n1
  have hl := h.len
  by_cases hm1 : m < 1
  · go_enter Try.func55, Try.ntmps55
    go_wp2
    go_ret
    exact ⟨0, rfl, by omega, .inr rfl, hN, hO, HZ.out⟩
  by_cases hn0 : n = 0
  · subst hn0
    go_enter Try.func55, Try.ntmps55
    go_wp2
    go_ret
    exact ⟨0, rfl, by omega, .inr rfl, hN, hO, HZ.out⟩
  have hz : ((n : Int) == 0) = false := beq_eq_false_iff_ne.2 (by omega)
  by_cases hlt : P < n
  · obtain ⟨b, o, z, rfl, hb, hc, hz0, hz1⟩ := hN.bytes P hlt
    go_enter Try.func55, Try.ntmps55
    go_wp2
    go_ret
    exact ⟨z % m, rfl, Int.emod_nonneg _ (by omega), .inl (Int.emod_lt_of_pos _ (by omega)), hN, hO, HZ.out⟩
  · have hn1 : 1 ≤ n := by omega
    have d0 : 0 ≤ (P : Int) / (n : Int) := Int.ediv_nonneg (by omega) (by omega)
    have d1 : (P : Int) / (n : Int) ≤ 100000 := Int.le_trans (Int.ediv_le_self _ (by omega)) (by omega)
    have x0 : 0 ≤ (P : Int) % (n : Int) := Int.emod_nonneg _ (by omega)
    have x1 : (P : Int) % (n : Int) < (n : Int) := Int.emod_lt_of_pos _ (by omega)
    have y0 : 0 ≤ ((P : Int) * 7 + 3) % (n : Int) := Int.emod_nonneg _ (by omega)
    have y1 : ((P : Int) * 7 + 3) % (n : Int) < (n : Int) := Int.emod_lt_of_pos _ (by omega)
    obtain ⟨b, o, z1, rfl, hb, hc1, hz10, hz11⟩ := hN.bytes ((P : Int) % (n : Int)).toNat (by omega)
    obtain ⟨b', o', z2, e2, _, hc2, hz20, hz21⟩ := hN.bytes (((P : Int) * 7 + 3) % (n : Int)).toNat (by omega)
    obtain ⟨rfl, rfl⟩ : b = b' ∧ o = o' := by simpa using e2
    clear e2
    have hc1' := hc1
    have hc2' := hc2
    rw [show ((P : Int) % (n : Int)).toNat = P % n from by omega] at hc1'
    rw [show (((P : Int) * 7 + 3) % (n : Int)).toNat = (P * 7 + 3) % n from by
      rw [show ((P : Int) * 7 + 3) % (n : Int) = (((P * 7 + 3) % n : Nat) : Int) from by simp]; exact Int.toNat_natCast _] at hc2'
    go_enter Try.func55, Try.ntmps55
    go_wp2
    go_quiet (fail)
    obtain ⟨X, hX⟩ : ∃ X : Int, X = z1 * 131 + z2 * 1117 + (P : Int) * 29 + (P : Int) / (n : Int) * 53 := ⟨_, rfl⟩
    have hX0 : 0 ≤ X := by omega
    have hX1 : X ≤ 10000000 := by omega
    rw [← hX]
    have hv : 0 ≤ bits .xor .i64 X (X / 64) := xor_nonneg hX0 (by omega) (by omega) (by omega)
    clear hX
    go_wp2
    go_ret
    exact ⟨_, rfl, Int.emod_nonneg _ (by omega), .inl (Int.emod_lt_of_pos _ (by omega)), hN.drewN _, hO.drewN _, HZ.out⟩
end Go.Proofs.Ythllbekoidogpaa

namespace Go.Proofs.Ythllbekoidogpaa
open Go.RowKit
set_option linter.unusedVariables false


/-- p rows of N numbers. -/
structure Rect (T : List (List Int)) (p N : Nat) : Prop where
  len : T.length = p
  row : ∀ i, i < p → (rw_ T i).length = N
theorem Rect.nil_ (N : Nat) : Rect [] 0 N := ⟨rfl, fun i hi => absurd hi (Nat.not_lt_zero _)⟩
theorem Rect.small {T : List (List Int)} {p N : Nat} (h : Rect T p N) (hp : p ≤ 9) (hN : N ≤ 9) : Small T := ⟨by rw [h.len]; omega, fun i hi => by rw [h.len] at hi; rw [h.row i hi]; omega⟩
/-- What a square table holds in memory at two indices. -/
theorem Mat.sq {w : World} {lo hi : Nat} {A : Option Addr} {T : List (List Int)} {n : Nat} (h : Mat w lo hi A T) (hT : Rect T n n) {x y : Nat} (hx : x < n) (hy : y < n) :
    ∃ b o b2 o2 c z, A = some ⟨b, o, none⟩ ∧ lo ≤ b ∧ b < hi ∧ w.cell? ⟨b, o + x, none⟩ = some (.slice (some ⟨b2, o2, none⟩) n c) ∧ lo ≤ b2 ∧ b2 < hi ∧ w.cell? ⟨b2, o2 + y, none⟩ = some (.int .i64 z) := by
  obtain ⟨b, o, A', c, rfl, h1, h2, hc, hR⟩ := h x (by rw [hT.len]; exact hx)
  have hl := hT.row x hx
  obtain ⟨b2, o2, rfl, h3, h4, hc2⟩ := hR y (by rw [hl]; exact hy)
  rw [hl] at hc
  exact ⟨b, o, b2, o2, c, _, rfl, h1, h2, hc, h3, h4, hc2⟩

theorem _root_.Go.RowKit.Below.more {w w1 : World} (h : Below w.heap.size w w1) (o : Obj) : Below w.heap.size w (w1.alloc o) := h.alloc h.size o
end Go.Proofs.Ythllbekoidogpaa

namespace Go.Proofs.Ythllbekoidogpaa
open Go.RowKit
set_option linter.unusedVariables false

theorem ATab.low {base lo hi : Nat} {w w' : World} {v : Value} {T : List (List Int)} (h : ATab base w v T) (hO : Only lo hi w w') (hb : hi ≤ base) : ATab base w' v T := by
  have kr : ∀ {e : TypeId} {size n : Nat} {u : Value} {vs : List Value}, w.ownsRow base e size u n vs → w'.ownsRow base e size u n vs := fun hr => by
    obtain ⟨h1, h2⟩ := hr
    refine ⟨h1, h2.imp id ?_⟩
    rintro ⟨g, cap, cur, hv, hg, hh, r⟩
    exact ⟨g, cap, cur, hv, hg, (hO.block g (Array.getElem?_eq_some_iff.1 hh).1 (.inr (by omega))).trans hh, r⟩
  obtain ⟨vs, h1, h2⟩ := h
  exact ⟨vs, kr h1, fun i hi => by
    obtain ⟨u, hu, hr⟩ := h2 i hi
    exact ⟨u, hu, kr hr⟩⟩
theorem ARow.low {base lo hi : Nat} {w w' : World} {v : Value} {xs : List Int} (h : ARow base w v xs) (hO : Only lo hi w w') (hb : hi ≤ base) : ARow base w' v xs := by
  obtain ⟨h1, h2⟩ := h
  refine ⟨h1, h2.imp id ?_⟩
  rintro ⟨g, cap, cur, hv, hg, hh, r⟩
  exact ⟨g, cap, cur, hv, hg, (hO.block g (Array.getElem?_eq_some_iff.1 hh).1 (.inr (by omega))).trans hh, r⟩
theorem Only.thenBelow {lo hi M : Nat} {a b c : World} (h : Only lo hi a b) (k : Below M b c) (hM : a.heap.size ≤ M) : Only lo hi a c :=
  ⟨k.os.trans h.os, k.tape.trans h.tape, k.output.trans h.output, Nat.le_trans h.size k.size, fun i hi ho => (k.block i (by omega)).trans (h.block i hi ho)⟩
theorem Rd.belowM {w w' : World} {B g P n c M : Nat} {A : Option Addr} (h : Rd w B g P A n c) (hb : Below M w w') (hM : g < M) : Rd w' B g P A n c :=
  ⟨(hb.block g hM).trans h.heap, h.low, h.len, fun j hj => by
    obtain ⟨b, o, z, e, hlt, hc, hz⟩ := h.bytes j hj
    exact ⟨b, o, z, e, hlt, (hb.cell (p := ⟨b, o + j, none⟩) (by show b < _; have := h.low; omega)).trans hc, hz⟩⟩

/-- A call that draws a square table. -/
def DrawSq (w : World) (B g P : Nat) (A : Option Addr) (n c : Nat) (e : Ending) (w' : World) : Prop :=
  ∃ v T m P', e = .returned v ∧ P' ≤ P + 40 ∧ Rd w' B g P' A n c ∧ Only g (g + 1) w w' ∧ ATab w.heap.size w' v T ∧ Rect T m m ∧ 1 ≤ m ∧ m ≤ 9

end Go.Proofs.Ythllbekoidogpaa

namespace Go.Proofs.Ythllbekoidogpaa
open Go.RowKit
set_option linter.unusedVariables false


set_option maxHeartbeats 1000000 in
theorem odd_any (B g P : Nat) (A : Option Addr) (n c : Nat) (m : Int) (w : World) (h : Rd w B g P A n c) (hP : P ≤ 10000) (hm0 : 1 ≤ m) (hm : m ≤ 1000) :
    Calls Try.prog 99 #[.pointer (some ⟨g, 0, none⟩), .int .i64 m] w fun e w' => (∃ b : Bool, e = .returned (.bool b)) ∧ Rd w' B g (P + 1) A n c ∧ Only g (g + 1) w w' ∧ Hid (w'.heap.size = w.heap.size) := by
  go_enter Try.func99, Try.ntmps99
  go_wp2_with fail
  refine (pick_any B g P A n c m w h (by omega) (by omega) (by omega)).mono ?_
  rintro e w1 ⟨v, rfl, hv0, hv1, h1, hO1, hz1⟩
  have HZ := hide hz1
  clear hz1 hv1
  go_wp2
  go_ret
  exact ⟨⟨_, rfl⟩, h1, hO1, HZ⟩

/-- What the draws keep: the reader, and all that was there but the reader. -/
structure St (w wi : World) (B g P : Nat) (A : Option Addr) (n c : Nat) : Prop where
  rd : Rd wi B g P A n c
  only : Only g (g + 1) w wi
  lt : g < w.heap.size
/-- A square table of m things among what the draws have made. -/
def TabS (w wi : World) (v : Value) (m : Nat) : Prop := ∃ T, ATab w.heap.size wi v T ∧ Rect T m m
section
variable {w wi wj : World} {B g P n c m : Nat} {A : Option Addr} {v : Value}
theorem ATab.mono {base base' : Nat} {T : List (List Int)} (h : ATab base w v T) (hb : base' ≤ base) : ATab base' w v T := by
  obtain ⟨vs, h1, h2⟩ := h
  exact ⟨vs, ownsRow_mono h1 hb, fun i hi => by
    obtain ⟨u, hu, hr⟩ := h2 i hi
    exact ⟨u, hu, hr.mono hb⟩⟩
theorem TabS.val (h : TabS w wi v m) : ∃ A' c', v = .slice A' m c' := by
  obtain ⟨T, hA, hT⟩ := h
  obtain ⟨A', c', hv, _⟩ := hA.val
  rw [hT.len] at hv
  exact ⟨A', c', hv⟩
theorem TabS.only (h : TabS w wi v m) (hO : Only g (g + 1) wi wj) (hg : g < w.heap.size) : TabS w wj v m := by
  obtain ⟨T, hA, hT⟩ := h
  exact ⟨T, hA.low hO hg, hT⟩
theorem St.below (h : St w wi B g P A n c) (hb : Below wi.heap.size wi wj) : St w wj B g P A n c := ⟨h.rd.below hb, h.only.thenBelow hb h.only.size, h.lt⟩
theorem St.start (h : Rd w B g P A n c) : St w w B g P A n c := ⟨h, Only.refl _ _ _, h.lt⟩
theorem TabS.mat {A' : Option Addr} {c' : Nat} (h : TabS w wi (.slice A' m c') m) : ∃ T, Mat wi w.heap.size wi.heap.size A' T ∧ Rect T m m := by
  obtain ⟨T, hA, hT⟩ := h
  obtain ⟨A2, c2, hv, _, _, hM⟩ := hA.val
  injection hv with h1 _ _
  subst h1
  exact ⟨T, hM, hT⟩
end
theorem pick_st {w wi : World} {B g P n c : Nat} {A : Option Addr} (m : Int) (h : St w wi B g P A n c) (hP : P ≤ 10000) (hm0 : 1 ≤ m) (hm : m ≤ 1000) :
    Calls Try.prog 55 #[.pointer (some ⟨g, 0, none⟩), .int .i64 m] wi fun e wj => ∃ k : Nat, e = .returned (.int .i64 (k : Nat)) ∧ (k : Int) < m ∧ St w wj B g (P + 1) A n c ∧ Only g (g + 1) wi wj :=
  (pick_any B g P A n c m wi h.rd (by omega) (by omega) (by omega)).mono fun e wj ⟨v, he, hv0, hv1, hr, hO, _⟩ =>
    ⟨v.toNat, by rw [Int.toNat_of_nonneg hv0]; exact he, by omega, ⟨hr, h.only.trans hO, h.lt⟩, hO⟩
/-- What holds while a band is being drawn. -/
def Bd (w : World) (B g P : Nat) (A : Option Addr) (n c : Nat) (v : Value) (w' : World) : Prop :=
  ∃ m P' A' c', v = .slice A' m c' ∧ TabS w w' v m ∧ 1 ≤ m ∧ m ≤ 9 ∧ St w w' B g P' A n c ∧ P' ≤ P

end Go.Proofs.Ythllbekoidogpaa
