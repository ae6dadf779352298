/-  -/
import Derived.Test.YthllbekoidogpaaSignQ
import Derived.Test.YthllbekoidogpaaSword
import Derived.Test.YthllbekoidogpaaMadeS
import Derived.BigQuiet
import Derived.Test.YthllbekoidogpaaStrMark
import Derived.Test.YthllbekoidogpaaFill
import Derived.Deep.RegionHeld3
namespace Go.Proofs.Ythllbekoidogpaa
open Go.RowKit
set_option linter.unusedVariables false
set_option linter.unusedSimpArgs false

theorem noS {c : UInt8} (h : okS c = false) : ((c.toNat : Nat) : Int) ≠ 48 ∧ ((c.toNat : Nat) : Int) ≠ 43 ∧ ((c.toNat : Nat) : Int) ≠ 45 := by
  have key : ∀ d : UInt8, okS d = true → c ≠ d := fun d hd e => by rw [e, hd] at h; cases h
  have f : ∀ d : UInt8, okS d = true → ((c.toNat : Nat) : Int) ≠ ((d.toNat : Nat) : Int) := fun d hd e => key d hd (UInt8.toNat_inj.1 (by omega))
  exact ⟨f 48 rfl, f 43 rfl, f 45 rfl⟩
end Go.Proofs.Ythllbekoidogpaa

namespace Go.Proofs.Ythllbekoidogpaa
open Go.RowKit
set_option linter.unusedVariables false
set_option linter.unusedSimpArgs false

set_option maxRecDepth 20000 in
set_option maxHeartbeats 8000000 in
theorem sSignTable_any (m : Int) (w : World) : Calls Try.prog 48 #[.int .i64 m] w (NewTab w (sgT m)) := by
  cases hc : (decide (1 ≤ m) && decide (m ≤ 2))
  · have hcm : m < 1 ∨ 2 < m := by simp at hc; omega
    rcases hcm with h1 | h1
    · by_cases h0 : m = 0
      · subst h0
        have HE := hide (sgT_not hc)
        have bn := (Below.refl w.heap.size w).alloc (Nat.le_refl _) (.cells #[] 58)
        have b1 := bn.alloc (by simp) (.cells #[.int .i64 0, .int .i64 3, .int .i64 9] 3)
        go_enter Try.func48, Try.ntmps48
        go_wp2
        go_loopg [5, 3] 1 (fun g i v wr => i = .int .i64 0 ∧ v = .slice (some ⟨w.heap.size, 0, none⟩) 0 0 ∧ Below w.heap.size w wr)
        case atStart => exact ⟨rfl, rfl, b1⟩
        case round =>
          obtain ⟨rfl, rfl, hB⟩ := hrel
          go_wp2
          go_ret
          rw [HE.out]
          exact ⟨_, 0, rfl, hB, Mat.nil _ _ _ _⟩
      · have h0 : m < 0 := by omega
        have h2 : m < 2 := by omega
        have HE := hide (sgT_not hc)
        have bn := (Below.refl w.heap.size w).alloc (Nat.le_refl _) (.cells #[] 58)
        have b1 := bn.alloc (by simp) (.cells #[.int .i64 0, .int .i64 3, .int .i64 9] 3)
        go_enter Try.func48, Try.ntmps48
        go_wp2
        go_loopg [5, 3] 1 (fun g i v wr => i = .int .i64 0 ∧ v = .slice (some ⟨w.heap.size, 0, none⟩) 0 0 ∧ Below w.heap.size w wr)
        case atStart => exact ⟨rfl, rfl, b1⟩
        case round =>
          obtain ⟨rfl, rfl, hB⟩ := hrel
          go_wp2
          go_ret
          rw [HE.out]
          exact ⟨_, 0, rfl, hB, Mat.nil _ _ _ _⟩
    · have h2 : ¬ m < 2 := by omega
      have HE := hide (sgT_not hc)
      have bn := (Below.refl w.heap.size w).alloc (Nat.le_refl _) (.cells #[] 58)
      have b1 := bn.alloc (by simp) (.cells #[.int .i64 0, .int .i64 3, .int .i64 9] 3)
      go_enter Try.func48, Try.ntmps48
      go_wp2
      go_loopg [5, 3] 1 (fun g i v wr => i = .int .i64 0 ∧ v = .slice (some ⟨w.heap.size, 0, none⟩) 0 0 ∧ Below w.heap.size w wr)
      case atStart => exact ⟨rfl, rfl, b1⟩
      case round =>
        obtain ⟨rfl, rfl, hB⟩ := hrel
        go_wp2_with fail
        refine (l1In_any m 1 2 _).mono ?_
        rw [hc]
        rintro e w' ⟨rfl, rfl⟩
        go_wp2
        go_ret
        rw [HE.out]
        exact ⟨_, 0, rfl, hB, Mat.nil _ _ _ _⟩
  · have hcm : m = 1 ∨ m = 2 := by simp at hc; omega
    clear hc
    rcases hcm with rfl | rfl
    · have HE := hide (show sgT 1 = sgM 3 3 from rfl)
      have T0 : ATab w.heap.size (w.alloc (.cells #[] 58)) (.slice (some ⟨w.heap.size, 0, none⟩) 0 0) [] := ATab.made (Nat.le_refl _)
      have bn := (Below.refl w.heap.size w).alloc (Nat.le_refl _) (.cells #[] 58)
      have zn : (w.alloc (.cells #[] 58)).heap.size = w.heap.size + 1 := by simp
      have b1 := (Below.refl (w.alloc (.cells #[] 58)).heap.size (w.alloc (.cells #[] 58))).alloc (Nat.le_refl _) (.cells #[.int .i64 0, .int .i64 3, .int .i64 9] 3)
      have T1 := T0.below b1
      have B1 := bn.trans (b1.mono (by omega))
      go_enter Try.func48, Try.ntmps48
      go_wp2
      go_loopg [5, 3] 3 (fun g i v wr => ∃ k : Nat, k ≤ 3 ∧ Hid (g = 3 - k) ∧ i = .int .i64 k ∧ ATab w.heap.size wr v (sgM 3 k) ∧ Below w.heap.size w wr)
      case atStart => exact ⟨0, Nat.zero_le _, rfl, rfl, T1, B1⟩
      case round =>
        clear T0 T1 B1 bn zn b1
        obtain ⟨k, hk, hgk, rfl, hA, hB⟩ := hrel
        by_cases hkt : k < 3
        · obtain ⟨wo, rfl⟩ : ∃ wo : World, wo = wr := ⟨_, rfl⟩
          have hki : (k : Int) < 3 := by omega
          have hb1 := (Below.refl wo.heap.size wo).alloc (Nat.le_refl _) (.cells #[] 3)
          have hr0 := ARow.made (w := wo) (Nat.le_refl _)
          go_wp2_with fail
          refine (l1In_any 1 1 2 _).mono ?_
          rw [show (decide ((1 : Int) ≤ 1) && decide ((1 : Int) ≤ 2)) = true from rfl]
          rintro e w' ⟨rfl, rfl⟩
          go_wp2
          go_loopg [7, 6] 3 (fun g i u wi => ∃ j : Nat, j ≤ 3 ∧ Hid (g = 3 - j) ∧ i = .int .i64 j ∧ ARow wo.heap.size wi u (sgR k j) ∧ Below wo.heap.size wo wi)
          case atStart => exact ⟨0, Nat.zero_le _, rfl, rfl, hr0, hb1⟩
          case round =>
            clear hb1 hr0
            obtain ⟨j, hj, hgk2, rfl, hR, hW⟩ := hrel
            by_cases hjt : j < 3
            · have hji : (j : Int) < 3 := by omega
              have HX := hide (sgR_succ k j)
              have hl' : (sgR k j).length ≤ 1048576 := by rw [len_sgR]; omega
              have hs' := hW.size
              obtain ⟨a, ha⟩ : ∃ a, a = k / 3 := ⟨_, rfl⟩
              obtain ⟨b, hb⟩ : ∃ a, a = k % 3 := ⟨_, rfl⟩
              obtain ⟨c_, hc_⟩ : ∃ a, a = j / 3 := ⟨_, rfl⟩
              obtain ⟨d, hd⟩ : ∃ a, a = j % 3 := ⟨_, rfl⟩
              by_cases hA0 : a = 0
              · by_cases hB0 : b = 0
                · have HE := hide (show 3 * ((c_ : Nat) : Int) + ((d : Nat) : Int) = ((sgE k j : Nat) : Int) from by unfold sgE; rw [← ha, ← hb, ← hc_, ← hd]; simp [hA0, hB0])
                  have ga : ((k : Int) / 3) = (a : Int) := by omega
                  have gb : ((k : Int) % 3) = (b : Int) := by omega
                  have gc : ((j : Int) / 3) = (c_ : Int) := by omega
                  have gd : ((j : Int) % 3) = (d : Int) := by omega
                  have ta : ((k : Int).tdiv 3) = (a : Int) := by rw [Int.tdiv_eq_ediv_of_nonneg (by omega)]; exact ga
                  have tb : ((k : Int).tmod 3) = (b : Int) := by rw [Int.tmod_eq_emod_of_nonneg (by omega)]; exact gb
                  have tc : ((j : Int).tdiv 3) = (c_ : Int) := by rw [Int.tdiv_eq_ediv_of_nonneg (by omega)]; exact gc
                  have td : ((j : Int).tmod 3) = (d : Int) := by rw [Int.tmod_eq_emod_of_nonneg (by omega)]; exact gd
                  have a3 : a ≤ 2 := by omega
                  have b3 : b ≤ 2 := by omega
                  have c3 : c_ ≤ 2 := by omega
                  have d3 : d ≤ 2 := by omega
                  subst hA0
                  subst hB0
                  clear ha hb hc_ hd
                  go_wp2_with (at_builtin; refine wp_app_int rfl (.tmp 44) (.tmp 49) rfl wo.heap.size _ _ _ _ rfl rfl hR hl' hs' ?_; intro v2 w3 hown2 hg2)
                  go_roundg (3 - (j + 1))
                  case measure => go_light; have := hgk2.out; omega
                  case rel => go_light; exact ⟨j + 1, by omega, rfl, by go_num, by rw [← HX.out, ← HE.out]; exact hown2, hW.trans (hR.belowOf hg2 (Nat.le_refl _) hs')⟩
                · have HE := hide (show 3 * ((c_ : Nat) : Int) + ((b : Nat) : Int) = ((sgE k j : Nat) : Int) from by unfold sgE; rw [← ha, ← hb, ← hc_, ← hd]; simp [hA0, hB0])
                  have ga : ((k : Int) / 3) = (a : Int) := by omega
                  have gb : ((k : Int) % 3) = (b : Int) := by omega
                  have gc : ((j : Int) / 3) = (c_ : Int) := by omega
                  have gd : ((j : Int) % 3) = (d : Int) := by omega
                  have ta : ((k : Int).tdiv 3) = (a : Int) := by rw [Int.tdiv_eq_ediv_of_nonneg (by omega)]; exact ga
                  have tb : ((k : Int).tmod 3) = (b : Int) := by rw [Int.tmod_eq_emod_of_nonneg (by omega)]; exact gb
                  have tc : ((j : Int).tdiv 3) = (c_ : Int) := by rw [Int.tdiv_eq_ediv_of_nonneg (by omega)]; exact gc
                  have td : ((j : Int).tmod 3) = (d : Int) := by rw [Int.tmod_eq_emod_of_nonneg (by omega)]; exact gd
                  have a3 : a ≤ 2 := by omega
                  have b3 : b ≤ 2 := by omega
                  have c3 : c_ ≤ 2 := by omega
                  have d3 : d ≤ 2 := by omega
                  subst hA0
                  have hBz : ((b : Int) == 0) = false := beq_eq_false_iff_ne.2 (by omega)
                  clear hB0
                  clear ha hb hc_ hd
                  go_wp2_with (at_builtin; refine wp_app_int rfl (.tmp 44) (.tmp 49) rfl wo.heap.size _ _ _ _ rfl rfl hR hl' hs' ?_; intro v2 w3 hown2 hg2)
                  go_roundg (3 - (j + 1))
                  case measure => go_light; have := hgk2.out; omega
                  case rel => go_light; exact ⟨j + 1, by omega, rfl, by go_num, by rw [← HX.out, ← HE.out]; exact hown2, hW.trans (hR.belowOf hg2 (Nat.le_refl _) hs')⟩
              · by_cases hB0 : b = 0
                · have HE := hide (show 3 * ((a : Nat) : Int) + ((d : Nat) : Int) = ((sgE k j : Nat) : Int) from by unfold sgE; rw [← ha, ← hb, ← hc_, ← hd]; simp [hA0, hB0])
                  have ga : ((k : Int) / 3) = (a : Int) := by omega
                  have gb : ((k : Int) % 3) = (b : Int) := by omega
                  have gc : ((j : Int) / 3) = (c_ : Int) := by omega
                  have gd : ((j : Int) % 3) = (d : Int) := by omega
                  have ta : ((k : Int).tdiv 3) = (a : Int) := by rw [Int.tdiv_eq_ediv_of_nonneg (by omega)]; exact ga
                  have tb : ((k : Int).tmod 3) = (b : Int) := by rw [Int.tmod_eq_emod_of_nonneg (by omega)]; exact gb
                  have tc : ((j : Int).tdiv 3) = (c_ : Int) := by rw [Int.tdiv_eq_ediv_of_nonneg (by omega)]; exact gc
                  have td : ((j : Int).tmod 3) = (d : Int) := by rw [Int.tmod_eq_emod_of_nonneg (by omega)]; exact gd
                  have a3 : a ≤ 2 := by omega
                  have b3 : b ≤ 2 := by omega
                  have c3 : c_ ≤ 2 := by omega
                  have d3 : d ≤ 2 := by omega
                  have hAz : ((a : Int) == 0) = false := beq_eq_false_iff_ne.2 (by omega)
                  clear hA0
                  subst hB0
                  clear ha hb hc_ hd
                  go_wp2_with (at_builtin; refine wp_app_int rfl (.tmp 44) (.tmp 49) rfl wo.heap.size _ _ _ _ rfl rfl hR hl' hs' ?_; intro v2 w3 hown2 hg2)
                  go_roundg (3 - (j + 1))
                  case measure => go_light; have := hgk2.out; omega
                  case rel => go_light; exact ⟨j + 1, by omega, rfl, by go_num, by rw [← HX.out, ← HE.out]; exact hown2, hW.trans (hR.belowOf hg2 (Nat.le_refl _) hs')⟩
                · have HE := hide (show 3 * ((a : Nat) : Int) + ((b : Nat) : Int) = ((sgE k j : Nat) : Int) from by unfold sgE; rw [← ha, ← hb, ← hc_, ← hd]; simp [hA0, hB0])
                  have ga : ((k : Int) / 3) = (a : Int) := by omega
                  have gb : ((k : Int) % 3) = (b : Int) := by omega
                  have gc : ((j : Int) / 3) = (c_ : Int) := by omega
                  have gd : ((j : Int) % 3) = (d : Int) := by omega
                  have ta : ((k : Int).tdiv 3) = (a : Int) := by rw [Int.tdiv_eq_ediv_of_nonneg (by omega)]; exact ga
                  have tb : ((k : Int).tmod 3) = (b : Int) := by rw [Int.tmod_eq_emod_of_nonneg (by omega)]; exact gb
                  have tc : ((j : Int).tdiv 3) = (c_ : Int) := by rw [Int.tdiv_eq_ediv_of_nonneg (by omega)]; exact gc
                  have td : ((j : Int).tmod 3) = (d : Int) := by rw [Int.tmod_eq_emod_of_nonneg (by omega)]; exact gd
                  have a3 : a ≤ 2 := by omega
                  have b3 : b ≤ 2 := by omega
                  have c3 : c_ ≤ 2 := by omega
                  have d3 : d ≤ 2 := by omega
                  have hAz : ((a : Int) == 0) = false := beq_eq_false_iff_ne.2 (by omega)
                  clear hA0
                  have hBz : ((b : Int) == 0) = false := beq_eq_false_iff_ne.2 (by omega)
                  clear hB0
                  clear ha hb hc_ hd
                  go_wp2_with (at_builtin; refine wp_app_int rfl (.tmp 44) (.tmp 49) rfl wo.heap.size _ _ _ _ rfl rfl hR hl' hs' ?_; intro v2 w3 hown2 hg2)
                  go_roundg (3 - (j + 1))
                  case measure => go_light; have := hgk2.out; omega
                  case rel => go_light; exact ⟨j + 1, by omega, rfl, by go_num, by rw [← HX.out, ← HE.out]; exact hown2, hW.trans (hR.belowOf hg2 (Nat.le_refl _) hs')⟩
            · obtain rfl : j = 3 := by omega
              have hA2 := hA.below hW
              obtain ⟨Ar, cr, hAr, _, _, _⟩ := hR.val
              rw [len_sgR] at hAr
              subst hAr
              have hwi := hB.size
              have hl' : (sgM 3 k).length ≤ 1048576 := by rw [len_sgM]; omega
              have hs2 : w.heap.size ≤ wr.heap.size := Nat.le_trans hwi hW.size
              go_wp2_with (at_builtin; refine wp_app_row rfl (.tmp 51) (.tmp 53) rfl w.heap.size _ _ _ _ _ rfl rfl hA2 (hR.mono hwi) hl' hs2 ?_; intro v1 w3 hown1 hg1)
              go_roundg (3 - (k + 1))
              case measure => go_light; have := hgk.out; omega
              case rel => go_light; exact ⟨k + 1, by omega, rfl, by go_num, by rw [← sgM_succ]; exact hown1, (hB.trans (hW.mono hwi)).trans (hA2.belowOf hg1 (Nat.le_refl _) hs2)⟩
        · obtain rfl : k = 3 := by omega
          obtain ⟨A9, c9, hv, _, _, hM⟩ := hA.val
          subst hv
          go_wp2
          go_ret
          rw [HE.out]
          exact ⟨A9, c9, rfl, hB, hM⟩
    · have HE := hide (show sgT 2 = sgM 9 9 from rfl)
      have T0 : ATab w.heap.size (w.alloc (.cells #[] 58)) (.slice (some ⟨w.heap.size, 0, none⟩) 0 0) [] := ATab.made (Nat.le_refl _)
      have bn := (Below.refl w.heap.size w).alloc (Nat.le_refl _) (.cells #[] 58)
      have zn : (w.alloc (.cells #[] 58)).heap.size = w.heap.size + 1 := by simp
      have b1 := (Below.refl (w.alloc (.cells #[] 58)).heap.size (w.alloc (.cells #[] 58))).alloc (Nat.le_refl _) (.cells #[.int .i64 0, .int .i64 3, .int .i64 9] 3)
      have T1 := T0.below b1
      have B1 := bn.trans (b1.mono (by omega))
      go_enter Try.func48, Try.ntmps48
      go_wp2
      go_loopg [5, 3] 9 (fun g i v wr => ∃ k : Nat, k ≤ 9 ∧ Hid (g = 9 - k) ∧ i = .int .i64 k ∧ ATab w.heap.size wr v (sgM 9 k) ∧ Below w.heap.size w wr)
      case atStart => exact ⟨0, Nat.zero_le _, rfl, rfl, T1, B1⟩
      case round =>
        clear T0 T1 B1 bn zn b1
        obtain ⟨k, hk, hgk, rfl, hA, hB⟩ := hrel
        by_cases hkt : k < 9
        · obtain ⟨wo, rfl⟩ : ∃ wo : World, wo = wr := ⟨_, rfl⟩
          have hki : (k : Int) < 9 := by omega
          have hb1 := (Below.refl wo.heap.size wo).alloc (Nat.le_refl _) (.cells #[] 3)
          have hr0 := ARow.made (w := wo) (Nat.le_refl _)
          go_wp2_with fail
          refine (l1In_any 2 1 2 _).mono ?_
          rw [show (decide ((1 : Int) ≤ 2) && decide ((2 : Int) ≤ 2)) = true from rfl]
          rintro e w' ⟨rfl, rfl⟩
          go_wp2
          go_loopg [7, 6] 9 (fun g i u wi => ∃ j : Nat, j ≤ 9 ∧ Hid (g = 9 - j) ∧ i = .int .i64 j ∧ ARow wo.heap.size wi u (sgR k j) ∧ Below wo.heap.size wo wi)
          case atStart => exact ⟨0, Nat.zero_le _, rfl, rfl, hr0, hb1⟩
          case round =>
            clear hb1 hr0
            obtain ⟨j, hj, hgk2, rfl, hR, hW⟩ := hrel
            by_cases hjt : j < 9
            · have hji : (j : Int) < 9 := by omega
              have HX := hide (sgR_succ k j)
              have hl' : (sgR k j).length ≤ 1048576 := by rw [len_sgR]; omega
              have hs' := hW.size
              obtain ⟨a, ha⟩ : ∃ a, a = k / 3 := ⟨_, rfl⟩
              obtain ⟨b, hb⟩ : ∃ a, a = k % 3 := ⟨_, rfl⟩
              obtain ⟨c_, hc_⟩ : ∃ a, a = j / 3 := ⟨_, rfl⟩
              obtain ⟨d, hd⟩ : ∃ a, a = j % 3 := ⟨_, rfl⟩
              by_cases hA0 : a = 0
              · by_cases hB0 : b = 0
                · have HE := hide (show 3 * ((c_ : Nat) : Int) + ((d : Nat) : Int) = ((sgE k j : Nat) : Int) from by unfold sgE; rw [← ha, ← hb, ← hc_, ← hd]; simp [hA0, hB0])
                  have ga : ((k : Int) / 3) = (a : Int) := by omega
                  have gb : ((k : Int) % 3) = (b : Int) := by omega
                  have gc : ((j : Int) / 3) = (c_ : Int) := by omega
                  have gd : ((j : Int) % 3) = (d : Int) := by omega
                  have ta : ((k : Int).tdiv 3) = (a : Int) := by rw [Int.tdiv_eq_ediv_of_nonneg (by omega)]; exact ga
                  have tb : ((k : Int).tmod 3) = (b : Int) := by rw [Int.tmod_eq_emod_of_nonneg (by omega)]; exact gb
                  have tc : ((j : Int).tdiv 3) = (c_ : Int) := by rw [Int.tdiv_eq_ediv_of_nonneg (by omega)]; exact gc
                  have td : ((j : Int).tmod 3) = (d : Int) := by rw [Int.tmod_eq_emod_of_nonneg (by omega)]; exact gd
                  have a3 : a ≤ 2 := by omega
                  have b3 : b ≤ 2 := by omega
                  have c3 : c_ ≤ 2 := by omega
                  have d3 : d ≤ 2 := by omega
                  subst hA0
                  subst hB0
                  clear ha hb hc_ hd
                  go_wp2_with (at_builtin; refine wp_app_int rfl (.tmp 44) (.tmp 49) rfl wo.heap.size _ _ _ _ rfl rfl hR hl' hs' ?_; intro v2 w3 hown2 hg2)
                  go_roundg (9 - (j + 1))
                  case measure => go_light; have := hgk2.out; omega
                  case rel => go_light; exact ⟨j + 1, by omega, rfl, by go_num, by rw [← HX.out, ← HE.out]; exact hown2, hW.trans (hR.belowOf hg2 (Nat.le_refl _) hs')⟩
                · have HE := hide (show 3 * ((c_ : Nat) : Int) + ((b : Nat) : Int) = ((sgE k j : Nat) : Int) from by unfold sgE; rw [← ha, ← hb, ← hc_, ← hd]; simp [hA0, hB0])
                  have ga : ((k : Int) / 3) = (a : Int) := by omega
                  have gb : ((k : Int) % 3) = (b : Int) := by omega
                  have gc : ((j : Int) / 3) = (c_ : Int) := by omega
                  have gd : ((j : Int) % 3) = (d : Int) := by omega
                  have ta : ((k : Int).tdiv 3) = (a : Int) := by rw [Int.tdiv_eq_ediv_of_nonneg (by omega)]; exact ga
                  have tb : ((k : Int).tmod 3) = (b : Int) := by rw [Int.tmod_eq_emod_of_nonneg (by omega)]; exact gb
                  have tc : ((j : Int).tdiv 3) = (c_ : Int) := by rw [Int.tdiv_eq_ediv_of_nonneg (by omega)]; exact gc
                  have td : ((j : Int).tmod 3) = (d : Int) := by rw [Int.tmod_eq_emod_of_nonneg (by omega)]; exact gd
                  have a3 : a ≤ 2 := by omega
                  have b3 : b ≤ 2 := by omega
                  have c3 : c_ ≤ 2 := by omega
                  have d3 : d ≤ 2 := by omega
                  subst hA0
                  have hBz : ((b : Int) == 0) = false := beq_eq_false_iff_ne.2 (by omega)
                  clear hB0
                  clear ha hb hc_ hd
                  go_wp2_with (at_builtin; refine wp_app_int rfl (.tmp 44) (.tmp 49) rfl wo.heap.size _ _ _ _ rfl rfl hR hl' hs' ?_; intro v2 w3 hown2 hg2)
                  go_roundg (9 - (j + 1))
                  case measure => go_light; have := hgk2.out; omega
                  case rel => go_light; exact ⟨j + 1, by omega, rfl, by go_num, by rw [← HX.out, ← HE.out]; exact hown2, hW.trans (hR.belowOf hg2 (Nat.le_refl _) hs')⟩
              · by_cases hB0 : b = 0
                · have HE := hide (show 3 * ((a : Nat) : Int) + ((d : Nat) : Int) = ((sgE k j : Nat) : Int) from by unfold sgE; rw [← ha, ← hb, ← hc_, ← hd]; simp [hA0, hB0])
                  have ga : ((k : Int) / 3) = (a : Int) := by omega
                  have gb : ((k : Int) % 3) = (b : Int) := by omega
                  have gc : ((j : Int) / 3) = (c_ : Int) := by omega
                  have gd : ((j : Int) % 3) = (d : Int) := by omega
                  have ta : ((k : Int).tdiv 3) = (a : Int) := by rw [Int.tdiv_eq_ediv_of_nonneg (by omega)]; exact ga
                  have tb : ((k : Int).tmod 3) = (b : Int) := by rw [Int.tmod_eq_emod_of_nonneg (by omega)]; exact gb
                  have tc : ((j : Int).tdiv 3) = (c_ : Int) := by rw [Int.tdiv_eq_ediv_of_nonneg (by omega)]; exact gc
                  have td : ((j : Int).tmod 3) = (d : Int) := by rw [Int.tmod_eq_emod_of_nonneg (by omega)]; exact gd
                  have a3 : a ≤ 2 := by omega
                  have b3 : b ≤ 2 := by omega
                  have c3 : c_ ≤ 2 := by omega
                  have d3 : d ≤ 2 := by omega
                  have hAz : ((a : Int) == 0) = false := beq_eq_false_iff_ne.2 (by omega)
                  clear hA0
                  subst hB0
                  clear ha hb hc_ hd
                  go_wp2_with (at_builtin; refine wp_app_int rfl (.tmp 44) (.tmp 49) rfl wo.heap.size _ _ _ _ rfl rfl hR hl' hs' ?_; intro v2 w3 hown2 hg2)
                  go_roundg (9 - (j + 1))
                  case measure => go_light; have := hgk2.out; omega
                  case rel => go_light; exact ⟨j + 1, by omega, rfl, by go_num, by rw [← HX.out, ← HE.out]; exact hown2, hW.trans (hR.belowOf hg2 (Nat.le_refl _) hs')⟩
                · have HE := hide (show 3 * ((a : Nat) : Int) + ((b : Nat) : Int) = ((sgE k j : Nat) : Int) from by unfold sgE; rw [← ha, ← hb, ← hc_, ← hd]; simp [hA0, hB0])
                  have ga : ((k : Int) / 3) = (a : Int) := by omega
                  have gb : ((k : Int) % 3) = (b : Int) := by omega
                  have gc : ((j : Int) / 3) = (c_ : Int) := by omega
                  have gd : ((j : Int) % 3) = (d : Int) := by omega
                  have ta : ((k : Int).tdiv 3) = (a : Int) := by rw [Int.tdiv_eq_ediv_of_nonneg (by omega)]; exact ga
                  have tb : ((k : Int).tmod 3) = (b : Int) := by rw [Int.tmod_eq_emod_of_nonneg (by omega)]; exact gb
                  have tc : ((j : Int).tdiv 3) = (c_ : Int) := by rw [Int.tdiv_eq_ediv_of_nonneg (by omega)]; exact gc
                  have td : ((j : Int).tmod 3) = (d : Int) := by rw [Int.tmod_eq_emod_of_nonneg (by omega)]; exact gd
                  have a3 : a ≤ 2 := by omega
                  have b3 : b ≤ 2 := by omega
                  have c3 : c_ ≤ 2 := by omega
                  have d3 : d ≤ 2 := by omega
                  have hAz : ((a : Int) == 0) = false := beq_eq_false_iff_ne.2 (by omega)
                  clear hA0
                  have hBz : ((b : Int) == 0) = false := beq_eq_false_iff_ne.2 (by omega)
                  clear hB0
                  clear ha hb hc_ hd
                  go_wp2_with (at_builtin; refine wp_app_int rfl (.tmp 44) (.tmp 49) rfl wo.heap.size _ _ _ _ rfl rfl hR hl' hs' ?_; intro v2 w3 hown2 hg2)
                  go_roundg (9 - (j + 1))
                  case measure => go_light; have := hgk2.out; omega
                  case rel => go_light; exact ⟨j + 1, by omega, rfl, by go_num, by rw [← HX.out, ← HE.out]; exact hown2, hW.trans (hR.belowOf hg2 (Nat.le_refl _) hs')⟩
            · obtain rfl : j = 9 := by omega
              have hA2 := hA.below hW
              obtain ⟨Ar, cr, hAr, _, _, _⟩ := hR.val
              rw [len_sgR] at hAr
              subst hAr
              have hwi := hB.size
              have hl' : (sgM 9 k).length ≤ 1048576 := by rw [len_sgM]; omega
              have hs2 : w.heap.size ≤ wr.heap.size := Nat.le_trans hwi hW.size
              go_wp2_with (at_builtin; refine wp_app_row rfl (.tmp 51) (.tmp 53) rfl w.heap.size _ _ _ _ _ rfl rfl hA2 (hR.mono hwi) hl' hs2 ?_; intro v1 w3 hown1 hg1)
              go_roundg (9 - (k + 1))
              case measure => go_light; have := hgk.out; omega
              case rel => go_light; exact ⟨k + 1, by omega, rfl, by go_num, by rw [← sgM_succ]; exact hown1, (hB.trans (hW.mono hwi)).trans (hA2.belowOf hg1 (Nat.le_refl _) hs2)⟩
        · obtain rfl : k = 9 := by omega
          obtain ⟨A9, c9, hv, _, _, hM⟩ := hA.val
          subst hv
          go_wp2
          go_ret
          rw [HE.out]
          exact ⟨A9, c9, rfl, hB, hM⟩

end Go.Proofs.Ythllbekoidogpaa
