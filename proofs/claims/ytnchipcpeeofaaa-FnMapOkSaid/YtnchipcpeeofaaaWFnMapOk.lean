/- The walk of FnMapOk. -/
import Derived.Test.YtnchipcpeeofaaaMQ02
import Derived.Test.YtnchipcpeeofaaaMQ07
import Derived.Test.YtnchipcpeeofaaaMQ17
import Derived.Test.YtnchipcpeeofaaaMQ08
import Derived.Test.YtnchipcpeeofaaaMQ24
namespace Go.Proofs.Ytnchipcpeeofaaa
open Go.RowKit
set_option linter.unusedVariables false


theorem row_zeros (w : World) (n : Nat) : Row (w.alloc (.cells (madeCells #[.int .i64 0] n) 3)) w.heap.size (w.alloc (.cells (madeCells #[.int .i64 0] n) 3)).heap.size (some ⟨w.heap.size, 0, none⟩) (sameL n 0) := fun j hj => by
  rw [len_sameL] at hj
  have h : (w.alloc (.cells (madeCells #[.int .i64 0] n) 3)).rowIs w.heap.size 3 n (fun j => .int .i64 0) := (World.rowIs_made w _ n 3).congr (fun j _ => by simp)
  refine ⟨w.heap.size, 0, rfl, Nat.le_refl _, by simp, ?_⟩
  rw [Nat.zero_add, World.rowIs.cell h (i := j) hj, el_sameL hj]
set_option maxRecDepth 20000 in
set_option maxHeartbeats 8000000 in
theorem fnMapOk_walk (A : Option Addr) (n c : Nat) (w : World) (h : Bytes w w.heap.size A n) (hc : n ≤ c) (hc2 : c ≤ 9223372036854775807) :
    Calls Try.prog 3 #[.slice A n c] w fun e w' => e = .returned (.bool true) ∧ Below w.heap.size w w' := by
  by_cases hn : (1048576 : Int) < (n : Int)
  · go_enter Try.func3, Try.ntmps3
    go_wp2
    go_ret
    exact ⟨rfl, Below.refl _ _⟩
  · go_enter Try.func3, Try.ntmps3
    go_wp2_with fail
    refine (drawMapOk_any A n c w h hc hc2).mono ?_
    rintro e w1 ⟨⟨A1, c1, T, A2, c2, U, A3, c3, f, rfl, m1, hS, n1, hU, r1, hf, hfc, hfc2⟩, B1⟩
    have hlT := hS.len
    have hlU := hU.len
    have hfl : f.length ≤ 1048576 := by omega
    have Z1 : w1.heap.size ≤ w1.heap.size := Nat.le_refl _
    cases hkT : okT T
    · have hm : mapB T U f = false := by
        unfold mapB
        rw [hkT, Bool.false_and, Bool.and_false]
      go_wp2_with fail
      refine (iMapOk_any _ _ _ _ T _ _ _ _ U _ _ _ _ f _ m1 Z1 hS n1 Z1 hU r1 Z1 hfl hfc hfc2).mono ?_
      rw [hm]
      rintro e w2 ⟨rfl, b2⟩
      have B2 := B1.trans (b2.mono B1.size)
      have m2 := m1.below b2 Z1
      have n2 := n1.below b2 Z1
      have r2 := r1.below b2 Z1
      have Z2 := Nat.le_trans Z1 b2.size
      clear m1 n1 r1 Z1
      go_wp2_with fail
      refine (sMapOk_any _ _ _ _ T _ _ _ _ U _ _ _ _ f _ m2 hS n2 hU r2 hfl).mono ?_
      rw [hm]
      rintro e w_ ⟨rfl, rfl⟩
      go_wp2_with fail
      refine (sTableOk_any _ _ _ _ T _ m2 hS).mono ?_
      rw [hkT]
      rintro e w_ ⟨rfl, rfl⟩
      go_wp2_with fail
      refine (alive_any _).mono ?_
      rintro e w3 ⟨rfl, b3⟩
      go_wp2
      go_ret
      exact ⟨rfl, B2.trans (b3.mono B2.size)⟩
    cases hkU : okT U
    · have hm : mapB T U f = false := by
        unfold mapB
        rw [hkT, hkU, Bool.false_and, Bool.and_false, Bool.and_false]
      go_wp2_with fail
      refine (iMapOk_any _ _ _ _ T _ _ _ _ U _ _ _ _ f _ m1 Z1 hS n1 Z1 hU r1 Z1 hfl hfc hfc2).mono ?_
      rw [hm]
      rintro e w2 ⟨rfl, b2⟩
      have B2 := B1.trans (b2.mono B1.size)
      have m2 := m1.below b2 Z1
      have n2 := n1.below b2 Z1
      have r2 := r1.below b2 Z1
      have Z2 := Nat.le_trans Z1 b2.size
      clear m1 n1 r1 Z1
      go_wp2_with fail
      refine (sMapOk_any _ _ _ _ T _ _ _ _ U _ _ _ _ f _ m2 hS n2 hU r2 hfl).mono ?_
      rw [hm]
      rintro e w_ ⟨rfl, rfl⟩
      go_wp2_with fail
      refine (sTableOk_any _ _ _ _ T _ m2 hS).mono ?_
      rw [hkT]
      rintro e w_ ⟨rfl, rfl⟩
      go_wp2_with fail
      refine (sTableOk_any _ _ _ _ U _ n2 hU).mono ?_
      rw [hkU]
      rintro e w_ ⟨rfl, rfl⟩
      go_wp2_with fail
      refine (alive_any _).mono ?_
      rintro e w3 ⟨rfl, b3⟩
      go_wp2
      go_ret
      exact ⟨rfl, B2.trans (b3.mono B2.size)⟩
    have kT := okT_iff.1 hkT
    have kU := okT_iff.1 hkU
    have HZ := hide (map_zero kT kU)
    have HO := hide (map_own kT)
    clear kT kU
    cases hm : mapB T U f
    all_goals
      go_wp2_with fail
      refine (iMapOk_any _ _ _ _ T _ _ _ _ U _ _ _ _ f _ m1 Z1 hS n1 Z1 hU r1 Z1 hfl hfc hfc2).mono ?_
      rw [hm]
      rintro e w2 ⟨rfl, b2⟩
      have B2 := B1.trans (b2.mono B1.size)
      have m2 := m1.below b2 Z1
      have n2 := n1.below b2 Z1
      have r2 := r1.below b2 Z1
      have Z2 := Nat.le_trans Z1 b2.size
      clear m1 n1 r1 Z1
      go_wp2_with fail
      refine (sMapOk_any _ _ _ _ T _ _ _ _ U _ _ _ _ f _ m2 hS n2 hU r2 hfl).mono ?_
      rw [hm]
      rintro e w_ ⟨rfl, rfl⟩
      go_wp2_with fail
      refine (sTableOk_any _ _ _ _ T _ m2 hS).mono ?_
      rw [hkT]
      rintro e w_ ⟨rfl, rfl⟩
      go_wp2_with fail
      refine (sTableOk_any _ _ _ _ U _ n2 hU).mono ?_
      rw [hkU]
      rintro e w_ ⟨rfl, rfl⟩
      have hmk := run_make_row' (P := Try.prog) 24 3 (.int .i64 0) 8 Try.underlying24 info_int rfl .i64 .i64 T.length (by omega) (by omega)
      have b3 := (Below.refl w2.heap.size w2).alloc (Nat.le_refl _) (.cells #[] 3)
      have R3 : ARow w2.heap.size (w2.alloc (.cells #[] 3)) (.slice (some ⟨w2.heap.size, 0, none⟩) 0 0) (ownL 0) := ARow.made (Nat.le_refl _)
      go_wp2
      go_loopg [8, 7] T.length (fun g i v wr => ∃ k : Nat, k ≤ T.length ∧ Hid (g = T.length - k) ∧ i = .int .i64 k ∧ ARow w2.heap.size wr v (ownL k) ∧ Below w2.heap.size w2 wr)
      case atStart => exact ⟨0, Nat.zero_le _, rfl, rfl, R3, b3⟩
      case round =>
        clear R3 b3
        obtain ⟨k, hk, hgk, rfl, hR, hB⟩ := hrel
        have hs := hB.size
        by_cases hlt : k < T.length
        · have hl : (ownL k).length ≤ 1048576 := by rw [len_ownL]; omega
          obtain ⟨Ao, co, rfl, _, _, _⟩ := hR.val
          rw [len_ownL] at hR ⊢
          go_wp2_with (at_builtin; refine wp_app_int rfl (.tmp 48) (.tmp 50) rfl w2.heap.size _ _ _ 1 rfl rfl hR hl hs ?_; intro v2 w5 hown hgr)
          go_roundg (T.length - (k + 1))
          case measure => go_light; have := hgk.out; omega
          case rel => go_light; exact ⟨k + 1, hlt, rfl, by go_num, by rw [← ownL_succ]; exact hown, hB.trans (hR.belowOf hgr (Nat.le_refl _) hs)⟩
        · obtain rfl : T.length = k := by omega
          obtain ⟨Ao, co, rfl, hc1, hc2', hRo⟩ := hR.val
          rw [len_ownL] at hc1 ⊢
          have m4 := m2.below hB Z2
          have n4 := n2.below hB Z2
          have Z4 := Nat.le_trans Z2 hs
          have B4 := B2.trans (hB.mono B2.size)
          clear m2 n2 r2 hR hB
          go_wp2_with fail
          have r5 := row_zeros wr T.length
          have b5 := (Below.refl wr.heap.size wr).alloc (Nat.le_refl _) (.cells (madeCells #[.int .i64 0] T.length) 3)
          refine (show Calls _ _ #[.slice _ T.length _, .slice _ U.length _, .slice _ T.length T.length] _ _ from (by have := iMapOk_any A1 c1 _ _ T A2 c2 _ _ U _ T.length _ _ (sameL T.length 0) _ (m4.below b5 Z4) (Nat.le_trans Z4 b5.size) hS (n4.below b5 Z4) (Nat.le_trans Z4 b5.size) hU r5 (Nat.le_refl _) (by rw [len_sameL]; omega) (by rw [len_sameL]; omega) (by omega); rw [len_sameL] at this; exact this)).mono ?_
          rw [HZ.out]
          rintro e w6 ⟨rfl, b6⟩
          have b56 := b5.trans (b6.mono b5.size)
          have B6 := B4.trans (b56.mono B4.size)
          have m6 := m4.below b56 Z4
          have Z6 := Nat.le_trans Z4 b56.size
          have r6 := hRo.below b56 (Nat.le_refl _)
          clear hmk b5 b6 r5
          go_wp2_with fail
          refine (show Calls _ _ #[.slice _ T.length _, .slice _ T.length _, .slice _ T.length _] _ _ from (by have := iMapOk_any A1 c1 _ _ T A1 c1 _ _ T _ co _ _ (ownL T.length) _ m6 Z6 hS m6 Z6 hS r6 b56.size (by rw [len_ownL]; omega) (by rw [len_ownL]; exact hc1) hc2'; rw [len_ownL] at this; exact this)).mono ?_
          rw [HO.out]
          rintro e w7 ⟨rfl, b7⟩
          go_wp2
          go_ret
          exact ⟨rfl, B6.trans (b7.mono B6.size)⟩

end Go.Proofs.Ytnchipcpeeofaaa
