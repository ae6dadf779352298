/- The walk of FnKeepsOk. -/
import Derived.Test.YtnchipcpeeofaaaMQ02
import Derived.Test.YtnchipcpeeofaaaMQ07
import Derived.Test.YtnchipcpeeofaaaMQ17
import Derived.Test.YtnchipcpeeofaaaMQ08
import Derived.Test.YtnchipcpeeofaaaMQ24
import Derived.Test.YtnchipcpeeofaaaMQ09
import Derived.Test.YtnchipcpeeofaaaMQ23
namespace Go.Proofs.Ytnchipcpeeofaaa
open Go.RowKit
set_option linter.unusedVariables false


theorem row_zeros (w : World) (n : Nat) : Row (w.alloc (.cells (madeCells #[.int .i64 0] n) 3)) w.heap.size (w.alloc (.cells (madeCells #[.int .i64 0] n) 3)).heap.size (some ⟨w.heap.size, 0, none⟩) (sameL n 0) := fun j hj => by
  rw [len_sameL] at hj
  have h : (w.alloc (.cells (madeCells #[.int .i64 0] n) 3)).rowIs w.heap.size 3 n (fun j => .int .i64 0) := (World.rowIs_made w _ n 3).congr (fun j _ => by simp)
  refine ⟨w.heap.size, 0, rfl, Nat.le_refl _, by simp, ?_⟩
  rw [Nat.zero_add, World.rowIs.cell h (i := j) hj, el_sameL hj]
set_option maxRecDepth 20000 in
set_option maxHeartbeats 8000000 in
theorem fnKeepsOk_walk (A : Option Addr) (n c : Nat) (w : World) (h : Bytes w w.heap.size A n) (hc : n ≤ c) (hc2 : c ≤ 9223372036854775807) :
    Calls Try.prog 4 #[.slice A n c] w fun e w' => e = .returned (.bool true) ∧ Below w.heap.size w w' := by
  by_cases hn : (1048576 : Int) < (n : Int)
  · go_enter Try.func4, Try.ntmps4
    go_wp2
    go_ret
    exact ⟨rfl, Below.refl _ _⟩
  · go_enter Try.func4, Try.ntmps4
    go_wp2_with fail
    refine (drawKeepsOk_any A n c w h hc hc2).mono ?_
    rintro e w1 ⟨⟨A1, c1, T, A2, c2, U, A3, c3, f, rfl, m1, hS, n1, hU, r1, hf, hfc, hfc2⟩, B1⟩
    have hlT := hS.len
    have hlU := hU.len
    have hfl : f.length ≤ 1048576 := by omega
    have Z1 : w1.heap.size ≤ w1.heap.size := Nat.le_refl _
    cases hk : keepB T U f
    · cases hb : bandT T
      · go_wp2_with fail
        refine (iKeepsOk_any _ _ _ _ T _ _ _ _ U _ _ _ _ f _ m1 Z1 hS n1 Z1 hU r1 Z1 hfl hfc hfc2).mono ?_
        rw [hk]
        rintro e w2 ⟨rfl, b2⟩
        have B2 := B1.trans (b2.mono B1.size)
        have m2 := m1.below b2 Z1
        have n2 := n1.below b2 Z1
        have r2 := r1.below b2 Z1
        have Z2 := Nat.le_trans Z1 b2.size
        clear m1 n1 r1 Z1
        go_wp2_with fail
        refine (sKeepsOk_any _ _ _ _ T _ _ _ _ U _ _ _ _ f _ m2 hS n2 hU r2 hfl).mono ?_
        rw [hk]
        rintro e w3 ⟨rfl, q3⟩
        have B3 := B2.trans (q3.below w.heap.size)
        have m3 := m2.quiet q3
        have n3 := n2.quiet q3
        have r3 := r2.quiet q3
        have Z3 := Nat.le_trans Z2 (q3.below 0).size
        clear m2 n2 r2 Z2
        go_wp2_with fail
        refine (sBandOk_any _ _ _ _ T _ m3 hS).mono ?_
        rw [hb]
        rintro e w4 ⟨rfl, q4⟩
        have B4 := B3.trans (q4.below w.heap.size)
        have m4 := m3.quiet q4
        have n4 := n3.quiet q4
        have r4 := r3.quiet q4
        have Z4 := Nat.le_trans Z3 (q4.below 0).size
        clear m3 n3 r3 Z3
        go_wp2_with fail
        refine (alive_any _).mono ?_
        rintro e w5 ⟨rfl, b5⟩
        go_wp2
        go_ret
        exact ⟨rfl, B4.trans (b5.mono B4.size)⟩
      cases hbU : bandT U
      · go_wp2_with fail
        refine (iKeepsOk_any _ _ _ _ T _ _ _ _ U _ _ _ _ f _ m1 Z1 hS n1 Z1 hU r1 Z1 hfl hfc hfc2).mono ?_
        rw [hk]
        rintro e w2 ⟨rfl, b2⟩
        have B2 := B1.trans (b2.mono B1.size)
        have m2 := m1.below b2 Z1
        have n2 := n1.below b2 Z1
        have r2 := r1.below b2 Z1
        have Z2 := Nat.le_trans Z1 b2.size
        clear m1 n1 r1 Z1
        go_wp2_with fail
        refine (sKeepsOk_any _ _ _ _ T _ _ _ _ U _ _ _ _ f _ m2 hS n2 hU r2 hfl).mono ?_
        rw [hk]
        rintro e w3 ⟨rfl, q3⟩
        have B3 := B2.trans (q3.below w.heap.size)
        have m3 := m2.quiet q3
        have n3 := n2.quiet q3
        have r3 := r2.quiet q3
        have Z3 := Nat.le_trans Z2 (q3.below 0).size
        clear m2 n2 r2 Z2
        go_wp2_with fail
        refine (sBandOk_any _ _ _ _ T _ m3 hS).mono ?_
        rw [hb]
        rintro e w4 ⟨rfl, q4⟩
        have B4 := B3.trans (q4.below w.heap.size)
        have m4 := m3.quiet q4
        have n4 := n3.quiet q4
        have r4 := r3.quiet q4
        have Z4 := Nat.le_trans Z3 (q4.below 0).size
        clear m3 n3 r3 Z3
        go_wp2_with fail
        refine (sBandOk_any _ _ _ _ U _ n4 hU).mono ?_
        rw [hbU]
        rintro e w5 ⟨rfl, q5⟩
        have B5 := B4.trans (q5.below w.heap.size)
        have m5 := m4.quiet q5
        have n5 := n4.quiet q5
        have r5 := r4.quiet q5
        have Z5 := Nat.le_trans Z4 (q5.below 0).size
        clear m4 n4 r4 Z4
        go_wp2_with fail
        refine (alive_any _).mono ?_
        rintro e w6 ⟨rfl, b6⟩
        go_wp2
        go_ret
        exact ⟨rfl, B5.trans (b6.mono B5.size)⟩
      have kT := band_tab hb
      have kU := band_tab hbU
      have HL := hide (keep_levs hb)
      have HZ := hide (keep_zero (U := U) kT hbU)
      have k1 := kT.lo
      have k1i : (0 : Int) < (T.length : Int) := by omega
      clear kT kU
      go_wp2_with fail
      refine (iKeepsOk_any _ _ _ _ T _ _ _ _ U _ _ _ _ f _ m1 Z1 hS n1 Z1 hU r1 Z1 hfl hfc hfc2).mono ?_
      rw [hk]
      rintro e w2 ⟨rfl, b2⟩
      have B2 := B1.trans (b2.mono B1.size)
      have m2 := m1.below b2 Z1
      have n2 := n1.below b2 Z1
      have r2 := r1.below b2 Z1
      have Z2 := Nat.le_trans Z1 b2.size
      clear m1 n1 r1 Z1
      go_wp2_with fail
      refine (sKeepsOk_any _ _ _ _ T _ _ _ _ U _ _ _ _ f _ m2 hS n2 hU r2 hfl).mono ?_
      rw [hk]
      rintro e w3 ⟨rfl, q3⟩
      have B3 := B2.trans (q3.below w.heap.size)
      have m3 := m2.quiet q3
      have n3 := n2.quiet q3
      have r3 := r2.quiet q3
      have Z3 := Nat.le_trans Z2 (q3.below 0).size
      clear m2 n2 r2 Z2
      go_wp2_with fail
      refine (sBandOk_any _ _ _ _ T _ m3 hS).mono ?_
      rw [hb]
      rintro e w4 ⟨rfl, q4⟩
      have B4 := B3.trans (q4.below w.heap.size)
      have m4 := m3.quiet q4
      have n4 := n3.quiet q4
      have r4 := r3.quiet q4
      have Z4 := Nat.le_trans Z3 (q4.below 0).size
      clear m3 n3 r3 Z3
      go_wp2_with fail
      refine (sBandOk_any _ _ _ _ U _ n4 hU).mono ?_
      rw [hbU]
      rintro e w5 ⟨rfl, q5⟩
      have B5 := B4.trans (q5.below w.heap.size)
      have m5 := m4.quiet q5
      have n5 := n4.quiet q5
      have r5 := r4.quiet q5
      have Z5 := Nat.le_trans Z4 (q5.below 0).size
      clear m4 n4 r4 Z4
      go_wp2_with fail
      refine (sLevelsOf_any _ _ _ _ T w5 m5 Z5 hS).mono ?_
      rintro e w6 ⟨A6, c6, rfl, b6, x6, hx1, hx2⟩
      have B6 := B5.trans (b6.mono B5.size)
      have m6 := m5.below b6 Z5
      have n6 := n5.below b6 Z5
      have r6 := r5.below b6 Z5
      have Z6 := Nat.le_trans Z5 b6.size
      clear m5 n5 r5 Z5
      have X6 : w6.heap.size ≤ w6.heap.size := Nat.le_refl _
      go_wp2_with fail
      refine (sLevelsOf_any _ _ _ _ U w6 n6 Z6 hU).mono ?_
      rintro e w7 ⟨A7, c7, rfl, b7, y7, hy1, hy2⟩
      have x7 := x6.below b7 X6
      have X7 := Nat.le_trans X6 b7.size
      have B7 := B6.trans (b7.mono B6.size)
      have m7 := m6.below b7 Z6
      have n7 := n6.below b7 Z6
      have r7 := r6.below b7 Z6
      have Z7 := Nat.le_trans Z6 b7.size
      clear m6 n6 r6 Z6
      clear x6
      clear r7 y7
      go_wp2
      go_loopg [9] 1 (fun g i wr => i = .int .i64 0 ∧ QD w7 wr)
      case atStart => exact ⟨rfl, QD.refl _⟩
      case round =>
        obtain ⟨rfl, hQ⟩ := hrel
        have m8 := m7.quiet hQ
        have n8 := n7.quiet hQ
        have x8 := x7.quiet hQ
        have B8 := B7.trans (hQ.below w.heap.size)
        have Z8 := Nat.le_trans Z7 (hQ.below 0).size
        have X8 := Nat.le_trans X7 (hQ.below 0).size
        clear m7 n7 x7 hQ
        go_wp2_with fail
        refine (sLevelTable_any _ _ _ _ T wr m8 Z8 hS).mono ?_
        rintro e w9 ⟨A9, c9, rfl, b9, o9⟩
        have B9 := B8.trans (b9.mono B8.size)
        have m9 := m8.below b9 Z8
        have n9 := n8.below b9 Z8
        have x9 := x8.below b9 X8
        have Z9 := Nat.le_trans Z8 b9.size
        have X9 := Nat.le_trans X8 b9.size
        clear m8 n8 x8
        go_wp2_with fail
        refine (iKeepsOk_any _ _ _ _ T _ _ _ _ (levelT T) _ _ _ _ (levsL T) _ m9 Z9 hS o9 (Nat.le_refl _) small_levelT x9 X9 (len_levsL_le T) hx1 hx2).mono ?_
        rw [HL.out]
        rintro e w10 ⟨rfl, b10⟩
        have B10 := B9.trans (b10.mono B9.size)
        have m10 := m9.below b10 Z9
        have n10 := n9.below b10 Z9
        have Z10 := Nat.le_trans Z9 b10.size
        clear m9 n9 x9 o9
        have hmk := run_make_row' (P := Try.prog) 24 3 (.int .i64 0) 8 Try.underlying24 info_int rfl .i64 .i64 T.length (by omega) (by omega)
        go_wp2_with fail
        have r11 := row_zeros w10 T.length
        have b11 := (Below.refl w10.heap.size w10).alloc (Nat.le_refl _) (.cells (madeCells #[.int .i64 0] T.length) 3)
        refine (show Calls _ _ #[.slice _ T.length _, .slice _ U.length _, .slice _ T.length T.length] _ _ from (by have := iKeepsOk_any A1 c1 _ _ T A2 c2 _ _ U _ T.length _ _ (sameL T.length 0) _ (m10.below b11 Z10) (Nat.le_trans Z10 b11.size) hS (n10.below b11 Z10) (Nat.le_trans Z10 b11.size) hU r11 (Nat.le_refl _) (by rw [len_sameL]; omega) (by rw [len_sameL]; omega) (by omega); rw [len_sameL] at this; exact this)).mono ?_
        rw [HZ.out]
        rintro e w12 ⟨rfl, b12⟩
        clear hmk
        go_wp2
        go_ret
        exact ⟨rfl, B10.trans ((b11.trans (b12.mono b11.size)).mono B10.size)⟩
    · cases hb : bandT T
      · go_wp2_with fail
        refine (iKeepsOk_any _ _ _ _ T _ _ _ _ U _ _ _ _ f _ m1 Z1 hS n1 Z1 hU r1 Z1 hfl hfc hfc2).mono ?_
        rw [hk]
        rintro e w2 ⟨rfl, b2⟩
        have B2 := B1.trans (b2.mono B1.size)
        have m2 := m1.below b2 Z1
        have n2 := n1.below b2 Z1
        have r2 := r1.below b2 Z1
        have Z2 := Nat.le_trans Z1 b2.size
        clear m1 n1 r1 Z1
        go_wp2_with fail
        refine (sKeepsOk_any _ _ _ _ T _ _ _ _ U _ _ _ _ f _ m2 hS n2 hU r2 hfl).mono ?_
        rw [hk]
        rintro e w3 ⟨rfl, q3⟩
        have B3 := B2.trans (q3.below w.heap.size)
        have m3 := m2.quiet q3
        have n3 := n2.quiet q3
        have r3 := r2.quiet q3
        have Z3 := Nat.le_trans Z2 (q3.below 0).size
        clear m2 n2 r2 Z2
        go_wp2_with fail
        refine (sBandOk_any _ _ _ _ T _ m3 hS).mono ?_
        rw [hb]
        rintro e w4 ⟨rfl, q4⟩
        have B4 := B3.trans (q4.below w.heap.size)
        have m4 := m3.quiet q4
        have n4 := n3.quiet q4
        have r4 := r3.quiet q4
        have Z4 := Nat.le_trans Z3 (q4.below 0).size
        clear m3 n3 r3 Z3
        go_wp2_with fail
        refine (alive_any _).mono ?_
        rintro e w5 ⟨rfl, b5⟩
        go_wp2
        go_ret
        exact ⟨rfl, B4.trans (b5.mono B4.size)⟩
      cases hbU : bandT U
      · go_wp2_with fail
        refine (iKeepsOk_any _ _ _ _ T _ _ _ _ U _ _ _ _ f _ m1 Z1 hS n1 Z1 hU r1 Z1 hfl hfc hfc2).mono ?_
        rw [hk]
        rintro e w2 ⟨rfl, b2⟩
        have B2 := B1.trans (b2.mono B1.size)
        have m2 := m1.below b2 Z1
        have n2 := n1.below b2 Z1
        have r2 := r1.below b2 Z1
        have Z2 := Nat.le_trans Z1 b2.size
        clear m1 n1 r1 Z1
        go_wp2_with fail
        refine (sKeepsOk_any _ _ _ _ T _ _ _ _ U _ _ _ _ f _ m2 hS n2 hU r2 hfl).mono ?_
        rw [hk]
        rintro e w3 ⟨rfl, q3⟩
        have B3 := B2.trans (q3.below w.heap.size)
        have m3 := m2.quiet q3
        have n3 := n2.quiet q3
        have r3 := r2.quiet q3
        have Z3 := Nat.le_trans Z2 (q3.below 0).size
        clear m2 n2 r2 Z2
        go_wp2_with fail
        refine (sBandOk_any _ _ _ _ T _ m3 hS).mono ?_
        rw [hb]
        rintro e w4 ⟨rfl, q4⟩
        have B4 := B3.trans (q4.below w.heap.size)
        have m4 := m3.quiet q4
        have n4 := n3.quiet q4
        have r4 := r3.quiet q4
        have Z4 := Nat.le_trans Z3 (q4.below 0).size
        clear m3 n3 r3 Z3
        go_wp2_with fail
        refine (sBandOk_any _ _ _ _ U _ n4 hU).mono ?_
        rw [hbU]
        rintro e w5 ⟨rfl, q5⟩
        have B5 := B4.trans (q5.below w.heap.size)
        have m5 := m4.quiet q5
        have n5 := n4.quiet q5
        have r5 := r4.quiet q5
        have Z5 := Nat.le_trans Z4 (q5.below 0).size
        clear m4 n4 r4 Z4
        go_wp2_with fail
        refine (alive_any _).mono ?_
        rintro e w6 ⟨rfl, b6⟩
        go_wp2
        go_ret
        exact ⟨rfl, B5.trans (b6.mono B5.size)⟩
      have kT := band_tab hb
      have kU := band_tab hbU
      have HL := hide (keep_levs hb)
      have HZ := hide (keep_zero (U := U) kT hbU)
      have k1 := kT.lo
      have k1i : (0 : Int) < (T.length : Int) := by omega
      have KK := keepB_iff.1 hk
      have HLX := hide (len_levsL hb)
      have HLY := hide (len_levsL hbU)
      have HLF := hide KK.len
      have HLEV := hide (fun a b x y (ha : a < T.length) (hb1 : b < T.length) (hx : x < U.length) (hy : y < U.length) (ex : el f a = ((x : Nat) : Int)) (ey : el f b = ((y : Nat) : Int)) (he : num (inLev T) a = num (inLev T) b) => (band_eqvL hbU).num_eq hx hy (KK.lev ha hb1 ex ey ((band_eqvL hb).num_ne ha hb1 he)))
      have HXL := hide (fun j (hj : j < T.length) => el_levsL hb hj)
      have HYL := hide (fun j (hj : j < U.length) => el_levsL hbU hj)
      have HFN := hide (fun a (ha : a < T.length) => KK.toIsM.nat ha)
      have u1 := kU.lo
      clear KK kT kU
      go_wp2_with fail
      refine (iKeepsOk_any _ _ _ _ T _ _ _ _ U _ _ _ _ f _ m1 Z1 hS n1 Z1 hU r1 Z1 hfl hfc hfc2).mono ?_
      rw [hk]
      rintro e w2 ⟨rfl, b2⟩
      have B2 := B1.trans (b2.mono B1.size)
      have m2 := m1.below b2 Z1
      have n2 := n1.below b2 Z1
      have r2 := r1.below b2 Z1
      have Z2 := Nat.le_trans Z1 b2.size
      clear m1 n1 r1 Z1
      go_wp2_with fail
      refine (sKeepsOk_any _ _ _ _ T _ _ _ _ U _ _ _ _ f _ m2 hS n2 hU r2 hfl).mono ?_
      rw [hk]
      rintro e w3 ⟨rfl, q3⟩
      have B3 := B2.trans (q3.below w.heap.size)
      have m3 := m2.quiet q3
      have n3 := n2.quiet q3
      have r3 := r2.quiet q3
      have Z3 := Nat.le_trans Z2 (q3.below 0).size
      clear m2 n2 r2 Z2
      go_wp2_with fail
      refine (sBandOk_any _ _ _ _ T _ m3 hS).mono ?_
      rw [hb]
      rintro e w4 ⟨rfl, q4⟩
      have B4 := B3.trans (q4.below w.heap.size)
      have m4 := m3.quiet q4
      have n4 := n3.quiet q4
      have r4 := r3.quiet q4
      have Z4 := Nat.le_trans Z3 (q4.below 0).size
      clear m3 n3 r3 Z3
      go_wp2_with fail
      refine (sBandOk_any _ _ _ _ U _ n4 hU).mono ?_
      rw [hbU]
      rintro e w5 ⟨rfl, q5⟩
      have B5 := B4.trans (q5.below w.heap.size)
      have m5 := m4.quiet q5
      have n5 := n4.quiet q5
      have r5 := r4.quiet q5
      have Z5 := Nat.le_trans Z4 (q5.below 0).size
      clear m4 n4 r4 Z4
      go_wp2_with fail
      refine (sLevelsOf_any _ _ _ _ T w5 m5 Z5 hS).mono ?_
      rintro e w6 ⟨A6, c6, rfl, b6, x6, hx1, hx2⟩
      have B6 := B5.trans (b6.mono B5.size)
      have m6 := m5.below b6 Z5
      have n6 := n5.below b6 Z5
      have r6 := r5.below b6 Z5
      have Z6 := Nat.le_trans Z5 b6.size
      clear m5 n5 r5 Z5
      have X6 : w6.heap.size ≤ w6.heap.size := Nat.le_refl _
      go_wp2_with fail
      refine (sLevelsOf_any _ _ _ _ U w6 n6 Z6 hU).mono ?_
      rintro e w7 ⟨A7, c7, rfl, b7, y7, hy1, hy2⟩
      have x7 := x6.below b7 X6
      have X7 := Nat.le_trans X6 b7.size
      have B7 := B6.trans (b7.mono B6.size)
      have m7 := m6.below b7 Z6
      have n7 := n6.below b7 Z6
      have r7 := r6.below b7 Z6
      have Z7 := Nat.le_trans Z6 b7.size
      clear m6 n6 r6 Z6
      clear x6
      obtain ⟨bx, ox, rfl, hbx, hcx⟩ := row_cell x7 (by have := HLX.out; omega)
      obtain ⟨by_, oy, rfl, hby, hcy⟩ := row_cell y7 (by have := HLY.out; omega)
      obtain ⟨bf, of_, rfl, hbf, hcf⟩ := row_cell r7 (by have := HLF.out; omega)
      have HCX := hide (fun j (hj : j < T.length) => (hcx j (by have := HLX.out; omega)).trans (by rw [HXL.out j hj]))
      have HCY := hide (fun j (hj : j < U.length) => (hcy j (by have := HLY.out; omega)).trans (by rw [HYL.out j hj]))
      have HCF := hide (fun j (hj : j < T.length) => hcf j (by have := HLF.out; omega))
      clear r7 y7 hcx hcy hcf HXL HYL
      go_wp2
      go_loopg [9] T.length (fun g i wr => ∃ a : Nat, a ≤ T.length ∧ Hid (g = T.length - a) ∧ i = .int .i64 a ∧ QD w7 wr)
      case atStart => exact ⟨0, Nat.zero_le _, rfl, rfl, QD.refl _⟩
      case round =>
        obtain ⟨a, ha, hgk, rfl, hQ⟩ := hrel
        by_cases hat : a < T.length
        · have hai : (a : Int) < (T.length : Int) := by omega
          go_wp2
          go_loopg [10] a (fun g i wr => ∃ b : Nat, b ≤ a ∧ Hid (g = a - b) ∧ i = .int .i64 b ∧ QD w7 wr)
          case atStart => exact ⟨0, Nat.zero_le _, rfl, rfl, hQ⟩
          case round =>
            clear hQ
            obtain ⟨b, hb_, hgk2, rfl, hQ⟩ := hrel
            by_cases hba : b < a
            · have hbt : b < T.length := by omega
              obtain ⟨x, ex, x1⟩ := HFN.out a hat
              obtain ⟨y, ey, y1⟩ := HFN.out b hbt
              have hcw : ∀ q, wr.cell? q = w7.cell? q := fun q => by simp [World.cell?, hQ.heap]
              have f1 := HCF.out a hat
              have f2 := HCF.out b hbt
              have g1 := HCX.out a hat
              have g2 := HCX.out b hbt
              have h1 := HCY.out x x1
              have h2 := HCY.out y y1
              rw [ex] at f1
              rw [ey] at f2
              rw [← hcw] at f1 f2 g1 g2 h1 h2
              have i1 : (a : Int) < ((levsL T).length : Int) := by have := HLX.out; omega
              have i2 : (b : Int) < ((levsL T).length : Int) := by have := HLX.out; omega
              have i3 : (a : Int) < (f.length : Int) := by have := HLF.out; omega
              have i4 : (b : Int) < (f.length : Int) := by have := HLF.out; omega
              have i5 : (x : Int) < ((levsL U).length : Int) := by have := HLY.out; omega
              have i6 : (y : Int) < ((levsL U).length : Int) := by have := HLY.out; omega
              have HEQ := hide (HLEV.out a b x y hat hbt x1 y1 ex ey)
              clear hcw ex ey
              obtain ⟨na, hna⟩ : ∃ na, na = num (inLev T) a := ⟨_, rfl⟩
              obtain ⟨nb, hnb⟩ : ∃ nb, nb = num (inLev T) b := ⟨_, rfl⟩
              obtain ⟨nx, hnx⟩ : ∃ nx, nx = num (inLev U) x := ⟨_, rfl⟩
              obtain ⟨ny, hny⟩ : ∃ ny, ny = num (inLev U) y := ⟨_, rfl⟩
              rw [← hna, ← hnb, ← hnx, ← hny] at HEQ
              rw [← hna] at g1
              rw [← hnb] at g2
              rw [← hnx] at h1
              rw [← hny] at h2
              clear hna hnb hnx hny
              by_cases e : na = nb
              · have e2 := HEQ.out e
                subst e2
                subst e
                have e0 : ((na : Int) == (na : Int)) = true := beq_self_eq_true _
                have e3 : ((nx : Int) != (nx : Int)) = false := by simp
                clear HEQ
                go_wp2_with fail
                go_quiet (fail)
                go_wp2
                go_roundg (a - (b + 1))
                case measure => go_light; have := hgk2.out; omega
                case rel => go_light; exact ⟨b + 1, by omega, rfl, by go_num, hQ.drewN _⟩
              · have e0 : ((na : Int) == (nb : Int)) = false := beq_eq_false_iff_ne.2 (by omega)
                have e1 : decide ((na : Int) = (nb : Int)) = false := decide_eq_false (by omega)
                clear HEQ
                go_wp2_with fail
                go_quiet (fail)
                go_wp2
                go_roundg (a - (b + 1))
                case measure => go_light; have := hgk2.out; omega
                case rel => go_light; exact ⟨b + 1, by omega, rfl, by go_num, hQ.drewN _⟩
            · obtain rfl : a = b := by omega
              go_wp2
              go_roundg (T.length - (a + 1))
              case measure => go_light; have := hgk.out; omega
              case rel => go_light; exact ⟨a + 1, hat, rfl, by go_num, hQ⟩
        · obtain rfl : T.length = a := by omega
          have hai : ¬ (T.length : Int) < (T.length : Int) := by omega
          have m8 := m7.quiet hQ
          have n8 := n7.quiet hQ
          have x8 := x7.quiet hQ
          have B8 := B7.trans (hQ.below w.heap.size)
          have Z8 := Nat.le_trans Z7 (hQ.below 0).size
          have X8 := Nat.le_trans X7 (hQ.below 0).size
          clear m7 n7 x7 hQ
          go_wp2_with fail
          refine (sLevelTable_any _ _ _ _ T wr m8 Z8 hS).mono ?_
          rintro e w9 ⟨A9, c9, rfl, b9, o9⟩
          have B9 := B8.trans (b9.mono B8.size)
          have m9 := m8.below b9 Z8
          have n9 := n8.below b9 Z8
          have x9 := x8.below b9 X8
          have Z9 := Nat.le_trans Z8 b9.size
          have X9 := Nat.le_trans X8 b9.size
          clear m8 n8 x8
          go_wp2_with fail
          refine (iKeepsOk_any _ _ _ _ T _ _ _ _ (levelT T) _ _ _ _ (levsL T) _ m9 Z9 hS o9 (Nat.le_refl _) small_levelT x9 X9 (len_levsL_le T) hx1 hx2).mono ?_
          rw [HL.out]
          rintro e w10 ⟨rfl, b10⟩
          have B10 := B9.trans (b10.mono B9.size)
          have m10 := m9.below b10 Z9
          have n10 := n9.below b10 Z9
          have Z10 := Nat.le_trans Z9 b10.size
          clear m9 n9 x9 o9
          have hmk := run_make_row' (P := Try.prog) 24 3 (.int .i64 0) 8 Try.underlying24 info_int rfl .i64 .i64 T.length (by omega) (by omega)
          go_wp2_with fail
          have r11 := row_zeros w10 T.length
          have b11 := (Below.refl w10.heap.size w10).alloc (Nat.le_refl _) (.cells (madeCells #[.int .i64 0] T.length) 3)
          refine (show Calls _ _ #[.slice _ T.length _, .slice _ U.length _, .slice _ T.length T.length] _ _ from (by have := iKeepsOk_any A1 c1 _ _ T A2 c2 _ _ U _ T.length _ _ (sameL T.length 0) _ (m10.below b11 Z10) (Nat.le_trans Z10 b11.size) hS (n10.below b11 Z10) (Nat.le_trans Z10 b11.size) hU r11 (Nat.le_refl _) (by rw [len_sameL]; omega) (by rw [len_sameL]; omega) (by omega); rw [len_sameL] at this; exact this)).mono ?_
          rw [HZ.out]
          rintro e w12 ⟨rfl, b12⟩
          clear hmk
          go_wp2
          go_ret
          exact ⟨rfl, B10.trans ((b11.trans (b12.mono b11.size)).mono B10.size)⟩

end Go.Proofs.Ytnchipcpeeofaaa
