/-  -/
import Derived.Deep.RegionHeld3
import Derived.Test.YtnchipcpeeofaaaMQ21
import Derived.Test.YtnchipcpeeofaaaMQ09
import Derived.Test.YtnchipcpeeofaaaMQ23
namespace Go.Proofs.Ytnchipcpeeofaaa
open Go.RowKit
set_option linter.unusedVariables false

/-- Two tables and a row. -/
def DrawMap (w : World) (lo : Nat) (e : Ending) (w' : World) : Prop := ∃ A1 c1 T A2 c2 U A3 c3 f, e = .returned (.tuple #[.slice A1 T.length c1, .slice A2 U.length c2, .slice A3 f.length c3]) ∧ Mat w' lo w'.heap.size A1 T ∧ Small T ∧ Mat w' lo w'.heap.size A2 U ∧ Small U ∧ Row w' lo w'.heap.size A3 f ∧ f.length ≤ 20 ∧ f.length ≤ c3 ∧ c3 ≤ 9223372036854775807
theorem three_cells (w : World) (x y z : Int) (k : Nat) (hk : k < 3) : ∃ v, (w.alloc (.cells #[.int .i64 x, .int .i64 y, .int .i64 z] 3)).cell? ⟨w.heap.size, k, none⟩ = some (.int .i64 v) := by
  have h := World.rowIs_alloc w #[.int .i64 x, .int .i64 y, .int .i64 z] 3 (fun i => .int .i64 (if i = 0 then x else if i = 1 then y else z)) fun i hi => by
    match i, hi with
    | 0, _ | 1, _ | 2, _ => rfl
  exact ⟨_, World.rowIs.cell h (i := k) hk⟩
set_option maxRecDepth 20000 in
set_option maxHeartbeats 8000000 in
theorem map_any (B g P : Nat) (A : Option Addr) (n c : Nat) (w : World) (h : Rd w B g P A n c) (hP : P ≤ 100) :
    Calls Try.prog 49 #[.pointer (some ⟨g, 0, none⟩)] w fun e w' => DrawMap w w.heap.size e w' ∧ Only g (g + 1) w w' := by
  have hg := h.lt
  go_enter Try.func49, Try.ntmps49
  go_wp2_with fail
  refine (band_any _ _ _ _ _ _ 14 _ h (by omega) (by omega) (by omega)).mono ?_
  rintro e w2 ⟨A2, c2, T, P2, rfl, m2, hS, s2, hP2, hT9⟩
  have hlT := hS.len
  have z2 := s2.only.size
  go_wp2_with fail
  refine (band_any _ _ _ _ _ _ 14 _ s2.rd (by omega) (by omega) (by omega)).mono ?_
  rintro e w3 ⟨A3, c3, U, P3, rfl, n3_, hU, s3_, hP3, hU9⟩
  have s3 : St w w3 B g P3 A n c := ⟨s3_.rd, s2.only.trans s3_.only, hg⟩
  have n3 := n3_.mono z2 (Nat.le_refl _)
  have m3 := (m2.only s3_.only (Nat.le_refl _) (.inr hg)).mono (Nat.le_refl _) s3_.only.size
  have hlU := hU.len
  have z3 := s3.only.size
  clear s2 m2 n3_ s3_ h
  go_wp2_with fail
  refine (sBandOk_any _ _ _ _ _ _ m3 hS).mono ?_
  cases hb : bandT T
  · rintro e w4 ⟨rfl, qq⟩
    have s4 := s3.below (qq.below _)
    have m4 := (m3.quiet qq).mono (Nat.le_refl _) ((qq.below 0).size)
    have n4 := (n3.quiet qq).mono (Nat.le_refl _) ((qq.below 0).size)
    have z4 := s4.only.size
    clear s3 m3 n3 qq z3
    have b6 := (Below.refl w4.heap.size w4).alloc (Nat.le_refl _) (.cells #[] 3)
    have s6 := s4.below b6
    obtain ⟨zz, hzz⟩ : ∃ zz, zz = w4.heap.size := ⟨_, rfl⟩
    have R6 : ARow zz (w4.alloc (.cells #[] 3)) (.slice (some ⟨w4.heap.size, 0, none⟩) 0 0) [] := ARow.made (Nat.le_of_eq hzz)
    have m6 := m4.below b6 (Nat.le_refl _)
    have n6 := n4.below b6 (Nat.le_refl _)
    have z6 := b6.size
    rw [← hzz] at m6 n6 z6 z4 R6
    clear s4 m4 n4
    have hmx : ∃ mx : Nat, 1 ≤ mx ∧ mx ≤ 9 ∧ ((U.length = 0 ∧ mx = 1) ∨ (1 ≤ U.length ∧ mx = U.length)) := by
      by_cases hu0 : U.length = 0
      · exact ⟨1, by omega, by omega, .inl ⟨hu0, rfl⟩⟩
      · exact ⟨U.length, by omega, by omega, .inr ⟨by omega, rfl⟩⟩
    obtain ⟨mx, hmx1, hmx9, hmxx⟩ := hmx
    rcases hmxx with ⟨hu0, rfl⟩ | ⟨hu1, rfl⟩
    · have hi : (1 : Int) > (U.length : Int) := by omega
      have hi2 : ¬ (U.length : Int) > 1 := by omega
      clear hu0
      go_wp2_with fail
      rw [← hzz]
      refine (pick_st 1 s6 (by omega) (by omega) (by omega)).mono ?_
      rintro e w7 ⟨k7, rfl, hk7, s7, o7⟩
      have m7 := m6.only o7 z6 (.inr hg)
      have n7 := n6.only o7 z6 (.inr hg)
      have R7 := R6.low o7 (by omega)
      have z7 : zz ≤ w7.heap.size := Nat.le_trans z6 o7.size
      have S7 := hide s7
      clear s6 m6 n6 R6 b6 o7 z6 s7
      go_wp2
      go_loopg [9, 7] T.length (fun gh i v wr => ∃ (a P9 : Nat) (xs : List Int), a ≤ T.length ∧ Hid (gh = T.length - a) ∧ i = .int .i64 a ∧ Hid (xs.length = a) ∧ ARow zz wr v xs ∧ St w wr B g P9 A n c ∧ Hid (P9 ≤ 300 + 2 * a) ∧ Mat wr w.heap.size zz A2 T ∧ Mat wr w.heap.size zz A3 U ∧ zz ≤ wr.heap.size)
      case atStart => exact ⟨0, _, [], Nat.zero_le _, rfl, rfl, rfl, by rw [← hzz]; exact R7, S7.out, by show _ ≤ _; omega, m7, n7, z7⟩
      case round =>
        clear m7 n7 R7 z7
        obtain ⟨a, P9, xs, ha, hgk, rfl, hxl, hR, sr, hP9, mr, nr, zr⟩ := hrel
        have hP9' := hP9.out
        by_cases hat : a < T.length
        · have hl : xs.length ≤ 1048576 := by have := hxl.out; omega
          go_wp2_with fail
          refine (pick_st 1 sr (by omega) (by omega) (by omega)).mono ?_
          rintro e w8 ⟨k8, rfl, hk8, s8, o8⟩
          have m8 := mr.only o8 zr (.inr hg)
          have n8 := nr.only o8 zr (.inr hg)
          have R8 := hR.low o8 (by omega)
          have z8 := Nat.le_trans zr o8.size
          have T8 := three_cells w8 (k7 : Int) (k7 : Int) (k8 : Int)
          have b9 := (Below.refl w8.heap.size w8).alloc (Nat.le_refl _) (.cells #[.int .i64 (k7 : Int), .int .i64 (k7 : Int), .int .i64 (k8 : Int)] 3)
          have l9 : w8.heap.size < (w8.alloc (.cells #[.int .i64 (k7 : Int), .int .i64 (k7 : Int), .int .i64 (k8 : Int)] 3)).heap.size := by simp
          clear sr mr nr hR o8
          go_wp2_with fail
          generalize w8.alloc (.cells #[.int .i64 (k7 : Int), .int .i64 (k7 : Int), .int .i64 (k8 : Int)] 3) = w9 at T8 b9 l9 ⊢
          have s9 := s8.below b9
          have m9 := m8.below b9 z8
          have n9 := n8.below b9 z8
          have R9 := R8.below b9
          have z9 := Nat.le_trans z8 b9.size
          clear s8 m8 n8 R8 b9
          refine (pick_st 3 s9 (by omega) (by omega) (by omega)).mono ?_
          rintro e w10 ⟨j, rfl, hj, s10, o10⟩
          have m10 := m9.only o10 z9 (.inr hg)
          have n10 := n9.only o10 z9 (.inr hg)
          have R10 := R9.low o10 (by omega)
          have z10 := Nat.le_trans z9 o10.size
          obtain ⟨v, hv9⟩ := T8 j (by omega)
          have hv : w10.cell? ⟨w8.heap.size, j, none⟩ = some (.int .i64 v) := (World.cell?_of_block (w := w9) (o10.block w8.heap.size l9 (.inr (by omega)))).trans hv9
          have j3 : (j : Int) < 3 := by omega
          have S10 := hide s10
          clear s9 m9 n9 R9 T8 hv9 o10 l9 s10
          go_wp2_with (at_builtin; refine wp_app_int rfl (.tmp 38) (.tmp 51) rfl zz _ _ _ 1 rfl rfl R10 hl z10 ?_; intro v2 w11 hown hgr)
          have b11 := R10.belowOf hgr (Nat.le_refl zz) z10
          have m11 := m10.below b11 (Nat.le_refl _)
          have n11 := n10.below b11 (Nat.le_refl _)
          have z11 := Nat.le_trans z10 b11.size
          go_roundg (T.length - (a + 1))
          case measure => go_light; have := hgk.out; omega
          case rel => go_light; exact ⟨a + 1, _, _, hat, rfl, by go_num, by show _ = _; rw [List.length_append, hxl.out]; rfl, hown, ⟨S10.out.rd.belowM b11 (by omega), S10.out.only.thenBelow b11 (by omega), hg⟩, by show _ ≤ _; omega, m11, n11, z11⟩
        · obtain rfl : T.length = a := by omega
          have hl : xs.length ≤ 1048576 := by have := hxl.out; omega
          go_wp2_with fail
          refine (odd_any B g P9 A n c 20 _ sr.rd (by omega) (by omega) (by omega)).mono ?_
          rintro e w12 ⟨⟨b12, rfl⟩, r12, o12, _⟩
          have s12 : St w w12 B g (P9 + 1) A n c := ⟨r12, sr.only.trans o12, hg⟩
          have m12 := mr.only o12 zr (.inr hg)
          have n12 := nr.only o12 zr (.inr hg)
          have R12 := hR.low o12 (by omega)
          have z12 := Nat.le_trans zr o12.size
          clear sr mr nr hR o12 r12
          cases b12
          · obtain ⟨A12, c12, rfl, e12, f12, hRow⟩ := R12.val
            have fin : DrawMap w w.heap.size (.returned (.tuple #[.slice A2 T.length c2, .slice A3 U.length c3, .slice A12 xs.length c12])) w12 := ⟨A2, c2, T, A3, c3, U, A12, c12, xs, rfl, m12.mono (Nat.le_refl _) z12, hS, n12.mono (Nat.le_refl _) z12, hU, hRow.mono (by omega) (Nat.le_refl _), by have := hxl.out; omega, e12, f12⟩
            have FIN := hide fin
            have O12 := hide s12.only
            clear fin s12 m12 n12 R12 hRow
            go_wp2
            refine bodyPost_ret (results_tmp3 rfl _ _ _) rfl ?_
            exact ⟨FIN.out, O12.out⟩
          · have S12 := hide s12
            obtain ⟨A12, c12, rfl, _, _, _⟩ := R12.val
            clear s12
            go_wp2_with (at_builtin; refine wp_app_int rfl (.tmp 55) (.tmp 56) rfl zz _ _ _ 1 rfl rfl R12 hl z12 ?_; intro v2 w13 hown hgr)
            have b13 := R12.belowOf hgr (Nat.le_refl zz) z12
            have z13 := Nat.le_trans z12 b13.size
            obtain ⟨A13, c13, rfl, e13, f13, hRow⟩ := hown.val
            have fin : DrawMap w w.heap.size (.returned (.tuple #[.slice A2 T.length c2, .slice A3 U.length c3, .slice A13 (xs ++ [0]).length c13])) w13 := ⟨A2, c2, T, A3, c3, U, A13, c13, xs ++ [0], rfl, (m12.below b13 (Nat.le_refl _)).mono (Nat.le_refl _) z13, hS, (n12.below b13 (Nat.le_refl _)).mono (Nat.le_refl _) z13, hU, hRow.mono (by omega) (Nat.le_refl _), by rw [List.length_append]; have := hxl.out; simp; omega, e13, f13⟩
            have FIN := hide fin
            have O13 := hide (S12.out.only.thenBelow b13 (by omega))
            clear fin
            go_wp2
            refine bodyPost_ret (results_tmp3 rfl _ _ _) rfl ?_
            exact ⟨FIN.out, O13.out⟩
    · have hi : ¬ (1 : Int) > (U.length : Int) := by omega
      go_wp2_with fail
      rw [← hzz]
      refine (pick_st (U.length : Int) s6 (by omega) (by omega) (by omega)).mono ?_
      rintro e w7 ⟨k7, rfl, hk7, s7, o7⟩
      have m7 := m6.only o7 z6 (.inr hg)
      have n7 := n6.only o7 z6 (.inr hg)
      have R7 := R6.low o7 (by omega)
      have z7 : zz ≤ w7.heap.size := Nat.le_trans z6 o7.size
      have S7 := hide s7
      clear s6 m6 n6 R6 b6 o7 z6 s7
      go_wp2
      go_loopg [9, 7] T.length (fun gh i v wr => ∃ (a P9 : Nat) (xs : List Int), a ≤ T.length ∧ Hid (gh = T.length - a) ∧ i = .int .i64 a ∧ Hid (xs.length = a) ∧ ARow zz wr v xs ∧ St w wr B g P9 A n c ∧ Hid (P9 ≤ 300 + 2 * a) ∧ Mat wr w.heap.size zz A2 T ∧ Mat wr w.heap.size zz A3 U ∧ zz ≤ wr.heap.size)
      case atStart => exact ⟨0, _, [], Nat.zero_le _, rfl, rfl, rfl, by rw [← hzz]; exact R7, S7.out, by show _ ≤ _; omega, m7, n7, z7⟩
      case round =>
        clear m7 n7 R7 z7
        obtain ⟨a, P9, xs, ha, hgk, rfl, hxl, hR, sr, hP9, mr, nr, zr⟩ := hrel
        have hP9' := hP9.out
        by_cases hat : a < T.length
        · have hl : xs.length ≤ 1048576 := by have := hxl.out; omega
          go_wp2_with fail
          refine (pick_st (U.length : Int) sr (by omega) (by omega) (by omega)).mono ?_
          rintro e w8 ⟨k8, rfl, hk8, s8, o8⟩
          have m8 := mr.only o8 zr (.inr hg)
          have n8 := nr.only o8 zr (.inr hg)
          have R8 := hR.low o8 (by omega)
          have z8 := Nat.le_trans zr o8.size
          have T8 := three_cells w8 (k7 : Int) (k7 : Int) (k8 : Int)
          have b9 := (Below.refl w8.heap.size w8).alloc (Nat.le_refl _) (.cells #[.int .i64 (k7 : Int), .int .i64 (k7 : Int), .int .i64 (k8 : Int)] 3)
          have l9 : w8.heap.size < (w8.alloc (.cells #[.int .i64 (k7 : Int), .int .i64 (k7 : Int), .int .i64 (k8 : Int)] 3)).heap.size := by simp
          clear sr mr nr hR o8
          go_wp2_with fail
          generalize w8.alloc (.cells #[.int .i64 (k7 : Int), .int .i64 (k7 : Int), .int .i64 (k8 : Int)] 3) = w9 at T8 b9 l9 ⊢
          have s9 := s8.below b9
          have m9 := m8.below b9 z8
          have n9 := n8.below b9 z8
          have R9 := R8.below b9
          have z9 := Nat.le_trans z8 b9.size
          clear s8 m8 n8 R8 b9
          refine (pick_st 3 s9 (by omega) (by omega) (by omega)).mono ?_
          rintro e w10 ⟨j, rfl, hj, s10, o10⟩
          have m10 := m9.only o10 z9 (.inr hg)
          have n10 := n9.only o10 z9 (.inr hg)
          have R10 := R9.low o10 (by omega)
          have z10 := Nat.le_trans z9 o10.size
          obtain ⟨v, hv9⟩ := T8 j (by omega)
          have hv : w10.cell? ⟨w8.heap.size, j, none⟩ = some (.int .i64 v) := (World.cell?_of_block (w := w9) (o10.block w8.heap.size l9 (.inr (by omega)))).trans hv9
          have j3 : (j : Int) < 3 := by omega
          have S10 := hide s10
          clear s9 m9 n9 R9 T8 hv9 o10 l9 s10
          go_wp2_with (at_builtin; refine wp_app_int rfl (.tmp 38) (.tmp 51) rfl zz _ _ _ 1 rfl rfl R10 hl z10 ?_; intro v2 w11 hown hgr)
          have b11 := R10.belowOf hgr (Nat.le_refl zz) z10
          have m11 := m10.below b11 (Nat.le_refl _)
          have n11 := n10.below b11 (Nat.le_refl _)
          have z11 := Nat.le_trans z10 b11.size
          go_roundg (T.length - (a + 1))
          case measure => go_light; have := hgk.out; omega
          case rel => go_light; exact ⟨a + 1, _, _, hat, rfl, by go_num, by show _ = _; rw [List.length_append, hxl.out]; rfl, hown, ⟨S10.out.rd.belowM b11 (by omega), S10.out.only.thenBelow b11 (by omega), hg⟩, by show _ ≤ _; omega, m11, n11, z11⟩
        · obtain rfl : T.length = a := by omega
          have hl : xs.length ≤ 1048576 := by have := hxl.out; omega
          go_wp2_with fail
          refine (odd_any B g P9 A n c 20 _ sr.rd (by omega) (by omega) (by omega)).mono ?_
          rintro e w12 ⟨⟨b12, rfl⟩, r12, o12, _⟩
          have s12 : St w w12 B g (P9 + 1) A n c := ⟨r12, sr.only.trans o12, hg⟩
          have m12 := mr.only o12 zr (.inr hg)
          have n12 := nr.only o12 zr (.inr hg)
          have R12 := hR.low o12 (by omega)
          have z12 := Nat.le_trans zr o12.size
          clear sr mr nr hR o12 r12
          cases b12
          · obtain ⟨A12, c12, rfl, e12, f12, hRow⟩ := R12.val
            have fin : DrawMap w w.heap.size (.returned (.tuple #[.slice A2 T.length c2, .slice A3 U.length c3, .slice A12 xs.length c12])) w12 := ⟨A2, c2, T, A3, c3, U, A12, c12, xs, rfl, m12.mono (Nat.le_refl _) z12, hS, n12.mono (Nat.le_refl _) z12, hU, hRow.mono (by omega) (Nat.le_refl _), by have := hxl.out; omega, e12, f12⟩
            have FIN := hide fin
            have O12 := hide s12.only
            clear fin s12 m12 n12 R12 hRow
            go_wp2
            refine bodyPost_ret (results_tmp3 rfl _ _ _) rfl ?_
            exact ⟨FIN.out, O12.out⟩
          · have S12 := hide s12
            obtain ⟨A12, c12, rfl, _, _, _⟩ := R12.val
            clear s12
            go_wp2_with (at_builtin; refine wp_app_int rfl (.tmp 55) (.tmp 56) rfl zz _ _ _ 1 rfl rfl R12 hl z12 ?_; intro v2 w13 hown hgr)
            have b13 := R12.belowOf hgr (Nat.le_refl zz) z12
            have z13 := Nat.le_trans z12 b13.size
            obtain ⟨A13, c13, rfl, e13, f13, hRow⟩ := hown.val
            have fin : DrawMap w w.heap.size (.returned (.tuple #[.slice A2 T.length c2, .slice A3 U.length c3, .slice A13 (xs ++ [0]).length c13])) w13 := ⟨A2, c2, T, A3, c3, U, A13, c13, xs ++ [0], rfl, (m12.below b13 (Nat.le_refl _)).mono (Nat.le_refl _) z13, hS, (n12.below b13 (Nat.le_refl _)).mono (Nat.le_refl _) z13, hU, hRow.mono (by omega) (Nat.le_refl _), by rw [List.length_append]; have := hxl.out; simp; omega, e13, f13⟩
            have FIN := hide fin
            have O13 := hide (S12.out.only.thenBelow b13 (by omega))
            clear fin
            go_wp2
            refine bodyPost_ret (results_tmp3 rfl _ _ _) rfl ?_
            exact ⟨FIN.out, O13.out⟩
  · rintro e w4 ⟨rfl, qq⟩
    have s4 := s3.below (qq.below _)
    have m4 := (m3.quiet qq).mono (Nat.le_refl _) ((qq.below 0).size)
    have n4 := (n3.quiet qq).mono (Nat.le_refl _) ((qq.below 0).size)
    have z4 := s4.only.size
    clear s3 m3 n3 qq z3
    go_wp2_with fail
    refine (pick_st 3 s4 (by omega) (by omega) (by omega)).mono ?_
    rintro e w5 ⟨k5, rfl, hk5, s5, o5⟩
    have z5 := s5.only.size
    have m5 := (m4.only o5 (Nat.le_refl _) (.inr hg)).mono (Nat.le_refl _) o5.size
    have n5 := (n4.only o5 (Nat.le_refl _) (.inr hg)).mono (Nat.le_refl _) o5.size
    clear s4 m4 n4 o5 z4
    by_cases h0 : k5 = 0
    · subst h0
      go_wp2_with fail
      refine (sLevelTable_any _ _ _ _ _ w5 m5 (Nat.le_refl _) hS).mono ?_
      rintro e w6 ⟨A6, c6, rfl, b6, o6⟩
      have m6 := (m5.below b6 (Nat.le_refl _)).mono (Nat.le_refl _) b6.size
      have s6 := s5.below b6
      go_wp2_with fail
      refine (sLevelsOf_any _ _ _ _ _ w6 m6 (Nat.le_refl _) hS).mono ?_
      rintro e w7 ⟨A7, c7, rfl, b7, o7, e7, f7⟩
      have m7 := (m6.below b7 (Nat.le_refl _)).mono (Nat.le_refl _) b7.size
      have s7 := s6.below b7
      have fin : DrawMap w w.heap.size (.returned (.tuple #[.slice A2 T.length c2, .slice A6 (levelT T).length c6, .slice A7 (levsL T).length c7])) w7 :=
        ⟨A2, c2, T, A6, c6, levelT T, A7, c7, levsL T, rfl, m7, hS, (o6.below b7 (Nat.le_refl _)).mono z5 b7.size, small_levelT, o7.mono (Nat.le_trans z5 b6.size) (Nat.le_refl _), by rw [len_levsL hb]; omega, e7, f7⟩
      have FIN := hide fin
      have O7 := hide s7.only
      clear fin
      go_wp2
      refine bodyPost_ret (results_tmp3 rfl _ _ _) rfl ?_
      exact ⟨FIN.out, O7.out⟩
    · have hki : ((k5 : Int) == 0) = false := beq_eq_false_iff_ne.2 (by omega)
      have b6 := (Below.refl w5.heap.size w5).alloc (Nat.le_refl _) (.cells #[] 3)
      have s6 := s5.below b6
      obtain ⟨zz, hzz⟩ : ∃ zz, zz = w5.heap.size := ⟨_, rfl⟩
      have R6 : ARow zz (w5.alloc (.cells #[] 3)) (.slice (some ⟨w5.heap.size, 0, none⟩) 0 0) [] := ARow.made (Nat.le_of_eq hzz)
      have m6 := m5.below b6 (Nat.le_refl _)
      have n6 := n5.below b6 (Nat.le_refl _)
      have z6 := b6.size
      rw [← hzz] at m6 n6 z6 z5 R6
      clear s5 m5 n5
      have hmx : ∃ mx : Nat, 1 ≤ mx ∧ mx ≤ 9 ∧ ((U.length = 0 ∧ mx = 1) ∨ (1 ≤ U.length ∧ mx = U.length)) := by
        by_cases hu0 : U.length = 0
        · exact ⟨1, by omega, by omega, .inl ⟨hu0, rfl⟩⟩
        · exact ⟨U.length, by omega, by omega, .inr ⟨by omega, rfl⟩⟩
      obtain ⟨mx, hmx1, hmx9, hmxx⟩ := hmx
      rcases hmxx with ⟨hu0, rfl⟩ | ⟨hu1, rfl⟩
      · have hi : (1 : Int) > (U.length : Int) := by omega
        have hi2 : ¬ (U.length : Int) > 1 := by omega
        clear hu0
        go_wp2_with fail
        rw [← hzz]
        refine (pick_st 1 s6 (by omega) (by omega) (by omega)).mono ?_
        rintro e w7 ⟨k7, rfl, hk7, s7, o7⟩
        have m7 := m6.only o7 z6 (.inr hg)
        have n7 := n6.only o7 z6 (.inr hg)
        have R7 := R6.low o7 (by omega)
        have z7 : zz ≤ w7.heap.size := Nat.le_trans z6 o7.size
        have S7 := hide s7
        clear s6 m6 n6 R6 b6 o7 z6 s7
        go_wp2
        go_loopg [9, 7] T.length (fun gh i v wr => ∃ (a P9 : Nat) (xs : List Int), a ≤ T.length ∧ Hid (gh = T.length - a) ∧ i = .int .i64 a ∧ Hid (xs.length = a) ∧ ARow zz wr v xs ∧ St w wr B g P9 A n c ∧ Hid (P9 ≤ 300 + 2 * a) ∧ Mat wr w.heap.size zz A2 T ∧ Mat wr w.heap.size zz A3 U ∧ zz ≤ wr.heap.size)
        case atStart => exact ⟨0, _, [], Nat.zero_le _, rfl, rfl, rfl, by rw [← hzz]; exact R7, S7.out, by show _ ≤ _; omega, m7, n7, z7⟩
        case round =>
          clear m7 n7 R7 z7
          obtain ⟨a, P9, xs, ha, hgk, rfl, hxl, hR, sr, hP9, mr, nr, zr⟩ := hrel
          have hP9' := hP9.out
          by_cases hat : a < T.length
          · have hl : xs.length ≤ 1048576 := by have := hxl.out; omega
            go_wp2_with fail
            refine (pick_st 1 sr (by omega) (by omega) (by omega)).mono ?_
            rintro e w8 ⟨k8, rfl, hk8, s8, o8⟩
            have m8 := mr.only o8 zr (.inr hg)
            have n8 := nr.only o8 zr (.inr hg)
            have R8 := hR.low o8 (by omega)
            have z8 := Nat.le_trans zr o8.size
            have T8 := three_cells w8 (k7 : Int) (k7 : Int) (k8 : Int)
            have b9 := (Below.refl w8.heap.size w8).alloc (Nat.le_refl _) (.cells #[.int .i64 (k7 : Int), .int .i64 (k7 : Int), .int .i64 (k8 : Int)] 3)
            have l9 : w8.heap.size < (w8.alloc (.cells #[.int .i64 (k7 : Int), .int .i64 (k7 : Int), .int .i64 (k8 : Int)] 3)).heap.size := by simp
            clear sr mr nr hR o8
            go_wp2_with fail
            generalize w8.alloc (.cells #[.int .i64 (k7 : Int), .int .i64 (k7 : Int), .int .i64 (k8 : Int)] 3) = w9 at T8 b9 l9 ⊢
            have s9 := s8.below b9
            have m9 := m8.below b9 z8
            have n9 := n8.below b9 z8
            have R9 := R8.below b9
            have z9 := Nat.le_trans z8 b9.size
            clear s8 m8 n8 R8 b9
            refine (pick_st 3 s9 (by omega) (by omega) (by omega)).mono ?_
            rintro e w10 ⟨j, rfl, hj, s10, o10⟩
            have m10 := m9.only o10 z9 (.inr hg)
            have n10 := n9.only o10 z9 (.inr hg)
            have R10 := R9.low o10 (by omega)
            have z10 := Nat.le_trans z9 o10.size
            obtain ⟨v, hv9⟩ := T8 j (by omega)
            have hv : w10.cell? ⟨w8.heap.size, j, none⟩ = some (.int .i64 v) := (World.cell?_of_block (w := w9) (o10.block w8.heap.size l9 (.inr (by omega)))).trans hv9
            have j3 : (j : Int) < 3 := by omega
            have S10 := hide s10
            clear s9 m9 n9 R9 T8 hv9 o10 l9 s10
            go_wp2_with (at_builtin; refine wp_app_int rfl (.tmp 38) (.tmp 51) rfl zz _ _ _ 1 rfl rfl R10 hl z10 ?_; intro v2 w11 hown hgr)
            have b11 := R10.belowOf hgr (Nat.le_refl zz) z10
            have m11 := m10.below b11 (Nat.le_refl _)
            have n11 := n10.below b11 (Nat.le_refl _)
            have z11 := Nat.le_trans z10 b11.size
            go_roundg (T.length - (a + 1))
            case measure => go_light; have := hgk.out; omega
            case rel => go_light; exact ⟨a + 1, _, _, hat, rfl, by go_num, by show _ = _; rw [List.length_append, hxl.out]; rfl, hown, ⟨S10.out.rd.belowM b11 (by omega), S10.out.only.thenBelow b11 (by omega), hg⟩, by show _ ≤ _; omega, m11, n11, z11⟩
          · obtain rfl : T.length = a := by omega
            have hl : xs.length ≤ 1048576 := by have := hxl.out; omega
            go_wp2_with fail
            refine (odd_any B g P9 A n c 20 _ sr.rd (by omega) (by omega) (by omega)).mono ?_
            rintro e w12 ⟨⟨b12, rfl⟩, r12, o12, _⟩
            have s12 : St w w12 B g (P9 + 1) A n c := ⟨r12, sr.only.trans o12, hg⟩
            have m12 := mr.only o12 zr (.inr hg)
            have n12 := nr.only o12 zr (.inr hg)
            have R12 := hR.low o12 (by omega)
            have z12 := Nat.le_trans zr o12.size
            clear sr mr nr hR o12 r12
            cases b12
            · obtain ⟨A12, c12, rfl, e12, f12, hRow⟩ := R12.val
              have fin : DrawMap w w.heap.size (.returned (.tuple #[.slice A2 T.length c2, .slice A3 U.length c3, .slice A12 xs.length c12])) w12 := ⟨A2, c2, T, A3, c3, U, A12, c12, xs, rfl, m12.mono (Nat.le_refl _) z12, hS, n12.mono (Nat.le_refl _) z12, hU, hRow.mono (by omega) (Nat.le_refl _), by have := hxl.out; omega, e12, f12⟩
              have FIN := hide fin
              have O12 := hide s12.only
              clear fin s12 m12 n12 R12 hRow
              go_wp2
              refine bodyPost_ret (results_tmp3 rfl _ _ _) rfl ?_
              exact ⟨FIN.out, O12.out⟩
            · have S12 := hide s12
              obtain ⟨A12, c12, rfl, _, _, _⟩ := R12.val
              clear s12
              go_wp2_with (at_builtin; refine wp_app_int rfl (.tmp 55) (.tmp 56) rfl zz _ _ _ 1 rfl rfl R12 hl z12 ?_; intro v2 w13 hown hgr)
              have b13 := R12.belowOf hgr (Nat.le_refl zz) z12
              have z13 := Nat.le_trans z12 b13.size
              obtain ⟨A13, c13, rfl, e13, f13, hRow⟩ := hown.val
              have fin : DrawMap w w.heap.size (.returned (.tuple #[.slice A2 T.length c2, .slice A3 U.length c3, .slice A13 (xs ++ [0]).length c13])) w13 := ⟨A2, c2, T, A3, c3, U, A13, c13, xs ++ [0], rfl, (m12.below b13 (Nat.le_refl _)).mono (Nat.le_refl _) z13, hS, (n12.below b13 (Nat.le_refl _)).mono (Nat.le_refl _) z13, hU, hRow.mono (by omega) (Nat.le_refl _), by rw [List.length_append]; have := hxl.out; simp; omega, e13, f13⟩
              have FIN := hide fin
              have O13 := hide (S12.out.only.thenBelow b13 (by omega))
              clear fin
              go_wp2
              refine bodyPost_ret (results_tmp3 rfl _ _ _) rfl ?_
              exact ⟨FIN.out, O13.out⟩
      · have hi : ¬ (1 : Int) > (U.length : Int) := by omega
        go_wp2_with fail
        rw [← hzz]
        refine (pick_st (U.length : Int) s6 (by omega) (by omega) (by omega)).mono ?_
        rintro e w7 ⟨k7, rfl, hk7, s7, o7⟩
        have m7 := m6.only o7 z6 (.inr hg)
        have n7 := n6.only o7 z6 (.inr hg)
        have R7 := R6.low o7 (by omega)
        have z7 : zz ≤ w7.heap.size := Nat.le_trans z6 o7.size
        have S7 := hide s7
        clear s6 m6 n6 R6 b6 o7 z6 s7
        go_wp2
        go_loopg [9, 7] T.length (fun gh i v wr => ∃ (a P9 : Nat) (xs : List Int), a ≤ T.length ∧ Hid (gh = T.length - a) ∧ i = .int .i64 a ∧ Hid (xs.length = a) ∧ ARow zz wr v xs ∧ St w wr B g P9 A n c ∧ Hid (P9 ≤ 300 + 2 * a) ∧ Mat wr w.heap.size zz A2 T ∧ Mat wr w.heap.size zz A3 U ∧ zz ≤ wr.heap.size)
        case atStart => exact ⟨0, _, [], Nat.zero_le _, rfl, rfl, rfl, by rw [← hzz]; exact R7, S7.out, by show _ ≤ _; omega, m7, n7, z7⟩
        case round =>
          clear m7 n7 R7 z7
          obtain ⟨a, P9, xs, ha, hgk, rfl, hxl, hR, sr, hP9, mr, nr, zr⟩ := hrel
          have hP9' := hP9.out
          by_cases hat : a < T.length
          · have hl : xs.length ≤ 1048576 := by have := hxl.out; omega
            go_wp2_with fail
            refine (pick_st (U.length : Int) sr (by omega) (by omega) (by omega)).mono ?_
            rintro e w8 ⟨k8, rfl, hk8, s8, o8⟩
            have m8 := mr.only o8 zr (.inr hg)
            have n8 := nr.only o8 zr (.inr hg)
            have R8 := hR.low o8 (by omega)
            have z8 := Nat.le_trans zr o8.size
            have T8 := three_cells w8 (k7 : Int) (k7 : Int) (k8 : Int)
            have b9 := (Below.refl w8.heap.size w8).alloc (Nat.le_refl _) (.cells #[.int .i64 (k7 : Int), .int .i64 (k7 : Int), .int .i64 (k8 : Int)] 3)
            have l9 : w8.heap.size < (w8.alloc (.cells #[.int .i64 (k7 : Int), .int .i64 (k7 : Int), .int .i64 (k8 : Int)] 3)).heap.size := by simp
            clear sr mr nr hR o8
            go_wp2_with fail
            generalize w8.alloc (.cells #[.int .i64 (k7 : Int), .int .i64 (k7 : Int), .int .i64 (k8 : Int)] 3) = w9 at T8 b9 l9 ⊢
            have s9 := s8.below b9
            have m9 := m8.below b9 z8
            have n9 := n8.below b9 z8
            have R9 := R8.below b9
            have z9 := Nat.le_trans z8 b9.size
            clear s8 m8 n8 R8 b9
            refine (pick_st 3 s9 (by omega) (by omega) (by omega)).mono ?_
            rintro e w10 ⟨j, rfl, hj, s10, o10⟩
            have m10 := m9.only o10 z9 (.inr hg)
            have n10 := n9.only o10 z9 (.inr hg)
            have R10 := R9.low o10 (by omega)
            have z10 := Nat.le_trans z9 o10.size
            obtain ⟨v, hv9⟩ := T8 j (by omega)
            have hv : w10.cell? ⟨w8.heap.size, j, none⟩ = some (.int .i64 v) := (World.cell?_of_block (w := w9) (o10.block w8.heap.size l9 (.inr (by omega)))).trans hv9
            have j3 : (j : Int) < 3 := by omega
            have S10 := hide s10
            clear s9 m9 n9 R9 T8 hv9 o10 l9 s10
            go_wp2_with (at_builtin; refine wp_app_int rfl (.tmp 38) (.tmp 51) rfl zz _ _ _ 1 rfl rfl R10 hl z10 ?_; intro v2 w11 hown hgr)
            have b11 := R10.belowOf hgr (Nat.le_refl zz) z10
            have m11 := m10.below b11 (Nat.le_refl _)
            have n11 := n10.below b11 (Nat.le_refl _)
            have z11 := Nat.le_trans z10 b11.size
            go_roundg (T.length - (a + 1))
            case measure => go_light; have := hgk.out; omega
            case rel => go_light; exact ⟨a + 1, _, _, hat, rfl, by go_num, by show _ = _; rw [List.length_append, hxl.out]; rfl, hown, ⟨S10.out.rd.belowM b11 (by omega), S10.out.only.thenBelow b11 (by omega), hg⟩, by show _ ≤ _; omega, m11, n11, z11⟩
          · obtain rfl : T.length = a := by omega
            have hl : xs.length ≤ 1048576 := by have := hxl.out; omega
            go_wp2_with fail
            refine (odd_any B g P9 A n c 20 _ sr.rd (by omega) (by omega) (by omega)).mono ?_
            rintro e w12 ⟨⟨b12, rfl⟩, r12, o12, _⟩
            have s12 : St w w12 B g (P9 + 1) A n c := ⟨r12, sr.only.trans o12, hg⟩
            have m12 := mr.only o12 zr (.inr hg)
            have n12 := nr.only o12 zr (.inr hg)
            have R12 := hR.low o12 (by omega)
            have z12 := Nat.le_trans zr o12.size
            clear sr mr nr hR o12 r12
            cases b12
            · obtain ⟨A12, c12, rfl, e12, f12, hRow⟩ := R12.val
              have fin : DrawMap w w.heap.size (.returned (.tuple #[.slice A2 T.length c2, .slice A3 U.length c3, .slice A12 xs.length c12])) w12 := ⟨A2, c2, T, A3, c3, U, A12, c12, xs, rfl, m12.mono (Nat.le_refl _) z12, hS, n12.mono (Nat.le_refl _) z12, hU, hRow.mono (by omega) (Nat.le_refl _), by have := hxl.out; omega, e12, f12⟩
              have FIN := hide fin
              have O12 := hide s12.only
              clear fin s12 m12 n12 R12 hRow
              go_wp2
              refine bodyPost_ret (results_tmp3 rfl _ _ _) rfl ?_
              exact ⟨FIN.out, O12.out⟩
            · have S12 := hide s12
              obtain ⟨A12, c12, rfl, _, _, _⟩ := R12.val
              clear s12
              go_wp2_with (at_builtin; refine wp_app_int rfl (.tmp 55) (.tmp 56) rfl zz _ _ _ 1 rfl rfl R12 hl z12 ?_; intro v2 w13 hown hgr)
              have b13 := R12.belowOf hgr (Nat.le_refl zz) z12
              have z13 := Nat.le_trans z12 b13.size
              obtain ⟨A13, c13, rfl, e13, f13, hRow⟩ := hown.val
              have fin : DrawMap w w.heap.size (.returned (.tuple #[.slice A2 T.length c2, .slice A3 U.length c3, .slice A13 (xs ++ [0]).length c13])) w13 := ⟨A2, c2, T, A3, c3, U, A13, c13, xs ++ [0], rfl, (m12.below b13 (Nat.le_refl _)).mono (Nat.le_refl _) z13, hS, (n12.below b13 (Nat.le_refl _)).mono (Nat.le_refl _) z13, hU, hRow.mono (by omega) (Nat.le_refl _), by rw [List.length_append]; have := hxl.out; simp; omega, e13, f13⟩
              have FIN := hide fin
              have O13 := hide (S12.out.only.thenBelow b13 (by omega))
              clear fin
              go_wp2
              refine bodyPost_ret (results_tmp3 rfl _ _ _) rfl ?_
              exact ⟨FIN.out, O13.out⟩

set_option maxHeartbeats 1000000 in
theorem drawMapOk_any (A : Option Addr) (n c : Nat) (w : World) (h : Bytes w w.heap.size A n) (hc : n ≤ c) (hc2 : c ≤ 9223372036854775807) :
    Calls Try.prog 13 #[.slice A n c] w fun e w' => DrawMap w w.heap.size e w' ∧ Below w.heap.size w w' := by
  go_enter Try.func13, Try.ntmps13
  go_wp2_with fail
  refine (open_any A n c w h hc hc2).mono ?_
  rintro e w1 ⟨A1, n1, c1, rfl, b1, s1⟩
  go_wp2_with fail
  refine (map_any _ _ _ _ _ _ _ s1.rd (by omega)).mono ?_
  rintro e w2 ⟨⟨A2, c2, T, A3, c3, U, A4, c4, f, rfl, hM, hS, hN, hU, hR, hf, hf1, hf2⟩, o2⟩
  have z1 := b1.size
  have fin : DrawMap w w.heap.size (.returned (.tuple #[.slice A2 T.length c2, .slice A3 U.length c3, .slice A4 f.length c4])) w2 := ⟨A2, c2, T, A3, c3, U, A4, c4, f, rfl, hM.mono z1 (Nat.le_refl _), hS, hN.mono z1 (Nat.le_refl _), hU, hR.mono z1 (Nat.le_refl _), hf, hf1, hf2⟩
  have FIN := hide fin
  have B2 := hide (b1.trans (o2.below (Nat.le_refl _) z1))
  clear fin hM hN hR
  go_wp2
  refine bodyPost_ret (results_tmp3 rfl _ _ _) rfl ?_
  exact ⟨FIN.out, B2.out⟩

set_option maxHeartbeats 1000000 in
theorem drawKeepsOk_any (A : Option Addr) (n c : Nat) (w : World) (h : Bytes w w.heap.size A n) (hc : n ≤ c) (hc2 : c ≤ 9223372036854775807) :
    Calls Try.prog 18 #[.slice A n c] w fun e w' => DrawMap w w.heap.size e w' ∧ Below w.heap.size w w' := by
  go_enter Try.func18, Try.ntmps18
  go_wp2_with fail
  refine (open_any A n c w h hc hc2).mono ?_
  rintro e w1 ⟨A1, n1, c1, rfl, b1, s1⟩
  go_wp2_with fail
  refine (map_any _ _ _ _ _ _ _ s1.rd (by omega)).mono ?_
  rintro e w2 ⟨⟨A2, c2, T, A3, c3, U, A4, c4, f, rfl, hM, hS, hN, hU, hR, hf, hf1, hf2⟩, o2⟩
  have z1 := b1.size
  have fin : DrawMap w w.heap.size (.returned (.tuple #[.slice A2 T.length c2, .slice A3 U.length c3, .slice A4 f.length c4])) w2 := ⟨A2, c2, T, A3, c3, U, A4, c4, f, rfl, hM.mono z1 (Nat.le_refl _), hS, hN.mono z1 (Nat.le_refl _), hU, hR.mono z1 (Nat.le_refl _), hf, hf1, hf2⟩
  have FIN := hide fin
  have B2 := hide (b1.trans (o2.below (Nat.le_refl _) z1))
  clear fin hM hN hR
  go_wp2
  refine bodyPost_ret (results_tmp3 rfl _ _ _) rfl ?_
  exact ⟨FIN.out, B2.out⟩

set_option maxHeartbeats 1000000 in
theorem drawReachedBy_any (A : Option Addr) (n c : Nat) (w : World) (h : Bytes w w.heap.size A n) (hc : n ≤ c) (hc2 : c ≤ 9223372036854775807) :
    Calls Try.prog 24 #[.slice A n c] w fun e w' => DrawMap w w.heap.size e w' ∧ Below w.heap.size w w' := by
  go_enter Try.func24, Try.ntmps24
  go_wp2_with fail
  refine (open_any A n c w h hc hc2).mono ?_
  rintro e w1 ⟨A1, n1, c1, rfl, b1, s1⟩
  go_wp2_with fail
  refine (map_any _ _ _ _ _ _ _ s1.rd (by omega)).mono ?_
  rintro e w2 ⟨⟨A2, c2, T, A3, c3, U, A4, c4, f, rfl, hM, hS, hN, hU, hR, hf, hf1, hf2⟩, o2⟩
  have z1 := b1.size
  have fin : DrawMap w w.heap.size (.returned (.tuple #[.slice A2 T.length c2, .slice A3 U.length c3, .slice A4 f.length c4])) w2 := ⟨A2, c2, T, A3, c3, U, A4, c4, f, rfl, hM.mono z1 (Nat.le_refl _), hS, hN.mono z1 (Nat.le_refl _), hU, hR.mono z1 (Nat.le_refl _), hf, hf1, hf2⟩
  have FIN := hide fin
  have B2 := hide (b1.trans (o2.below (Nat.le_refl _) z1))
  clear fin hM hN hR
  go_wp2
  refine bodyPost_ret (results_tmp3 rfl _ _ _) rfl ?_
  exact ⟨FIN.out, B2.out⟩

set_option maxHeartbeats 1000000 in
theorem drawPushingOf_any (A : Option Addr) (n c : Nat) (w : World) (h : Bytes w w.heap.size A n) (hc : n ≤ c) (hc2 : c ≤ 9223372036854775807) :
    Calls Try.prog 35 #[.slice A n c] w (DrawnS w) := by
  go_enter Try.func35, Try.ntmps35
  go_wp2_with fail
  refine (open_any A n c w h hc hc2).mono ?_
  rintro e w1 ⟨A1, n1, c1, rfl, b1, s1⟩
  go_wp2_with fail
  refine (two_any _ _ _ _ _ _ _ s1.rd (by omega)).mono ?_
  intro e w2 hD
  obtain ⟨A2, c2, T, x, y, rfl, B2, hM, hS⟩ := drawTwo3 w w1 b1 hD
  go_wp2
  go_ret2
  exact ⟨A2, c2, T, x, rfl, B2, hM, hS⟩
end Go.Proofs.Ytnchipcpeeofaaa

namespace Go.Proofs.Ytnchipcpeeofaaa
open Go.RowKit
set_option linter.unusedVariables false

/-- One of eight. -/
def of8 {α : Type} (a b c d e f g h : α) (i : Nat) : α := if i = 0 then a else if i = 1 then b else if i = 2 then c else if i = 3 then d else if i = 4 then e else if i = 5 then f else if i = 6 then g else h
/-- Two drawn tables. -/
def DrawTT (w : World) (e : Ending) (w' : World) : Prop := ∃ A1 c1 T A2 c2 U, e = .returned (.tuple #[.slice A1 T.length c1, .slice A2 U.length c2]) ∧ Below w.heap.size w w' ∧ Mat w' w.heap.size w'.heap.size A1 T ∧ Small T ∧ Mat w' w.heap.size w'.heap.size A2 U ∧ Small U
/-- A table among what the draws have made, and how long it is. -/
def Tb (w wi : World) (A : Option Addr) (m : Nat) : Prop := ∃ T, Mat wi w.heap.size wi.heap.size A T ∧ Small T ∧ T.length = m
section
variable {w wi wj : World} {A : Option Addr} {m c g : Nat}
theorem Tb.of (h : TabS w wi (.slice A m c) m) (hm : m ≤ 9) : Tb w wi A m := by
  obtain ⟨T, hM, hR⟩ := h.mat
  exact ⟨T, hM, hR.small hm hm, hR.len⟩
theorem Tb.only (h : Tb w wi A m) (hO : Only g (g + 1) wi wj) (hg : g < w.heap.size) : Tb w wj A m := by
  obtain ⟨T, hM, hS, hl⟩ := h
  exact ⟨T, (hM.only hO (Nat.le_refl _) (.inr hg)).mono (Nat.le_refl _) hO.size, hS, hl⟩
theorem Tb.below (h : Tb w wi A m) (hb : Below wi.heap.size wi wj) : Tb w wj A m := by
  obtain ⟨T, hM, hS, hl⟩ := h
  exact ⟨T, (hM.below hb (Nat.le_refl _)).mono (Nat.le_refl _) hb.size, hS, hl⟩
theorem Tb.lit (hs : w.heap.size ≤ wi.heap.size) : Tb w ((wi.alloc (.cells #[.int .i64 0] 3)).alloc (.cells #[.slice (some ⟨wi.heap.size, 0, none⟩) 1 1] 24)) (some ⟨wi.heap.size + 1, 0, none⟩) 1 :=
  ⟨[[0]], (lit1 0 rfl).mono hs (by simp), small1 0, rfl⟩
end
theorem rows8 (w : World) (A0 A1 A2 A3 A4 A5 A6 A7 : Option Addr) (m0 m1 m2 m3 m4 m5 m6 m7 c0 c1 c2 c3 c4 c5 c6 c7 : Nat) (t : TypeId) :
    (w.alloc (.cells #[.slice A0 m0 c0, .slice A1 m1 c1, .slice A2 m2 c2, .slice A3 m3 c3, .slice A4 m4 c4, .slice A5 m5 c5, .slice A6 m6 c6, .slice A7 m7 c7] t)).rowIs w.heap.size t 8
      (fun i => .slice (of8 A0 A1 A2 A3 A4 A5 A6 A7 i) (of8 m0 m1 m2 m3 m4 m5 m6 m7 i) (of8 c0 c1 c2 c3 c4 c5 c6 c7 i)) :=
  World.rowIs_alloc w #[.slice A0 m0 c0, .slice A1 m1 c1, .slice A2 m2 c2, .slice A3 m3 c3, .slice A4 m4 c4, .slice A5 m5 c5, .slice A6 m6 c6, .slice A7 m7 c7] t _ fun i hi => by
    match i, hi with
    | 0, _ | 1, _ | 2, _ | 3, _ | 4, _ | 5, _ | 6, _ | 7, _ => rfl
theorem tb8 {w wi : World} {A0 A1 A2 A3 A4 A5 A6 A7 : Option Addr} {m0 m1 m2 m3 m4 m5 m6 m7 : Nat} (h0 : Tb w wi A0 m0) (h1 : Tb w wi A1 m1) (h2 : Tb w wi A2 m2) (h3 : Tb w wi A3 m3) (h4 : Tb w wi A4 m4) (h5 : Tb w wi A5 m5) (h6 : Tb w wi A6 m6) (h7 : Tb w wi A7 m7) (i : Nat) :
    Tb w wi (of8 A0 A1 A2 A3 A4 A5 A6 A7 i) (of8 m0 m1 m2 m3 m4 m5 m6 m7 i) := by
  unfold of8
  repeat' split
  all_goals assumption
theorem keep8 {wa wb : World} {g G : Nat} {F : Nat → Value} (hO : Only g (g + 1) wa wb) (hl : G < wa.heap.size) (hgG : g < G) (h : ∀ x, x < 8 → wa.cell? ⟨G, x, none⟩ = some (F x)) : ∀ x, x < 8 → wb.cell? ⟨G, x, none⟩ = some (F x) := fun x hx =>
  (World.cell?_of_block (hO.block G hl (.inr (by omega)))).trans (h x hx)
set_option maxRecDepth 20000 in
set_option maxHeartbeats 8000000 in
theorem drawCountKeeping_any (A : Option Addr) (n c : Nat) (w : World) (h : Bytes w w.heap.size A n) (hc : n ≤ c) (hc2 : c ≤ 9223372036854775807) :
    Calls Try.prog 31 #[.slice A n c] w (DrawTT w) := by
  go_enter Try.func31, Try.ntmps31
  go_wp2_with fail
  refine (open_any A n c w h hc hc2).mono ?_
  rintro e w1 ⟨A1, n1, c1, rfl, b1, s1⟩
  have hg := s1.lt
  go_wp2_with fail
  refine (left_st 2 s1 (by omega) (by omega)).mono ?_
  rintro e w2 ⟨X2, k2, rfl, t2, s2, o2⟩
  go_wp2_with fail
  refine (chain_st 3 s2 (by omega) (by omega)).mono ?_
  rintro e w3 ⟨X3, k3, rfl, t3, s3, o3⟩
  replace t2 := t2.only o3 hg
  go_wp2_with fail
  refine (signs_st s3).mono ?_
  rintro e w4 ⟨X4, k4, rfl, t4, s4, o4⟩
  replace t2 := t2.only o4 hg
  replace t3 := t3.only o4 hg
  go_wp2_with fail
  refine (left_st 3 s4 (by omega) (by omega)).mono ?_
  rintro e w5 ⟨X5, k5, rfl, t5, s5, o5⟩
  replace t2 := t2.only o5 hg
  replace t3 := t3.only o5 hg
  replace t4 := t4.only o5 hg
  go_wp2_with fail
  refine (turn_st s5 t5 (by omega)).mono ?_
  rintro e w6 ⟨X6, k6, rfl, t6, s6, o6⟩
  replace t2 := t2.only o6 hg
  replace t3 := t3.only o6 hg
  replace t4 := t4.only o6 hg
  replace t5 := t5.only o6 hg
  go_wp2_with fail
  refine (left_st 2 s6 (by omega) (by omega)).mono ?_
  rintro e w7 ⟨X7, k7, rfl, t7, s7, o7⟩
  replace t2 := t2.only o7 hg
  replace t3 := t3.only o7 hg
  replace t4 := t4.only o7 hg
  replace t5 := t5.only o7 hg
  replace t6 := t6.only o7 hg
  go_wp2_with fail
  refine (left_st 2 s7 (by omega) (by omega)).mono ?_
  rintro e w8 ⟨X8, k8, rfl, t8, s8, o8⟩
  replace t2 := t2.only o8 hg
  replace t3 := t3.only o8 hg
  replace t4 := t4.only o8 hg
  replace t5 := t5.only o8 hg
  replace t6 := t6.only o8 hg
  replace t7 := t7.only o8 hg
  go_wp2_with fail
  refine (turn_st s8 t8 (by omega)).mono ?_
  rintro e w9 ⟨X9, k9, rfl, t9, s9, o9⟩
  replace t2 := t2.only o9 hg
  replace t3 := t3.only o9 hg
  replace t4 := t4.only o9 hg
  replace t5 := t5.only o9 hg
  replace t6 := t6.only o9 hg
  replace t7 := t7.only o9 hg
  replace t8 := t8.only o9 hg
  go_wp2_with fail
  refine (both_st s9 t7 t9 (by omega) (by omega) (by decide)).mono ?_
  rintro e w10 ⟨X10, k10, rfl, t10, s10, o10⟩
  replace t2 := t2.only o10 hg
  replace t3 := t3.only o10 hg
  replace t4 := t4.only o10 hg
  replace t5 := t5.only o10 hg
  replace t6 := t6.only o10 hg
  replace t7 := t7.only o10 hg
  replace t8 := t8.only o10 hg
  replace t9 := t9.only o10 hg
  clear t5 t7 t8 t9
  go_wp2_with fail
  refine (loose_any _ _ _ _ _ _ _ s10.rd (by omega)).mono ?_
  intro e w11 hL
  obtain ⟨X11, k11, T11, P11, rfl, M11, S11, s11_, hP11, l11⟩ := hL.any s10.rd.lt
  have o11 := s11_.only
  have s11 : St w1 w11 _ _ P11 A1 n1 c1 := ⟨s11_.rd, s10.only.trans s11_.only, hg⟩
  clear hL
  replace t2 := Tb.of (t2.only o11 hg) (by decide)
  replace t3 := Tb.of (t3.only o11 hg) (by decide)
  replace t4 := Tb.of (t4.only o11 hg) (by decide)
  replace t6 := Tb.of (t6.only o11 hg) (by decide)
  replace t10 := Tb.of (t10.only o11 hg) (by decide)
  have t11 : Tb w1 w11 X11 T11.length := ⟨T11, M11.mono s10.only.size (Nat.le_refl _), S11, rfl⟩
  clear M11 s11_
  have b12 := ((Below.refl w11.heap.size w11).more (.cells #[.int .i64 0] 3)).more (.cells #[.slice (some ⟨w11.heap.size, 0, none⟩) 1 1] 24)
  have t12 : Tb w1 _ _ 1 := Tb.lit (wi := w11) s11.only.size
  have s12 := s11.below b12
  replace t2 := t2.below b12
  replace t3 := t3.below b12
  replace t4 := t4.below b12
  replace t6 := t6.below b12
  replace t10 := t10.below b12
  replace t11 := t11.below b12
  go_wp2_with fail
  obtain ⟨y12, hy12⟩ : ∃ y, y = w11.heap.size + 1 := ⟨_, rfl⟩
  rw [← hy12] at t12
  generalize (w11.alloc (.cells #[.int .i64 0] 3)).alloc (.cells #[.slice (some ⟨w11.heap.size, 0, none⟩) 1 1] 24) = w12 at t2 t3 t4 t6 t10 t11 t12 s12 b12 ⊢
  rw [← hy12]
  clear hy12 b12 s11
  refine (chain_st 5 s12 (by omega) (by omega)).mono ?_
  rintro e w13 ⟨X13, k13, rfl, t13_, s13, o13⟩
  replace t2 := t2.only o13 hg
  replace t3 := t3.only o13 hg
  replace t4 := t4.only o13 hg
  replace t6 := t6.only o13 hg
  replace t10 := t10.only o13 hg
  replace t11 := t11.only o13 hg
  replace t12 := t12.only o13 hg
  have t13 := Tb.of t13_ (by decide)
  clear t13_
  have TT := hide (tb8 t2 t3 t4 t6 t10 t11 t12 t13)
  have RR := rows8 w13 X2 X3 X4 X6 X10 X11 (some ⟨y12, 0, none⟩) X13 2 3 3 3 4 T11.length 1 5 k2 k3 k4 k6 k10 k11 1 k13 23
  have b14 := (Below.refl w13.heap.size w13).alloc (Nat.le_refl _) (.cells #[.slice X2 2 k2, .slice X3 3 k3, .slice X4 3 k4, .slice X6 3 k6, .slice X10 4 k10, .slice X11 T11.length k11, .slice (some ⟨y12, 0, none⟩) 1 1, .slice X13 5 k13] 23)
  have l14 : w13.heap.size < (w13.alloc (.cells #[.slice X2 2 k2, .slice X3 3 k3, .slice X4 3 k4, .slice X6 3 k6, .slice X10 4 k10, .slice X11 T11.length k11, .slice (some ⟨y12, 0, none⟩) 1 1, .slice X13 5 k13] 23)).heap.size := by simp
  obtain ⟨fa, hfa⟩ : ∃ fa, fa = of8 X2 X3 X4 X6 X10 X11 (some ⟨y12, 0, none⟩) X13 := ⟨_, rfl⟩
  obtain ⟨fm, hfm⟩ : ∃ fm, fm = of8 2 3 3 3 4 T11.length 1 5 := ⟨_, rfl⟩
  obtain ⟨fc, hfc⟩ : ∃ fc, fc = of8 k2 k3 k4 k6 k10 k11 1 k13 := ⟨_, rfl⟩
  rw [← hfa, ← hfm, ← hfc] at RR
  have TT14 : ∀ i, Tb w1 w13 (fa i) (fm i) := fun i => by rw [hfa, hfm]; exact tb8 t2 t3 t4 t6 t10 t11 t12 t13 i
  clear hfa hfm hfc t2 t3 t4 t6 t10 t11 t12 t13 TT
  have z13 : w.heap.size < w13.heap.size := Nat.lt_of_lt_of_le hg s13.only.size
  go_wp2_with fail
  generalize w13.alloc (.cells #[.slice X2 2 k2, .slice X3 3 k3, .slice X4 3 k4, .slice X6 3 k6, .slice X10 4 k10, .slice X11 T11.length k11, .slice (some ⟨y12, 0, none⟩) 1 1, .slice X13 5 k13] 23) = w14 at RR b14 l14 ⊢
  have s14 := s13.below b14
  have TT := hide (fun i => (TT14 i).below b14)
  have s14d : St w1 w14.drew w.heap.size w.heap.size _ A1 n1 c1 := ⟨s14.rd.drewN 1, s14.only.drewN 1, hg⟩
  have C0 : ∀ x, x < 8 → w14.drew.cell? ⟨w13.heap.size, x, none⟩ = some (.slice (fa x) (fm x) (fc x)) := fun x hx => World.rowIs.cell RR (i := x) hx
  obtain ⟨G, hG⟩ : ∃ G, G = w13.heap.size := ⟨_, rfl⟩
  rw [← hG] at C0 z13 l14 ⊢
  have HC0 := hide C0
  have l14d : G < w14.drew.heap.size := l14
  clear RR TT14 b14 hG s13 s14 C0
  go_region_held3 (fun W => ∀ x, x < 8 → W.cell? ⟨G, x, none⟩ = some (.slice (fa x) (fm x) (fc x)))
    (first
      | exact HC0.out
      | exact keep8 (by assumption) (by assumption) z13 (by assumption))
    (first
      | (go_at_call 72
         refine (pick_st 8 s14d ?_ ?_ ?_).mono ?_
         · omega
         · omega
         · omega
         rintro e wa ⟨ka, rfl, hka, ska, oka⟩
         have ka8 : ka < 8 := by omega
         have lA : G < wa.heap.size := Nat.lt_of_lt_of_le l14d oka.size)
      | (go_at_call 72
         refine (pick_st 8 ska ?_ ?_ ?_).mono ?_
         · omega
         · omega
         · omega
         rintro e wb ⟨kb, rfl, hkb, skb, okb⟩
         have kb8 : kb < 8 := by omega))
  obtain ⟨Ta, Ma, Sa, la⟩ := (((TT.out ka).below (below_drewN 1)).only oka hg).only okb hg
  obtain ⟨Tc, Mc, Sc, lc⟩ := (((TT.out kb).below (below_drewN 1)).only oka hg).only okb hg
  have z1 := b1.size
  have fin : DrawTT w (.returned (.tuple #[.slice (fa ka) (fm ka) (fc ka), .slice (fa kb) (fm kb) (fc kb)])) wb := ⟨fa ka, fc ka, Ta, fa kb, fc kb, Tc, by rw [la, lc], b1.trans (skb.only.below (Nat.le_refl _) z1), Ma.mono z1 (Nat.le_refl _), Sa, Mc.mono z1 (Nat.le_refl _), Sc⟩
  have FIN := hide fin
  clear fin la lc
  go_wp2
  go_ret2
  exact FIN.out
end Go.Proofs.Ytnchipcpeeofaaa
