/- The walk of FnNamedAs. -/
import Derived.Test.YtcegjiiondmchacEq
import Derived.Test.YtcegjiiondmchacPureX
import Derived.Test.YtcegjiiondmchacIband
import Derived.Test.YtcegjiiondmchacIrect
import Derived.Test.YtcegjiiondmchacDrawRects
namespace Go.Proofs.Ytcegjiiondmchac
open Go.RowKit
set_option linter.unusedVariables false

set_option maxRecDepth 20000 in
set_option maxHeartbeats 8000000 in
theorem fnNamedAs_walk (A : Option Addr) (n c : Nat) (w : World) (h : Bytes w w.heap.size A n) (hc : n ≤ c) (hc2 : c ≤ 9223372036854775807) :
    Calls Try.prog 8 #[.slice A n c] w fun e w' => e = .returned (.bool true) ∧ Below w.heap.size w w' := by
  by_cases hn : (1048576 : Int) < (n : Int)
  · go_enter Try.func8, Try.ntmps8
    go_wp2
    go_ret
    exact ⟨rfl, Below.refl _ _⟩
  · go_enter Try.func8, Try.ntmps8
    go_wp2_with fail
    refine (drawNamedAs_any A n c w h hc hc2).mono ?_
    rintro e w1 ⟨A1, c1, T, rfl, B1, m1, hS⟩
    have hlT := hS.len
    have hlr := len_namesL_le T
    go_wp2_with fail
    refine (iNamedAs_any _ _ _ _ _ _ m1 (Nat.le_refl _) hS).mono ?_
    rintro e w2 ⟨A2, c2, rfl, b2, g2, _, _⟩
    have B2 := B1.trans (b2.mono B1.size)
    have m2 := m1.below b2 (Nat.le_refl _)
    have z2 := b2.size
    go_wp2_with fail
    refine (sNamedAs_any _ _ _ _ _ _ m2 z2 hS).mono ?_
    rintro e w3 ⟨A3, c3, rfl, b3, g3, _, _⟩
    have B3 := B2.trans (b3.mono B2.size)
    have m3 := m2.below b3 z2
    have g23 := g2.below b3 (Nat.le_refl _)
    have z3 := b3.size
    go_wp2_with fail
    refine (sameInts_same _ _ _ _ _ _ _ _ _ _ g23.row g3 hlr).mono ?_
    rintro e w4 ⟨rfl, q4⟩
    have B4 := B3.trans (q4.below w.heap.size)
    have m4 := m3.quiet q4
    have g4 := g23.row.quiet q4
    have z4 := q4.below 0 |>.size
    clear m1 m2 m3 g2 g23 g3 b2 b3 q4 B1 B2 B3
    cases hr : rectT T
    · have h0 : (namesL T).length = 0 := by rw [namesL_not hr]; rfl
      have hz : (((namesL T).length : Int) == 0) = true := by simp [h0]
      clear h0
      go_wp2_with fail
      refine (iRectangularOk_any _ _ _ _ _ _ m4 (by omega) hS).mono ?_
      rw [hr]
      rintro e w5 ⟨rfl, b5⟩
      have B5 := B4.trans (b5.mono B4.size)
      go_wp2_with fail
      refine (alive_any _).mono ?_
      rintro e w6 ⟨rfl, b6⟩
      go_wp2
      go_ret
      exact ⟨rfl, B5.trans (b6.mono B5.size)⟩
    · have k := rect_tab hr
      have k1 := k.lo
      have k9 := k.hi
      have hl := len_namesL hr
      have hz : (((namesL T).length : Int) == 0) = false := beq_eq_false_iff_ne.2 (by omega)
      rw [hl] at hz ⊢
      have HR := hide (show sidesR T = (nR T : Nat) from by unfold sidesR; rw [hr]; rfl)
      have HC := hide (show sidesC T = (nC T : Nat) from by unfold sidesC; rw [hr]; rfl)
      have hcnt := rect_count hr
      have n1 : nR T ≤ 9 := Nat.le_trans (ct_le_ _ _) k9
      have n2 : nC T ≤ 9 := Nat.le_trans (ct_le_ _ _) k9
      have hcan : canR ((nR T : Nat) : Int) ((nC T : Nat) : Int) = true := canR_iff.2 ⟨nR T, nC T, rfl, rfl, nR_pos hr, n1, nC_pos hr, n2, by omega⟩
      have HCAN := hide hcan
      clear hcan
      go_wp2_with fail
      refine (sSidesOf_any _ _ _ _ _ _ m4 (by omega) hS).mono ?_
      rw [HR.out, HC.out]
      rintro e w5 ⟨rfl, b5⟩
      have B5 := B4.trans (b5.mono B4.size)
      have m5 := m4.below b5 (by omega)
      have g5 := g4.below b5 (by omega)
      have z5 := b5.size
      go_wp2_with fail
      refine (sRectangleOf_any _ _ w5).mono ?_
      rw [HCAN.out]
      rintro e w6 ⟨A6, c6, rfl, b6, mx⟩
      have B6 := B5.trans (b6.mono B5.size)
      have m6 := m5.below b6 (by omega)
      have g6 := g5.below b6 (by omega)
      have z6 := b6.size
      have kx := isT_rectOf HCAN.out
      have hlx : (rectOf ((nR T : Nat) : Int) ((nC T : Nat) : Int)).length = T.length := by rw [len_rectOf HCAN.out, hcnt]
      obtain ⟨bL, oL, rfl, _, hbL, _⟩ := g6 0 (by rw [hl]; omega)
      have hL : ∀ x, x < T.length → w6.cell? ⟨bL, oL + x, none⟩ = some (.int .i64 (num (inRow T) x * nC T + num (inRow (turnT T)) x : Nat)) := fun x hx => by
        obtain ⟨b', o', e', _, _, hc⟩ := g6 x (by rw [hl]; exact hx)
        obtain ⟨rfl, rfl⟩ : bL = b' ∧ oL = o' := by simpa using e'
        rw [hc, el_namesL hr hx]
      obtain ⟨bX, oX, rfl, _, _, hcellx⟩ := mx.head kx
      rw [hlx] at hcellx ⊢
      have HL := hide hL
      have M6 := hide m6
      have Z6 := hide (show w1.heap.size ≤ w6.heap.size by omega)
      have HCNT := hide hcnt
      have HLX := hide hlx
      clear hL g4 g5 g6 m4 m5 hl mx hcnt hlx n1 n2 b5 b6
      obtain ⟨bb, oo, rfl, _, _, hcell⟩ := m6.head k
      go_wp2
      go_loopg [10] T.length (fun g i wr => ∃ a : Nat, a ≤ T.length ∧ Hid (g = T.length - a) ∧ i = .int .i64 a ∧ QD w6 wr)
      case atStart => exact ⟨0, Nat.zero_le _, rfl, rfl, QD.refl _⟩
      case round =>
        obtain ⟨a, ha, hgk, rfl, hq⟩ := hrel
        by_cases hat : a < T.length
        · go_wp2
          go_loopg [11] T.length (fun g i wr => ∃ b : Nat, b ≤ T.length ∧ Hid (g = T.length - b) ∧ i = .int .i64 b ∧ QD w6 wr)
          case atStart => exact ⟨0, Nat.zero_le _, rfl, rfl, hq⟩
          case round =>
            clear hq
            obtain ⟨b, hb, hgk2, rfl, hq⟩ := hrel
            by_cases hbt : b < T.length
            · have hcw : ∀ a, wr.cell? a = w6.cell? a := fun a => by simp [World.cell?, hq.heap]
              obtain ⟨bx, ox, cx, hcx, _, _, hvx⟩ := hcell (a : Nat) (by omega) (by omega)
              have v1 := hvx (b : Nat) (by omega) (by omega)
              obtain ⟨p0, p1⟩ := k.mul (x := (a : Nat)) (y := (b : Nat)) (by omega) (by omega) (by omega) (by omega)
              obtain ⟨p, hp⟩ : ∃ p : Nat, mul T (a : Int) (b : Int) = (p : Int) := ⟨(mul T (a : Int) (b : Int)).toNat, by omega⟩
              have hpt : p < T.length := by omega
              obtain ⟨e1, e2⟩ := rect_prod hr hat hbt hp
              have la1 : num (inRow T) a < nR T := (rect_eqvR hr).num_lt hat hat
              have la2 : num (inRow (turnT T)) a < nC T := (rect_eqvC hr).num_lt hat hat
              have lb1 : num (inRow T) b < nR T := (rect_eqvR hr).num_lt hbt hbt
              have lb2 : num (inRow (turnT T)) b < nC T := (rect_eqvC hr).num_lt hbt hbt
              have hva := pair_lt (x := num (inRow T) a) (y := num (inRow (turnT T)) a) (R := nR T) (C := nC T) la1 la2
              have hvb := pair_lt (x := num (inRow T) b) (y := num (inRow (turnT T)) b) (R := nR T) (C := nC T) lb1 lb2
              have INJ := hide (show num (inRow T) a * nC T + num (inRow (turnT T)) a = num (inRow T) b * nC T + num (inRow (turnT T)) b → a = b from fun e => by
                obtain ⟨u1, u2⟩ := pair_eq la2 lb2 e
                exact rect_inj hr hat hbt u1 u2)
              have hmx := mul_rectOf HCAN.out hva hvb
              have hmx2 : (num (inRow T) a * nC T + num (inRow (turnT T)) a) / nC T * nC T + (num (inRow T) b * nC T + num (inRow (turnT T)) b) % nC T = num (inRow T) p * nC T + num (inRow (turnT T)) p := by
                have hC := nC_pos hr
                rw [e1, e2]
                have q1 : (num (inRow T) a * nC T + num (inRow (turnT T)) a) / nC T = num (inRow T) a := by rw [Nat.mul_comm, Nat.mul_add_div hC, Nat.div_eq_of_lt la2, Nat.add_zero]
                have q2 : (num (inRow T) b * nC T + num (inRow (turnT T)) b) % nC T = num (inRow (turnT T)) b := by rw [Nat.mul_comm, Nat.mul_add_mod, Nat.mod_eq_of_lt lb2]
                rw [q1, q2]
              rw [hmx2] at hmx
              have d1 := HL.out p hpt
              have d2 := HL.out a hat
              have d3 := HL.out b hbt
              rw [HCNT.out] at hva hvb
              obtain ⟨by_, oy, cy, hcy, _, _, hvy⟩ := hcellx ((num (inRow T) a * nC T + num (inRow (turnT T)) a : Nat) : Int) (by omega) (by omega)
              have v2 := hvy ((num (inRow T) b * nC T + num (inRow (turnT T)) b : Nat) : Int) (by omega) (by omega)
              rw [hmx] at v2
              rw [hp] at v1
              rw [← hcw] at hcx v1 d1 d2 d3 hcy v2
              rw [Int.toNat_natCast] at hcx v1 hcy v2
              clear hcw hvx hvy hcell hcellx hp p0 p1 e1 e2 la1 la2 lb1 lb2 hmx hmx2
              generalize num (inRow T) p * nC T + num (inRow (turnT T)) p = vp at d1 v2
              by_cases hab : a = b
              · subst hab
                clear d3 hvb INJ
                generalize num (inRow T) a * nC T + num (inRow (turnT T)) a = va at d2 hcy v2 hva
                have hvai : (va : Int) < (T.length : Int) := by omega
                go_wp2
                go_quiet (fail)
                go_wp2
                go_roundg (T.length - (a + 1))
                case measure => go_light; have := hgk2.out; omega
                case rel => go_light; exact ⟨a + 1, by omega, rfl, by go_num, hq.drewN _⟩
              · have n1 : ((a : Int) == (b : Int)) = false := beq_eq_false_iff_ne.2 (by omega)
                have n2 : ((a : Int) != (b : Int)) = true := by rw [bne, n1]; rfl
                generalize num (inRow T) a * nC T + num (inRow (turnT T)) a = va at d2 hcy v2 hva INJ
                generalize num (inRow T) b * nC T + num (inRow (turnT T)) b = vb at d3 v2 hvb INJ
                have hvai : (va : Int) < (T.length : Int) := by omega
                have hvbi : (vb : Int) < (T.length : Int) := by omega
                have n3 : ((va : Int) == (vb : Int)) = false := beq_eq_false_iff_ne.2 fun e => hab (INJ.out (by omega))
                go_wp2
                go_quiet (fail)
                go_wp2
                go_roundg (T.length - (b + 1))
                case measure => go_light; have := hgk2.out; omega
                case rel => go_light; exact ⟨b + 1, by omega, rfl, by go_num, hq.drewN _⟩
            · obtain rfl : T.length = b := by omega
              go_wp2
              go_roundg (T.length - (a + 1))
              case measure => go_light; have := hgk.out; omega
              case rel => go_light; exact ⟨a + 1, by omega, rfl, by go_num, hq⟩
        · obtain rfl : T.length = a := by omega
          have B7 := B6.trans (hq.below w.heap.size)
          go_wp2_with fail
          refine (iRectangularOk_any _ _ _ _ _ _ (M6.out.quiet hq) (Nat.le_trans Z6.out (hq.below 0).size) hS).mono ?_
          rw [hr]
          rintro e w8 ⟨rfl, b8⟩
          go_wp2
          go_ret
          exact ⟨rfl, B7.trans (b8.mono B7.size)⟩

end Go.Proofs.Ytcegjiiondmchac
