/- The walk of FnLevelTable. -/
import Derived.Test.YtcegjiiondmchadEq
import Derived.Test.YtcegjiiondmchadPureX
import Derived.Test.YtcegjiiondmchadIband
import Derived.Test.YtcegjiiondmchadIlev4
import Derived.Test.YtcegjiiondmchadDrawLevs
namespace Go.Proofs.Ytcegjiiondmchad
open Go.RowKit
set_option linter.unusedVariables false

set_option maxRecDepth 20000 in
set_option maxHeartbeats 8000000 in
theorem fnLevelTable_walk (A : Option Addr) (n c : Nat) (w : World) (h : Bytes w w.heap.size A n) (hc : n ≤ c) (hc2 : c ≤ 9223372036854775807) :
    Calls Try.prog 5 #[.slice A n c] w fun e w' => e = .returned (.bool true) ∧ Below w.heap.size w w' := by
  by_cases hn : (1048576 : Int) < (n : Int)
  · go_enter Try.func5, Try.ntmps5
    go_wp2
    go_ret
    exact ⟨rfl, Below.refl _ _⟩
  · go_enter Try.func5, Try.ntmps5
    go_wp2_with fail
    refine (drawLevelTable_any A n c w h hc hc2).mono ?_
    rintro e w1 ⟨A1, c1, T, rfl, B1, m1, hS⟩
    have hlT := hS.len
    have hr := small_levelT (T := T)
    have hlr := hr.len
    go_wp2_with fail
    refine (iLevelTable_any _ _ _ _ _ w1 m1 (Nat.le_refl _) hS).mono ?_
    rintro e w2 ⟨A2, c2, rfl, b2, o2⟩
    have B2 := B1.trans (b2.mono B1.size)
    have m2 := m1.below b2 (Nat.le_refl _)
    have z2 := b2.size
    go_wp2_with fail
    refine (sLevelTable_any _ _ _ _ _ w2 m2 (by omega) hS).mono ?_
    rintro e w3 ⟨A3, c3, rfl, b3, o3⟩
    have B3 := B2.trans (b3.mono B2.size)
    have m3 := m2.below b3 (by omega)
    have g3 := o2.below b3 (Nat.le_refl _)
    have z3 := b3.size
    go_wp2_with fail
    refine (sameRows_same _ _ _ _ _ _ _ _ _ _ g3.mat o3 hr).mono ?_
    rintro e w4 ⟨rfl, q4⟩
    have B4 := B3.trans (q4.below w.heap.size)
    have m4 := m3.quiet q4
    have g4 := g3.quiet q4
    have z4 := q4.below 0 |>.size
    clear m1 m2 m3 g3 o2 o3 b2 b3 q4 B1 B2 B3
    cases hb : bandT T
    · have h0 : (levelT T).length = 0 := by rw [levelT_not hb]; rfl
      have hz : (((levelT T).length : Int) == 0) = true := by simp [h0]
      clear h0
      go_wp2_with fail
      refine (iBandOk_any _ _ _ _ _ _ m4 (by omega) hS).mono ?_
      rw [hb]
      rintro e w5 ⟨rfl, b5⟩
      have B5 := B4.trans (b5.mono B4.size)
      have m5 := m4.below b5 (by omega)
      have z5 := b5.size
      go_wp2_with fail
      refine (alive_any _).mono ?_
      rintro e w6 ⟨rfl, b6⟩
      go_wp2
      go_ret
      exact ⟨rfl, B5.trans (b6.mono B5.size)⟩
    · have k := band_tab hb
      have k1 := k.lo
      have k9 := k.hi
      have hp := nL_pos hb
      have hnl := nL_le T
      have hl := len_levelT hb
      have hz : (((nL T : Nat) : Int) == 0) = false := beq_eq_false_iff_ne.2 (by omega)
      have hlv := len_levsL hb
      rw [hl]
      have HLL := hide hl
      clear hl
      go_wp2_with fail
      refine (sLevelsOf_any _ _ _ _ _ w4 m4 (by omega) hS).mono ?_
      rintro e w5 ⟨A5, c5, rfl, b5, g5, _, _⟩
      have B5 := B4.trans (b5.mono B4.size)
      have m5 := m4.below b5 (by omega)
      have x5 := g4.below b5 (by omega)
      have z5 := b5.size
      have kx := isT_levelT hb
      have HME := hide (meet_levelT hb)
      rw [hlv]
      obtain ⟨bL, oL, rfl, _, hbL, _⟩ := g5 0 (by rw [hlv]; omega)
      have hL : ∀ x, x < T.length → w5.cell? ⟨bL, oL + x, none⟩ = some (.int .i64 (num (inLev T) x : Nat)) := fun x hx => by
        obtain ⟨b', o', e', _, _, hc⟩ := g5 x (by rw [hlv]; exact hx)
        obtain ⟨rfl, rfl⟩ : bL = b' ∧ oL = o' := by simpa using e'
        rw [hc, el_levsL hb hx]
      have HL := hide hL
      have X5 := hide x5
      obtain ⟨bX, oX, rfl, _, _, hcellx⟩ := x5.mat.head kx
      rw [HLL.out] at hcellx
      have Z5 := hide (show w1.heap.size ≤ w5.heap.size by omega)
      have Z2 := hide (show w2.heap.size ≤ w5.heap.size by omega)
      clear hL g4 g5 x5 m4 hlv hz b5
      obtain ⟨bb, oo, rfl, _, _, hcell⟩ := m5.head k
      go_wp2
      go_loopg [6] T.length (fun g i wr => ∃ a : Nat, a ≤ T.length ∧ Hid (g = T.length - a) ∧ i = .int .i64 a ∧ QD w5 wr)
      case atStart => exact ⟨0, Nat.zero_le _, rfl, rfl, QD.refl _⟩
      case round =>
        obtain ⟨a, ha, hgk, rfl, hq⟩ := hrel
        by_cases hat : a < T.length
        · go_wp2
          go_loopg [7] T.length (fun g i wr => ∃ b : Nat, b ≤ T.length ∧ Hid (g = T.length - b) ∧ i = .int .i64 b ∧ QD w5 wr)
          case atStart => exact ⟨0, Nat.zero_le _, rfl, rfl, hq⟩
          case round =>
            clear hq
            obtain ⟨b, hb2, hgk2, rfl, hq⟩ := hrel
            by_cases hbt : b < T.length
            · have hcw : ∀ a, wr.cell? a = w5.cell? a := fun a => by simp [World.cell?, hq.heap]
              obtain ⟨bx, ox, cx, hcx, _, _, hvx⟩ := hcell (a : Nat) (by omega) (by omega)
              have v1 := hvx (b : Nat) (by omega) (by omega)
              obtain ⟨p, hp_, hpt⟩ := mul_nat k hat hbt
              have la := num_ltL hb hat
              have lb := num_ltL hb hbt
              have hmx := lev_prod hb hat hbt hp_
              have d1 := HL.out p hpt
              have d2 := HL.out a hat
              have d3 := HL.out b hbt
              obtain ⟨by_, oy, cy, hcy, _, _, hvy⟩ := hcellx ((num (inLev T) a : Nat) : Int) (by omega) (by omega)
              have v2 := hvy ((num (inLev T) b : Nat) : Int) (by omega) (by omega)
              rw [hmx] at v2
              rw [hp_] at v1
              rw [← hcw] at hcx v1 d1 d2 d3 hcy v2
              rw [Int.toNat_natCast] at hcx v1 hcy v2
              clear hcw hvx hvy hcell hcellx hp_ hmx
              have lai : ((num (inLev T) a : Nat) : Int) < ((nL T : Nat) : Int) := by omega
              have lbi : ((num (inLev T) b : Nat) : Int) < ((nL T : Nat) : Int) := by omega
              go_wp2
              go_quiet (fail)
              go_wp2
              go_roundg (T.length - (b + 1))
              case measure => go_light; have := hgk2.out; omega
              case rel => go_light; exact ⟨b + 1, by omega, rfl, by go_num, hq.drewN _⟩
            · obtain rfl : T.length = b := by omega
              go_wp2
              go_roundg (T.length - (a + 1))
              case measure => go_light; have := hgk.out; omega
              case rel => go_light; exact ⟨a + 1, by omega, rfl, by go_num, hq⟩
        · obtain rfl : T.length = a := by omega
          have B7 := B5.trans (hq.below w.heap.size)
          have mx := (X5.out.quiet hq).mat
          have hme := iMeetingOk_any _ c2 _ _ _ _ mx (Nat.le_trans Z2.out (hq.below 0).size) hr
          rw [HLL.out] at hme
          go_wp2_with fail
          refine hme.mono ?_
          rw [HME.out]
          rintro e w8 ⟨rfl, b8⟩
          go_wp2
          go_ret
          exact ⟨rfl, B7.trans (b8.mono B7.size)⟩

end Go.Proofs.Ytcegjiiondmchad
