/- The walk of FnLevelsOf. -/
import Derived.Test.YtcegjiiondmchadEq
import Derived.Test.YtcegjiiondmchadPureX
import Derived.Test.YtcegjiiondmchadIband
import Derived.Test.YtcegjiiondmchadIlev2
import Derived.Test.YtcegjiiondmchadDrawLevs
namespace Go.Proofs.Ytcegjiiondmchad
open Go.RowKit
set_option linter.unusedVariables false

set_option maxRecDepth 20000 in
set_option maxHeartbeats 8000000 in
theorem fnLevelsOf_walk (A : Option Addr) (n c : Nat) (w : World) (h : Bytes w w.heap.size A n) (hc : n ≤ c) (hc2 : c ≤ 9223372036854775807) :
    Calls Try.prog 3 #[.slice A n c] w fun e w' => e = .returned (.bool true) ∧ Below w.heap.size w w' := by
  by_cases hn : (1048576 : Int) < (n : Int)
  · go_enter Try.func3, Try.ntmps3
    go_wp2
    go_ret
    exact ⟨rfl, Below.refl _ _⟩
  · go_enter Try.func3, Try.ntmps3
    go_wp2_with fail
    refine (drawLevelsOf_any A n c w h hc hc2).mono ?_
    rintro e w1 ⟨A1, c1, T, rfl, B1, m1, hS⟩
    have hlT := hS.len
    have hlr := len_levsL_le T
    go_wp2_with fail
    refine (iLevelsOf_any _ _ _ _ _ _ m1 (Nat.le_refl _) hS).mono ?_
    rintro e w2 ⟨A2, c2, rfl, b2, g2, _, _⟩
    have B2 := B1.trans (b2.mono B1.size)
    have m2 := m1.below b2 (Nat.le_refl _)
    have z2 := b2.size
    go_wp2_with fail
    refine (sLevelsOf_any _ _ _ _ _ _ m2 z2 hS).mono ?_
    rintro e w3 ⟨A3, c3, rfl, b3, g3, _, _⟩
    have B3 := B2.trans (b3.mono B2.size)
    have m3 := m2.below b3 z2
    have g23 := g2.below b3 (Nat.le_refl _)
    have z3 := b3.size
    go_wp2_with fail
    refine (sameInts_same _ _ _ _ _ _ _ _ _ _ g23.row g3 hlr).mono ?_
    rintro e w4 ⟨rfl, q4⟩
    have B4 := B3.trans (q4.below w.heap.size)
    have m4 := m3.quiet q4
    have g4 := g23.row.quiet q4
    have z4 := q4.below 0 |>.size
    clear m1 m2 m3 g2 g23 g3 b2 b3 q4 B1 B2 B3
    cases hr : bandT T
    · have h0 : (levsL T).length = 0 := by rw [levsL_not hr]; rfl
      have hz : (((levsL T).length : Int) == 0) = true := by simp [h0]
      clear h0
      go_wp2_with fail
      refine (iBandOk_any _ _ _ _ _ _ m4 (by omega) hS).mono ?_
      rw [hr]
      rintro e w5 ⟨rfl, b5⟩
      have B5 := B4.trans (b5.mono B4.size)
      go_wp2_with fail
      refine (alive_any _).mono ?_
      rintro e w6 ⟨rfl, b6⟩
      go_wp2
      go_ret
      exact ⟨rfl, B5.trans (b6.mono B5.size)⟩
    · have k := band_tab hr
      have k1 := k.lo
      have k9 := k.hi
      have hl := len_levsL hr
      have hz : (((levsL T).length : Int) == 0) = false := beq_eq_false_iff_ne.2 (by omega)
      rw [hl] at hz ⊢
      obtain ⟨bL, oL, rfl, _, hbL, _⟩ := g4 0 (by rw [hl]; omega)
      have hL : ∀ x, x < T.length → w4.cell? ⟨bL, oL + x, none⟩ = some (.int .i64 (num (inLev T) x : Nat)) := fun x hx => by
        obtain ⟨b', o', e', _, _, hc⟩ := g4 x (by rw [hl]; exact hx)
        obtain ⟨rfl, rfl⟩ : bL = b' ∧ oL = o' := by simpa using e'
        rw [hc, el_levsL hr hx]
      have HL := hide hL
      have bd := bandT_iff.1 hr
      have E := band_eqvL hr
      clear hL g4 hl
      obtain ⟨bb, oo, rfl, _, _, hcell⟩ := m4.head k
      go_wp2
      go_loopg [5] T.length (fun g i wr => ∃ a : Nat, a ≤ T.length ∧ Hid (g = T.length - a) ∧ i = .int .i64 a ∧ QD w4 wr)
      case atStart => exact ⟨0, Nat.zero_le _, rfl, rfl, QD.refl _⟩
      case round =>
        obtain ⟨a, ha, hgk, rfl, hq⟩ := hrel
        by_cases hat : a < T.length
        · go_wp2
          go_loopg [6] T.length (fun g i wr => ∃ b : Nat, b ≤ T.length ∧ Hid (g = T.length - b) ∧ i = .int .i64 b ∧ QD w4 wr)
          case atStart => exact ⟨0, Nat.zero_le _, rfl, rfl, hq⟩
          case round =>
            clear hq
            obtain ⟨b, hb, hgk2, rfl, hq⟩ := hrel
            by_cases hbt : b < T.length
            · go_wp2
              go_loopg [7] T.length (fun g i wr => ∃ q : Nat, q ≤ T.length ∧ Hid (g = T.length - q) ∧ i = .int .i64 q ∧ QD w4 wr)
              case atStart => exact ⟨0, Nat.zero_le _, rfl, rfl, hq⟩
              case round =>
                clear hq
                obtain ⟨q, hqT, hgk3, rfl, hq⟩ := hrel
                have hcw : ∀ a, wr.cell? a = w4.cell? a := fun a => by simp [World.cell?, hq.heap]
                have d1 := HL.out a hat
                have d2 := HL.out b hbt
                rw [← hcw] at d1 d2
                by_cases hqt : q < T.length
                · cases e : (((num (inLev T) a : Nat) : Int) == ((num (inLev T) b : Nat) : Int))
                  · clear hcw hcell bd E
                    go_wp2
                    go_quiet (fail)
                    go_wp2
                    go_roundg (T.length - (b + 1))
                    case measure => go_light; have := hgk2.out; omega
                    case rel => go_light; exact ⟨b + 1, by omega, rfl, by go_num, hq.drewN _⟩
                  · have hab := E.num_ne hat hbt (by have : ((num (inLev T) a : Nat) : Int) = ((num (inLev T) b : Nat) : Int) := by simpa using e
                                                     omega)
                    obtain ⟨p1, e1, t1⟩ := mul_nat k hat hqt
                    obtain ⟨p2, e2, t2⟩ := mul_nat k hbt hqt
                    obtain ⟨p3, e3, t3⟩ := mul_nat k hqt hat
                    obtain ⟨p4, e4, t4⟩ := mul_nat k hqt hbt
                    have f12 := E.num_eq t1 t2 (bd.lev_mul hat hbt hqt hqt hab (E.refl q hqt) e1 e2)
                    have f34 := E.num_eq t3 t4 (bd.lev_mul hqt hqt hat hbt (E.refl q hqt) hab e3 e4)
                    have l1 := HL.out p1 t1
                    have l2 := HL.out p2 t2
                    have l3 := HL.out p3 t3
                    have l4 := HL.out p4 t4
                    rw [f12] at l1
                    rw [f34] at l3
                    obtain ⟨bx1, ox1, cx1, r1, _, _, vx1⟩ := hcell (a : Nat) (by omega) (by omega)
                    obtain ⟨bx2, ox2, cx2, r2, _, _, vx2⟩ := hcell (b : Nat) (by omega) (by omega)
                    obtain ⟨bx3, ox3, cx3, r3, _, _, vx3⟩ := hcell (q : Nat) (by omega) (by omega)
                    have v1 := vx1 (q : Nat) (by omega) (by omega)
                    have v2 := vx2 (q : Nat) (by omega) (by omega)
                    have v3 := vx3 (a : Nat) (by omega) (by omega)
                    have v4 := vx3 (b : Nat) (by omega) (by omega)
                    rw [e1] at v1
                    rw [e2] at v2
                    rw [e3] at v3
                    rw [e4] at v4
                    rw [← hcw] at l1 l2 l3 l4 r1 r2 r3 v1 v2 v3 v4
                    rw [Int.toNat_natCast] at r1 r2 r3 v1 v2 v3 v4
                    clear hcw hcell bd E hab f12 f34 e1 e2 e3 e4 vx1 vx2 vx3
                    go_wp2
                    go_quiet (fail)
                    go_wp2
                    go_quiet (fail)
                    go_wp2
                    go_roundg (T.length - (q + 1))
                    case measure => go_light; have := hgk3.out; omega
                    case rel => go_light; exact ⟨q + 1, by omega, rfl, by go_num, hq.drewN _⟩
                · obtain rfl : T.length = q := by omega
                  clear hcw hcell bd E
                  go_wp2
                  go_quiet (fail)
                  go_wp2
                  go_roundg (T.length - (b + 1))
                  case measure => go_light; have := hgk2.out; omega
                  case rel => go_light; exact ⟨b + 1, by omega, rfl, by go_num, hq.drewN _⟩
            · obtain rfl : T.length = b := by omega
              go_wp2
              go_roundg (T.length - (a + 1))
              case measure => go_light; have := hgk.out; omega
              case rel => go_light; exact ⟨a + 1, by omega, rfl, by go_num, hq⟩
        · obtain rfl : T.length = a := by omega
          have d0 := HL.out 0 (by omega)
          rw [ct_zero_num E (by omega)] at d0
          have hcw : ∀ a, wr.cell? a = w4.cell? a := fun a => by simp [World.cell?, hq.heap]
          rw [← hcw] at d0
          rw [Nat.add_zero] at d0
          clear hcw hcell E bd
          go_wp2
          go_ret
          exact ⟨rfl, B4.trans (hq.below _)⟩

end Go.Proofs.Ytcegjiiondmchad
