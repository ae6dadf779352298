/- The walk of FnRowsOf. -/
import Derived.Test.YtcegjiiondmchacEq
import Derived.Test.YtcegjiiondmchacPureX
import Derived.Test.YtcegjiiondmchacIband
import Derived.Test.YtcegjiiondmchacIrect
import Derived.Test.YtcegjiiondmchacDrawRects
namespace Go.Proofs.Ytcegjiiondmchac
open Go.RowKit
set_option linter.unusedVariables false

set_option maxRecDepth 20000 in
set_option maxHeartbeats 8000000 in
theorem fnRowsOf_walk (A : Option Addr) (n c : Nat) (w : World) (h : Bytes w w.heap.size A n) (hc : n ≤ c) (hc2 : c ≤ 9223372036854775807) :
    Calls Try.prog 5 #[.slice A n c] w fun e w' => e = .returned (.bool true) ∧ Below w.heap.size w w' := by
  by_cases hn : (1048576 : Int) < (n : Int)
  · go_enter Try.func5, Try.ntmps5
    go_wp2
    go_ret
    exact ⟨rfl, Below.refl _ _⟩
  · go_enter Try.func5, Try.ntmps5
    go_wp2_with fail
    refine (drawRowsOf_any A n c w h hc hc2).mono ?_
    rintro e w1 ⟨A1, c1, T, rfl, B1, m1, hS⟩
    have hlT := hS.len
    have hlr := len_rowsL_le T
    go_wp2_with fail
    refine (iRowsOf_any _ _ _ _ _ _ m1 (Nat.le_refl _) hS).mono ?_
    rintro e w2 ⟨A2, c2, rfl, b2, g2, _, _⟩
    have B2 := B1.trans (b2.mono B1.size)
    have m2 := m1.below b2 (Nat.le_refl _)
    have z2 := b2.size
    go_wp2_with fail
    refine (sRowsOf_any _ _ _ _ _ _ m2 z2 hS).mono ?_
    rintro e w3 ⟨A3, c3, rfl, b3, g3, _, _⟩
    have B3 := B2.trans (b3.mono B2.size)
    have m3 := m2.below b3 z2
    have g23 := g2.below b3 (Nat.le_refl _)
    have z3 := b3.size
    go_wp2_with fail
    refine (sameInts_same _ _ _ _ _ _ _ _ _ _ g23.row g3 hlr).mono ?_
    rintro e w4 ⟨rfl, q4⟩
    have B4 := B3.trans (q4.below w.heap.size)
    have m4 := m3.quiet q4
    have g4 := g23.row.quiet q4
    have z4 := q4.below 0 |>.size
    clear m1 m2 m3 g2 g23 g3 b2 b3 q4 B1 B2 B3
    cases hr : rectT T
    · have h0 : (rowsL T).length = 0 := by rw [rowsL_not hr]; rfl
      have hz : (((rowsL T).length : Int) == 0) = true := by simp [h0]
      clear h0
      go_wp2_with fail
      refine (iRectangularOk_any _ _ _ _ _ _ m4 (by omega) hS).mono ?_
      rw [hr]
      rintro e w5 ⟨rfl, b5⟩
      have B5 := B4.trans (b5.mono B4.size)
      go_wp2_with fail
      refine (alive_any _).mono ?_
      rintro e w6 ⟨rfl, b6⟩
      go_wp2
      go_ret
      exact ⟨rfl, B5.trans (b6.mono B5.size)⟩
    · have k := rect_tab hr
      have k1 := k.lo
      have k9 := k.hi
      have hl := len_rowsL hr
      have hz : (((rowsL T).length : Int) == 0) = false := beq_eq_false_iff_ne.2 (by omega)
      rw [hl] at hz ⊢
      obtain ⟨bL, oL, rfl, _, hbL, _⟩ := g4 0 (by rw [hl]; omega)
      have hL : ∀ x, x < T.length → w4.cell? ⟨bL, oL + x, none⟩ = some (.int .i64 (num (inRow T) x : Nat)) := fun x hx => by
        obtain ⟨b', o', e', _, _, hc⟩ := g4 x (by rw [hl]; exact hx)
        obtain ⟨rfl, rfl⟩ : bL = b' ∧ oL = o' := by simpa using e'
        rw [hc, el_rowsL hr hx]
      have HL := hide hL
      clear hL g4
      obtain ⟨bb, oo, rfl, _, _, hcell⟩ := m4.head k
      go_wp2
      go_loopg [5] T.length (fun g i wr => ∃ a : Nat, a ≤ T.length ∧ Hid (g = T.length - a) ∧ i = .int .i64 a ∧ QD w4 wr)
      case atStart => exact ⟨0, Nat.zero_le _, rfl, rfl, QD.refl _⟩
      case round =>
        obtain ⟨a, ha, hgk, rfl, hq⟩ := hrel
        by_cases hat : a < T.length
        · go_wp2
          go_loopg [6] T.length (fun g i wr => ∃ b : Nat, b ≤ T.length ∧ Hid (g = T.length - b) ∧ i = .int .i64 b ∧ QD w4 wr)
          case atStart => exact ⟨0, Nat.zero_le _, rfl, rfl, hq⟩
          case round =>
            clear hq
            obtain ⟨b, hb, hgk2, rfl, hq⟩ := hrel
            by_cases hbt : b < T.length
            · have hcw : ∀ a, wr.cell? a = w4.cell? a := fun a => by simp [World.cell?, hq.heap]
              obtain ⟨bx, ox, cx, hcx, _, _, hvx⟩ := hcell (a : Nat) (by omega) (by omega)
              have v1 := hvx (b : Nat) (by omega) (by omega)
              obtain ⟨p0, p1⟩ := k.mul (x := (a : Nat)) (y := (b : Nat)) (by omega) (by omega) (by omega) (by omega)
              obtain ⟨p, hp⟩ : ∃ p : Nat, mul T (a : Int) (b : Int) = (p : Int) := ⟨(mul T (a : Int) (b : Int)).toNat, by omega⟩
              have hpt : p < T.length := by omega
              have d1 := HL.out p hpt
              have d2 := HL.out a hat
              rw [(rect_prod hr hat hbt hp).1] at d1
              rw [hp] at v1
              rw [← hcw] at hcx v1 d1 d2
              rw [Int.toNat_natCast] at hcx v1
              clear hcw hvx hcell hp p0 p1
              go_wp2
              go_quiet (fail)
              go_wp2
              go_roundg (T.length - (b + 1))
              case measure => go_light; have := hgk2.out; omega
              case rel => go_light; exact ⟨b + 1, by omega, rfl, by go_num, hq.drewN _⟩
            · obtain rfl : T.length = b := by omega
              go_wp2
              go_roundg (T.length - (a + 1))
              case measure => go_light; have := hgk.out; omega
              case rel => go_light; exact ⟨a + 1, by omega, rfl, by go_num, hq⟩
        · obtain rfl : T.length = a := by omega
          have d0 := HL.out 0 (by omega)
          rw [ct_zero_num (rect_eqvR hr) (by omega)] at d0
          have hcw : ∀ a, wr.cell? a = w4.cell? a := fun a => by simp [World.cell?, hq.heap]
          rw [← hcw] at d0
          rw [Nat.add_zero] at d0
          clear hcw hcell
          go_wp2
          go_ret
          exact ⟨rfl, B4.trans (hq.below _)⟩

end Go.Proofs.Ytcegjiiondmchac
