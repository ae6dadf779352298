/- The walk of FnBelowOk. -/
import Derived.Test.YtcegjiiondmchaaEq
import Derived.Test.YtcegjiiondmchaaPureX
import Derived.Test.YtcegjiiondmchaaIband
import Derived.Test.YtcegjiiondmchaaIord
import Derived.Test.YtcegjiiondmchaaSord
import Derived.Test.YtcegjiiondmchaaDrawOrds
namespace Go.Proofs.Ytcegjiiondmchaa
open Go.RowKit
set_option linter.unusedVariables false

set_option maxRecDepth 20000 in
set_option maxHeartbeats 8000000 in
theorem fnBelowOk_walk (A : Option Addr) (n c : Nat) (w : World) (h : Bytes w w.heap.size A n) (hc : n ≤ c) (hc2 : c ≤ 9223372036854775807) :
    Calls Try.prog 3 #[.slice A n c] w fun e w' => e = .returned (.bool true) ∧ Below w.heap.size w w' := by
  by_cases hn : (1048576 : Int) < (n : Int)
  · go_enter Try.func3, Try.ntmps3
    go_wp2
    go_ret
    exact ⟨rfl, Below.refl _ _⟩
  · go_enter Try.func3, Try.ntmps3
    go_wp2_with fail
    refine (drawBelowOk_any A n c w h hc hc2).mono ?_
    rintro e w1 ⟨A1, c1, T, x, y, rfl, B1, m1, hS⟩
    have hlT := hS.len
    cases hb : bandT T
    · have HE := hide (belowT_not (T := T) (x := x) (y := y) (by rw [hb]; rfl))
      go_wp2_with fail
      refine (iBelowOk_any _ _ _ _ _ _ _ _ m1 (by omega) hS).mono ?_
      rw [HE.out]
      rintro e w2 ⟨rfl, b2⟩
      have B2 := B1.trans (b2.mono B1.size)
      have m2 := m1.below b2 (by omega)
      have z2 := b2.size
      go_wp2_with fail
      refine (sBelowOk_any _ _ _ _ _ _ _ _ m2 hS).mono ?_
      rw [HE.out]
      rintro e w3 ⟨rfl, q3⟩
      have B3 := B2.trans (q3.below w.heap.size)
      have m3 := m2.quiet q3
      have z3 := q3.below 0 |>.size
      go_wp2_with fail
      refine (sBandOk_any _ _ _ _ _ _ m3 hS).mono ?_
      rw [hb]
      rintro e w4 ⟨rfl, q4⟩
      have B4 := B3.trans (q4.below w.heap.size)
      have m4 := m3.quiet q4
      have z4 := q4.below 0 |>.size
      go_wp2_with fail
      refine (alive_any _).mono ?_
      rintro e w5 ⟨rfl, b5⟩
      go_wp2
      go_ret
      exact ⟨rfl, B4.trans (b5.mono B4.size)⟩
    · by_cases x0 : x < 0
      · have HE := hide (belowT_not (T := T) (x := x) (y := y) (can2_false (.inl (inT_false (.inl x0)))))
        have d_x0 := decide_eq_true x0
        go_wp2_with fail
        refine (iBelowOk_any _ _ _ _ _ _ _ _ m1 (by omega) hS).mono ?_
        rw [HE.out]
        rintro e w2 ⟨rfl, b2⟩
        have B2 := B1.trans (b2.mono B1.size)
        have m2 := m1.below b2 (by omega)
        have z2 := b2.size
        go_wp2_with fail
        refine (sBelowOk_any _ _ _ _ _ _ _ _ m2 hS).mono ?_
        rw [HE.out]
        rintro e w3 ⟨rfl, q3⟩
        have B3 := B2.trans (q3.below w.heap.size)
        have m3 := m2.quiet q3
        have z3 := q3.below 0 |>.size
        go_wp2_with fail
        refine (sBandOk_any _ _ _ _ _ _ m3 hS).mono ?_
        rw [hb]
        rintro e w4 ⟨rfl, q4⟩
        have B4 := B3.trans (q4.below w.heap.size)
        have m4 := m3.quiet q4
        have z4 := q4.below 0 |>.size
        go_wp2_with fail
        refine (alive_any _).mono ?_
        rintro e w5 ⟨rfl, b5⟩
        go_wp2
        go_ret
        exact ⟨rfl, B4.trans (b5.mono B4.size)⟩
      · have d_x0 := decide_eq_false x0
        by_cases y0 : y < 0
        · have HE := hide (belowT_not (T := T) (x := x) (y := y) (can2_false (.inr (inT_false (.inl y0)))))
          have d_y0 := decide_eq_true y0
          go_wp2_with fail
          refine (iBelowOk_any _ _ _ _ _ _ _ _ m1 (by omega) hS).mono ?_
          rw [HE.out]
          rintro e w2 ⟨rfl, b2⟩
          have B2 := B1.trans (b2.mono B1.size)
          have m2 := m1.below b2 (by omega)
          have z2 := b2.size
          go_wp2_with fail
          refine (sBelowOk_any _ _ _ _ _ _ _ _ m2 hS).mono ?_
          rw [HE.out]
          rintro e w3 ⟨rfl, q3⟩
          have B3 := B2.trans (q3.below w.heap.size)
          have m3 := m2.quiet q3
          have z3 := q3.below 0 |>.size
          go_wp2_with fail
          refine (sBandOk_any _ _ _ _ _ _ m3 hS).mono ?_
          rw [hb]
          rintro e w4 ⟨rfl, q4⟩
          have B4 := B3.trans (q4.below w.heap.size)
          have m4 := m3.quiet q4
          have z4 := q4.below 0 |>.size
          go_wp2_with fail
          refine (alive_any _).mono ?_
          rintro e w5 ⟨rfl, b5⟩
          go_wp2
          go_ret
          exact ⟨rfl, B4.trans (b5.mono B4.size)⟩
        · have d_y0 := decide_eq_false y0
          by_cases x1 : (T.length : Int) ≤ x
          · have HE := hide (belowT_not (T := T) (x := x) (y := y) (can2_false (.inl (inT_false (.inr x1)))))
            have d_x1 := decide_eq_true x1
            go_wp2_with fail
            refine (iBelowOk_any _ _ _ _ _ _ _ _ m1 (by omega) hS).mono ?_
            rw [HE.out]
            rintro e w2 ⟨rfl, b2⟩
            have B2 := B1.trans (b2.mono B1.size)
            have m2 := m1.below b2 (by omega)
            have z2 := b2.size
            go_wp2_with fail
            refine (sBelowOk_any _ _ _ _ _ _ _ _ m2 hS).mono ?_
            rw [HE.out]
            rintro e w3 ⟨rfl, q3⟩
            have B3 := B2.trans (q3.below w.heap.size)
            have m3 := m2.quiet q3
            have z3 := q3.below 0 |>.size
            go_wp2_with fail
            refine (sBandOk_any _ _ _ _ _ _ m3 hS).mono ?_
            rw [hb]
            rintro e w4 ⟨rfl, q4⟩
            have B4 := B3.trans (q4.below w.heap.size)
            have m4 := m3.quiet q4
            have z4 := q4.below 0 |>.size
            go_wp2_with fail
            refine (alive_any _).mono ?_
            rintro e w5 ⟨rfl, b5⟩
            go_wp2
            go_ret
            exact ⟨rfl, B4.trans (b5.mono B4.size)⟩
          · have d_x1 := decide_eq_false x1
            by_cases y1 : (T.length : Int) ≤ y
            · have HE := hide (belowT_not (T := T) (x := x) (y := y) (can2_false (.inr (inT_false (.inr y1)))))
              have d_y1 := decide_eq_true y1
              go_wp2_with fail
              refine (iBelowOk_any _ _ _ _ _ _ _ _ m1 (by omega) hS).mono ?_
              rw [HE.out]
              rintro e w2 ⟨rfl, b2⟩
              have B2 := B1.trans (b2.mono B1.size)
              have m2 := m1.below b2 (by omega)
              have z2 := b2.size
              go_wp2_with fail
              refine (sBelowOk_any _ _ _ _ _ _ _ _ m2 hS).mono ?_
              rw [HE.out]
              rintro e w3 ⟨rfl, q3⟩
              have B3 := B2.trans (q3.below w.heap.size)
              have m3 := m2.quiet q3
              have z3 := q3.below 0 |>.size
              go_wp2_with fail
              refine (sBandOk_any _ _ _ _ _ _ m3 hS).mono ?_
              rw [hb]
              rintro e w4 ⟨rfl, q4⟩
              have B4 := B3.trans (q4.below w.heap.size)
              have m4 := m3.quiet q4
              have z4 := q4.below 0 |>.size
              go_wp2_with fail
              refine (alive_any _).mono ?_
              rintro e w5 ⟨rfl, b5⟩
              go_wp2
              go_ret
              exact ⟨rfl, B4.trans (b5.mono B4.size)⟩
            · have d_y1 := decide_eq_false y1
              obtain ⟨a, rfl⟩ : ∃ a : Nat, x = a := ⟨x.toNat, by omega⟩
              obtain ⟨b, rfl⟩ : ∃ b : Nat, y = b := ⟨y.toNat, by omega⟩
              have ha : a < T.length := by omega
              have hb1 : b < T.length := by omega
              have d_x2 := decide_eq_false (show ¬ T.length ≤ a by omega)
              have d_y2 := decide_eq_false (show ¬ T.length ≤ b by omega)
              clear x0 y0 x1 y1
              have bd := bandT_iff.1 hb
              have HE := hide (belowT_of hb ha hb1)
              have HA := hide ((belowT_of hb ha ha).trans (bd.blw_refl ha))
              have hbl0 : (0 : Int) < (T.length : Int) := by omega
              cases hbl : blw T a b
              · go_wp2_with fail
                refine (iBelowOk_any _ _ _ _ _ _ _ _ m1 (by omega) hS).mono ?_
                rw [HE.out, hbl]
                rintro e w2 ⟨rfl, b2⟩
                have B2 := B1.trans (b2.mono B1.size)
                have m2 := m1.below b2 (by omega)
                have z2 := b2.size
                go_wp2_with fail
                refine (sBelowOk_any _ _ _ _ _ _ _ _ m2 hS).mono ?_
                rw [HE.out, hbl]
                rintro e w3 ⟨rfl, q3⟩
                have B3 := B2.trans (q3.below w.heap.size)
                have m3 := m2.quiet q3
                have z3 := q3.below 0 |>.size
                go_wp2_with fail
                refine (sBandOk_any _ _ _ _ _ _ m3 hS).mono ?_
                rw [hb]
                rintro e w4 ⟨rfl, q4⟩
                have B4 := B3.trans (q4.below w.heap.size)
                have m4 := m3.quiet q4
                have z4 := q4.below 0 |>.size
                go_wp2
                go_loopg [7] 1 (fun g i wr => i = .int .i64 0 ∧ w4 = wr)
                case atStart => exact ⟨rfl, rfl⟩
                case round =>
                  obtain ⟨rfl, rfl⟩ := hrel
                  go_wp2_with fail
                  refine (iBelowOk_any _ _ _ _ _ (a : Int) (a : Int) _ m4 (by omega) hS).mono ?_
                  rw [HA.out]
                  rintro e w5 ⟨rfl, b5⟩
                  have B5 := B4.trans (b5.mono B4.size)
                  have m5 := m4.below b5 (by omega)
                  have z5 := b5.size
                  go_wp2
                  go_ret
                  exact ⟨rfl, B5⟩
              · have HI := hide (fun c (hc : c < T.length) => belowT_of hb hb1 hc)
                have HJ := hide (fun c (hc : c < T.length) (h : blw T b c = true) => (belowT_of hb ha hc).trans (bd.blw_trans ha hb1 hc hbl h))
                go_wp2_with fail
                refine (iBelowOk_any _ _ _ _ _ _ _ _ m1 (by omega) hS).mono ?_
                rw [HE.out, hbl]
                rintro e w2 ⟨rfl, b2⟩
                have B2 := B1.trans (b2.mono B1.size)
                have m2 := m1.below b2 (by omega)
                have z2 := b2.size
                go_wp2_with fail
                refine (sBelowOk_any _ _ _ _ _ _ _ _ m2 hS).mono ?_
                rw [HE.out, hbl]
                rintro e w3 ⟨rfl, q3⟩
                have B3 := B2.trans (q3.below w.heap.size)
                have m3 := m2.quiet q3
                have z3 := q3.below 0 |>.size
                go_wp2_with fail
                refine (sBandOk_any _ _ _ _ _ _ m3 hS).mono ?_
                rw [hb]
                rintro e w4 ⟨rfl, q4⟩
                have B4 := B3.trans (q4.below w.heap.size)
                have m4 := m3.quiet q4
                have z4 := q4.below 0 |>.size
                go_wp2
                go_loopg [7] T.length (fun g i wr => ∃ c : Nat, c ≤ T.length ∧ Hid (g = T.length - c) ∧ i = .int .i64 c ∧ Below w4.heap.size w4 wr)
                case atStart => exact ⟨0, Nat.zero_le _, rfl, rfl, Below.refl _ _⟩
                case round =>
                  obtain ⟨c, hc, hgk, rfl, hB⟩ := hrel
                  have mr := m4.below hB (by omega)
                  have zr := hB.size
                  have Br := B4.trans (hB.mono B4.size)
                  by_cases hlt : c < T.length
                  · cases hbc : blw T b c
                    · go_wp2_with fail
                      refine (iBelowOk_any _ _ _ _ T (b : Int) (c : Int) _ mr (by omega) hS).mono ?_
                      rw [HI.out c hlt, hbc]
                      rintro e w5 ⟨rfl, b5⟩
                      go_wp2
                      go_roundg (T.length - (c + 1))
                      case measure => go_light; have := hgk.out; omega
                      case rel => go_light; exact ⟨c + 1, by omega, rfl, by go_num, hB.trans (b5.mono hB.size)⟩
                    · go_wp2_with fail
                      refine (iBelowOk_any _ _ _ _ T (b : Int) (c : Int) _ mr (by omega) hS).mono ?_
                      rw [HI.out c hlt, hbc]
                      rintro e w5 ⟨rfl, b5⟩
                      have m5 := mr.below b5 (by omega)
                      have z5 := b5.size
                      go_wp2_with fail
                      refine (iBelowOk_any _ _ _ _ T (a : Int) (c : Int) _ m5 (by omega) hS).mono ?_
                      rw [HJ.out c hlt hbc]
                      rintro e w6 ⟨rfl, b6⟩
                      go_wp2
                      go_roundg (T.length - (c + 1))
                      case measure => go_light; have := hgk.out; omega
                      case rel => go_light; exact ⟨c + 1, by omega, rfl, by go_num, (hB.trans (b5.mono hB.size)).trans (b6.mono (hB.trans (b5.mono hB.size)).size)⟩
                  · obtain rfl : T.length = c := by omega
                    by_cases hab : a = b
                    · subst hab
                      go_wp2_with fail
                      refine (iBelowOk_any _ _ _ _ T (a : Int) (a : Int) _ mr (by omega) hS).mono ?_
                      rw [HA.out]
                      rintro e w5 ⟨rfl, b5⟩
                      go_wp2
                      go_ret
                      exact ⟨rfl, Br.trans (b5.mono Br.size)⟩
                    · have habi : ¬ (a : Int) = (b : Int) := by omega
                      have HK := hide (show belowT T b a = false from by
                        rw [belowT_of hb hb1 ha]
                        cases e : blw T b a with
                        | false => rfl
                        | true => exact (hab (blw_anti hbl e)).elim)
                      go_wp2_with fail
                      refine (iBelowOk_any _ _ _ _ T (a : Int) (a : Int) _ mr (by omega) hS).mono ?_
                      rw [HA.out]
                      rintro e w5 ⟨rfl, b5⟩
                      have m5 := mr.below b5 (by omega)
                      have z5 := b5.size
                      go_wp2_with fail
                      refine (iBelowOk_any _ _ _ _ T (b : Int) (a : Int) _ m5 (by omega) hS).mono ?_
                      rw [HK.out]
                      rintro e w6 ⟨rfl, b6⟩
                      go_wp2
                      go_ret
                      exact ⟨rfl, (Br.trans (b5.mono Br.size)).trans (b6.mono (Br.trans (b5.mono Br.size)).size)⟩

end Go.Proofs.Ytcegjiiondmchaa
