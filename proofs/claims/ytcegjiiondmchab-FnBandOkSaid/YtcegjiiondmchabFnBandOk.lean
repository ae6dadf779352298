
/- FnBandOk returns true for every two inputs, and leaves them as they were: no condition. -/
import Derived.Test.YtcegjiiondmchabFrameB
import Derived.Test.YtcegjiiondmchabEq
import Derived.Test.YtcegjiiondmchabIband
import Derived.Test.YtcegjiiondmchabSband
import Derived.Test.YtcegjiiondmchabDrawBands
import Derived.Test.YtcegjiiondmchabPureX
import Derived.Test.YtcegjiiondmchabProd
import Derived.Test.YtcegjiiondmchabDrawS
import Derived.Test.YtcegjiiondmchabDrawRow
import Derived.Test.YtcegjiiondmchabFit
namespace Go.Proofs.Ytcegjiiondmchab
open Go.ChangeShapes Go.WideShapes Go.ChangeAt Go.RowKit Go.Deep
set_option linter.unusedVariables false

theorem okRow2 {T : List (List Int)} {a b : Int} (a0 : 0 ≤ a) (a1 : a < T.length) (b0 : 0 ≤ b) (b1 : b < T.length) : okRow T.length [a, b] = true := by
  simp [okRow]; omega
theorem prod2 {T : List (List Int)} {a b : Int} (h : okT T = true) (a0 : 0 ≤ a) (a1 : a < T.length) (b0 : 0 ≤ b) (b1 : b < T.length) : prodT T [a, b] = mul T a b := by
  rw [prodT_ok h (by simp) (okRow2 a0 a1 b0 b1)]; rfl
theorem prod3 {T : List (List Int)} {a b c : Int} (h : okT T = true) (a0 : 0 ≤ a) (a1 : a < T.length) (b0 : 0 ≤ b) (b1 : b < T.length) (c0 : 0 ≤ c) (c1 : c < T.length) : prodT T [a, b, c] = mul T (mul T a b) c := by
  rw [prodT_ok h (by simp) (by simp [okRow]; omega)]; rfl
theorem prod6 {T : List (List Int)} {a b c : Int} (h : okT T = true) (a0 : 0 ≤ a) (a1 : a < T.length) (b0 : 0 ≤ b) (b1 : b < T.length) (c0 : 0 ≤ c) (c1 : c < T.length) : prodT T [a, b, c, a, b, c] = mul T (mul T (mul T (mul T (mul T a b) c) a) b) c := by
  rw [prodT_ok h (by simp) (by simp [okRow]; omega)]; rfl

theorem bytes_below {w w' : World} {A : Option Addr} {n : Nat} (h : Bytes w w.heap.size A n) (b : Below w.heap.size w w') : Bytes w' w'.heap.size A n := fun j hj => by
  obtain ⟨bb, o, z, e, hlt, hc, hz⟩ := h j hj
  exact ⟨bb, o, z, e, Nat.lt_of_lt_of_le hlt b.size, (b.cell (p := ⟨bb, o + j, none⟩) hlt).trans hc, hz⟩

set_option maxRecDepth 20000 in
set_option maxHeartbeats 16000000 in
theorem fnBandOk_walk (A : Option Addr) (n c : Nat) (A' : Option Addr) (n' c' : Nat) (w : World) (h : Bytes w w.heap.size A n) (hc : n ≤ c) (hc2 : c ≤ 9223372036854775807) (h' : Bytes w w.heap.size A' n') (hc' : n' ≤ c') (hc2' : c' ≤ 9223372036854775807) :
    Calls Try.prog 3 #[.slice A n c, .slice A' n' c'] w fun e w' => e = .returned (.bool true) ∧ Below w.heap.size w w' := by
  by_cases hn : (1048576 : Int) < (n : Int)
  · go_enter Try.func3, Try.ntmps3
    go_wp2
    go_ret
    exact ⟨rfl, Below.refl _ _⟩
  by_cases hn' : (1048576 : Int) < (n' : Int)
  · go_enter Try.func3, Try.ntmps3
    go_wp2
    go_ret
    exact ⟨rfl, Below.refl _ _⟩
  · go_enter Try.func3, Try.ntmps3
    go_wp2_with fail
    refine (drawBandOk_any A n c w h hc hc2).mono ?_
    rintro e w1 ⟨A1, c1, T, rfl, B1, m1, hS⟩
    have hlT := hS.len
    go_wp2_with fail
    refine (iBandOk_any _ _ _ _ _ _ m1 (by omega) hS).mono ?_
    rintro e w2 ⟨rfl, b2⟩
    have B2 := B1.trans (b2.mono B1.size)
    have m2 := m1.below b2 (by omega)
    have z2 := b2.size
    go_wp2_with fail
    refine (sBandOk_any _ _ _ _ _ _ m2 hS).mono ?_
    rintro e w3 ⟨rfl, q3⟩
    have B3 := B2.trans (q3.below w.heap.size)
    have m3 := m2.quiet q3
    have z3 := q3.below 0 |>.size
    go_wp2_with fail
    refine (drawMeetingOk_any A' n' c' w3 (bytes_below h' B3) hc' hc2').mono ?_
    rintro e w4 ⟨A4, c4, U, rfl, b4, mu, hS2⟩
    have B4 := B3.trans (b4.mono B3.size)
    have m4 := m3.below b4 (by omega)
    have z4 := b4.size
    have hlU := hS2.len
    go_wp2_with fail
    refine (iTimesOf_any _ _ _ _ _ _ _ _ T U _ m4 (by omega) hS mu (Nat.le_refl _) hS2).mono ?_
    rintro e w5 ⟨A5, c5, rfl, b5, o5⟩
    have B5 := B4.trans (b5.mono B4.size)
    have m5 := m4.below b5 (by omega)
    have mu5 := mu.below b5 (Nat.le_refl _)
    have z5 := b5.size
    have hST := small_timesT (T := T) (U := U)
    have HT := hide (bandT_turn_any T)
    have hT2 := small_turnT (T := T)
    have hnn : 0 ≤ (T.length : Int) * (T.length : Int) ∧ (T.length : Int) * (T.length : Int) ≤ 1099511627776 := by
      have := Nat.mul_le_mul hlT hlT
      rw [← Int.natCast_mul]; omega
    obtain ⟨nn0, nn1⟩ := hnn
    have zz : w1.heap.size ≤ w5.heap.size := by omega
    clear m1 m2 m3 b2 q3 b4 z2 z3 z4 B1 B2 B3 B4 m4 mu h h' hc hc2 hc' hc2' hn hn'
    cases hcb : canB T U
    · cases hb : bandT T
      · have hz3 : w1.heap.size ≤ w5.heap.size := by omega
        by_cases hz : (0 : Int) < (T.length : Int) * (T.length : Int)
        all_goals
          go_wp2
          go_loopg [10] 1 (fun g i wr => i = .int .i64 0 ∧ w5 = wr)
          case atStart => exact ⟨rfl, rfl⟩
          case round =>
            obtain ⟨rfl, rfl⟩ := hrel
            go_wp2_with fail
            refine (iTurnedOf_any _ _ _ _ _ _ m5 (by omega) hS).mono ?_
            rintro e w15 ⟨A15, c15, rfl, b15, o15⟩
            have B15 := B5.trans (b15.mono B5.size)
            go_wp2_with fail
            refine (iBandOk_any _ _ _ _ _ _ o15.mat (Nat.le_refl _) hT2).mono ?_
            rw [HT.out, hb]
            rintro e w16 ⟨rfl, b16⟩
            have B16 := B15.trans (b16.mono B15.size)
            go_wp2_with fail
            refine (alive_any _).mono ?_
            rintro e w17 ⟨rfl, b17⟩
            go_wp2
            go_ret
            exact ⟨rfl, B16.trans (b17.mono B16.size)⟩
      · have bd := bandT_iff.1 hb
        have k := bd.g.tab
        have hk := okT_iff.2 k
        have k1 := k.lo
        have k9 := k.hi
        have h0 : ¬ T.length = 0 := by omega
        have h01 : ¬ T = [] := fun e => by subst e; exact h0 rfl
        obtain ⟨⟨n20, n21⟩, _, _⟩ := sq_int k9
        have zW : w1.heap.size ≤ w5.heap.size := by omega
        clear nn1
        go_wp2
        go_loopg [10] (T.length * T.length) (fun g i wr => ∃ p : Nat, p ≤ T.length * T.length ∧ g = T.length * T.length - p ∧ i = .int .i64 p ∧ Below w5.heap.size w5 wr)
        case atStart => exact ⟨0, Nat.zero_le _, rfl, rfl, Below.refl _ _⟩
        case round =>
          obtain ⟨p, hp, rfl, rfl, hB⟩ := hrel
          have zB := hB.size
          by_cases hpt : p < T.length * T.length
          · have hpi : (p : Int) < (T.length : Int) * (T.length : Int) := by rw [← Int.natCast_mul]; exact Int.ofNat_lt.2 hpt
            obtain ⟨a0, a1⟩ := div_in k1 hpt
            have b0 : 0 ≤ (p : Int) % (T.length : Int) := Int.emod_nonneg _ (by omega)
            have b1 : (p : Int) % (T.length : Int) < (T.length : Int) := Int.emod_lt_of_pos _ (by omega)
            have e0 : 0 ≤ ((p : Int) * 5 + 1) % (T.length : Int) := Int.emod_nonneg _ (by omega)
            have e1 : ((p : Int) * 5 + 1) % (T.length : Int) < (T.length : Int) := Int.emod_lt_of_pos _ (by omega)
            obtain ⟨qa1, qa2, qa3, qa4⟩ := wrapQ (p : Int) (T.length : Int) (by omega) (by omega) (by omega)
            obtain ⟨qb1, qb2, qb3, qb4⟩ := wrapQ ((p : Int) * 5 + 1) (T.length : Int) (by omega) (by omega) (by omega)
            have w5_ : IntKind.i64.wrap ((p : Int) * 5) = (p : Int) * 5 := IntWalk.i64_in _ ⟨by omega, by omega⟩
            have w6_ : IntKind.i64.wrap ((p : Int) * 5 + 1) = (p : Int) * 5 + 1 := IntWalk.i64_in _ ⟨by omega, by omega⟩
            obtain ⟨wo, rfl⟩ : ∃ wo : World, wo = wr := ⟨_, rfl⟩
            go_wp2_with fail
            go_region_held3 (fun W => Below w5.heap.size w5 W)
              (first
                | exact hB.drew
                | exact Below.alloc (by assumption) (Below.size (by assumption)) _)
              (first
                | fail)
            clear qa1 qa2 qa3 qa4 qb1 qb2 qb3 qb4 w5_ w6_
            generalize ((p : Int) * 5 + 1) % (T.length : Int) = cc at *
            generalize (p : Int) / (T.length : Int) = aa at *
            generalize (p : Int) % (T.length : Int) = bb at *
            have hRow : Row ((wo.alloc (.cells #[.int .i64 aa, .int .i64 bb, .int .i64 cc] 3)).drew) wo.heap.size (wo.heap.size + 1) (some ⟨wo.heap.size, 0, none⟩) [aa, bb, cc] := (row_lit (W := wo) #[.int .i64 aa, .int .i64 bb, .int .i64 cc] rfl).drewN 1
            have c4 : Below wo.heap.size wo ((wo.alloc (.cells #[.int .i64 aa, .int .i64 bb, .int .i64 cc] 3)).drew) := ((Below.refl wo.heap.size wo).more _).drew
            have es : (wo.alloc (.cells #[.int .i64 aa, .int .i64 bb, .int .i64 cc] 3)).heap.size = wo.heap.size + 1 := by simp
            have z4 : wo.heap.size < ((wo.alloc (.cells #[.int .i64 aa, .int .i64 bb, .int .i64 cc] 3)).drew).heap.size := by show wo.heap.size < (wo.alloc (.cells #[.int .i64 aa, .int .i64 bb, .int .i64 cc] 3)).heap.size; omega
            clear es
            generalize (wo.alloc (.cells #[.int .i64 aa, .int .i64 bb, .int .i64 cc] 3)).drew = wA at *
            have C4 := hB.trans (c4.mono hB.size)
            have PX := hide ((prod6 hk a0 a1 b0 b1 e0 e1).trans ((band_twice hb a0 a1 b0 b1 e0 e1).trans (prod3 hk a0 a1 b0 b1 e0 e1).symm))
            have zA := C4.size
            have d1 := (Below.refl wA.heap.size wA).alloc (Nat.le_refl _) (.cells #[] 3)
            have r0 := ARow.made (w := wA) (Nat.le_refl _)
            have src := hRow.below d1 (by omega)
            have hs1 := d1.size
            go_wp2_with (first
              | (at_builtin; refine wp_app_src rfl (.tmp 75) (.tmp 76) rfl wA.heap.size _ _ _ [] [aa, bb, cc] _ _ rfl rfl r0 src (by simp) (by simp) (by simp) hs1 ?_; intro v5 wB own5 hg5; have d5 := r0.belowOf hg5 (Nat.le_refl _) hs1; have hs5 : wA.heap.size ≤ wB.heap.size := Nat.le_trans hs1 d5.size; have src5 := src.below d5 (by omega))
              | (at_builtin; refine wp_app_src rfl (.tmp 77) (.tmp 78) rfl wA.heap.size _ _ _ _ [aa, bb, cc] _ _ rfl rfl own5 src5 (by simp) (by simp) (by simp) hs5 ?_; intro v6 wC own6 hg6; have d6 := own5.belowOf hg6 (Nat.le_refl _) hs5))
            obtain ⟨A6, c6, rfl, hc61, hc62, hR6⟩ := own6.val
            have D6 := C4.trans ((d1.trans (d5.trans d6)).mono zA)
            have rowC := (src5.below d6 (by omega))
            have zC := (d1.trans (d5.trans d6)).size
            refine (iProductOf_any _ _ _ _ _ _ _ _ T ([] ++ [aa, bb, cc] ++ [aa, bb, cc]) _ (m5.below D6 (by omega)) (by omega) hS hR6 (Nat.le_refl _) (by simp) hc61 hc62).mono ?_
            rw [show ([] ++ [aa, bb, cc] ++ [aa, bb, cc] : List Int) = [aa, bb, cc, aa, bb, cc] from rfl, PX.out]
            rintro e wD ⟨rfl, d7⟩
            have D7 := D6.trans (d7.mono D6.size)
            have zD := d7.size
            go_wp2_with fail
            refine (iProductOf_any _ _ _ 3 _ _ _ _ T [aa, bb, cc] wD (m5.below D7 (by omega)) (by omega) hS (rowC.below d7 (by omega)) (by omega) (by simp) (by simp) (by omega)).mono ?_
            rintro e wE ⟨rfl, d8⟩
            have D8 := D7.trans (d8.mono D7.size)
            go_wp2
            go_roundg (T.length * T.length - (p + 1))
            case measure => go_light; omega
            case rel => go_light; exact ⟨p + 1, by omega, rfl, by go_num, D8⟩
          · have hpi : ¬ (p : Int) < (T.length : Int) * (T.length : Int) := by rw [← Int.natCast_mul]; omega
            obtain ⟨w14, rfl⟩ : ∃ w_ : World, w_ = wr := ⟨_, rfl⟩
            have B14 := B5.trans (hB.mono B5.size)
            have m14 := m5.below hB (by omega)
            go_wp2_with fail
            refine (iTurnedOf_any _ _ _ _ _ _ m14 (by omega) hS).mono ?_
            rintro e w15 ⟨A15, c15, rfl, b15, o15⟩
            have B15 := B14.trans (b15.mono B14.size)
            go_wp2_with fail
            refine (iBandOk_any _ _ _ _ _ _ o15.mat (Nat.le_refl _) hT2).mono ?_
            rw [HT.out, hb]
            rintro e w16 ⟨rfl, b16⟩
            have B16 := B15.trans (b16.mono B15.size)
            go_wp2_with fail
            refine (alive_any _).mono ?_
            rintro e w17 ⟨rfl, b17⟩
            go_wp2
            go_ret
            exact ⟨rfl, B16.trans (b17.mono B16.size)⟩
    · have HBT := hide (bandT_times hcb)
      cases hb : bandT T
      · go_wp2_with fail
        refine (iBandOk_any _ _ _ _ _ _ o5.mat (Nat.le_refl _) hST).mono ?_
        rw [HBT.out, hb, Bool.false_and]
        rintro e w6 ⟨rfl, b6⟩
        have B6 := B5.trans (b6.mono B5.size)
        have m6 := m5.below b6 (by omega)
        have mu6 := mu5.below b6 (by omega)
        have z6 := b6.size
        have hz3 : w1.heap.size ≤ w6.heap.size := by omega
        by_cases hz : (0 : Int) < (T.length : Int) * (T.length : Int)
        all_goals
          go_wp2
          go_loopg [10] 1 (fun g i wr => i = .int .i64 0 ∧ w6 = wr)
          case atStart => exact ⟨rfl, rfl⟩
          case round =>
            obtain ⟨rfl, rfl⟩ := hrel
            go_wp2_with fail
            refine (iTurnedOf_any _ _ _ _ _ _ m6 (by omega) hS).mono ?_
            rintro e w15 ⟨A15, c15, rfl, b15, o15⟩
            have B15 := B6.trans (b15.mono B6.size)
            go_wp2_with fail
            refine (iBandOk_any _ _ _ _ _ _ o15.mat (Nat.le_refl _) hT2).mono ?_
            rw [HT.out, hb]
            rintro e w16 ⟨rfl, b16⟩
            have B16 := B15.trans (b16.mono B15.size)
            go_wp2_with fail
            refine (alive_any _).mono ?_
            rintro e w17 ⟨rfl, b17⟩
            go_wp2
            go_ret
            exact ⟨rfl, B16.trans (b17.mono B16.size)⟩
      · cases hu : bandT U
        · go_wp2_with fail
          refine (iBandOk_any _ _ _ _ _ _ o5.mat (Nat.le_refl _) hST).mono ?_
          rw [HBT.out, hb, hu, Bool.true_and]
          rintro e w6 ⟨rfl, b6⟩
          have B6 := B5.trans (b6.mono B5.size)
          have m6 := m5.below b6 (by omega)
          have mu6 := mu5.below b6 (by omega)
          have z6 := b6.size
          go_wp2_with fail
          refine (iBandOk_any _ _ _ _ _ _ mu6 (by omega) hS2).mono ?_
          rw [hu]
          rintro e w7 ⟨rfl, b7⟩
          have B7 := B6.trans (b7.mono B6.size)
          have m7 := m6.below b7 (by omega)
          have mu7 := mu6.below b7 (by omega)
          have z7 := b7.size
          have bd := bandT_iff.1 hb
          have k := bd.g.tab
          have hk := okT_iff.2 k
          have k1 := k.lo
          have k9 := k.hi
          have h0 : ¬ T.length = 0 := by omega
          have h01 : ¬ T = [] := fun e => by subst e; exact h0 rfl
          obtain ⟨⟨n20, n21⟩, _, _⟩ := sq_int k9
          have zW : w1.heap.size ≤ w7.heap.size := by omega
          clear nn1
          go_wp2
          go_loopg [10] (T.length * T.length) (fun g i wr => ∃ p : Nat, p ≤ T.length * T.length ∧ g = T.length * T.length - p ∧ i = .int .i64 p ∧ Below w7.heap.size w7 wr)
          case atStart => exact ⟨0, Nat.zero_le _, rfl, rfl, Below.refl _ _⟩
          case round =>
            obtain ⟨p, hp, rfl, rfl, hB⟩ := hrel
            have zB := hB.size
            by_cases hpt : p < T.length * T.length
            · have hpi : (p : Int) < (T.length : Int) * (T.length : Int) := by rw [← Int.natCast_mul]; exact Int.ofNat_lt.2 hpt
              obtain ⟨a0, a1⟩ := div_in k1 hpt
              have b0 : 0 ≤ (p : Int) % (T.length : Int) := Int.emod_nonneg _ (by omega)
              have b1 : (p : Int) % (T.length : Int) < (T.length : Int) := Int.emod_lt_of_pos _ (by omega)
              have e0 : 0 ≤ ((p : Int) * 5 + 1) % (T.length : Int) := Int.emod_nonneg _ (by omega)
              have e1 : ((p : Int) * 5 + 1) % (T.length : Int) < (T.length : Int) := Int.emod_lt_of_pos _ (by omega)
              obtain ⟨qa1, qa2, qa3, qa4⟩ := wrapQ (p : Int) (T.length : Int) (by omega) (by omega) (by omega)
              obtain ⟨qb1, qb2, qb3, qb4⟩ := wrapQ ((p : Int) * 5 + 1) (T.length : Int) (by omega) (by omega) (by omega)
              have w5_ : IntKind.i64.wrap ((p : Int) * 5) = (p : Int) * 5 := IntWalk.i64_in _ ⟨by omega, by omega⟩
              have w6_ : IntKind.i64.wrap ((p : Int) * 5 + 1) = (p : Int) * 5 + 1 := IntWalk.i64_in _ ⟨by omega, by omega⟩
              obtain ⟨wo, rfl⟩ : ∃ wo : World, wo = wr := ⟨_, rfl⟩
              go_wp2_with fail
              go_region_held3 (fun W => Below w7.heap.size w7 W)
                (first
                  | exact hB.drew
                  | exact Below.alloc (by assumption) (Below.size (by assumption)) _)
                (first
                  | fail)
              clear qa1 qa2 qa3 qa4 qb1 qb2 qb3 qb4 w5_ w6_
              generalize ((p : Int) * 5 + 1) % (T.length : Int) = cc at *
              generalize (p : Int) / (T.length : Int) = aa at *
              generalize (p : Int) % (T.length : Int) = bb at *
              have hRow : Row ((wo.alloc (.cells #[.int .i64 aa, .int .i64 bb, .int .i64 cc] 3)).drew) wo.heap.size (wo.heap.size + 1) (some ⟨wo.heap.size, 0, none⟩) [aa, bb, cc] := (row_lit (W := wo) #[.int .i64 aa, .int .i64 bb, .int .i64 cc] rfl).drewN 1
              have c4 : Below wo.heap.size wo ((wo.alloc (.cells #[.int .i64 aa, .int .i64 bb, .int .i64 cc] 3)).drew) := ((Below.refl wo.heap.size wo).more _).drew
              have es : (wo.alloc (.cells #[.int .i64 aa, .int .i64 bb, .int .i64 cc] 3)).heap.size = wo.heap.size + 1 := by simp
              have z4 : wo.heap.size < ((wo.alloc (.cells #[.int .i64 aa, .int .i64 bb, .int .i64 cc] 3)).drew).heap.size := by show wo.heap.size < (wo.alloc (.cells #[.int .i64 aa, .int .i64 bb, .int .i64 cc] 3)).heap.size; omega
              clear es
              generalize (wo.alloc (.cells #[.int .i64 aa, .int .i64 bb, .int .i64 cc] 3)).drew = wA at *
              have C4 := hB.trans (c4.mono hB.size)
              have PX := hide ((prod6 hk a0 a1 b0 b1 e0 e1).trans ((band_twice hb a0 a1 b0 b1 e0 e1).trans (prod3 hk a0 a1 b0 b1 e0 e1).symm))
              have zA := C4.size
              have d1 := (Below.refl wA.heap.size wA).alloc (Nat.le_refl _) (.cells #[] 3)
              have r0 := ARow.made (w := wA) (Nat.le_refl _)
              have src := hRow.below d1 (by omega)
              have hs1 := d1.size
              go_wp2_with (first
                | (at_builtin; refine wp_app_src rfl (.tmp 75) (.tmp 76) rfl wA.heap.size _ _ _ [] [aa, bb, cc] _ _ rfl rfl r0 src (by simp) (by simp) (by simp) hs1 ?_; intro v5 wB own5 hg5; have d5 := r0.belowOf hg5 (Nat.le_refl _) hs1; have hs5 : wA.heap.size ≤ wB.heap.size := Nat.le_trans hs1 d5.size; have src5 := src.below d5 (by omega))
                | (at_builtin; refine wp_app_src rfl (.tmp 77) (.tmp 78) rfl wA.heap.size _ _ _ _ [aa, bb, cc] _ _ rfl rfl own5 src5 (by simp) (by simp) (by simp) hs5 ?_; intro v6 wC own6 hg6; have d6 := own5.belowOf hg6 (Nat.le_refl _) hs5))
              obtain ⟨A6, c6, rfl, hc61, hc62, hR6⟩ := own6.val
              have D6 := C4.trans ((d1.trans (d5.trans d6)).mono zA)
              have rowC := (src5.below d6 (by omega))
              have zC := (d1.trans (d5.trans d6)).size
              refine (iProductOf_any _ _ _ _ _ _ _ _ T ([] ++ [aa, bb, cc] ++ [aa, bb, cc]) _ (m7.below D6 (by omega)) (by omega) hS hR6 (Nat.le_refl _) (by simp) hc61 hc62).mono ?_
              rw [show ([] ++ [aa, bb, cc] ++ [aa, bb, cc] : List Int) = [aa, bb, cc, aa, bb, cc] from rfl, PX.out]
              rintro e wD ⟨rfl, d7⟩
              have D7 := D6.trans (d7.mono D6.size)
              have zD := d7.size
              go_wp2_with fail
              refine (iProductOf_any _ _ _ 3 _ _ _ _ T [aa, bb, cc] wD (m7.below D7 (by omega)) (by omega) hS (rowC.below d7 (by omega)) (by omega) (by simp) (by simp) (by omega)).mono ?_
              rintro e wE ⟨rfl, d8⟩
              have D8 := D7.trans (d8.mono D7.size)
              go_wp2
              go_roundg (T.length * T.length - (p + 1))
              case measure => go_light; omega
              case rel => go_light; exact ⟨p + 1, by omega, rfl, by go_num, D8⟩
            · have hpi : ¬ (p : Int) < (T.length : Int) * (T.length : Int) := by rw [← Int.natCast_mul]; omega
              obtain ⟨w14, rfl⟩ : ∃ w_ : World, w_ = wr := ⟨_, rfl⟩
              have B14 := B7.trans (hB.mono B7.size)
              have m14 := m7.below hB (by omega)
              go_wp2_with fail
              refine (iTurnedOf_any _ _ _ _ _ _ m14 (by omega) hS).mono ?_
              rintro e w15 ⟨A15, c15, rfl, b15, o15⟩
              have B15 := B14.trans (b15.mono B14.size)
              go_wp2_with fail
              refine (iBandOk_any _ _ _ _ _ _ o15.mat (Nat.le_refl _) hT2).mono ?_
              rw [HT.out, hb]
              rintro e w16 ⟨rfl, b16⟩
              have B16 := B15.trans (b16.mono B15.size)
              go_wp2_with fail
              refine (alive_any _).mono ?_
              rintro e w17 ⟨rfl, b17⟩
              go_wp2
              go_ret
              exact ⟨rfl, B16.trans (b17.mono B16.size)⟩
        · go_wp2_with fail
          refine (iBandOk_any _ _ _ _ _ _ o5.mat (Nat.le_refl _) hST).mono ?_
          rw [HBT.out, hb, hu, Bool.true_and]
          rintro e w6 ⟨rfl, b6⟩
          have B6 := B5.trans (b6.mono B5.size)
          have m6 := m5.below b6 (by omega)
          have mu6 := mu5.below b6 (by omega)
          have z6 := b6.size
          go_wp2_with fail
          refine (iBandOk_any _ _ _ _ _ _ mu6 (by omega) hS2).mono ?_
          rw [hu]
          rintro e w7 ⟨rfl, b7⟩
          have B7 := B6.trans (b7.mono B6.size)
          have m7 := m6.below b7 (by omega)
          have mu7 := mu6.below b7 (by omega)
          have z7 := b7.size
          have bd := bandT_iff.1 hb
          have k := bd.g.tab
          have hk := okT_iff.2 k
          have k1 := k.lo
          have k9 := k.hi
          have h0 : ¬ T.length = 0 := by omega
          have h01 : ¬ T = [] := fun e => by subst e; exact h0 rfl
          obtain ⟨⟨n20, n21⟩, _, _⟩ := sq_int k9
          have zW : w1.heap.size ≤ w7.heap.size := by omega
          clear nn1
          go_wp2
          go_loopg [10] (T.length * T.length) (fun g i wr => ∃ p : Nat, p ≤ T.length * T.length ∧ g = T.length * T.length - p ∧ i = .int .i64 p ∧ Below w7.heap.size w7 wr)
          case atStart => exact ⟨0, Nat.zero_le _, rfl, rfl, Below.refl _ _⟩
          case round =>
            obtain ⟨p, hp, rfl, rfl, hB⟩ := hrel
            have zB := hB.size
            by_cases hpt : p < T.length * T.length
            · have hpi : (p : Int) < (T.length : Int) * (T.length : Int) := by rw [← Int.natCast_mul]; exact Int.ofNat_lt.2 hpt
              obtain ⟨a0, a1⟩ := div_in k1 hpt
              have b0 : 0 ≤ (p : Int) % (T.length : Int) := Int.emod_nonneg _ (by omega)
              have b1 : (p : Int) % (T.length : Int) < (T.length : Int) := Int.emod_lt_of_pos _ (by omega)
              have e0 : 0 ≤ ((p : Int) * 5 + 1) % (T.length : Int) := Int.emod_nonneg _ (by omega)
              have e1 : ((p : Int) * 5 + 1) % (T.length : Int) < (T.length : Int) := Int.emod_lt_of_pos _ (by omega)
              obtain ⟨qa1, qa2, qa3, qa4⟩ := wrapQ (p : Int) (T.length : Int) (by omega) (by omega) (by omega)
              obtain ⟨qb1, qb2, qb3, qb4⟩ := wrapQ ((p : Int) * 5 + 1) (T.length : Int) (by omega) (by omega) (by omega)
              have w5_ : IntKind.i64.wrap ((p : Int) * 5) = (p : Int) * 5 := IntWalk.i64_in _ ⟨by omega, by omega⟩
              have w6_ : IntKind.i64.wrap ((p : Int) * 5 + 1) = (p : Int) * 5 + 1 := IntWalk.i64_in _ ⟨by omega, by omega⟩
              obtain ⟨wo, rfl⟩ : ∃ wo : World, wo = wr := ⟨_, rfl⟩
              go_wp2_with fail
              go_region_held3 (fun W => Below w7.heap.size w7 W)
                (first
                  | exact hB.drew
                  | exact Below.alloc (by assumption) (Below.size (by assumption)) _)
                (first
                  | fail)
              clear qa1 qa2 qa3 qa4 qb1 qb2 qb3 qb4 w5_ w6_
              generalize ((p : Int) * 5 + 1) % (T.length : Int) = cc at *
              generalize (p : Int) / (T.length : Int) = aa at *
              generalize (p : Int) % (T.length : Int) = bb at *
              have hRow : Row ((wo.alloc (.cells #[.int .i64 aa, .int .i64 bb, .int .i64 cc] 3)).drew) wo.heap.size (wo.heap.size + 1) (some ⟨wo.heap.size, 0, none⟩) [aa, bb, cc] := (row_lit (W := wo) #[.int .i64 aa, .int .i64 bb, .int .i64 cc] rfl).drewN 1
              have c4 : Below wo.heap.size wo ((wo.alloc (.cells #[.int .i64 aa, .int .i64 bb, .int .i64 cc] 3)).drew) := ((Below.refl wo.heap.size wo).more _).drew
              have es : (wo.alloc (.cells #[.int .i64 aa, .int .i64 bb, .int .i64 cc] 3)).heap.size = wo.heap.size + 1 := by simp
              have z4 : wo.heap.size < ((wo.alloc (.cells #[.int .i64 aa, .int .i64 bb, .int .i64 cc] 3)).drew).heap.size := by show wo.heap.size < (wo.alloc (.cells #[.int .i64 aa, .int .i64 bb, .int .i64 cc] 3)).heap.size; omega
              clear es
              generalize (wo.alloc (.cells #[.int .i64 aa, .int .i64 bb, .int .i64 cc] 3)).drew = wA at *
              have C4 := hB.trans (c4.mono hB.size)
              have PX := hide ((prod6 hk a0 a1 b0 b1 e0 e1).trans ((band_twice hb a0 a1 b0 b1 e0 e1).trans (prod3 hk a0 a1 b0 b1 e0 e1).symm))
              have zA := C4.size
              have d1 := (Below.refl wA.heap.size wA).alloc (Nat.le_refl _) (.cells #[] 3)
              have r0 := ARow.made (w := wA) (Nat.le_refl _)
              have src := hRow.below d1 (by omega)
              have hs1 := d1.size
              go_wp2_with (first
                | (at_builtin; refine wp_app_src rfl (.tmp 75) (.tmp 76) rfl wA.heap.size _ _ _ [] [aa, bb, cc] _ _ rfl rfl r0 src (by simp) (by simp) (by simp) hs1 ?_; intro v5 wB own5 hg5; have d5 := r0.belowOf hg5 (Nat.le_refl _) hs1; have hs5 : wA.heap.size ≤ wB.heap.size := Nat.le_trans hs1 d5.size; have src5 := src.below d5 (by omega))
                | (at_builtin; refine wp_app_src rfl (.tmp 77) (.tmp 78) rfl wA.heap.size _ _ _ _ [aa, bb, cc] _ _ rfl rfl own5 src5 (by simp) (by simp) (by simp) hs5 ?_; intro v6 wC own6 hg6; have d6 := own5.belowOf hg6 (Nat.le_refl _) hs5))
              obtain ⟨A6, c6, rfl, hc61, hc62, hR6⟩ := own6.val
              have D6 := C4.trans ((d1.trans (d5.trans d6)).mono zA)
              have rowC := (src5.below d6 (by omega))
              have zC := (d1.trans (d5.trans d6)).size
              refine (iProductOf_any _ _ _ _ _ _ _ _ T ([] ++ [aa, bb, cc] ++ [aa, bb, cc]) _ (m7.below D6 (by omega)) (by omega) hS hR6 (Nat.le_refl _) (by simp) hc61 hc62).mono ?_
              rw [show ([] ++ [aa, bb, cc] ++ [aa, bb, cc] : List Int) = [aa, bb, cc, aa, bb, cc] from rfl, PX.out]
              rintro e wD ⟨rfl, d7⟩
              have D7 := D6.trans (d7.mono D6.size)
              have zD := d7.size
              go_wp2_with fail
              refine (iProductOf_any _ _ _ 3 _ _ _ _ T [aa, bb, cc] wD (m7.below D7 (by omega)) (by omega) hS (rowC.below d7 (by omega)) (by omega) (by simp) (by simp) (by omega)).mono ?_
              rintro e wE ⟨rfl, d8⟩
              have D8 := D7.trans (d8.mono D7.size)
              go_wp2
              go_roundg (T.length * T.length - (p + 1))
              case measure => go_light; omega
              case rel => go_light; exact ⟨p + 1, by omega, rfl, by go_num, D8⟩
            · have hpi : ¬ (p : Int) < (T.length : Int) * (T.length : Int) := by rw [← Int.natCast_mul]; omega
              obtain ⟨w14, rfl⟩ : ∃ w_ : World, w_ = wr := ⟨_, rfl⟩
              have B14 := B7.trans (hB.mono B7.size)
              have m14 := m7.below hB (by omega)
              go_wp2_with fail
              refine (iTurnedOf_any _ _ _ _ _ _ m14 (by omega) hS).mono ?_
              rintro e w15 ⟨A15, c15, rfl, b15, o15⟩
              have B15 := B14.trans (b15.mono B14.size)
              go_wp2_with fail
              refine (iBandOk_any _ _ _ _ _ _ o15.mat (Nat.le_refl _) hT2).mono ?_
              rw [HT.out, hb]
              rintro e w16 ⟨rfl, b16⟩
              have B16 := B15.trans (b16.mono B15.size)
              go_wp2_with fail
              refine (alive_any _).mono ?_
              rintro e w17 ⟨rfl, b17⟩
              go_wp2
              go_ret
              exact ⟨rfl, B16.trans (b17.mono B16.size)⟩

set_option maxRecDepth 100000 in
theorem lifted_FnBandOk (os : Os) (started : os.Started) (H : Type) (enc : TypeId × Value → H) :
    ReturnsInHanded {} Try.checked os 3 .any (Rows.fnBandOkSpec.pre6 enc Try.prog Try.f3 Rows.fnBandOkRow.domain false) (Rows.fnBandOkSpec.post enc Try.prog Try.f3 false true false false) := by
  refine returnsInHanded_of_change (C := Try.checked) own started (by kernel_rfl) Try.func3
    (ChangeSpec.witness6 (enc := enc) (C := Try.checked) false ⟨#[], #[.slice none 0 0, .slice none 0 0], []⟩ 8 (by kernel_rfl) (by kernel_rfl) (by kernel_rfl) (by kernel_rfl)) ?_
  intro W base args ds gs before hval0 hW hcnd _
  have hval : ∀ (j : Nat) t v, Try.f3.params[j]? = some t → args[j]? = some v → Value.okWide Try.prog W .any base t v := hval0
  have hW' := hW
  obtain ⟨p, q, hA0, hV, rfl, hfz, hnd⟩ := hW
  have hA : DataW.TrodAll enc Try.prog W 0 (fun _ => true) true Try.f3.params.toList args.toList ds p := hA0
  rw [Try.params3] at hA hval
  obtain ⟨v0, vs0, d0, ds0, p0, q0, hargs, rfl, rfl, h0, r0⟩ := trodAll_cons hA
  obtain ⟨v1, vs1, d1, ds1, p1, q1, rfl, rfl, rfl, h1, r1⟩ := trodAll_cons r0
  obtain ⟨rfl, rfl, rfl⟩ := trodAll_nil r1
  obtain rfl : args = #[v0, v1] := by cases args; simp_all
  obtain ⟨rfl, rfl⟩ := trodVars_none hV
  obtain ⟨a0, len0, cap0, rfl⟩ := okWide_slice Try.underlying22 (hval 0 22 v0 rfl rfl)
  have k0 := h0
  have lt0 : ∀ x ∈ p0, x.block < W.heap.size := by obtain ⟨m, hm⟩ := k0; exact DataW.trod_lt m _ _ _ hm
  obtain ⟨fuel0, hf0⟩ := h0
  obtain ⟨hl0, hS0, hT0⟩ := open_bytes hf0
  obtain ⟨a1, len1, cap1, rfl⟩ := okWide_slice Try.underlying22 (hval 1 22 v1 rfl rfl)
  have k1 := h1
  have lt1 : ∀ x ∈ p1, x.block < W.heap.size := by obtain ⟨m, hm⟩ := k1; exact DataW.trod_lt m _ _ _ hm
  obtain ⟨fuel1, hf1⟩ := h1
  obtain ⟨hl1, hS1, hT1⟩ := open_bytes hf1
  clear hA0 hval0
  refine (fnBandOk_walk a0 len0 cap0 a1 len1 cap1 W hT0 hl0 hS0 hT1 hl1 hS1).mono fun e W' ⟨he, bel⟩ => ?_
  subst he
  exact ⟨_, rfl, _, _, _, [], _, [], hW', trodAll_mk1 (shut_bool Try.underlying4 _), (trodAll_cons_mk (Below.trod laidOut (by kernel_rfl) (of_decide_eq_true (by kernel_rfl)) k0 bel lt0) (trodAll_cons_mk (Below.trod laidOut (by kernel_rfl) (of_decide_eq_true (by kernel_rfl)) k1 bel lt1) trodAll_mk0)), rfl, bel.frame _, fun h => by cases h⟩

theorem closed_FnBandOk : joinedFacts Try.pinned.checked.prog 3 Try.f3 Rows.fnBandOkSpec Rows.fnBandOkRow = true := by
  unfold joinedFacts
  rw [fit_enter, fit_final, fit_make]
  kernel_rfl

theorem fnBandOk_holds : Rows.FnBandOkSaid :=
  OpenClaim.holds_of_wide 3 Try.f3 rfl rfl rfl rfl rfl rfl rfl ⟨rfl, rfl, rfl, rfl, rfl⟩ rfl rfl rfl rfl rfl (by kernel_rfl) Try.func3 closed_FnBandOk
    (of_decide_eq_true (by kernel_rfl)) (by unfold Func.isWrapper; first | (rw [if_pos (by decide +kernel)]; kernel_rfl) | (rw [if_neg (by decide +kernel)]; exact ⟨rfl, rfl⟩))
    (fun os started H enc _ => lifted_FnBandOk os started H enc)

#print axioms fnBandOk_holds
end Go.Proofs.Ytcegjiiondmchab
