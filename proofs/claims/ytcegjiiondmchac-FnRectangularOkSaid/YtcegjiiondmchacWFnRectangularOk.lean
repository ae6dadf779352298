/- The walk of FnRectangularOk. -/
import Derived.Test.YtcegjiiondmchacEq
import Derived.Test.YtcegjiiondmchacPureX
import Derived.Test.YtcegjiiondmchacIband
import Derived.Test.YtcegjiiondmchacIrect
import Derived.Test.YtcegjiiondmchacDrawRects
import Derived.Test.YtcegjiiondmchacProd
import Derived.Test.YtcegjiiondmchacDrawS
namespace Go.Proofs.Ytcegjiiondmchac
open Go.RowKit
set_option linter.unusedVariables false

theorem okRow2 {T : List (List Int)} {a b : Int} (a0 : 0 ≤ a) (a1 : a < T.length) (b0 : 0 ≤ b) (b1 : b < T.length) : okRow T.length [a, b] = true := by
  simp [okRow]; omega
theorem prod2 {T : List (List Int)} {a b : Int} (h : okT T = true) (a0 : 0 ≤ a) (a1 : a < T.length) (b0 : 0 ≤ b) (b1 : b < T.length) : prodT T [a, b] = mul T a b := by
  rw [prodT_ok h (by simp) (okRow2 a0 a1 b0 b1)]; rfl
theorem prod3 {T : List (List Int)} {a b c : Int} (h : okT T = true) (a0 : 0 ≤ a) (a1 : a < T.length) (b0 : 0 ≤ b) (b1 : b < T.length) (c0 : 0 ≤ c) (c1 : c < T.length) : prodT T [a, b, c] = mul T (mul T a b) c := by
  rw [prodT_ok h (by simp) (by simp [okRow]; omega)]; rfl
theorem prod6 {T : List (List Int)} {a b c : Int} (h : okT T = true) (a0 : 0 ≤ a) (a1 : a < T.length) (b0 : 0 ≤ b) (b1 : b < T.length) (c0 : 0 ≤ c) (c1 : c < T.length) : prodT T [a, b, c, a, b, c] = mul T (mul T (mul T (mul T (mul T a b) c) a) b) c := by
  rw [prodT_ok h (by simp) (by simp [okRow]; omega)]; rfl

set_option maxRecDepth 20000 in
set_option maxHeartbeats 8000000 in
theorem fnRectangularOk_walk (A : Option Addr) (n c : Nat) (w : World) (h : Bytes w w.heap.size A n) (hc : n ≤ c) (hc2 : c ≤ 9223372036854775807) :
    Calls Try.prog 4 #[.slice A n c] w fun e w' => e = .returned (.bool true) ∧ Below w.heap.size w w' := by
  by_cases hn : (1048576 : Int) < (n : Int)
  · go_enter Try.func4, Try.ntmps4
    go_wp2
    go_ret
    exact ⟨rfl, Below.refl _ _⟩
  · go_enter Try.func4, Try.ntmps4
    go_wp2_with fail
    refine (drawRectangularOk_any A n c w h hc hc2).mono ?_
    rintro e w1 ⟨A1, c1, T, rfl, B1, m1, hS⟩
    have hlT := hS.len
    go_wp2_with fail
    refine (iRectangularOk_any _ _ _ _ _ _ m1 (by omega) hS).mono ?_
    rintro e w2 ⟨rfl, b2⟩
    have B2 := B1.trans (b2.mono B1.size)
    have m2 := m1.below b2 (by omega)
    have z2 := b2.size
    go_wp2_with fail
    refine (sRectangularOk_any _ _ _ _ _ _ m2 hS).mono ?_
    rintro e w3 ⟨rfl, q3⟩
    have B3 := B2.trans (q3.below w.heap.size)
    have m3 := m2.quiet q3
    have z3 := q3.below 0 |>.size
    have hnn : 0 ≤ (T.length : Int) * (T.length : Int) ∧ (T.length : Int) * (T.length : Int) ≤ 1099511627776 := by
      have := Nat.mul_le_mul hlT hlT
      rw [← Int.natCast_mul]; omega
    obtain ⟨nn0, nn1⟩ := hnn
    cases hr : rectT T
    · have hf : firstT T = false := by
        cases e : firstT T with
        | false => rfl
        | true => have := first_rect e; rw [hr] at this; cases this
      by_cases hz : (0 : Int) < (T.length : Int) * (T.length : Int)
      all_goals
        go_wp2
        go_loopg [5] 1 (fun g i wr => i = .int .i64 0 ∧ w3 = wr)
        case atStart => exact ⟨rfl, rfl⟩
        case round =>
          obtain ⟨rfl, rfl⟩ := hrel
          go_wp2_with fail
          refine (iFirstOk_any _ _ _ _ _ _ m3 (by omega) hS).mono ?_
          rw [hf]
          rintro e w4 ⟨rfl, b4⟩
          have B4 := B3.trans (b4.mono B3.size)
          have m4 := m3.below b4 (by omega)
          have z4 := b4.size
          have c9 := (((Below.refl w4.heap.size w4).more (.cells #[.int .i64 0, .int .i64 0] 3)).more (.cells #[.int .i64 1, .int .i64 1] 3)).more (.cells #[.slice (some ⟨w4.heap.size, 0, none⟩) 2 2, .slice (some ⟨w4.heap.size + 1, 0, none⟩) 2 2] 37)
          have l9 := lit2 (W := w4) 0 0 1 1 rfl
          have HLF := hide lit_rect
          go_wp2_with fail
          refine (iRectangularOk_any _ 2 _ _ [[0, 0], [1, 1]] _ l9 (by simp) (small2 0 0 1 1)).mono ?_
          rw [HLF.out]
          rintro e w9 ⟨rfl, b9⟩
          go_wp2
          go_ret
          exact ⟨rfl, (B4.trans (c9.mono B4.size)).trans (b9.mono (B4.trans (c9.mono B4.size)).size)⟩
    · have k := rect_tab hr
      have hk := rect_ok hr
      have k1 := k.lo
      have k9 := k.hi
      have h0 : ¬ T.length = 0 := by omega
      have h01 : ¬ T = [] := fun e => by subst e; exact h0 rfl
      obtain ⟨⟨n20, n21⟩, _, _⟩ := sq_int k9
      clear nn1
      go_wp2
      go_loopg [5] (T.length * T.length) (fun g i wr => ∃ p : Nat, p ≤ T.length * T.length ∧ g = T.length * T.length - p ∧ i = .int .i64 p ∧ Below w3.heap.size w3 wr)
      case atStart => exact ⟨0, Nat.zero_le _, rfl, rfl, Below.refl _ _⟩
      case round =>
        obtain ⟨p, hp, rfl, rfl, hB⟩ := hrel
        have zB := hB.size
        by_cases hpt : p < T.length * T.length
        · have hpi : (p : Int) < (T.length : Int) * (T.length : Int) := by rw [← Int.natCast_mul]; exact Int.ofNat_lt.2 hpt
          obtain ⟨a0, a1⟩ := div_in k1 hpt
          have b0 : 0 ≤ (p : Int) % (T.length : Int) := Int.emod_nonneg _ (by omega)
          have b1 : (p : Int) % (T.length : Int) < (T.length : Int) := Int.emod_lt_of_pos _ (by omega)
          have e0 : 0 ≤ ((p : Int) * 5 + 1) % (T.length : Int) := Int.emod_nonneg _ (by omega)
          have e1 : ((p : Int) * 5 + 1) % (T.length : Int) < (T.length : Int) := Int.emod_lt_of_pos _ (by omega)
          go_wp2_with fail
          generalize ((p : Int) * 5 + 1) % (T.length : Int) = cc at e0 e1 ⊢
          generalize (p : Int) / (T.length : Int) = aa at a0 a1 ⊢
          generalize (p : Int) % (T.length : Int) = bb at b0 b1 ⊢
          have HX := hide ((prod3 hk a0 a1 b0 b1 e0 e1).trans ((rect_three hr a0 a1 b0 b1 e0 e1).trans (prod2 hk a0 a1 e0 e1).symm))
          have c4 := (Below.refl wr.heap.size wr).more (.cells #[.int .i64 aa, .int .i64 bb, .int .i64 cc] 3)
          have C4 := hB.trans (c4.mono hB.size)
          refine (iProductOf_any _ _ _ 3 _ _ _ _ T [aa, bb, cc] _ (m3.below C4 (by omega)) (by have := C4.size; omega) hS (row_lit (W := wr) #[.int .i64 aa, .int .i64 bb, .int .i64 cc] rfl) (by simp) (by simp) (by simp) (by omega)).mono ?_
          rw [HX.out]
          rintro e w5 ⟨rfl, b5⟩
          have C5 := C4.trans (b5.mono C4.size)
          go_wp2_with fail
          have c6 := (Below.refl w5.heap.size w5).more (.cells #[.int .i64 aa, .int .i64 cc] 3)
          have C6 := C5.trans (c6.mono C5.size)
          refine (iProductOf_any _ _ _ 2 _ _ _ _ T [aa, cc] _ (m3.below C6 (by omega)) (by have := C6.size; omega) hS (row_lit (W := w5) #[.int .i64 aa, .int .i64 cc] rfl) (by simp) (by simp) (by simp) (by omega)).mono ?_
          rintro e w7 ⟨rfl, b7⟩
          have C7 := C6.trans (b7.mono C6.size)
          go_wp2
          go_roundg (T.length * T.length - (p + 1))
          case measure => go_light; omega
          case rel => go_light; exact ⟨p + 1, by omega, rfl, by go_num, C7⟩
        · have hpi : ¬ (p : Int) < (T.length : Int) * (T.length : Int) := by rw [← Int.natCast_mul]; omega
          obtain ⟨w4, rfl⟩ : ∃ w_ : World, w_ = wr := ⟨_, rfl⟩
          have B4 := B3.trans (hB.mono B3.size)
          have m4 := m3.below hB (by omega)
          by_cases h1 : T.length = 1
          · have hb : ((T.length : Int) == 1) = true := by simp [h1]
            clear h1
            cases hf : firstT T
            all_goals
              go_wp2_with fail
              refine (iFirstOk_any _ _ _ _ _ _ m4 (by omega) hS).mono ?_
              rw [hf]
              rintro e w5 ⟨rfl, b5⟩
              have B5 := B4.trans (b5.mono B4.size)
              have m5 := m4.below b5 (by omega)
              have z5 := b5.size
              have c9 := (((Below.refl w5.heap.size w5).more (.cells #[.int .i64 0, .int .i64 0] 3)).more (.cells #[.int .i64 1, .int .i64 1] 3)).more (.cells #[.slice (some ⟨w5.heap.size, 0, none⟩) 2 2, .slice (some ⟨w5.heap.size + 1, 0, none⟩) 2 2] 37)
              have l9 := lit2 (W := w5) 0 0 1 1 rfl
              have HLF := hide lit_rect
              go_wp2_with fail
              refine (iRectangularOk_any _ 2 _ _ [[0, 0], [1, 1]] _ l9 (by simp) (small2 0 0 1 1)).mono ?_
              rw [HLF.out]
              rintro e w9 ⟨rfl, b9⟩
              go_wp2
              go_ret
              exact ⟨rfl, (B5.trans (c9.mono B5.size)).trans (b9.mono (B5.trans (c9.mono B5.size)).size)⟩
          · have hm := rect_meet hr h1
            have hb : ((T.length : Int) == 1) = false := beq_eq_false_iff_ne.2 (by omega)
            clear h1
            cases hf : firstT T
            all_goals
              go_wp2_with fail
              refine (iFirstOk_any _ _ _ _ _ _ m4 (by omega) hS).mono ?_
              rw [hf]
              rintro e w5 ⟨rfl, b5⟩
              have B5 := B4.trans (b5.mono B4.size)
              have m5 := m4.below b5 (by omega)
              have z5 := b5.size
              go_wp2_with fail
              refine (iMeetingOk_any _ _ _ _ _ _ m5 (by omega) hS).mono ?_
              rw [hm]
              rintro e w6 ⟨rfl, b6⟩
              have B6 := B5.trans (b6.mono B5.size)
              have m6 := m5.below b6 (by omega)
              have z6 := b6.size
              have c9 := (((Below.refl w6.heap.size w6).more (.cells #[.int .i64 0, .int .i64 0] 3)).more (.cells #[.int .i64 1, .int .i64 1] 3)).more (.cells #[.slice (some ⟨w6.heap.size, 0, none⟩) 2 2, .slice (some ⟨w6.heap.size + 1, 0, none⟩) 2 2] 37)
              have l9 := lit2 (W := w6) 0 0 1 1 rfl
              have HLF := hide lit_rect
              go_wp2_with fail
              refine (iRectangularOk_any _ 2 _ _ [[0, 0], [1, 1]] _ l9 (by simp) (small2 0 0 1 1)).mono ?_
              rw [HLF.out]
              rintro e w9 ⟨rfl, b9⟩
              go_wp2
              go_ret
              exact ⟨rfl, (B6.trans (c9.mono B6.size)).trans (b9.mono (B6.trans (c9.mono B6.size)).size)⟩

end Go.Proofs.Ytcegjiiondmchac
