/- The walk of FnLevelSet. -/
import Derived.Test.YtcegjiiondmchadEq
import Derived.Test.YtcegjiiondmchadPureX
import Derived.Test.YtcegjiiondmchadIband
import Derived.Test.YtcegjiiondmchadIlev2
import Derived.Test.YtcegjiiondmchadIlev5
import Derived.Test.YtcegjiiondmchadDrawLevs
namespace Go.Proofs.Ytcegjiiondmchad
open Go.RowKit
set_option linter.unusedVariables false

set_option maxRecDepth 20000 in
set_option maxHeartbeats 8000000 in
theorem fnLevelSet_walk (A : Option Addr) (n c : Nat) (w : World) (h : Bytes w w.heap.size A n) (hc : n ≤ c) (hc2 : c ≤ 9223372036854775807) :
    Calls Try.prog 6 #[.slice A n c] w fun e w' => e = .returned (.bool true) ∧ Below w.heap.size w w' := by
  by_cases hn : (1048576 : Int) < (n : Int)
  · go_enter Try.func6, Try.ntmps6
    go_wp2
    go_ret
    exact ⟨rfl, Below.refl _ _⟩
  · go_enter Try.func6, Try.ntmps6
    go_wp2_with fail
    refine (drawLevelSet_any A n c w h hc hc2).mono ?_
    rintro e w1 ⟨A1, c1, T, z, rfl, B1, m1, hS⟩
    have hlT := hS.len
    go_wp2_with fail
    refine (iLevelSet_any _ _ _ _ _ _ w1 m1 (Nat.le_refl _) hS).mono ?_
    rintro e w2 ⟨rfl, b2⟩
    have B2 := B1.trans (b2.mono B1.size)
    have m2 := m1.below b2 (Nat.le_refl _)
    have z2 := b2.size
    go_wp2_with fail
    refine (sLevelSet_any _ _ _ _ _ _ w2 m2 (by omega) hS).mono ?_
    rintro e w3 ⟨rfl, b3⟩
    have B3 := B2.trans (b3.mono B2.size)
    have m3 := m2.below b3 (by omega)
    have z3 := b3.size
    rcases levS_or T z with ⟨es, _⟩ | ⟨v, rfl, hb, hv, es, kP⟩
    · rw [es]
      go_wp2_with fail
      refine (alive_any _).mono ?_
      rintro e w4 ⟨rfl, b4⟩
      go_wp2
      go_ret
      exact ⟨rfl, B3.trans (b4.mono B3.size)⟩
    · have k := band_tab hb
      have k9 := k.hi
      have hnl := nL_le T
      have HC := hide (show countT T = ((nL T : Nat) : Int) from by unfold countT; rw [hb]; rfl)
      have HM := hide kP.made
      have HS := hide (fun v hv => levS_ok (T := T) (l := v) hb hv)
      have h1 := kP.one
      have hlt := kP.lt
      have hp9 := pow_le9 k9
      have hlts : ∀ k, levSum T k < 2 ^ T.length := fun k => by rw [levSum_is hb]; exact msk_lt _ _
      have hbl : ∀ k, levB T k < 2 ^ T.length := fun k => levB_lt k
      have HALL := hide (levSum_all hb)
      have h1i : (0 : Int) < ((levB T v : Nat) : Int) := by omega
      have h0i : ¬ ((levB T v : Nat) : Int) < 0 := by omega
      rw [es]
      clear es m1 m2 b2 b3
      go_wp2
      go_loopg [7, 6] (nL T) (fun g i s wr => ∃ k : Nat, k ≤ nL T ∧ Hid (g = nL T - k) ∧ i = .int .i64 k ∧ s = .int .i64 (levSum T k : Nat) ∧ Below w3.heap.size w3 wr)
      case atStart => exact ⟨0, Nat.zero_le _, rfl, rfl, rfl, Below.refl _ _⟩
      case round =>
        obtain ⟨q, hq, hgk, rfl, rfl, hB⟩ := hrel
        have zB := hB.size
        have B4 := B3.trans (hB.mono B3.size)
        have m4 := m3.below hB (by omega)
        by_cases hqt : q < nL T
        · have hq9 : (q : Int) < 9 := by omega
          have hqi : (q : Int) < ((nL T : Nat) : Int) := by omega
          have l1 := hlts q
          have l2 := hlts (q + 1)
          have l3 := hbl q
          clear hlts hbl
          have HX := hide (show ((levSum T (q + 1) : Nat) : Int) = ((levSum T q : Nat) : Int) + ((levB T q : Nat) : Int) from by simp [levSum])
          go_wp2_with fail
          refine (iCountLevels_any _ _ _ _ _ wr m4 (by omega) hS).mono ?_
          rw [HC.out]
          rintro e w5 ⟨rfl, b5⟩
          have B5 := hB.trans (b5.mono hB.size)
          have m5 := m4.below b5 (by omega)
          have z5 := b5.size
          go_wp2_with fail
          refine (iLevelSet_any _ _ _ _ _ _ w5 m5 (by omega) hS).mono ?_
          rw [HS.out q hqt]
          rintro e w6 ⟨rfl, b6⟩
          have B6 := B5.trans (b6.mono B5.size)
          go_wp2
          go_roundg (nL T - (q + 1))
          case measure => go_light; have := hgk.out; omega
          case rel => go_light; exact ⟨q + 1, by omega, rfl, by go_num, by rw [HX.out], B6⟩
        · obtain rfl : nL T = q := by omega
          have hqi : ¬ ((nL T : Nat) : Int) < ((nL T : Nat) : Int) := by omega
          obtain ⟨g1, g2⟩ := pow_int k9
          have HX := hide (show ((levSum T (nL T) : Nat) : Int) = (2 : Int) ^ T.length - 1 from by
            rw [HALL.out]
            have := Nat.two_pow_pos T.length
            rw [Int.natCast_sub (by omega)]; simp)
          clear hlts hbl hlt hp9
          rw [HX.out]
          go_wp2_with fail
          refine (iCountLevels_any _ _ _ _ _ wr m4 (by omega) hS).mono ?_
          rw [HC.out]
          rintro e w5 ⟨rfl, b5⟩
          have B5 := B4.trans (b5.mono B4.size)
          have m5 := m4.below b5 (by omega)
          have z5 := b5.size
          go_wp2_with fail
          refine (iMadeBy_any _ _ _ _ _ _ w5 m5 (by omega) hS).mono ?_
          rw [HM.out]
          rintro e w6 ⟨rfl, b6⟩
          go_wp2
          go_ret
          exact ⟨rfl, B5.trans (b6.mono B5.size)⟩

end Go.Proofs.Ytcegjiiondmchad
