/- The walk of FnUnderSet. -/
import Derived.Test.YtcegjiiondmchaaEq
import Derived.Test.YtcegjiiondmchaaPureX
import Derived.Test.YtcegjiiondmchaaIband
import Derived.Test.YtcegjiiondmchaaIord
import Derived.Test.YtcegjiiondmchaaSord
import Derived.Test.YtcegjiiondmchaaDrawOrds
import Derived.Test.YtcegjiiondmchaaPartI
import Derived.Test.YtcegjiiondmchaaMadeS
namespace Go.Proofs.Ytcegjiiondmchaa
open Go.RowKit
set_option linter.unusedVariables false

set_option maxRecDepth 20000 in
set_option maxHeartbeats 8000000 in
theorem fnUnderSet_walk (A : Option Addr) (n c : Nat) (w : World) (h : Bytes w w.heap.size A n) (hc : n ≤ c) (hc2 : c ≤ 9223372036854775807) :
    Calls Try.prog 5 #[.slice A n c] w fun e w' => e = .returned (.bool true) ∧ Below w.heap.size w w' := by
  by_cases hn : (1048576 : Int) < (n : Int)
  · go_enter Try.func5, Try.ntmps5
    go_wp2
    go_ret
    exact ⟨rfl, Below.refl _ _⟩
  · go_enter Try.func5, Try.ntmps5
    go_wp2_with fail
    refine (drawUnderSet_any A n c w h hc hc2).mono ?_
    rintro e w1 ⟨A1, c1, T, x, rfl, B1, m1, hS⟩
    have hlT := hS.len
    cases hcan : (bandT T && inT T x)
    · have HE := hide (underS_not hcan)
      go_wp2_with fail
      refine (iUnderSet_any _ _ _ _ _ _ _ m1 (by omega) hS).mono ?_
      rw [HE.out]
      rintro e w2 ⟨rfl, b2⟩
      have B2 := B1.trans (b2.mono B1.size)
      have m2 := m1.below b2 (by omega)
      have z2 := b2.size
      go_wp2_with fail
      refine (sUnderSet_any _ _ _ _ _ _ _ m2 hS).mono ?_
      rw [HE.out]
      rintro e w3 ⟨rfl, q3⟩
      have B3 := B2.trans (q3.below w.heap.size)
      have m3 := m2.quiet q3
      have z3 := q3.below 0 |>.size
      go_wp2_with fail
      refine (alive_any _).mono ?_
      rintro e w4 ⟨rfl, b4⟩
      go_wp2
      go_ret
      exact ⟨rfl, B3.trans (b4.mono B3.size)⟩
    · obtain ⟨hb, a, rfl, ha⟩ := can1.1 hcan
      have bd := bandT_iff.1 hb
      have k := bd.g.tab
      have k9 := k.hi
      have HE := hide (underS_of hb ha)
      have HP := hide (fun b (hb1 : b < T.length) => underS_of hb hb1)
      have HS := hide (fun b (h : (undB T a).testBit b = true) => undB_sub bd ha h)
      have HM := hide (undB_isP bd ha).made
      have hself := bit_one (undB_self bd ha)
      have hp9 := pow_le9 k9
      have hlt := undB_lt (T := T) a
      have HL := hide (fun b => undB_lt (T := T) b)
      obtain ⟨one, hone⟩ := und_one bd ha
      have HO := hide hone
      have hn0 : ¬ ((undB T a : Nat) : Int) < 0 := by omega
      clear hcan hone bd k
      go_wp2_with fail
      refine (iUnderSet_any _ _ _ _ _ _ _ m1 (by omega) hS).mono ?_
      rw [HE.out]
      rintro e w2 ⟨rfl, b2⟩
      have B2 := B1.trans (b2.mono B1.size)
      have m2 := m1.below b2 (by omega)
      have z2 := b2.size
      go_wp2_with fail
      refine (sUnderSet_any _ _ _ _ _ _ _ m2 hS).mono ?_
      rw [HE.out]
      rintro e w3 ⟨rfl, q3⟩
      have B3 := B2.trans (q3.below w.heap.size)
      have m3 := m2.quiet q3
      have z3 := q3.below 0 |>.size
      go_wp2
      go_loopg [6] T.length (fun g i wr => ∃ b : Nat, b ≤ T.length ∧ Hid (g = T.length - b) ∧ i = .int .i64 b ∧ Below w3.heap.size w3 wr)
      case atStart => exact ⟨0, Nat.zero_le _, rfl, rfl, Below.refl _ _⟩
      case round =>
        obtain ⟨b, hbt, hgk, rfl, hB⟩ := hrel
        have mr := m3.below hB (by omega)
        have zr := hB.size
        have Br := B3.trans (hB.mono B3.size)
        by_cases hlb : b < T.length
        · cases eb : (undB T a).testBit b
          · have hA := bit_zero eb
            clear eb
            go_wp2
            go_roundg (T.length - (b + 1))
            case measure => go_light; have := hgk.out; omega
            case rel => go_light; exact ⟨b + 1, by omega, rfl, by go_num, hB⟩
          · have hA := bit_one eb
            have hlb2 := HL.out b
            have HX := hide (show bits .and .i64 ((undB T b : Nat) : Int) ((undB T a : Nat) : Int) = ((undB T b : Nat) : Int) from by rw [(bits_i64 (by omega) (by omega)).1, HS.out b eb])
            have hx := HX.out
            clear eb hlb2
            go_wp2_with fail
            refine (iUnderSet_any _ _ _ _ T (b : Int) _ mr (by omega) hS).mono ?_
            rw [HP.out b hlb]
            rintro e w5 ⟨rfl, b5⟩
            have m5 := mr.below b5 (by omega)
            have z5 := b5.size
            go_wp2_with fail
            refine (iUnderSet_any _ _ _ _ T (b : Int) _ m5 (by omega) hS).mono ?_
            rw [HP.out b hlb]
            rintro e w6 ⟨rfl, b6⟩
            go_wp2
            go_roundg (T.length - (b + 1))
            case measure => go_light; have := hgk.out; omega
            case rel => go_light; exact ⟨b + 1, by omega, rfl, by go_num, (hB.trans (b5.mono hB.size)).trans (b6.mono (hB.trans (b5.mono hB.size)).size)⟩
        · obtain rfl : T.length = b := by omega
          go_wp2_with fail
          refine (iPartOf_any _ _ _ _ T _ _ mr (by omega) hS).mono ?_
          rintro e w5 ⟨A5, c5, rfl, b5, o5⟩
          have B5 := Br.trans (b5.mono Br.size)
          have m5 := mr.below b5 (by omega)
          have z5 := b5.size
          go_wp2_with fail
          refine (iOneOf_any _ _ _ _ _ _ o5.mat (by omega) small_part).mono ?_
          rw [HO.out, okI_nat]
          rintro e w6 ⟨rfl, b6⟩
          have B6 := B5.trans (b6.mono B5.size)
          have m6 := m5.below b6 (by omega)
          have z6 := b6.size
          go_wp2_with fail
          refine (iMadeBy_any _ _ _ _ T _ _ m6 (by omega) hS).mono ?_
          rw [HM.out]
          rintro e w7 ⟨rfl, b7⟩
          go_wp2
          go_ret
          exact ⟨rfl, B6.trans (b7.mono B6.size)⟩

end Go.Proofs.Ytcegjiiondmchaa
