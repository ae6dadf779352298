/- The walk of FnPushingOf. -/
import Derived.Test.YtnchipcpeeofaaaMQ02
import Derived.Test.YtnchipcpeeofaaaMQ07
import Derived.Test.YtnchipcpeeofaaaMQ17
import Derived.Test.YtnchipcpeeofaaaMQ09
import Derived.Test.YtnchipcpeeofaaaMQ24
import Derived.Test.YtnchipcpeeofaaaMQ08
namespace Go.Proofs.Ytnchipcpeeofaaa
open Go.RowKit
set_option linter.unusedVariables false

set_option maxRecDepth 20000 in
set_option maxHeartbeats 8000000 in
theorem fnPushingOf_walk (A : Option Addr) (n c : Nat) (w : World) (h : Bytes w w.heap.size A n) (hc : n ≤ c) (hc2 : c ≤ 9223372036854775807) :
    Calls Try.prog 7 #[.slice A n c] w fun e w' => e = .returned (.bool true) ∧ Below w.heap.size w w' := by
  by_cases hn : (1048576 : Int) < (n : Int)
  · go_enter Try.func7, Try.ntmps7
    go_wp2
    go_ret
    exact ⟨rfl, Below.refl _ _⟩
  · go_enter Try.func7, Try.ntmps7
    go_wp2_with fail
    refine (drawPushingOf_any A n c w h hc hc2).mono ?_
    rintro e w1 ⟨A1, c1, T, x, rfl, B1, m1, hS⟩
    have hlT := hS.len
    have Z1 : w1.heap.size ≤ w1.heap.size := Nat.le_refl _
    have hlf := len_pushL_le T x
    cases hcan : (bandT T && inT T x)
    · have hL0 : (((pushL T x).length : Int) == 0) = true := by rw [pushL_not hcan]; rfl
      have HL0 := hide hL0
      clear hL0
      go_wp2_with fail
      refine (iPushingOf_any _ _ _ _ T x _ m1 Z1 hS).mono ?_
      rintro e w2 ⟨A2, c2, rfl, b2, o2, hc1, hc2'⟩
      have B2 := B1.trans (b2.mono B1.size)
      have m2 := m1.below b2 Z1
      have Z2 := Nat.le_trans Z1 b2.size
      have r2 := o2.row
      have R2 : w2.heap.size ≤ w2.heap.size := Nat.le_refl _
      go_wp2_with fail
      refine (sPushingOf_any _ _ _ _ T x _ m2 Z2 hS).mono ?_
      rintro e w3 ⟨A3, c3, rfl, b3, r3_, _, _⟩
      have B3 := B2.trans (b3.mono B2.size)
      have m3 := m2.below b3 Z2
      have r3 := r2.below b3 R2
      have Z3 := Nat.le_trans Z2 b3.size
      have R3 := Nat.le_trans R2 b3.size
      clear m1 m2 r2 o2
      go_wp2_with fail
      refine (sameInts_same _ _ _ _ _ _ _ _ (pushL T x) _ r3 r3_ hlf).mono ?_
      rintro e w4 ⟨rfl, q4⟩
      have B4 := B3.trans (q4.below w.heap.size)
      have m4 := m3.quiet q4
      have r4 := r3.quiet q4
      have Z4 := Nat.le_trans Z3 (q4.below 0).size
      have R4 := Nat.le_trans R3 (q4.below 0).size
      clear m3 r3 r3_
      have hz := HL0.out
      go_wp2_with fail
      refine (alive_any _).mono ?_
      rintro e w5 ⟨rfl, b5⟩
      go_wp2
      go_ret
      exact ⟨rfl, B4.trans (b5.mono B4.size)⟩
    · obtain ⟨hb, a, rfl, ha⟩ := can1.1 hcan
      have k := band_tab hb
      have k9 := k.hi
      have HLEN := hide (len_pushL hb ha)
      have HE := hide (underS_of hb ha)
      have HP := hide (fun b (hb1 : b < T.length) => push_nat hb ha hb1)
      have HS := hide (fun b (h : (undB T a).testBit b = true) => push_stays hb ha h)
      have HR := hide (push_reach hb ha)
      have HK := hide (fun (h : meetT T = true) => push_keep h ha)
      have hp9 := pow_le9 k9
      have hlt := undB_lt (T := T) a
      have HL0 := hide (show (((pushL T (a : Int)).length : Int) == 0) = false from beq_eq_false_iff_ne.2 (by rw [len_pushL hb ha]; omega))
      clear hcan k
      obtain ⟨s, hs⟩ : ∃ s, s = undB T a := ⟨_, rfl⟩
      rw [← hs] at HE HP HS HR hlt
      clear hs
      go_wp2_with fail
      refine (iPushingOf_any _ _ _ _ T (a : Int) _ m1 Z1 hS).mono ?_
      rintro e w2 ⟨A2, c2, rfl, b2, o2, hc1, hc2'⟩
      have B2 := B1.trans (b2.mono B1.size)
      have m2 := m1.below b2 Z1
      have Z2 := Nat.le_trans Z1 b2.size
      have r2 := o2.row
      have R2 : w2.heap.size ≤ w2.heap.size := Nat.le_refl _
      go_wp2_with fail
      refine (sPushingOf_any _ _ _ _ T (a : Int) _ m2 Z2 hS).mono ?_
      rintro e w3 ⟨A3, c3, rfl, b3, r3_, _, _⟩
      have B3 := B2.trans (b3.mono B2.size)
      have m3 := m2.below b3 Z2
      have r3 := r2.below b3 R2
      have Z3 := Nat.le_trans Z2 b3.size
      have R3 := Nat.le_trans R2 b3.size
      clear m1 m2 r2 o2
      go_wp2_with fail
      refine (sameInts_same _ _ _ _ _ _ _ _ (pushL T (a : Int)) _ r3 r3_ hlf).mono ?_
      rintro e w4 ⟨rfl, q4⟩
      have B4 := B3.trans (q4.below w.heap.size)
      have m4 := m3.quiet q4
      have r4 := r3.quiet q4
      have Z4 := Nat.le_trans Z3 (q4.below 0).size
      have R4 := Nat.le_trans R3 (q4.below 0).size
      clear m3 r3 r3_
      have hz := HL0.out
      go_wp2_with fail
      refine (iUnderSet_any _ _ _ _ T (a : Int) _ m4 Z4 hS).mono ?_
      rw [HE.out]
      rintro e w5 ⟨rfl, b5⟩
      have B5 := B4.trans (b5.mono B4.size)
      have m5 := m4.below b5 Z4
      have r5 := r4.below b5 R4
      have Z5 := Nat.le_trans Z4 b5.size
      have R5 := Nat.le_trans R4 b5.size
      clear m4 r4 hz
      have r5' := r5
      obtain ⟨bf, of_, rfl, hbf, hcf⟩ := row_cell r5 (by rw [HLEN.out]; omega)
      have HCF := hide hcf
      clear hcf
      go_wp2
      go_loopg [7] T.length (fun g i wr => ∃ b : Nat, b ≤ T.length ∧ Hid (g = T.length - b) ∧ i = .int .i64 b ∧ QD w5 wr)
      case atStart => exact ⟨0, Nat.zero_le _, rfl, rfl, QD.refl _⟩
      case round =>
        obtain ⟨b, hbl, hgk, rfl, hQ⟩ := hrel
        by_cases hbt : b < T.length
        · have i1 : (b : Int) < ((pushL T (a : Int)).length : Int) := by have := HLEN.out; omega
          obtain ⟨p, ep, p1, bp⟩ := HP.out b hbt
          have i2 : (p : Int) < ((pushL T (a : Int)).length : Int) := by have := HLEN.out; omega
          have hA1 := bit_one bp
          have hcw : ∀ q, wr.cell? q = w5.cell? q := fun q => by simp [World.cell?, hQ.heap]
          have f1 := HCF.out b (by have := HLEN.out; omega)
          have f2 := HCF.out p (by have := HLEN.out; omega)
          have e2 := HS.out p bp
          rw [ep, ← hcw] at f1
          rw [e2, ← hcw] at f2
          clear hcw e2 bp
          cases eb : s.testBit b
          · have hA2 := bit_zero eb
            clear eb ep
            go_wp2_with fail
            go_quiet (fail)
            go_wp2
            go_roundg (T.length - (b + 1))
            case measure => go_light; have := hgk.out; omega
            case rel => go_light; exact ⟨b + 1, hbt, rfl, by go_num, hQ.drewN _⟩
          · have e3 := HS.out b eb
            rw [ep] at e3
            have e4 : p = b := by omega
            subst e4
            clear eb ep e3
            go_wp2_with fail
            go_quiet (fail)
            go_wp2
            go_roundg (T.length - (p + 1))
            case measure => go_light; have := hgk.out; omega
            case rel => go_light; exact ⟨p + 1, hbt, rfl, by go_num, hQ.drewN _⟩
        · obtain rfl : T.length = b := by omega
          have i1 : ¬ (T.length : Int) < ((pushL T (a : Int)).length : Int) := by have := HLEN.out; omega
          have m6 := m5.quiet hQ
          have r6 := r5'.quiet hQ
          have B6 := B5.trans (hQ.below w.heap.size)
          have Z6 := Nat.le_trans Z5 (hQ.below 0).size
          have R6 := Nat.le_trans R5 (hQ.below 0).size
          clear m5 r5' r5 hQ
          go_wp2_with fail
          refine (iReachedBy_any _ _ _ _ T _ _ _ _ T _ _ _ _ (pushL T (a : Int)) _ m6 Z6 hS m6 Z6 hS r6 R6 hlf hc1 hc2').mono ?_
          rw [HR.out]
          rintro e w7 ⟨rfl, b7⟩
          have B7 := B6.trans (b7.mono B6.size)
          have m7 := m6.below b7 Z6
          have r7 := r6.below b7 R6
          have Z7 := Nat.le_trans Z6 b7.size
          have R7 := Nat.le_trans R6 b7.size
          clear m6 r6
          cases hmt : meetT T
          · go_wp2_with fail
            refine (iMeetingOk_any _ _ _ _ T _ m7 Z7 hS).mono ?_
            rw [hmt]
            rintro e w8 ⟨rfl, b8⟩
            go_wp2
            go_ret
            exact ⟨rfl, B7.trans (b8.mono B7.size)⟩
          · go_wp2_with fail
            refine (iMeetingOk_any _ _ _ _ T _ m7 Z7 hS).mono ?_
            rw [hmt]
            rintro e w8 ⟨rfl, b8⟩
            have B8 := B7.trans (b8.mono B7.size)
            have m8 := m7.below b8 Z7
            have r8 := r7.below b8 R7
            have Z8 := Nat.le_trans Z7 b8.size
            have R8 := Nat.le_trans R7 b8.size
            go_wp2_with fail
            refine (iKeepsOk_any _ _ _ _ T _ _ _ _ T _ _ _ _ (pushL T (a : Int)) _ m8 Z8 hS m8 Z8 hS r8 R8 hlf hc1 hc2').mono ?_
            rw [HK.out hmt]
            rintro e w9 ⟨rfl, b9⟩
            go_wp2
            go_ret
            exact ⟨rfl, B8.trans (b9.mono B8.size)⟩

end Go.Proofs.Ytnchipcpeeofaaa
