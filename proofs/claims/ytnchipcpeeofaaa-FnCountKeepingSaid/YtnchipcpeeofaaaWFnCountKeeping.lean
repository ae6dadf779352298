/- The walk of FnCountKeeping. -/
import Derived.Test.YtnchipcpeeofaaaMQ02
import Derived.Test.YtnchipcpeeofaaaMQ07
import Derived.Test.YtnchipcpeeofaaaMQ17
import Derived.Test.YtnchipcpeeofaaaMQ09
import Derived.Test.YtnchipcpeeofaaaMQ24
namespace Go.Proofs.Ytnchipcpeeofaaa
open Go.RowKit
set_option linter.unusedVariables false

set_option maxRecDepth 20000 in
set_option maxHeartbeats 8000000 in
theorem fnCountKeeping_walk (A : Option Addr) (n c : Nat) (w : World) (h : Bytes w w.heap.size A n) (hc : n ≤ c) (hc2 : c ≤ 9223372036854775807) :
    Calls Try.prog 6 #[.slice A n c] w fun e w' => e = .returned (.bool true) ∧ Below w.heap.size w w' := by
  by_cases hn : (1048576 : Int) < (n : Int)
  · go_enter Try.func6, Try.ntmps6
    go_wp2
    go_ret
    exact ⟨rfl, Below.refl _ _⟩
  · go_enter Try.func6, Try.ntmps6
    go_wp2_with fail
    refine (drawCountKeeping_any A n c w h hc hc2).mono ?_
    rintro e w1 ⟨A1, c1, T, A2, c2, U, rfl, B1, m1, hS, n1, hU⟩
    have hlT := hS.len
    have hlU := hU.len
    have Z1 : w1.heap.size ≤ w1.heap.size := Nat.le_refl _
    cases hcan : canC T U
    · have HE := hide (countK_not hcan)
      go_wp2_with fail
      refine (iCountKeeping_any _ _ _ _ T _ _ _ _ U _ m1 Z1 hS n1 Z1 hU).mono ?_
      rw [HE.out]
      rintro e w2 ⟨rfl, b2⟩
      have B2 := B1.trans (b2.mono B1.size)
      have m2 := m1.below b2 Z1
      have n2 := n1.below b2 Z1
      have Z2 := Nat.le_trans Z1 b2.size
      clear m1 n1 Z1
      go_wp2_with fail
      refine (sCountKeeping_any _ _ _ _ T _ _ _ _ U _ m2 Z2 hS n2 Z2 hU).mono ?_
      rw [HE.out]
      rintro e w3 ⟨rfl, b3⟩
      have B3 := B2.trans (b3.mono B2.size)
      have m3 := m2.below b3 Z2
      have n3 := n2.below b3 Z2
      have Z3 := Nat.le_trans Z2 b3.size
      clear m2 n2 Z2
      go_wp2_with fail
      refine (alive_any _).mono ?_
      rintro e w4 ⟨rfl, b4⟩
      go_wp2
      go_ret
      exact ⟨rfl, B3.trans (b4.mono B3.size)⟩
    · obtain ⟨kT, kU, l4, u4⟩ := canC_iff.1 hcan
      have HE0 := hide (countK_ok hcan)
      have HT1 := hide (show countK T [[0]] = 1 from by
        rw [countK_ok (canC_iff.2 ⟨kT, isT_one, l4, by simp⟩), to_one kT]; rfl)
      have HU1 := hide (show countK [[0]] U = ((cn (fun x => mul U (x : Int) (x : Int) == (x : Int)) U.length : Nat) : Int) from by
        rw [countK_ok (canC_iff.2 ⟨isT_one, kU, by simp, u4⟩), of_one kU])
      have HF := hide (fun (h1 : firstT T = true) (h2 : firstT U = true) => first_count h1 h2 (pw U.length T.length))
      have hNP := keepN_le (T := T) (U := U) (pw U.length T.length)
      have hP : pw U.length T.length ≤ 256 := pow_le4 u4 l4
      have HPW := hide (fun k (hk : k < T.length) => pw_mul (m := U.length) u4 hk l4)
      obtain ⟨N, hN⟩ : ∃ N, N = keepN T U (pw U.length T.length) := ⟨_, rfl⟩
      have HE : Hid (countK T U = (N : Int)) := by
        show _ = _
        rw [hN]; exact HE0.out
      rw [← hN] at HF hNP
      have HKU := hide kU
      have hn0 : ¬ (N : Int) < 0 := by omega
      clear hcan HE0 hN kT kU
      go_wp2_with fail
      refine (iCountKeeping_any _ _ _ _ T _ _ _ _ U _ m1 Z1 hS n1 Z1 hU).mono ?_
      rw [HE.out]
      rintro e w2 ⟨rfl, b2⟩
      have B2 := B1.trans (b2.mono B1.size)
      have m2 := m1.below b2 Z1
      have n2 := n1.below b2 Z1
      have Z2 := Nat.le_trans Z1 b2.size
      clear m1 n1 Z1
      go_wp2_with fail
      refine (sCountKeeping_any _ _ _ _ T _ _ _ _ U _ m2 Z2 hS n2 Z2 hU).mono ?_
      rw [HE.out]
      rintro e w3 ⟨rfl, b3⟩
      have B3 := B2.trans (b3.mono B2.size)
      have m3 := m2.below b3 Z2
      have n3 := n2.below b3 Z2
      have Z3 := Nat.le_trans Z2 b3.size
      clear m2 n2 Z2
      obtain ⟨bu, ou, rfl, _, _, hcU⟩ := n3.head HKU.out
      have HCU := hide hcU
      clear hcU
      go_wp2
      go_loopg [7, 6] U.length (fun g i s wr => ∃ k : Nat, k ≤ U.length ∧ Hid (g = U.length - k) ∧ i = .int .i64 k ∧ s = .int .i64 (cn (fun x => mul U (x : Int) (x : Int) == (x : Int)) k : Nat) ∧ w3 = wr)
      case atStart => exact ⟨0, Nat.zero_le _, rfl, rfl, rfl, rfl⟩
      case round =>
        obtain ⟨k, hk, hgk, rfl, rfl, rfl⟩ := hrel
        have hck := cn_le (fun x : Nat => mul U (x : Int) (x : Int) == (x : Int)) k
        by_cases hlt : k < U.length
        · obtain ⟨bx, ox, cx, hcx, _, _, hvx⟩ := HCU.out (k : Nat) (by omega) (by omega)
          have v1 := hvx (k : Nat) (by omega) (by omega)
          rw [Int.toNat_natCast] at hcx v1
          have HS := hide (show cn (fun x : Nat => mul U (x : Int) (x : Int) == (x : Int)) (k + 1) = cn (fun x : Nat => mul U (x : Int) (x : Int) == (x : Int)) k + (if (mul U (k : Int) (k : Int) == (k : Int)) = true then 1 else 0) from rfl)
          clear hvx
          obtain ⟨z, hz⟩ : ∃ z, z = mul U (k : Int) (k : Int) := ⟨_, rfl⟩
          rw [← hz] at v1 HS
          clear hz
          cases hq : (z == (k : Int))
          all_goals
            rw [hq] at HS
            go_wp2
            go_roundg (U.length - (k + 1))
            case measure => go_light; have := hgk.out; omega
            case rel => go_light; exact ⟨k + 1, hlt, rfl, by go_num, by rw [HS.out]; first | rfl | simp, rfl⟩
        · obtain rfl : U.length = k := by omega
          obtain ⟨SQ, hSQ⟩ : ∃ SQ, SQ = cn (fun x : Nat => mul U (x : Int) (x : Int) == (x : Int)) U.length := ⟨_, rfl⟩
          rw [← hSQ] at HU1 hck
          have hSQi : ((cn (fun x : Nat => mul U (x : Int) (x : Int) == (x : Int)) U.length : Nat) : Int) = (SQ : Int) := by rw [hSQ]
          rw [hSQi]
          clear hSQ hSQi hgk
          go_wp2
          go_loopg [9, 8] T.length (fun g i v wr => ∃ k : Nat, k ≤ T.length ∧ Hid (g = T.length - k) ∧ i = .int .i64 k ∧ v = .int .i64 (pw U.length k : Nat) ∧ w3 = wr)
          case atStart => exact ⟨0, Nat.zero_le _, rfl, rfl, rfl, rfl⟩
          case round =>
            obtain ⟨k, hk2, hgk, rfl, rfl, rfl⟩ := hrel
            by_cases hlt2 : k < T.length
            · have hw := HPW.out k hlt2
              go_wp2
              go_roundg (T.length - (k + 1))
              case measure => go_light; have := hgk.out; omega
              case rel => go_light; exact ⟨k + 1, hlt2, rfl, by go_num, rfl, rfl⟩
            · obtain rfl : T.length = k := by omega
              obtain ⟨P, hPP⟩ : ∃ P, P = pw U.length T.length := ⟨_, rfl⟩
              rw [← hPP] at HF hNP hP ⊢
              clear hPP HPW hgk hlt hlt2
              have hNPi : (N : Int) ≤ (P : Int) := by omega
              have l5 := lit1 (W := w3) 0 rfl
              have c5 := ((Below.refl w3.heap.size w3).more (.cells #[.int .i64 0] 3)).more (.cells #[.slice (some ⟨w3.heap.size, 0, none⟩) 1 1] 24)
              have hsz5 : ((w3.alloc (.cells #[.int .i64 0] 3)).alloc (.cells #[.slice (some ⟨w3.heap.size, 0, none⟩) 1 1] 24)).heap.size = w3.heap.size + 2 := by simp
              go_wp2_with fail
              refine (iCountKeeping_any _ _ _ _ T _ 1 _ _ [[0]] _ (m3.below c5 Z3) (by omega) hS l5 (by omega) (small1 0)).mono ?_
              rw [HT1.out]
              rintro e w5 ⟨rfl, b5⟩
              have b35 := c5.trans (b5.mono c5.size)
              have B5 := B3.trans (b35.mono B3.size)
              have m5 := m3.below b35 Z3
              have n5 := n3.below b35 Z3
              have Z5 := Nat.le_trans Z3 b35.size
              clear l5 c5 b5 b35 hsz5 m3 n3 Z3
              have l6 := lit1 (W := w5) 0 rfl
              have c6 := ((Below.refl w5.heap.size w5).more (.cells #[.int .i64 0] 3)).more (.cells #[.slice (some ⟨w5.heap.size, 0, none⟩) 1 1] 24)
              have hsz6 : ((w5.alloc (.cells #[.int .i64 0] 3)).alloc (.cells #[.slice (some ⟨w5.heap.size, 0, none⟩) 1 1] 24)).heap.size = w5.heap.size + 2 := by simp
              go_wp2_with fail
              refine (iCountKeeping_any _ 1 _ _ [[0]] _ _ _ _ U _ l6 (by omega) (small1 0) (n5.below c6 Z5) (by omega) hU).mono ?_
              rw [HU1.out]
              rintro e w6 ⟨rfl, b6⟩
              have b56 := c6.trans (b6.mono c6.size)
              have B6 := B5.trans (b56.mono B5.size)
              have m6 := m5.below b56 Z5
              have n6 := n5.below b56 Z5
              have Z6 := Nat.le_trans Z5 b56.size
              clear l6 c6 b6 b56 hsz6 m5 n5 Z5
              cases h1 : firstT T
              · go_wp2_with fail
                refine (iFirstOk_any _ _ _ _ T _ m6 Z6 hS).mono ?_
                rw [h1]
                rintro e w7 ⟨rfl, b7⟩
                have B7 := B6.trans (b7.mono B6.size)
                have m7 := m6.below b7 Z6
                have n7 := n6.below b7 Z6
                have Z7 := Nat.le_trans Z6 b7.size
                clear m6 n6 Z6
                go_wp2
                go_ret
                exact ⟨rfl, B7⟩
              cases h2 : firstT U
              · go_wp2_with fail
                refine (iFirstOk_any _ _ _ _ T _ m6 Z6 hS).mono ?_
                rw [h1]
                rintro e w7 ⟨rfl, b7⟩
                have B7 := B6.trans (b7.mono B6.size)
                have m7 := m6.below b7 Z6
                have n7 := n6.below b7 Z6
                have Z7 := Nat.le_trans Z6 b7.size
                clear m6 n6 Z6
                go_wp2_with fail
                refine (iFirstOk_any _ _ _ _ U _ n7 Z7 hU).mono ?_
                rw [h2]
                rintro e w8 ⟨rfl, b8⟩
                have B8 := B7.trans (b8.mono B7.size)
                have m8 := m7.below b8 Z7
                have n8 := n7.below b8 Z7
                have Z8 := Nat.le_trans Z7 b8.size
                clear m7 n7 Z7
                go_wp2
                go_ret
                exact ⟨rfl, B8⟩
              have hEQ := HF.out h1 h2
              subst hEQ
              go_wp2_with fail
              refine (iFirstOk_any _ _ _ _ T _ m6 Z6 hS).mono ?_
              rw [h1]
              rintro e w7 ⟨rfl, b7⟩
              have B7 := B6.trans (b7.mono B6.size)
              have m7 := m6.below b7 Z6
              have n7 := n6.below b7 Z6
              have Z7 := Nat.le_trans Z6 b7.size
              clear m6 n6 Z6
              go_wp2_with fail
              refine (iFirstOk_any _ _ _ _ U _ n7 Z7 hU).mono ?_
              rw [h2]
              rintro e w8 ⟨rfl, b8⟩
              have B8 := B7.trans (b8.mono B7.size)
              have m8 := m7.below b8 Z7
              have n8 := n7.below b8 Z7
              have Z8 := Nat.le_trans Z7 b8.size
              clear m7 n7 Z7
              go_wp2
              go_ret
              exact ⟨rfl, B8⟩

end Go.Proofs.Ytnchipcpeeofaaa
