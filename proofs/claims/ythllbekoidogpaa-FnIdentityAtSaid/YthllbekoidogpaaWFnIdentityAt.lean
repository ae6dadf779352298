/- The walk of FnIdentityAt. -/
import Derived.Test.YthllbekoidogpaaSidenT
import Derived.Test.YthllbekoidogpaaIiden
import Derived.Test.YthllbekoidogpaaDrawIdens
import Derived.Test.YthllbekoidogpaaIword
import Derived.Deep.RegionHeld3
namespace Go.Proofs.Ythllbekoidogpaa
open Go.RowKit
set_option linter.unusedVariables false

theorem ids_apart : ∀ n k : Fin 9, (k : Nat) < n → (decide (idU k = idU n) && decide (idV k = idV n)) = false := by decide
theorem iu_at {n : Nat} (h : n < 9) : iuW (n : Int) = idU n ∧ ivW (n : Int) = idV n ∧ inI (n : Int) = true := by
  have hin : inI (n : Int) = true := by unfold inI; rw [Bool.and_eq_true, decide_eq_true_iff, decide_eq_true_iff]; omega
  refine ⟨?_, ?_, hin⟩
  · unfold iuW; rw [hin]; rfl
  · unfold ivW; rw [hin]; rfl
set_option maxRecDepth 20000 in
set_option maxHeartbeats 16000000 in
theorem fnIdentityAt_walk (A : Option Addr) (n c : Nat) (w : World) (h : Bytes w w.heap.size A n) (hc : n ≤ c) (hc2 : c ≤ 9223372036854775807) :
    Calls Try.prog 4 #[.slice A n c] w fun e w' => e = .returned (.bool true) ∧ Below w.heap.size w w' := by
  by_cases hn : (1048576 : Int) < (n : Int)
  · go_enter Try.func4, Try.ntmps4
    go_wp2
    go_ret
    exact ⟨rfl, Below.refl _ _⟩
  · go_enter Try.func4, Try.ntmps4
    go_wp2_with fail
    refine (drawIdentityAt_any A n c w h hc hc2).mono ?_
    rintro e w1 ⟨x, rfl, hx1, hx2, B1⟩
    cases hin : inI x
    · have E1 := iuW_not hin
      have E2 := ivW_not hin
      have hb0 := toList_bs []
      go_wp2_with fail
      refine (iIdentityAt_any x _).mono ?_
      rw [E1, E2, hin]
      rintro e w2 ⟨rfl, b2⟩
      have B2 := B1.trans (b2.mono B1.size)
      go_wp2_with fail
      refine (sIdentityAt_any x _).mono ?_
      rw [E1, E2, hin]
      rintro e w3 ⟨rfl, b3⟩
      have B3 := B2.trans (b3.mono B2.size)
      go_wp2_with fail
      refine (alive_any _).mono ?_
      rintro e w4 ⟨rfl, b4⟩
      go_wp2
      go_ret
      exact ⟨rfl, B3.trans (b4.mono B3.size)⟩
    · obtain ⟨n, rfl, hn9⟩ : ∃ n : Nat, x = n ∧ n < 9 := by
        unfold inI at hin
        rw [Bool.and_eq_true, decide_eq_true_iff, decide_eq_true_iff] at hin
        exact ⟨x.toNat, by omega, by omega⟩
      obtain ⟨E1, E2, _⟩ := iu_at hn9
      have HAP := hide (fun k (hk : k < n) => ids_apart ⟨n, hn9⟩ ⟨k, by omega⟩ hk)
      have HU := hide (idU_ok hn9)
      have HV := hide (idV_ok hn9)
      have n1 : (idU n).length ≤ 1048576 := by have := (okW_iff.1 HU.out).2.2; omega
      have n2 : (idV n).length ≤ 1048576 := by have := (okW_iff.1 HV.out).2.2; omega
      go_wp2_with fail
      refine (iIdentityAt_any (n : Int) _).mono ?_
      rw [E1, E2, hin]
      rintro e w2 ⟨rfl, b2⟩
      have B2 := B1.trans (b2.mono B1.size)
      go_wp2_with fail
      refine (sIdentityAt_any (n : Int) _).mono ?_
      rw [E1, E2, hin]
      rintro e w3 ⟨rfl, b3⟩
      have B3 := B2.trans (b3.mono B2.size)
      obtain ⟨u, hu⟩ : ∃ p, p = idU n := ⟨_, rfl⟩
      obtain ⟨v, hv⟩ : ∃ q, q = idV n := ⟨_, rfl⟩
      replace HAP : Hid (∀ k, k < n → (decide (idU k = u) && decide (idV k = v)) = false) := hide (fun k hk => by rw [hu, hv]; exact HAP.out k hk)
      rw [← hu] at HU n1 ⊢
      rw [← hv] at HV n2 ⊢
      clear hu hv E1 E2 hin
      go_wp2
      go_loopg [10] n (fun g i wr => ∃ k : Nat, k ≤ n ∧ Hid (g = n - k) ∧ i = .int .i64 k ∧ Below w.heap.size w wr)
      case atStart => exact ⟨0, Nat.zero_le _, rfl, rfl, B3⟩
      case round =>
        obtain ⟨k, hk, hg, rfl, hB⟩ := hrel
        by_cases hlt : k < n
        · have hki : (k : Int) < (n : Int) := by omega
          have hap := HAP.out k hlt
          obtain ⟨F1, F2, F3⟩ := iu_at (show k < 9 by omega)
          have g1 := eq_bs (idU k) u
          have g2 := eq_bs (idV k) v
          go_wp2_with fail
          refine (iIdentityAt_any (k : Int) _).mono ?_
          rw [F1, F2, F3]
          rintro e w4 ⟨rfl, b4⟩
          have HB4 := hide (hB.trans (b4.mono hB.size))
          obtain ⟨p, hp⟩ : ∃ p, p = idU k := ⟨_, rfl⟩
          obtain ⟨q, hq⟩ : ∃ q, q = idV k := ⟨_, rfl⟩
          rw [← hp] at g1 hap ⊢
          rw [← hq] at g2 hap ⊢
          clear hp hq F1 F2 F3 b4 hB
          cases h1 : decide (p = u)
          · rw [h1] at g1
            clear h1 hap g2
            go_wp2
            go_roundg (n - (k + 1))
            case measure => go_light; have := hg.out; omega
            case rel => go_light; exact ⟨k + 1, by omega, rfl, by go_num, HB4.out⟩
          · rw [h1, Bool.true_and] at hap
            rw [h1] at g1
            rw [hap] at g2
            clear h1 hap
            go_wp2
            go_roundg (n - (k + 1))
            case measure => go_light; have := hg.out; omega
            case rel => go_light; exact ⟨k + 1, by omega, rfl, by go_num, HB4.out⟩
        · obtain rfl : n = k := by omega
          go_wp2_with fail
          refine (iWordOk_any u _ n1).mono ?_
          rw [HU.out]
          rintro e w4 ⟨rfl, b4⟩
          have B4 := hB.trans (b4.mono hB.size)
          go_wp2_with fail
          refine (iWordOk_any v _ n2).mono ?_
          rw [HV.out]
          rintro e w5 ⟨rfl, b5⟩
          go_wp2
          go_ret
          exact ⟨rfl, B4.trans (b5.mono B4.size)⟩

end Go.Proofs.Ythllbekoidogpaa
