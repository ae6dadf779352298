/- FnMadeBy returns true for every input, and leaves it as it was: no condition. -/
import Derived.Test.YteoekfebhmeiiaaFrameB
import Derived.Test.YteoekfebhmeiiaaPartP
import Derived.Test.YteoekfebhmeiiaaDrawSet
import Derived.Test.YteoekfebhmeiiaaFit
namespace Go.Proofs.Yteoekfebhmeiiaa
open Go.ChangeShapes Go.WideShapes Go.ChangeAt Go.RowKit Go.Deep
set_option linter.unusedVariables false

theorem and_sub {m n : Nat} (hm : m < 1024) (hn : n < 1024) (h : ∀ x, n.testBit x = true → m.testBit x = true) : bits .and .i64 (m : Int) (n : Int) = (n : Int) := by
  rw [(bits_i64 hm hn).1]
  congr 1
  apply Nat.eq_of_testBit_eq
  intro i
  rw [Nat.testBit_and]
  cases e : n.testBit i
  · simp
  · rw [h i e]; rfl

set_option maxRecDepth 20000 in
set_option maxHeartbeats 4000000 in
theorem fnMadeBy_walk (A : Option Addr) (n c : Nat) (w : World) (h : Bytes w w.heap.size A n) (hc : n ≤ c) (hc2 : c ≤ 9223372036854775807) :
    Calls Try.prog 3 #[.slice A n c] w fun e w' => e = .returned (.bool true) ∧ Below w.heap.size w w' := by
  by_cases hn : (1048576 : Int) < (n : Int)
  · go_enter Try.func3, Try.ntmps3
    go_wp2
    go_ret
    exact ⟨rfl, Below.refl _ _⟩
  · go_enter Try.func3, Try.ntmps3
    go_wp2_with fail
    refine (drawMadeBy_any A n c w h hc hc2).mono ?_
    rintro e w1 ⟨A1, c1, T, z, rfl, B1, m1, hS⟩
    have hlT := hS.len
    go_wp2_with fail
    refine (iMadeBy_any _ _ _ _ _ _ _ m1 (Nat.le_refl _) hS).mono ?_
    rintro e w2 ⟨rfl, b2⟩
    have B2 := B1.trans (b2.mono B1.size)
    have m2 := m1.below b2 (Nat.le_refl _)
    go_wp2_with fail
    refine (sMadeBy_any _ _ _ _ _ _ _ m2 hS).mono ?_
    rintro e w3 ⟨rfl, q3⟩
    have B3 := B2.trans (q3.below w.heap.size)
    have m3 := m2.quiet q3
    have z3 : w1.heap.size ≤ w3.heap.size := Nat.le_trans b2.size q3.below0
    rcases madeT_or T z with e | ⟨s, m, rfl, hk, hn1, hm, e⟩
    · rw [e]
      clear e
      go_wp2_with fail
      refine (alive_any _).mono ?_
      rintro e w5 ⟨rfl, b5⟩
      go_wp2
      go_ret
      exact ⟨rfl, B3.trans (b5.mono B3.size)⟩
    · rw [e]
      have k := okT_iff.1 hk
      have k9 := k.hi
      have hp9 := pow_le9 k9
      have hml := hm.lt
      have hand := and_sub (m := m) (n := s) (by omega) (by omega) hm.sub
      have HA := hide (made_again hk hm)
      have H0 := hide (made_none hk)
      have HC := hide hm.clos
      have m3' := m3
      obtain ⟨bb, oo, rfl, _, _, hcell⟩ := m3.head k
      clear e hm
      go_wp2
      go_loopg [6] T.length (fun g i wr => ∃ a : Nat, a ≤ T.length ∧ Hid (g = T.length - a) ∧ i = .int .i64 a ∧ w3 = wr)
      case atStart => exact ⟨0, Nat.zero_le _, rfl, rfl, rfl⟩
      case round =>
        obtain ⟨a, ha, hgk, rfl, rfl⟩ := hrel
        by_cases hat : a < T.length
        · go_wp2
          go_loopg [7] T.length (fun g i wr => ∃ b : Nat, b ≤ T.length ∧ Hid (g = T.length - b) ∧ i = .int .i64 b ∧ w3 = wr)
          case atStart => exact ⟨0, Nat.zero_le _, rfl, rfl, rfl⟩
          case round =>
            obtain ⟨b, hb, hgk2, rfl, rfl⟩ := hrel
            by_cases hbt : b < T.length
            · cases ea : m.testBit a
              · have hA := bit_zero ea
                go_wp2
                go_roundg (T.length - (b + 1))
                case measure => go_light; have := hgk2.out; omega
                case rel => go_light; exact ⟨b + 1, by omega, rfl, by go_num, rfl⟩
              · cases eb : m.testBit b
                · have hA := bit_one ea
                  have hB := bit_zero eb
                  go_wp2
                  go_roundg (T.length - (b + 1))
                  case measure => go_light; have := hgk2.out; omega
                  case rel => go_light; exact ⟨b + 1, by omega, rfl, by go_num, rfl⟩
                · have hA := bit_one ea
                  have hB := bit_one eb
                  obtain ⟨bx, ox, cx, hcx, _, _, hvx⟩ := hcell (a : Nat) (by omega) (by omega)
                  have v2 := hvx (b : Nat) (by omega) (by omega)
                  obtain ⟨u0, u1⟩ := k.mul (x := (a : Nat)) (y := (b : Nat)) (by omega) (by omega) (by omega) (by omega)
                  have hG := HC.out a b ea eb
                  obtain ⟨y, hy⟩ : ∃ y : Nat, mul T (a : Nat) (b : Nat) = (y : Nat) := ⟨(mul T (a : Nat) (b : Nat)).toNat, by omega⟩
                  rw [hy, Int.toNat_natCast] at hG
                  rw [hy] at v2 u1
                  rw [Int.toNat_natCast] at hcx v2
                  have hY := bit_one hG
                  clear hcell hvx hy u0
                  go_wp2
                  go_roundg (T.length - (b + 1))
                  case measure => go_light; have := hgk2.out; omega
                  case rel => go_light; exact ⟨b + 1, by omega, rfl, by go_num, rfl⟩
            · obtain rfl : T.length = b := by omega
              go_wp2
              go_roundg (T.length - (a + 1))
              case measure => go_light; have := hgk.out; omega
              case rel => go_light; exact ⟨a + 1, by omega, rfl, by go_num, rfl⟩
        · obtain rfl : T.length = a := by omega
          go_wp2_with fail
          refine (iMadeBy_any _ _ _ _ T _ _ m3' z3 hS).mono ?_
          rw [HA.out]
          rintro e w4 ⟨rfl, b4⟩
          go_wp2_with fail
          refine (iMadeBy_any _ _ _ _ T _ _ (m3'.below b4 z3) (Nat.le_trans z3 b4.size) hS).mono ?_
          rw [H0.out]
          rintro e w5 ⟨rfl, b5⟩
          go_wp2
          go_ret
          exact ⟨rfl, (B3.trans (b4.mono B3.size)).trans (b5.mono (B3.trans (b4.mono B3.size)).size)⟩

set_option maxRecDepth 100000 in
theorem lifted_FnMadeBy (os : Os) (started : os.Started) (H : Type) (enc : TypeId × Value → H) :
    ReturnsInHanded {} Try.checked os 3 .any (Rows.fnMadeBySpec.pre6 enc Try.prog Try.f3 Rows.fnMadeByRow.domain false) (Rows.fnMadeBySpec.post enc Try.prog Try.f3 false true false false) := by
  refine returnsInHanded_of_change (C := Try.checked) own started (by kernel_rfl) Try.func3
    (ChangeSpec.witness6 (enc := enc) (C := Try.checked) false ⟨#[], #[.slice none 0 0], []⟩ 8 (by kernel_rfl) (by kernel_rfl) (by kernel_rfl) (by kernel_rfl)) ?_
  intro W base args ds gs before hval0 hW hcnd _
  have hval : ∀ (j : Nat) t v, Try.f3.params[j]? = some t → args[j]? = some v → Value.okWide Try.prog W .any base t v := hval0
  have hW' := hW
  obtain ⟨p, q, hA0, hV, rfl, hfz, hnd⟩ := hW
  have hA : DataW.TrodAll enc Try.prog W 0 (fun _ => true) true Try.f3.params.toList args.toList ds p := hA0
  rw [Try.params3] at hA hval
  obtain ⟨v0, vs0, d0, ds0, p0, q0, hargs, rfl, rfl, h0, r0⟩ := trodAll_cons hA
  obtain ⟨rfl, rfl, rfl⟩ := trodAll_nil r0
  obtain rfl : args = #[v0] := by cases args; simp_all
  obtain ⟨rfl, rfl⟩ := trodVars_none hV
  obtain ⟨a0, len0, cap0, rfl⟩ := okWide_slice Try.underlying22 (hval 0 22 v0 rfl rfl)
  have k0 := h0
  have lt0 : ∀ x ∈ p0, x.block < W.heap.size := by obtain ⟨m, hm⟩ := k0; exact DataW.trod_lt m _ _ _ hm
  obtain ⟨fuel0, hf0⟩ := h0
  obtain ⟨hl0, hS0, hT0⟩ := open_bytes hf0
  clear hA0 hval0
  refine (fnMadeBy_walk a0 len0 cap0 W hT0 hl0 hS0).mono fun e W' ⟨he, bel⟩ => ?_
  subst he
  exact ⟨_, rfl, _, _, _, [], _, [], hW', trodAll_mk1 (shut_bool Try.underlying4 _), (trodAll_cons_mk (Below.trod laidOut (by kernel_rfl) (of_decide_eq_true (by kernel_rfl)) k0 bel lt0) trodAll_mk0), rfl, bel.frame _, fun h => by cases h⟩

theorem closed_FnMadeBy : joinedFacts Try.pinned.checked.prog 3 Try.f3 Rows.fnMadeBySpec Rows.fnMadeByRow = true := by
  unfold joinedFacts
  rw [fit_enter, fit_final, fit_make]
  kernel_rfl

theorem fnMadeBy_holds : Rows.FnMadeBySaid :=
  OpenClaim.holds_of_wide 3 Try.f3 rfl rfl rfl rfl rfl rfl rfl ⟨rfl, rfl, rfl, rfl, rfl⟩ rfl rfl rfl rfl rfl (by kernel_rfl) Try.func3 closed_FnMadeBy
    (of_decide_eq_true (by kernel_rfl)) (by unfold Func.isWrapper; first | (rw [if_pos (by decide +kernel)]; kernel_rfl) | (rw [if_neg (by decide +kernel)]; exact ⟨rfl, rfl⟩))
    (fun os started H enc _ => lifted_FnMadeBy os started H enc)

#print axioms fnMadeBy_holds
end Go.Proofs.Yteoekfebhmeiiaa
