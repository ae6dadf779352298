
/- FnZeroOf returns true for every input, and leaves it as it was: no condition. -/
import Derived.Test.YtcegjiiondmchabFrameB
import Derived.Test.YtcegjiiondmchabEq
import Derived.Test.YtcegjiiondmchabIband
import Derived.Test.YtcegjiiondmchabSband
import Derived.Test.YtcegjiiondmchabDrawBands
import Derived.Test.YtcegjiiondmchabPureX
import Derived.Test.YtcegjiiondmchabSzo
import Derived.Test.YtcegjiiondmchabProd
import Derived.Test.YtcegjiiondmchabFit
namespace Go.Proofs.Ytcegjiiondmchab
open Go.ChangeShapes Go.WideShapes Go.ChangeAt Go.RowKit Go.Deep
set_option linter.unusedVariables false

theorem okRow2 {T : List (List Int)} {a b : Int} (a0 : 0 ≤ a) (a1 : a < T.length) (b0 : 0 ≤ b) (b1 : b < T.length) : okRow T.length [a, b] = true := by
  simp [okRow]; omega
theorem prod2 {T : List (List Int)} {a b : Int} (h : okT T = true) (a0 : 0 ≤ a) (a1 : a < T.length) (b0 : 0 ≤ b) (b1 : b < T.length) : prodT T [a, b] = mul T a b := by
  rw [prodT_ok h (by simp) (okRow2 a0 a1 b0 b1)]; rfl
theorem prod3 {T : List (List Int)} {a b c : Int} (h : okT T = true) (a0 : 0 ≤ a) (a1 : a < T.length) (b0 : 0 ≤ b) (b1 : b < T.length) (c0 : 0 ≤ c) (c1 : c < T.length) : prodT T [a, b, c] = mul T (mul T a b) c := by
  rw [prodT_ok h (by simp) (by simp [okRow]; omega)]; rfl
theorem prod6 {T : List (List Int)} {a b c : Int} (h : okT T = true) (a0 : 0 ≤ a) (a1 : a < T.length) (b0 : 0 ≤ b) (b1 : b < T.length) (c0 : 0 ≤ c) (c1 : c < T.length) : prodT T [a, b, c, a, b, c] = mul T (mul T (mul T (mul T (mul T a b) c) a) b) c := by
  rw [prodT_ok h (by simp) (by simp [okRow]; omega)]; rfl

set_option maxRecDepth 20000 in
set_option maxHeartbeats 4000000 in
theorem fnZeroOf_walk (A : Option Addr) (n c : Nat) (w : World) (h : Bytes w w.heap.size A n) (hc : n ≤ c) (hc2 : c ≤ 9223372036854775807) :
    Calls Try.prog 7 #[.slice A n c] w fun e w' => e = .returned (.bool true) ∧ Below w.heap.size w w' := by
  by_cases hn : (1048576 : Int) < (n : Int)
  · go_enter Try.func7, Try.ntmps7
    go_wp2
    go_ret
    exact ⟨rfl, Below.refl _ _⟩
  · go_enter Try.func7, Try.ntmps7
    go_wp2_with fail
    refine (drawZeroOf_any A n c w h hc hc2).mono ?_
    rintro e w1 ⟨A1, c1, T, rfl, B1, m1, hS⟩
    have hlT := hS.len
    go_wp2_with fail
    refine (iZeroOf_any _ _ _ _ _ _ m1 (by omega) hS).mono ?_
    rintro e w2 ⟨rfl, b2⟩
    have B2 := B1.trans (b2.mono B1.size)
    have m2 := m1.below b2 (by omega)
    have z2 := b2.size
    go_wp2_with fail
    refine (sZeroOf_any _ _ _ _ _ _ m2 hS).mono ?_
    rintro e w3 ⟨rfl, q3⟩
    have B3 := B2.trans (q3.below w.heap.size)
    have m3 := m2.quiet q3
    have z3 := q3.below 0 |>.size
    rcases zeroT_or T with ⟨k0, hk, hlt, e, hz⟩ | e
    · have eb : okI (zeroT T) = true := by rw [e]; exact okI_nat k0
      rw [eb, e]
      have k := okT_iff.1 hk
      have k9 := k.hi
      clear e eb
      go_wp2
      go_loopg [8] T.length (fun g i wr => ∃ j : Nat, j ≤ T.length ∧ Hid (g = T.length - j) ∧ i = .int .i64 j ∧ Below w3.heap.size w3 wr)
      case atStart => exact ⟨0, Nat.zero_le _, rfl, rfl, Below.refl _ _⟩
      case round =>
        obtain ⟨j, hj, hgk, rfl, hB⟩ := hrel
        have zB := hB.size
        by_cases hjt : j < T.length
        · obtain ⟨h1, h2⟩ := hz j hjt
          have P1 := hide ((prod2 hk (by omega) (by omega) (by omega) (by omega)).trans h1)
          have P2 := hide ((prod2 hk (by omega) (by omega) (by omega) (by omega)).trans h2)
          clear h1 h2
          go_wp2_with fail
          have c4 := (Below.refl wr.heap.size wr).more (.cells #[.int .i64 (k0 : Nat), .int .i64 (j : Nat)] 3)
          have C4 := hB.trans (c4.mono hB.size)
          refine (iProductOf_any _ _ _ 2 _ _ _ _ T [((k0 : Nat) : Int), ((j : Nat) : Int)] _ (m3.below C4 (by omega)) (by have := C4.size; omega) hS (row_lit (W := wr) #[.int .i64 (k0 : Nat), .int .i64 (j : Nat)] rfl) (by simp) (by simp) (by simp) (by omega)).mono ?_
          rw [P1.out]
          rintro e w5 ⟨rfl, b5⟩
          have C5 := C4.trans (b5.mono C4.size)
          go_wp2_with fail
          have c6 := (Below.refl w5.heap.size w5).more (.cells #[.int .i64 (j : Nat), .int .i64 (k0 : Nat)] 3)
          have C6 := C5.trans (c6.mono C5.size)
          refine (iProductOf_any _ _ _ 2 _ _ _ _ T [((j : Nat) : Int), ((k0 : Nat) : Int)] _ (m3.below C6 (by omega)) (by have := C6.size; omega) hS (row_lit (W := w5) #[.int .i64 (j : Nat), .int .i64 (k0 : Nat)] rfl) (by simp) (by simp) (by simp) (by omega)).mono ?_
          rw [P2.out]
          rintro e w7 ⟨rfl, b7⟩
          have C7 := C6.trans (b7.mono C6.size)
          go_wp2
          go_roundg (T.length - (j + 1))
          case measure => go_light; have := hgk.out; omega
          case rel => go_light; exact ⟨j + 1, by omega, rfl, by go_num, C7⟩
        · obtain rfl : T.length = j := by omega
          have B4 := B3.trans (hB.mono B3.size)
          have m4 := m3.below hB (by omega)
          have HZ := hide (zero_turn hk hlt hz)
          have hT2 := small_turnT (T := T)
          go_wp2_with fail
          refine (iTurnedOf_any _ _ _ _ _ _ m4 (by omega) hS).mono ?_
          rintro e w5 ⟨A5, c5, rfl, b5, o5⟩
          have B5 := B4.trans (b5.mono B4.size)
          go_wp2_with fail
          refine (iZeroOf_any _ _ _ _ _ _ o5.mat (Nat.le_refl _) hT2).mono ?_
          rw [HZ.out, okI_nat]
          rintro e w6 ⟨rfl, b6⟩
          go_wp2
          go_ret
          exact ⟨rfl, B5.trans (b6.mono B5.size)⟩
    · have eb : okI (zeroT T) = false := by rw [e]; exact okI_not
      rw [eb, e]
      clear e eb
      go_wp2_with fail
      refine (alive_any _).mono ?_
      rintro e w5 ⟨rfl, b5⟩
      go_wp2
      go_ret
      exact ⟨rfl, B3.trans (b5.mono B3.size)⟩

set_option maxRecDepth 100000 in
theorem lifted_FnZeroOf (os : Os) (started : os.Started) (H : Type) (enc : TypeId × Value → H) :
    ReturnsInHanded {} Try.checked os 7 .any (Rows.fnZeroOfSpec.pre6 enc Try.prog Try.f7 Rows.fnZeroOfRow.domain false) (Rows.fnZeroOfSpec.post enc Try.prog Try.f7 false true false false) := by
  refine returnsInHanded_of_change (C := Try.checked) own started (by kernel_rfl) Try.func7
    (ChangeSpec.witness6 (enc := enc) (C := Try.checked) false ⟨#[], #[.slice none 0 0], []⟩ 8 (by kernel_rfl) (by kernel_rfl) (by kernel_rfl) (by kernel_rfl)) ?_
  intro W base args ds gs before hval0 hW hcnd _
  have hval : ∀ (j : Nat) t v, Try.f7.params[j]? = some t → args[j]? = some v → Value.okWide Try.prog W .any base t v := hval0
  have hW' := hW
  obtain ⟨p, q, hA0, hV, rfl, hfz, hnd⟩ := hW
  have hA : DataW.TrodAll enc Try.prog W 0 (fun _ => true) true Try.f7.params.toList args.toList ds p := hA0
  rw [Try.params7] at hA hval
  obtain ⟨v0, vs0, d0, ds0, p0, q0, hargs, rfl, rfl, h0, r0⟩ := trodAll_cons hA
  obtain ⟨rfl, rfl, rfl⟩ := trodAll_nil r0
  obtain rfl : args = #[v0] := by cases args; simp_all
  obtain ⟨rfl, rfl⟩ := trodVars_none hV
  obtain ⟨a0, len0, cap0, rfl⟩ := okWide_slice Try.underlying22 (hval 0 22 v0 rfl rfl)
  have k0 := h0
  have lt0 : ∀ x ∈ p0, x.block < W.heap.size := by obtain ⟨m, hm⟩ := k0; exact DataW.trod_lt m _ _ _ hm
  obtain ⟨fuel0, hf0⟩ := h0
  obtain ⟨hl0, hS0, hT0⟩ := open_bytes hf0
  clear hA0 hval0
  refine (fnZeroOf_walk a0 len0 cap0 W hT0 hl0 hS0).mono fun e W' ⟨he, bel⟩ => ?_
  subst he
  exact ⟨_, rfl, _, _, _, [], _, [], hW', trodAll_mk1 (shut_bool Try.underlying4 _), (trodAll_cons_mk (Below.trod laidOut (by kernel_rfl) (of_decide_eq_true (by kernel_rfl)) k0 bel lt0) trodAll_mk0), rfl, bel.frame _, fun h => by cases h⟩

theorem closed_FnZeroOf : joinedFacts Try.pinned.checked.prog 7 Try.f7 Rows.fnZeroOfSpec Rows.fnZeroOfRow = true := by
  unfold joinedFacts
  rw [fit_enter, fit_final, fit_make]
  kernel_rfl

theorem fnZeroOf_holds : Rows.FnZeroOfSaid :=
  OpenClaim.holds_of_wide 7 Try.f7 rfl rfl rfl rfl rfl rfl rfl ⟨rfl, rfl, rfl, rfl, rfl⟩ rfl rfl rfl rfl rfl (by kernel_rfl) Try.func7 closed_FnZeroOf
    (of_decide_eq_true (by kernel_rfl)) (by unfold Func.isWrapper; first | (rw [if_pos (by decide +kernel)]; kernel_rfl) | (rw [if_neg (by decide +kernel)]; exact ⟨rfl, rfl⟩))
    (fun os started H enc _ => lifted_FnZeroOf os started H enc)

#print axioms fnZeroOf_holds
end Go.Proofs.Ytcegjiiondmchab
