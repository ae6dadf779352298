
/- FnLeftOk returns true for every input, and leaves it as it was: no condition. -/
import Derived.Test.YtcegjiiondmchabFrameB
import Derived.Test.YtcegjiiondmchabEq
import Derived.Test.YtcegjiiondmchabIband
import Derived.Test.YtcegjiiondmchabSband
import Derived.Test.YtcegjiiondmchabDrawBands
import Derived.Test.YtcegjiiondmchabPureX
import Derived.Test.YtcegjiiondmchabProd
import Derived.Test.YtcegjiiondmchabDrawS
import Derived.Test.YtcegjiiondmchabFit
namespace Go.Proofs.Ytcegjiiondmchab
open Go.ChangeShapes Go.WideShapes Go.ChangeAt Go.RowKit Go.Deep
set_option linter.unusedVariables false

theorem okRow2 {T : List (List Int)} {a b : Int} (a0 : 0 ≤ a) (a1 : a < T.length) (b0 : 0 ≤ b) (b1 : b < T.length) : okRow T.length [a, b] = true := by
  simp [okRow]; omega
theorem prod2 {T : List (List Int)} {a b : Int} (h : okT T = true) (a0 : 0 ≤ a) (a1 : a < T.length) (b0 : 0 ≤ b) (b1 : b < T.length) : prodT T [a, b] = mul T a b := by
  rw [prodT_ok h (by simp) (okRow2 a0 a1 b0 b1)]; rfl
theorem prod3 {T : List (List Int)} {a b c : Int} (h : okT T = true) (a0 : 0 ≤ a) (a1 : a < T.length) (b0 : 0 ≤ b) (b1 : b < T.length) (c0 : 0 ≤ c) (c1 : c < T.length) : prodT T [a, b, c] = mul T (mul T a b) c := by
  rw [prodT_ok h (by simp) (by simp [okRow]; omega)]; rfl
theorem prod6 {T : List (List Int)} {a b c : Int} (h : okT T = true) (a0 : 0 ≤ a) (a1 : a < T.length) (b0 : 0 ≤ b) (b1 : b < T.length) (c0 : 0 ≤ c) (c1 : c < T.length) : prodT T [a, b, c, a, b, c] = mul T (mul T (mul T (mul T (mul T a b) c) a) b) c := by
  rw [prodT_ok h (by simp) (by simp [okRow]; omega)]; rfl

set_option maxRecDepth 20000 in
set_option maxHeartbeats 4000000 in
theorem fnLeftOk_walk (A : Option Addr) (n c : Nat) (w : World) (h : Bytes w w.heap.size A n) (hc : n ≤ c) (hc2 : c ≤ 9223372036854775807) :
    Calls Try.prog 5 #[.slice A n c] w fun e w' => e = .returned (.bool true) ∧ Below w.heap.size w w' := by
  by_cases hn : (1048576 : Int) < (n : Int)
  · go_enter Try.func5, Try.ntmps5
    go_wp2
    go_ret
    exact ⟨rfl, Below.refl _ _⟩
  · go_enter Try.func5, Try.ntmps5
    go_wp2_with fail
    refine (drawLeftOk_any A n c w h hc hc2).mono ?_
    rintro e w1 ⟨A1, c1, T, rfl, B1, m1, hS⟩
    have hlT := hS.len
    go_wp2_with fail
    refine (iLeftOk_any _ _ _ _ _ _ m1 (by omega) hS).mono ?_
    rintro e w2 ⟨rfl, b2⟩
    have B2 := B1.trans (b2.mono B1.size)
    have m2 := m1.below b2 (by omega)
    have z2 := b2.size
    go_wp2_with fail
    refine (sLeftOk_any _ _ _ _ _ _ m2 hS).mono ?_
    rintro e w3 ⟨rfl, q3⟩
    have B3 := B2.trans (q3.below w.heap.size)
    have m3 := m2.quiet q3
    have z3 := q3.below 0 |>.size
    have hnn : 0 ≤ (T.length : Int) * (T.length : Int) ∧ (T.length : Int) * (T.length : Int) ≤ 1099511627776 := by
      have := Nat.mul_le_mul hlT hlT
      rw [← Int.natCast_mul]; omega
    obtain ⟨nn0, nn1⟩ := hnn
    cases hl : leftT T
    · by_cases hz : (0 : Int) < (T.length : Int) * (T.length : Int)
      all_goals
        go_wp2
        go_loopg [5] 1 (fun g i wr => i = .int .i64 0 ∧ w3 = wr)
        case atStart => exact ⟨rfl, rfl⟩
        case round =>
          obtain ⟨rfl, rfl⟩ := hrel
          have c9 := (((Below.refl w3.heap.size w3).more (.cells #[.int .i64 0, .int .i64 0] 3)).more (.cells #[.int .i64 1, .int .i64 1] 3)).more (.cells #[.slice (some ⟨w3.heap.size, 0, none⟩) 2 2, .slice (some ⟨w3.heap.size + 1, 0, none⟩) 2 2] 28)
          have l9 := lit2 (W := w3) 0 0 1 1 rfl
          have HLF := hide lit_left
          go_wp2_with fail
          refine (iLeftOk_any _ 2 _ _ [[0, 0], [1, 1]] _ l9 (by simp) (small2 0 0 1 1)).mono ?_
          rw [HLF.out]
          rintro e w9 ⟨rfl, b9⟩
          go_wp2
          go_ret
          exact ⟨rfl, (B3.trans (c9.mono B3.size)).trans (b9.mono (B3.trans (c9.mono B3.size)).size)⟩
    · have hb := left_band hl
      have bd := bandT_iff.1 hb
      have k := bd.g.tab
      have hk := okT_iff.2 k
      have k1 := k.lo
      have k9 := k.hi
      have h0 : ¬ T.length = 0 := by omega
      have h01 : ¬ T = [] := fun e => by subst e; exact h0 rfl
      obtain ⟨⟨n20, n21⟩, _, _⟩ := sq_int k9
      clear nn1
      go_wp2
      go_loopg [5] (T.length * T.length) (fun g i wr => ∃ p : Nat, p ≤ T.length * T.length ∧ g = T.length * T.length - p ∧ i = .int .i64 p ∧ Below w3.heap.size w3 wr)
      case atStart => exact ⟨0, Nat.zero_le _, rfl, rfl, Below.refl _ _⟩
      case round =>
        obtain ⟨p, hp, rfl, rfl, hB⟩ := hrel
        have zB := hB.size
        by_cases hpt : p < T.length * T.length
        · have hpi : (p : Int) < (T.length : Int) * (T.length : Int) := by rw [← Int.natCast_mul]; exact Int.ofNat_lt.2 hpt
          obtain ⟨a0, a1⟩ := div_in k1 hpt
          have b0 : 0 ≤ (p : Int) % (T.length : Int) := Int.emod_nonneg _ (by omega)
          have b1 : (p : Int) % (T.length : Int) < (T.length : Int) := Int.emod_lt_of_pos _ (by omega)
          have e0 : 0 ≤ ((p : Int) * 5 + 1) % (T.length : Int) := Int.emod_nonneg _ (by omega)
          have e1 : ((p : Int) * 5 + 1) % (T.length : Int) < (T.length : Int) := Int.emod_lt_of_pos _ (by omega)
          obtain ⟨qa1, qa2, qa3, qa4⟩ := wrapQ (p : Int) (T.length : Int) (by omega) (by omega) (by omega)
          obtain ⟨qb1, qb2, qb3, qb4⟩ := wrapQ ((p : Int) * 5 + 1) (T.length : Int) (by omega) (by omega) (by omega)
          have w5_ : IntKind.i64.wrap ((p : Int) * 5) = (p : Int) * 5 := IntWalk.i64_in _ ⟨by omega, by omega⟩
          have w6_ : IntKind.i64.wrap ((p : Int) * 5 + 1) = (p : Int) * 5 + 1 := IntWalk.i64_in _ ⟨by omega, by omega⟩
          obtain ⟨wo, rfl⟩ : ∃ wo : World, wo = wr := ⟨_, rfl⟩
          go_wp2_with fail
          go_region_held3 (fun W => Below w3.heap.size w3 W)
            (first
              | exact hB.drew
              | exact Below.alloc (by assumption) (Below.size (by assumption)) _)
            (first
              | fail)
          clear qa1 qa2 qa3 qa4 qb1 qb2 qb3 qb4 w5_ w6_
          generalize ((p : Int) * 5 + 1) % (T.length : Int) = cc at *
          generalize (p : Int) / (T.length : Int) = aa at *
          generalize (p : Int) % (T.length : Int) = bb at *
          have hRow : Row ((wo.alloc (.cells #[.int .i64 aa, .int .i64 bb, .int .i64 cc] 3)).drew) wo.heap.size (wo.heap.size + 1) (some ⟨wo.heap.size, 0, none⟩) [aa, bb, cc] := (row_lit (W := wo) #[.int .i64 aa, .int .i64 bb, .int .i64 cc] rfl).drewN 1
          have c4 : Below wo.heap.size wo ((wo.alloc (.cells #[.int .i64 aa, .int .i64 bb, .int .i64 cc] 3)).drew) := ((Below.refl wo.heap.size wo).more _).drew
          have es : (wo.alloc (.cells #[.int .i64 aa, .int .i64 bb, .int .i64 cc] 3)).heap.size = wo.heap.size + 1 := by simp
          have z4 : wo.heap.size < ((wo.alloc (.cells #[.int .i64 aa, .int .i64 bb, .int .i64 cc] 3)).drew).heap.size := by show wo.heap.size < (wo.alloc (.cells #[.int .i64 aa, .int .i64 bb, .int .i64 cc] 3)).heap.size; omega
          clear es
          generalize (wo.alloc (.cells #[.int .i64 aa, .int .i64 bb, .int .i64 cc] 3)).drew = w4 at *
          have C4 := hB.trans (c4.mono hB.size)
          have hx := prod3 hk a0 a1 b0 b1 e0 e1
          obtain ⟨u0, u1⟩ := k.mul a0 a1 b0 b1
          obtain ⟨x0, x1⟩ := k.mul u0 u1 e0 e1
          obtain ⟨t1, t2, t3⟩ := left_three hl a0 a1 b0 b1 e0 e1
          generalize mul T (mul T aa bb) cc = x at hx x0 x1 t1 t2 t3
          have HX := hide hx
          have HV := hide (show ∀ j, j < 3 → mul T x (el [aa, bb, cc] j) = x ∧ 0 ≤ el [aa, bb, cc] j ∧ el [aa, bb, cc] j < T.length from fun j hj => by
            rcases (by omega : j = 0 ∨ j = 1 ∨ j = 2) with rfl | rfl | rfl
            · exact ⟨t1, a0, a1⟩
            · exact ⟨t2, b0, b1⟩
            · exact ⟨t3, e0, e1⟩)
          clear hx t1 t2 t3 u0 u1
          go_wp2_with fail
          refine (iProductOf_any _ _ _ 3 _ _ _ _ T [aa, bb, cc] w4 (m3.below C4 (by omega)) (by have := C4.size; omega) hS hRow (by omega) (by simp) (by simp) (by omega)).mono ?_
          rw [HX.out]
          rintro e w5 ⟨rfl, b5⟩
          have C5 := C4.trans (b5.mono C4.size)
          have hRow5 := hRow.below b5 (by omega)
          have z5 := b5.size
          go_wp2
          go_loopg [8] 3 (fun g i wx => ∃ j : Nat, j ≤ 3 ∧ Hid (g = 3 - j) ∧ i = .int .i64 j ∧ Below w5.heap.size w5 wx)
          case atStart => exact ⟨0, by omega, rfl, rfl, Below.refl _ _⟩
          case round =>
            obtain ⟨j, hj, hgj, rfl, hB5⟩ := hrel
            have zB5 := hB5.size
            by_cases hj3 : j < 3
            · have hji : (j : Int) < 3 := by omega
              obtain ⟨b9, o9, e9, _, hb9, hc9⟩ := (hRow5.below hB5 (by omega)) j (by simpa using hj3)
              obtain ⟨rfl, rfl⟩ : wo.heap.size = b9 ∧ 0 = o9 := by simpa using e9
              obtain ⟨hv, v0, v1⟩ := HV.out j hj3
              generalize el [aa, bb, cc] j = v at hc9 hv v0 v1
              rw [Nat.zero_add] at hc9
              have P := hide ((prod2 hk x0 x1 v0 v1).trans hv)
              clear hv e9
              have D0 := C5.trans (hB5.mono C5.size)
              go_wp2_with fail
              have c6 := (Below.refl wr.heap.size wr).more (.cells #[.int .i64 x, .int .i64 v] 3)
              have D6 := D0.trans (c6.mono D0.size)
              refine (iProductOf_any _ _ _ 2 _ _ _ _ T [x, v] _ (m3.below D6 (by omega)) (by have := D6.size; omega) hS (row_lit (W := wr) #[.int .i64 x, .int .i64 v] rfl) (by simp) (by simp) (by simp) (by omega)).mono ?_
              rw [P.out]
              rintro e w7 ⟨rfl, b7⟩
              have D7 := (hB5.trans (c6.mono hB5.size)).trans (b7.mono (hB5.trans (c6.mono hB5.size)).size)
              go_wp2
              go_roundg (3 - (j + 1))
              case measure => go_light; have := hgj.out; omega
              case rel => go_light; exact ⟨j + 1, by omega, rfl, by go_num, D7⟩
            · obtain rfl : j = 3 := by omega
              go_wp2
              go_roundg (T.length * T.length - (p + 1))
              case measure => go_light; omega
              case rel => go_light; exact ⟨p + 1, by omega, rfl, by go_num, C5.trans (hB5.mono C5.size)⟩
        · have hpi : ¬ (p : Int) < (T.length : Int) * (T.length : Int) := by rw [← Int.natCast_mul]; omega
          obtain ⟨w4, rfl⟩ : ∃ w_ : World, w_ = wr := ⟨_, rfl⟩
          have B4 := B3.trans (hB.mono B3.size)
          have m4 := m3.below hB (by omega)
          go_wp2_with fail
          refine (iBandOk_any _ _ _ _ _ _ m4 (by omega) hS).mono ?_
          rw [hb]
          rintro e w5 ⟨rfl, b5⟩
          have B5 := B4.trans (b5.mono B4.size)
          have m5 := m4.below b5 (by omega)
          have z5 := b5.size
          have c9 := (((Below.refl w5.heap.size w5).more (.cells #[.int .i64 0, .int .i64 0] 3)).more (.cells #[.int .i64 1, .int .i64 1] 3)).more (.cells #[.slice (some ⟨w5.heap.size, 0, none⟩) 2 2, .slice (some ⟨w5.heap.size + 1, 0, none⟩) 2 2] 28)
          have l9 := lit2 (W := w5) 0 0 1 1 rfl
          have HLF := hide lit_left
          go_wp2_with fail
          refine (iLeftOk_any _ 2 _ _ [[0, 0], [1, 1]] _ l9 (by simp) (small2 0 0 1 1)).mono ?_
          rw [HLF.out]
          rintro e w9 ⟨rfl, b9⟩
          go_wp2
          go_ret
          exact ⟨rfl, (B5.trans (c9.mono B5.size)).trans (b9.mono (B5.trans (c9.mono B5.size)).size)⟩

set_option maxRecDepth 100000 in
theorem lifted_FnLeftOk (os : Os) (started : os.Started) (H : Type) (enc : TypeId × Value → H) :
    ReturnsInHanded {} Try.checked os 5 .any (Rows.fnLeftOkSpec.pre6 enc Try.prog Try.f5 Rows.fnLeftOkRow.domain false) (Rows.fnLeftOkSpec.post enc Try.prog Try.f5 false true false false) := by
  refine returnsInHanded_of_change (C := Try.checked) own started (by kernel_rfl) Try.func5
    (ChangeSpec.witness6 (enc := enc) (C := Try.checked) false ⟨#[], #[.slice none 0 0], []⟩ 8 (by kernel_rfl) (by kernel_rfl) (by kernel_rfl) (by kernel_rfl)) ?_
  intro W base args ds gs before hval0 hW hcnd _
  have hval : ∀ (j : Nat) t v, Try.f5.params[j]? = some t → args[j]? = some v → Value.okWide Try.prog W .any base t v := hval0
  have hW' := hW
  obtain ⟨p, q, hA0, hV, rfl, hfz, hnd⟩ := hW
  have hA : DataW.TrodAll enc Try.prog W 0 (fun _ => true) true Try.f5.params.toList args.toList ds p := hA0
  rw [Try.params5] at hA hval
  obtain ⟨v0, vs0, d0, ds0, p0, q0, hargs, rfl, rfl, h0, r0⟩ := trodAll_cons hA
  obtain ⟨rfl, rfl, rfl⟩ := trodAll_nil r0
  obtain rfl : args = #[v0] := by cases args; simp_all
  obtain ⟨rfl, rfl⟩ := trodVars_none hV
  obtain ⟨a0, len0, cap0, rfl⟩ := okWide_slice Try.underlying22 (hval 0 22 v0 rfl rfl)
  have k0 := h0
  have lt0 : ∀ x ∈ p0, x.block < W.heap.size := by obtain ⟨m, hm⟩ := k0; exact DataW.trod_lt m _ _ _ hm
  obtain ⟨fuel0, hf0⟩ := h0
  obtain ⟨hl0, hS0, hT0⟩ := open_bytes hf0
  clear hA0 hval0
  refine (fnLeftOk_walk a0 len0 cap0 W hT0 hl0 hS0).mono fun e W' ⟨he, bel⟩ => ?_
  subst he
  exact ⟨_, rfl, _, _, _, [], _, [], hW', trodAll_mk1 (shut_bool Try.underlying4 _), (trodAll_cons_mk (Below.trod laidOut (by kernel_rfl) (of_decide_eq_true (by kernel_rfl)) k0 bel lt0) trodAll_mk0), rfl, bel.frame _, fun h => by cases h⟩

theorem closed_FnLeftOk : joinedFacts Try.pinned.checked.prog 5 Try.f5 Rows.fnLeftOkSpec Rows.fnLeftOkRow = true := by
  unfold joinedFacts
  rw [fit_enter, fit_final, fit_make]
  kernel_rfl

theorem fnLeftOk_holds : Rows.FnLeftOkSaid :=
  OpenClaim.holds_of_wide 5 Try.f5 rfl rfl rfl rfl rfl rfl rfl ⟨rfl, rfl, rfl, rfl, rfl⟩ rfl rfl rfl rfl rfl (by kernel_rfl) Try.func5 closed_FnLeftOk
    (of_decide_eq_true (by kernel_rfl)) (by unfold Func.isWrapper; first | (rw [if_pos (by decide +kernel)]; kernel_rfl) | (rw [if_neg (by decide +kernel)]; exact ⟨rfl, rfl⟩))
    (fun os started H enc _ => lifted_FnLeftOk os started H enc)

#print axioms fnLeftOk_holds
end Go.Proofs.Ytcegjiiondmchab
