/- FnGroupedOk returns true for every input, and leaves it as it was: no condition. -/
import Derived.Test.YthiiniahkfjgmaaFrameB
import Derived.Test.YthiiniahkfjgmaaEq
import Derived.Test.YthiiniahkfjgmaaPureT
import Derived.Test.YthiiniahkfjgmaaDrawAll
import Derived.Test.YthiiniahkfjgmaaProd
namespace Go.Proofs.Ythiiniahkfjgmaa
open Go.ChangeShapes Go.WideShapes Go.ChangeAt Go.RowKit Go.Deep
set_option linter.unusedVariables false


/-- A row of numbers, written out. -/
theorem row_lit {W : World} {xs : List Int} (cs : Array Value) (hc : cs = (xs.map (Value.int .i64)).toArray) : Row (W.alloc (.cells cs 3)) W.heap.size (W.heap.size + 1) (some ⟨W.heap.size, 0, none⟩) xs := fun j hj => by
  subst hc
  have e1 := heap_alloc_new W (.cells (xs.map (Value.int .i64)).toArray 3)
  exact ⟨W.heap.size, 0, rfl, Nat.le_refl _, by omega, by rw [cell_of_row _ _ _ _ _ _ e1]; simp [hj, el, List.getD]⟩
theorem okRow2 {T : List (List Int)} {a b : Int} (a0 : 0 ≤ a) (a1 : a < T.length) (b0 : 0 ≤ b) (b1 : b < T.length) : okRow T.length [a, b] = true := by
  simp [okRow]; omega
theorem prod2 {T : List (List Int)} {a b : Int} (h : okT T = true) (a0 : 0 ≤ a) (a1 : a < T.length) (b0 : 0 ≤ b) (b1 : b < T.length) : prodT T [a, b] = mul T a b := by
  rw [prodT_ok h (by simp) (okRow2 a0 a1 b0 b1)]; rfl
theorem prod4 {T : List (List Int)} {a b c d : Int} (h : okT T = true) (a0 : 0 ≤ a) (a1 : a < T.length) (b0 : 0 ≤ b) (b1 : b < T.length) (c0 : 0 ≤ c) (c1 : c < T.length) (d0 : 0 ≤ d) (d1 : d < T.length) : prodT T [a, b, c, d] = mul T (mul T (mul T a b) c) d := by
  rw [prodT_ok h (by simp) (by simp [okRow]; omega)]; rfl

set_option maxHeartbeats 2000000 in
theorem fnGroupedOk_walk (A : Option Addr) (n c : Nat) (w : World) (h : Bytes w w.heap.size A n) (hc : n ≤ c) (hc2 : c ≤ 9223372036854775807) :
    Calls Try.prog 4 #[.slice A n c] w fun e w' => e = .returned (.bool true) ∧ Below w.heap.size w w' := by
  by_cases hn : (1048576 : Int) < (n : Int)
  · go_enter Try.func4, Try.ntmps4
    go_wp2
    go_ret
    exact ⟨rfl, Below.refl _ _⟩
  · go_enter Try.func4, Try.ntmps4
    go_wp2_with fail
    refine (drawGroupedOk_any A n c w h hc hc2).mono ?_
    rintro e w1 ⟨A1, c1, T, rfl, B1, m1, hS⟩
    go_wp2_with fail
    refine (iGroupedOk_any _ _ _ _ _ _ m1 (Nat.le_refl _) hS).mono ?_
    rintro e w2 ⟨rfl, b2⟩
    have B2 := B1.trans (b2.mono B1.size)
    have m2 := m1.below b2 (Nat.le_refl _)
    go_wp2_with fail
    refine (sGroupedOk_any _ _ _ _ _ _ m2 hS).mono ?_
    rintro e w3 ⟨rfl, q3⟩
    have B3 := B2.trans (q3.below w.heap.size)
    have m3 := m2.quiet q3
    have z3 : w1.heap.size ≤ w3.heap.size := Nat.le_trans b2.size (q3.below 0).size
    clear m1 m2 b2 q3 B1 B2
    cases hk : okT T
    · have hg := grpT_not hk
      go_wp2_with fail
      all_goals
        first
          | (refine (sTableOk_any _ _ _ _ _ _ m3 hS).mono ?_
             rintro e w4 ⟨rfl, rfl⟩
             rw [hk]
             go_wp2_with fail
             refine (alive_any _).mono ?_
             rintro e w5 ⟨rfl, b5⟩
             go_wp2
             go_ret
             exact ⟨rfl, B3.trans (b5.mono B3.size)⟩)
    · have k := okT_iff.1 hk
      have k1 := k.lo
      have k9 := k.hi
      have hT2 := small_turnT (T := T)
      have hg2 := grpT_turnT hk
      have HG := hide hg2
      clear hg2
      obtain ⟨⟨n20, n21⟩, _, _⟩ := sq_int k9
      have FIN := hide (fun (W : World) (hb : Below w3.heap.size w3 W) => iTurnedOf_any A1 c1 _ _ T W (m3.below hb z3) (Nat.le_trans z3 hb.size) hS)
      cases hgr : grpT T
      · go_wp2_with fail
        refine (sTableOk_any _ _ _ _ _ _ m3 hS).mono ?_
        rintro e w4 ⟨rfl, rfl⟩
        rw [hk]
        go_wp2
        have hnn : (0 : Int) < (T.length : Int) * (T.length : Int) := by
          rw [← Int.natCast_mul]; exact Int.ofNat_lt.2 (Nat.mul_pos (by omega) (by omega))
        go_loopg [6] 1 (fun g i wr => i = .int .i64 0 ∧ w3 = wr)
        case atStart => exact ⟨rfl, rfl⟩
        case round =>
          obtain ⟨rfl, rfl⟩ := hrel
          go_wp2_with fail
          refine (FIN.out _ (Below.refl _ _)).mono ?_
          rintro e w5 ⟨A5, c5, rfl, b5, o5⟩
          go_wp2_with fail
          refine (iGroupedOk_any _ _ _ _ _ _ o5.mat (Nat.le_refl _) hT2).mono ?_
          rw [HG.out, hgr]
          rintro e w6 ⟨rfl, b6⟩
          go_wp2_with fail
          refine (alive_any _).mono ?_
          rintro e w7 ⟨rfl, b7⟩
          go_wp2
          go_ret
          have B5 := B3.trans (b5.mono B3.size)
          have B6 := B5.trans (b6.mono B5.size)
          exact ⟨rfl, B6.trans (b7.mono B6.size)⟩
      · have G := grpT_iff.1 hgr
        go_wp2_with fail
        refine (sTableOk_any _ _ _ _ _ _ m3 hS).mono ?_
        rintro e w4 ⟨rfl, rfl⟩
        rw [hk]
        go_wp2
        go_loopg [6] (T.length * T.length) (fun g i wr => ∃ p : Nat, p ≤ T.length * T.length ∧ g = T.length * T.length - p ∧ i = .int .i64 p ∧ Below w3.heap.size w3 wr)
        case atStart => exact ⟨0, Nat.zero_le _, rfl, rfl, Below.refl _ _⟩
        case round =>
          obtain ⟨p, hp, rfl, rfl, hB⟩ := hrel
          by_cases hpt : p < T.length * T.length
          · have hpi : (p : Int) < (T.length : Int) * (T.length : Int) := by rw [← Int.natCast_mul]; exact Int.ofNat_lt.2 hpt
            obtain ⟨a0, a1⟩ := div_in k1 hpt
            have b0 : 0 ≤ (p : Int) % (T.length : Int) := Int.emod_nonneg _ (by omega)
            have b1 : (p : Int) % (T.length : Int) < (T.length : Int) := Int.emod_lt_of_pos _ (by omega)
            have e0 : 0 ≤ ((p : Int) / (T.length : Int) * 2 + (p : Int) % (T.length : Int) + 1) % (T.length : Int) := Int.emod_nonneg _ (by omega)
            have e1 : ((p : Int) / (T.length : Int) * 2 + (p : Int) % (T.length : Int) + 1) % (T.length : Int) < (T.length : Int) := Int.emod_lt_of_pos _ (by omega)
            have f0 : 0 ≤ ((p : Int) / (T.length : Int) + (p : Int) % (T.length : Int) * 3) % (T.length : Int) := Int.emod_nonneg _ (by omega)
            have f1 : ((p : Int) / (T.length : Int) + (p : Int) % (T.length : Int) * 3) % (T.length : Int) < (T.length : Int) := Int.emod_lt_of_pos _ (by omega)
            go_wp2_with fail
            generalize ((p : Int) / (T.length : Int) * 2 + (p : Int) % (T.length : Int) + 1) % (T.length : Int) = cc at e0 e1 ⊢
            generalize ((p : Int) / (T.length : Int) + (p : Int) % (T.length : Int) * 3) % (T.length : Int) = dd at f0 f1 ⊢
            generalize (p : Int) / (T.length : Int) = aa at a0 a1 ⊢
            generalize (p : Int) % (T.length : Int) = bb at b0 b1 ⊢
            obtain ⟨x0, x1⟩ := k.mul a0 a1 b0 b1
            obtain ⟨y0, y1⟩ := k.mul e0 e1 f0 f1
            have HA := hide (show prodT T [aa, bb, cc, dd] = prodT T [mul T aa bb, mul T cc dd] from by
              rw [prod4 hk a0 a1 b0 b1 e0 e1 f0 f1, prod2 hk x0 x1 y0 y1, ← G.grp _ _ _ x0 x1 e0 e1 f0 f1])
            have P1 := hide (prod2 hk a0 a1 b0 b1)
            have P2 := hide (prod2 hk e0 e1 f0 f1)
            have c4 := (Below.refl wr.heap.size wr).more (.cells #[.int .i64 aa, .int .i64 bb] 3)
            have C4 := hB.trans (c4.mono hB.size)
            refine (sProductOf_any _ _ _ 2 _ _ _ _ T [aa, bb] _ (m3.below C4 z3) hS (row_lit (W := wr) #[.int .i64 aa, .int .i64 bb] rfl) (by simp)).mono ?_
            rw [P1.out]
            rintro e w5 ⟨rfl, q5⟩
            have C5 := C4.trans (q5.below w3.heap.size)
            go_wp2_with fail
            have c6 := (Below.refl w5.heap.size w5).more (.cells #[.int .i64 cc, .int .i64 dd] 3)
            have C6 := C5.trans (c6.mono C5.size)
            refine (sProductOf_any _ _ _ 2 _ _ _ _ T [cc, dd] _ (m3.below C6 z3) hS (row_lit (W := w5) #[.int .i64 cc, .int .i64 dd] rfl) (by simp)).mono ?_
            rw [P2.out]
            rintro e w7 ⟨rfl, q7⟩
            have C7 := C6.trans (q7.below w3.heap.size)
            go_wp2_with fail
            have c8 := (Below.refl w7.heap.size w7).more (.cells #[.int .i64 aa, .int .i64 bb, .int .i64 cc, .int .i64 dd] 3)
            have C8 := C7.trans (c8.mono C7.size)
            refine (iProductOf_any _ _ _ 4 _ _ _ _ T [aa, bb, cc, dd] _ (m3.below C8 z3) (Nat.le_trans z3 C8.size) hS (row_lit (W := w7) #[.int .i64 aa, .int .i64 bb, .int .i64 cc, .int .i64 dd] rfl) (by simp) (by simp) (by simp) (by omega)).mono ?_
            rintro e w9 ⟨rfl, d9⟩
            have C9 := C8.trans (d9.mono C8.size)
            go_wp2_with fail
            have c10 := (Below.refl w9.heap.size w9).more (.cells #[.int .i64 (mul T aa bb), .int .i64 (mul T cc dd)] 3)
            have C10 := C9.trans (c10.mono C9.size)
            refine (iProductOf_any _ _ _ 2 _ _ _ _ T [mul T aa bb, mul T cc dd] _ (m3.below C10 z3) (Nat.le_trans z3 C10.size) hS (row_lit (W := w9) #[.int .i64 (mul T aa bb), .int .i64 (mul T cc dd)] rfl) (by simp) (by simp) (by simp) (by omega)).mono ?_
            rw [← HA.out]
            rintro e w11 ⟨rfl, d11⟩
            have C11 := C10.trans (d11.mono C10.size)
            go_wp2
            go_roundg (T.length * T.length - (p + 1))
            case measure => go_light; omega
            case rel => go_light; exact ⟨p + 1, by omega, rfl, by go_num, C11⟩
          · have hpi : ¬ (p : Int) < (T.length : Int) * (T.length : Int) := by rw [← Int.natCast_mul]; omega
            go_wp2_with fail
            refine (FIN.out _ hB).mono ?_
            rintro e w5 ⟨A5, c5, rfl, b5, o5⟩
            go_wp2_with fail
            refine (iGroupedOk_any _ _ _ _ _ _ o5.mat (Nat.le_refl _) hT2).mono ?_
            rw [HG.out, hgr]
            rintro e w6 ⟨rfl, b6⟩
            go_wp2_with fail
            refine (alive_any _).mono ?_
            rintro e w7 ⟨rfl, b7⟩
            go_wp2
            go_ret
            have B4 := B3.trans (hB.mono B3.size)
            have B5 := B4.trans (b5.mono B4.size)
            have B6 := B5.trans (b6.mono B5.size)
            exact ⟨rfl, B6.trans (b7.mono B6.size)⟩

set_option maxRecDepth 100000 in
theorem lifted_FnGroupedOk (os : Os) (started : os.Started) (H : Type) (enc : TypeId × Value → H) :
    ReturnsInHanded {} Try.checked os 4 .any (Rows.fnGroupedOkSpec.pre6 enc Try.prog Try.f4 Rows.fnGroupedOkRow.domain false) (Rows.fnGroupedOkSpec.post enc Try.prog Try.f4 false true false false) := by
  refine returnsInHanded_of_change (C := Try.checked) own started (by kernel_rfl) Try.func4
    (ChangeSpec.witness6 (enc := enc) (C := Try.checked) false ⟨#[], #[.slice none 0 0], []⟩ 8 (by kernel_rfl) (by kernel_rfl) (by kernel_rfl) (by kernel_rfl)) ?_
  intro W base args ds gs before hval0 hW hcnd _
  have hval : ∀ (j : Nat) t v, Try.f4.params[j]? = some t → args[j]? = some v → Value.okWide Try.prog W .any base t v := hval0
  have hW' := hW
  obtain ⟨p, q, hA0, hV, rfl, hfz, hnd⟩ := hW
  have hA : DataW.TrodAll enc Try.prog W 0 (fun _ => true) true Try.f4.params.toList args.toList ds p := hA0
  rw [Try.params4] at hA hval
  obtain ⟨v0, vs0, d0, ds0, p0, q0, hargs, rfl, rfl, h0, r0⟩ := trodAll_cons hA
  obtain ⟨rfl, rfl, rfl⟩ := trodAll_nil r0
  obtain rfl : args = #[v0] := by cases args; simp_all
  obtain ⟨rfl, rfl⟩ := trodVars_none hV
  obtain ⟨a0, len0, cap0, rfl⟩ := okWide_slice Try.underlying22 (hval 0 22 v0 rfl rfl)
  have k0 := h0
  have lt0 : ∀ x ∈ p0, x.block < W.heap.size := by obtain ⟨m, hm⟩ := k0; exact DataW.trod_lt m _ _ _ hm
  obtain ⟨fuel0, hf0⟩ := h0
  obtain ⟨hl0, hS0, hT0⟩ := open_bytes hf0
  clear hA0 hval0
  refine (fnGroupedOk_walk a0 len0 cap0 W hT0 hl0 hS0).mono fun e W' ⟨he, bel⟩ => ?_
  subst he
  exact ⟨_, rfl, _, _, _, [], _, [], hW', trodAll_mk1 (shut_bool Try.underlying4 _), (trodAll_cons_mk (Below.trod laidOut (by kernel_rfl) (of_decide_eq_true (by kernel_rfl)) k0 bel lt0) trodAll_mk0), rfl, bel.frame _, fun h => by cases h⟩

theorem fnGroupedOk_holds : Rows.FnGroupedOkSaid :=
  OpenClaim.holds_of_wide 4 Try.f4 rfl rfl rfl rfl rfl rfl rfl ⟨rfl, rfl, rfl, rfl, rfl⟩ rfl rfl rfl rfl rfl (by kernel_rfl) Try.func4 (by kernel_rfl)
    (of_decide_eq_true (by kernel_rfl)) (by unfold Func.isWrapper; first | (rw [if_pos (by decide +kernel)]; kernel_rfl) | (rw [if_neg (by decide +kernel)]; exact ⟨rfl, rfl⟩))
    (fun os started H enc _ => lifted_FnGroupedOk os started H enc)

#print axioms fnGroupedOk_holds
end Go.Proofs.Ythiiniahkfjgmaa
