/- FnPartOf returns true for every input, and leaves it as it was: no condition. -/
import Derived.Test.YteoekfebhmeiiaaFrameB
import Derived.Test.YteoekfebhmeiiaaEq
import Derived.Test.YteoekfebhmeiiaaPartI
import Derived.Test.YteoekfebhmeiiaaPartS
import Derived.Test.YteoekfebhmeiiaaDrawSet
import Derived.Test.YteoekfebhmeiiaaFit
namespace Go.Proofs.Yteoekfebhmeiiaa
open Go.ChangeShapes Go.WideShapes Go.ChangeAt Go.RowKit Go.Deep
set_option linter.unusedVariables false

set_option maxRecDepth 20000 in
set_option maxHeartbeats 4000000 in
theorem fnPartOf_walk (A : Option Addr) (n c : Nat) (w : World) (h : Bytes w w.heap.size A n) (hc : n ≤ c) (hc2 : c ≤ 9223372036854775807) :
    Calls Try.prog 4 #[.slice A n c] w fun e w' => e = .returned (.bool true) ∧ Below w.heap.size w w' := by
  by_cases hn : (1048576 : Int) < (n : Int)
  · go_enter Try.func4, Try.ntmps4
    go_wp2
    go_ret
    exact ⟨rfl, Below.refl _ _⟩
  · go_enter Try.func4, Try.ntmps4
    go_wp2_with fail
    refine (drawPartOf_any A n c w h hc hc2).mono ?_
    rintro e w1 ⟨A1, c1, T, z, rfl, B1, m1, hS⟩
    have hlT := hS.len
    have hr := small_part (T := T) (s := z)
    have hlr := hr.len
    go_wp2_with fail
    refine (iPartOf_any _ _ _ _ _ _ _ m1 (Nat.le_refl _) hS).mono ?_
    rintro e w2 ⟨A2, c2, rfl, b2, o2⟩
    have B2 := B1.trans (b2.mono B1.size)
    have m2 := m1.below b2 (Nat.le_refl _)
    have z2 := b2.size
    go_wp2_with fail
    refine (sPartOf_any _ _ _ _ _ _ _ m2 z2 hS).mono ?_
    rintro e w3 ⟨A3, c3, rfl, b3, o3⟩
    have B3 := B2.trans (b3.mono B2.size)
    have m3 := m2.below b3 z2
    have g3 := o2.below b3 (Nat.le_refl _)
    have z3 := b3.size
    go_wp2_with fail
    refine (sameRows_same _ _ _ _ _ _ _ _ _ _ g3.mat o3 hr).mono ?_
    rintro e w4 ⟨rfl, q4⟩
    have B4 := B3.trans (q4.below w.heap.size)
    have m4 := m3.quiet q4
    have g4 := g3.quiet q4
    have z4 := q4.below 0 |>.size
    by_cases hp : 1 ≤ z ∧ madeT T z = z
    · obtain ⟨s, rfl, kP⟩ := isP_of hp.1 hp.2
      clear hp
      have k := okT_iff.1 kP.ok
      have k9 := k.hi
      obtain ⟨i1, i2⟩ := pow_int k9
      have hpos : 0 < (partT T (s : Nat)).length := by rw [len_part kP]; exact kP.pos
      have hz : (((partT T (s : Nat)).length : Int) == 0) = false := beq_eq_false_iff_ne.2 (by omega)
      have HO := hide (okT_iff.2 (isT_part kP))
      have HF := hide (show partT T ((2 : Int) ^ T.length - 1) = T from by
        have e : (2 : Int) ^ T.length - 1 = ((2 ^ T.length - 1 : Nat) : Int) := by
          rw [Int.natCast_sub (Nat.one_le_two_pow)]; simp
        rw [e]; exact part_full kP.ok)
      have HG := hide (show grpT T = true → grpT (partT T (s : Nat)) = true from fun hg => grpT_iff.2 (isG_part kP (grpT_iff.1 hg)))
      clear hpos
      go_wp2_with fail
      refine (iTableOk_any _ _ _ _ _ _ g4.mat hr).mono ?_
      rintro e w5 ⟨rfl, rfl⟩
      rw [HO.out]
      cases hg : grpT T
      · go_wp2_with fail
        refine (iGroupedOk_any _ _ _ _ _ _ m4 (by omega) hS).mono ?_
        rw [hg]
        rintro e w5 ⟨rfl, b5⟩
        have B5 := B4.trans (b5.mono B4.size)
        have m5 := m4.below b5 (by omega)
        have z5 := b5.size
        go_wp2_with fail
        refine (iPartOf_any _ _ _ _ T _ _ m5 (by omega) hS).mono ?_
        rw [HF.out]
        rintro e w7 ⟨A7, c7, rfl, b7, o7⟩
        go_wp2_with fail
        refine (sameRows_same _ _ _ _ _ _ _ _ _ _ o7.mat (m5.below b7 (by omega)) hS).mono ?_
        rintro e w8 ⟨rfl, q8⟩
        go_wp2
        go_ret
        exact ⟨rfl, (B5.trans (b7.mono B5.size)).trans (q8.below _)⟩
      · have HG2 := hide (HG.out hg)
        go_wp2_with fail
        refine (iGroupedOk_any _ _ _ _ _ _ m4 (by omega) hS).mono ?_
        rw [hg]
        rintro e w5 ⟨rfl, b5⟩
        have g5 := g4.below b5 (by omega)
        have z55 := b5.size
        go_wp2_with fail
        refine (iGroupedOk_any _ _ _ _ _ _ g5.mat (by omega) hr).mono ?_
        rw [HG2.out]
        rintro e w6 ⟨rfl, b6⟩
        have B5 := (B4.trans (b5.mono B4.size)).trans (b6.mono (B4.trans (b5.mono B4.size)).size)
        have m5 := (m4.below b5 (by omega)).below b6 (by omega)
        have z5 := b6.size
        go_wp2_with fail
        refine (iPartOf_any _ _ _ _ T _ _ m5 (by omega) hS).mono ?_
        rw [HF.out]
        rintro e w7 ⟨A7, c7, rfl, b7, o7⟩
        go_wp2_with fail
        refine (sameRows_same _ _ _ _ _ _ _ _ _ _ o7.mat (m5.below b7 (by omega)) hS).mono ?_
        rintro e w8 ⟨rfl, q8⟩
        go_wp2
        go_ret
        exact ⟨rfl, (B5.trans (b7.mono B5.size)).trans (q8.below _)⟩
    · have h0 : (partT T z).length = 0 := by rw [partT_not hp]; rfl
      have hz : (((partT T z).length : Int) == 0) = true := by simp [h0]
      clear h0
      go_wp2_with fail
      refine (alive_any _).mono ?_
      rintro e w5 ⟨rfl, b5⟩
      go_wp2
      go_ret
      exact ⟨rfl, B4.trans (b5.mono B4.size)⟩

set_option maxRecDepth 100000 in
theorem lifted_FnPartOf (os : Os) (started : os.Started) (H : Type) (enc : TypeId × Value → H) :
    ReturnsInHanded {} Try.checked os 4 .any (Rows.fnPartOfSpec.pre6 enc Try.prog Try.f4 Rows.fnPartOfRow.domain false) (Rows.fnPartOfSpec.post enc Try.prog Try.f4 false true false false) := by
  refine returnsInHanded_of_change (C := Try.checked) own started (by kernel_rfl) Try.func4
    (ChangeSpec.witness6 (enc := enc) (C := Try.checked) false ⟨#[], #[.slice none 0 0], []⟩ 8 (by kernel_rfl) (by kernel_rfl) (by kernel_rfl) (by kernel_rfl)) ?_
  intro W base args ds gs before hval0 hW hcnd _
  have hval : ∀ (j : Nat) t v, Try.f4.params[j]? = some t → args[j]? = some v → Value.okWide Try.prog W .any base t v := hval0
  have hW' := hW
  obtain ⟨p, q, hA0, hV, rfl, hfz, hnd⟩ := hW
  have hA : DataW.TrodAll enc Try.prog W 0 (fun _ => true) true Try.f4.params.toList args.toList ds p := hA0
  rw [Try.params4] at hA hval
  obtain ⟨v0, vs0, d0, ds0, p0, q0, hargs, rfl, rfl, h0, r0⟩ := trodAll_cons hA
  obtain ⟨rfl, rfl, rfl⟩ := trodAll_nil r0
  obtain rfl : args = #[v0] := by cases args; simp_all
  obtain ⟨rfl, rfl⟩ := trodVars_none hV
  obtain ⟨a0, len0, cap0, rfl⟩ := okWide_slice Try.underlying22 (hval 0 22 v0 rfl rfl)
  have k0 := h0
  have lt0 : ∀ x ∈ p0, x.block < W.heap.size := by obtain ⟨m, hm⟩ := k0; exact DataW.trod_lt m _ _ _ hm
  obtain ⟨fuel0, hf0⟩ := h0
  obtain ⟨hl0, hS0, hT0⟩ := open_bytes hf0
  clear hA0 hval0
  refine (fnPartOf_walk a0 len0 cap0 W hT0 hl0 hS0).mono fun e W' ⟨he, bel⟩ => ?_
  subst he
  exact ⟨_, rfl, _, _, _, [], _, [], hW', trodAll_mk1 (shut_bool Try.underlying4 _), (trodAll_cons_mk (Below.trod laidOut (by kernel_rfl) (of_decide_eq_true (by kernel_rfl)) k0 bel lt0) trodAll_mk0), rfl, bel.frame _, fun h => by cases h⟩

theorem closed_FnPartOf : joinedFacts Try.pinned.checked.prog 4 Try.f4 Rows.fnPartOfSpec Rows.fnPartOfRow = true := by
  unfold joinedFacts
  rw [fit_enter, fit_final, fit_make]
  kernel_rfl

theorem fnPartOf_holds : Rows.FnPartOfSaid :=
  OpenClaim.holds_of_wide 4 Try.f4 rfl rfl rfl rfl rfl rfl rfl ⟨rfl, rfl, rfl, rfl, rfl⟩ rfl rfl rfl rfl rfl (by kernel_rfl) Try.func4 closed_FnPartOf
    (of_decide_eq_true (by kernel_rfl)) (by unfold Func.isWrapper; first | (rw [if_pos (by decide +kernel)]; kernel_rfl) | (rw [if_neg (by decide +kernel)]; exact ⟨rfl, rfl⟩))
    (fun os started H enc _ => lifted_FnPartOf os started H enc)

#print axioms fnPartOf_holds
end Go.Proofs.Yteoekfebhmeiiaa
