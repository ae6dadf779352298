/- FnTimesOf returns true for every input, and leaves it as it was: no condition. -/
import Derived.Test.YthiiniahkfjgmaaFrameB
import Derived.Test.YthiiniahkfjgmaaEq
import Derived.Test.YthiiniahkfjgmaaPureX
import Derived.Test.YthiiniahkfjgmaaDrawAll
namespace Go.Proofs.Ythiiniahkfjgmaa
open Go.ChangeShapes Go.WideShapes Go.ChangeAt Go.RowKit Go.Deep
set_option linter.unusedVariables false


/-- Two drawn tables. -/
def Drawn2 (w : World) (e : Ending) (w' : World) : Prop := ∃ A c A2 c2 T U, e = .returned (.tuple #[.slice A T.length c, .slice A2 U.length c2]) ∧ Below w.heap.size w w' ∧ Mat w' w.heap.size w'.heap.size A T ∧ Mat w' w.heap.size w'.heap.size A2 U ∧ Small T ∧ Small U
set_option maxHeartbeats 1000000 in
theorem drawTimesOf_any (A : Option Addr) (n c : Nat) (w : World) (h : Bytes w w.heap.size A n) (hc : n ≤ c) (hc2 : c ≤ 9223372036854775807) :
    Calls Try.prog 31 #[.slice A n c] w (Drawn2 w) := by
  go_enter Try.func31, Try.ntmps31
  go_wp2_with fail
  refine (open_any A n c w h hc hc2).mono ?_
  rintro e w1 ⟨A1, n1, c1, rfl, b1, s1⟩
  have hg := s1.lt
  go_wp2_with fail
  refine (pick_st 2 s1 (by omega) (by omega) (by omega)).mono ?_
  rintro e w2 ⟨k, rfl, hk, s2, o2⟩
  by_cases h0 : k = 0
  · subst h0
    go_wp2_with fail
    refine (pick_st 3 s2 (by omega) (by omega) (by omega)).mono ?_
    rintro e w3 ⟨k3, rfl, hk3, s3, o3⟩
    go_wp2_with fail
    refine (left_st _ s3 (by omega) (by omega)).mono ?_
    rintro e w4 ⟨A4, c4, rfl, t4, s4, o4⟩
    go_wp2_with fail
    refine (pick_st 3 s4 (by omega) (by omega) (by omega)).mono ?_
    rintro e w5 ⟨k5, rfl, hk5, s5, o5⟩
    replace t4 := t4.only o5 hg
    go_wp2_with fail
    refine (chain_st _ s5 (by omega) (by omega)).mono ?_
    rintro e w6 ⟨A6, c6, rfl, t6, s6, o6⟩
    replace t4 := t4.only o6 hg
    obtain ⟨T, hT, rT⟩ := t4.mat
    obtain ⟨U, hU, rU⟩ := t6.mat
    have fin : Drawn2 w (.returned (.tuple #[.slice A4 (1 + (k3 : Int)).toNat c4, .slice A6 (1 + (k5 : Int)).toNat c6])) w6 :=
      ⟨A4, c4, A6, c6, T, U, by rw [rT.len, rU.len], b1.trans (s6.only.below (Nat.le_refl _) b1.size), hT.mono b1.size (Nat.le_refl _), hU.mono b1.size (Nat.le_refl _), rT.small (by omega) (by omega), rU.small (by omega) (by omega)⟩
    have FIN := hide fin
    clear fin
    go_wp2
    go_ret2
    exact FIN.out
  · have hkb : ((k : Int) == 0) = false := beq_eq_false_iff_ne.2 (by omega)
    go_wp2_with fail
    refine (table_st 12 s2 (by omega) (by omega) (by omega)).mono ?_
    rintro e w3 ⟨A3, c3, T, P3, rfl, hM, hS, s3, hP3⟩
    have s33 := St.start s3.rd
    go_wp2_with fail
    refine (table_st 12 s33 (by omega) (by omega) (by omega)).mono ?_
    rintro e w4 ⟨A4, c4, U, P4, rfl, hM4, hS4, s4, _⟩
    have hM3 := hM.keep (w' := w4) (fun q h1 h2 => s4.only.block q h2 (.inr (by omega)))
    have z34 := s4.only.size
    have z13 := s3.only.size
    have o14 : Only w.heap.size (w.heap.size + 1) w1 w4 := s3.only.trans s4.only
    have fin : Drawn2 w (.returned (.tuple #[.slice A3 T.length c3, .slice A4 U.length c4])) w4 :=
      ⟨A3, c3, A4, c4, T, U, rfl, b1.trans (o14.below (Nat.le_refl _) b1.size), hM3.mono b1.size z34, hM4.mono (Nat.le_trans b1.size z13) (Nat.le_refl _), hS, hS4⟩
    have FIN := hide fin
    clear fin
    go_wp2
    go_ret2
    exact FIN.out

set_option maxHeartbeats 2000000 in
theorem fnTimesOf_walk (A : Option Addr) (n c : Nat) (w : World) (h : Bytes w w.heap.size A n) (hc : n ≤ c) (hc2 : c ≤ 9223372036854775807) :
    Calls Try.prog 7 #[.slice A n c] w fun e w' => e = .returned (.bool true) ∧ Below w.heap.size w w' := by
  by_cases hn : (1048576 : Int) < (n : Int)
  · go_enter Try.func7, Try.ntmps7
    go_wp2
    go_ret
    exact ⟨rfl, Below.refl _ _⟩
  · have B0 := Below.refl w.heap.size w
    go_enter Try.func7, Try.ntmps7
    go_wp2_with fail
    refine (drawTimesOf_any A n c w h hc hc2).mono ?_
    rintro e w1 ⟨A1, c1, A2, c2, T, U, rfl, b1, mt, mu, hs0, hs1⟩
    have z1 := b1.size
    have B1 : Below w.heap.size w w1 := B0.trans (b1.mono (by omega))
    have hr := small_timesT (T := T) (U := U)
    go_wp2_with fail
    refine (iTimesOf_any _ _ _ _ _ _ _ _ _ _ _ mt (by omega) hs0 mu (by omega) hs1).mono ?_
    rintro e w2 ⟨A3, c3, rfl, b2, g1⟩
    have z2 := b2.size
    have B2 : Below w.heap.size w w2 := B1.trans (b2.mono (by omega))
    replace mt := mt.below b2 (by omega)
    replace mu := mu.below b2 (by omega)
    go_wp2_with fail
    refine (sTimesOf_any _ _ _ _ _ _ _ _ _ _ _ mt (by omega) hs0 mu (by omega) hs1).mono ?_
    rintro e w3 ⟨A4, c4, rfl, b3, m1⟩
    have z3 := b3.size
    have B3 : Below w.heap.size w w3 := B2.trans (b3.mono (by omega))
    replace mt := mt.below b3 (by omega)
    replace mu := mu.below b3 (by omega)
    replace g1 := g1.below b3 (by omega)
    go_wp2_with fail
    refine (sameRows_same _ _ _ _ _ _ _ _ _ _ g1.mat m1 hr).mono ?_
    rintro e w4 ⟨rfl, q4⟩
    have b4 := q4.below w3.heap.size
    have z4 := b4.size
    have B4 : Below w.heap.size w w4 := B3.trans (b4.mono (by omega))
    replace mt := mt.below b4 (by omega)
    replace mu := mu.below b4 (by omega)
    replace g1 := g1.below b4 (by omega)
    replace m1 := m1.below b4 (by omega)
    cases hcb : canB T U
    · have hlen : (timesT T U).length = 0 := by rw [timesT_not hcb]; rfl
      have hz : (((timesT T U).length : Int) == 0) = true := by simp [hlen]
      clear hlen
      go_wp2_with fail
      refine (alive_any _).mono ?_
      rintro e w5 ⟨rfl, b5⟩
      have z5 := b5.size
      have B5 : Below w.heap.size w w5 := B4.trans (b5.mono (by omega))
      replace mt := mt.below b5 (by omega)
      replace mu := mu.below b5 (by omega)
      replace g1 := g1.below b5 (by omega)
      replace m1 := m1.below b5 (by omega)
      go_wp2
      go_ret
      exact ⟨rfl, B5⟩
    · obtain ⟨kT, kU, _⟩ := canB_iff.1 hcb
      have hkT := okT_iff.2 kT
      have HO := hide (show okT (timesT T U) = true from okT_iff.2 (isT_times hcb))
      have HG := hide (grpT_times hcb)
      have HC1 := hide (can_one hkT)
      have HT1 := hide (times_one hkT)
      have c4 := (((Below.refl w4.heap.size w4).alloc (Nat.le_refl _) (.cells #[.int .i64 0] 3)).alloc (by simp) (.cells #[.slice (some ⟨w4.heap.size, 0, none⟩) 1 1] 26))
      have C4 := B4.trans (c4.mono (by omega))
      have l1 := lit1 (W := w4) 0 rfl
      have zc := c4.size
      have hsz : ((w4.alloc (.cells #[.int .i64 0] 3)).alloc (.cells #[.slice (some ⟨w4.heap.size, 0, none⟩) 1 1] 26)).heap.size = w4.heap.size + 2 := by simp
      go_wp2_with fail
      refine (iTimesOf_any _ _ _ 1 _ _ _ _ T [[0]] _ (mt.below c4 (by omega)) (by omega) hs0 l1 (by omega) (small1 0)).mono ?_
      rw [HT1.out, HC1.out]
      rintro e w5 ⟨A9, c9, rfl, b5, own⟩
      have z5 := b5.size
      have B5 : Below w.heap.size w w5 := C4.trans (b5.mono (by omega))
      replace mt := (mt.below c4 (by omega)).below b5 (by omega)
      replace mu := (mu.below c4 (by omega)).below b5 (by omega)
      replace g1 := (g1.below c4 (by omega)).below b5 (by omega)
      replace m1 := (m1.below c4 (by omega)).below b5 (by omega)
      go_wp2_with fail
      refine (iTableOk_any _ _ _ _ _ _ g1.mat hr).mono ?_
      rintro e w_ ⟨rfl, rfl⟩
      rw [HO.out]
      go_wp2_with fail
      refine (iGroupedOk_any _ _ _ _ _ _ g1.mat (by omega) hr).mono ?_
      rw [HG.out]
      rintro e w6 ⟨rfl, b6⟩
      have z6 := b6.size
      have B6 : Below w.heap.size w w6 := B5.trans (b6.mono (by omega))
      replace mt := mt.below b6 (by omega)
      replace mu := mu.below b6 (by omega)
      replace g1 := g1.below b6 (by omega)
      replace m1 := m1.below b6 (by omega)
      replace own := own.below b6 (by omega)
      cases e1 : grpT T
      · go_wp2_with fail
        refine (iGroupedOk_any _ _ _ _ _ _ mt (by omega) hs0).mono ?_
        rw [e1]
        rintro e w7 ⟨rfl, b7⟩
        have z7 := b7.size
        have B7 : Below w.heap.size w w7 := B6.trans (b7.mono (by omega))
        replace mt := mt.below b7 (by omega)
        replace mu := mu.below b7 (by omega)
        replace g1 := g1.below b7 (by omega)
        replace m1 := m1.below b7 (by omega)
        replace own := own.below b7 (by omega)
        go_wp2_with fail
        refine (sameRows_same _ _ _ _ _ _ _ _ _ _ own.mat mt hs0).mono ?_
        rintro e w8 ⟨rfl, q8⟩
        have b8 := q8.below w7.heap.size
        have z8 := b8.size
        have B8 : Below w.heap.size w w8 := B7.trans (b8.mono (by omega))
        replace mt := mt.below b8 (by omega)
        replace mu := mu.below b8 (by omega)
        replace g1 := g1.below b8 (by omega)
        replace m1 := m1.below b8 (by omega)
        replace own := own.below b8 (by omega)
        go_wp2
        go_ret
        exact ⟨rfl, B8⟩
      · go_wp2_with fail
        refine (iGroupedOk_any _ _ _ _ _ _ mt (by omega) hs0).mono ?_
        rw [e1]
        rintro e w7 ⟨rfl, b7⟩
        have z7 := b7.size
        have B7 : Below w.heap.size w w7 := B6.trans (b7.mono (by omega))
        replace mt := mt.below b7 (by omega)
        replace mu := mu.below b7 (by omega)
        replace g1 := g1.below b7 (by omega)
        replace m1 := m1.below b7 (by omega)
        replace own := own.below b7 (by omega)
        cases e2 : grpT U
        all_goals
          go_wp2_with fail
          refine (iGroupedOk_any _ _ _ _ _ _ mu (by omega) hs1).mono ?_
          rw [e2]
          rintro e w8 ⟨rfl, b8⟩
          have z8 := b8.size
          have B8 : Below w.heap.size w w8 := B7.trans (b8.mono (by omega))
          replace mt := mt.below b8 (by omega)
          replace mu := mu.below b8 (by omega)
          replace g1 := g1.below b8 (by omega)
          replace m1 := m1.below b8 (by omega)
          replace own := own.below b8 (by omega)
          go_wp2_with fail
          refine (sameRows_same _ _ _ _ _ _ _ _ _ _ own.mat mt hs0).mono ?_
          rintro e w9 ⟨rfl, q9⟩
          have b9 := q9.below w8.heap.size
          have z9 := b9.size
          have B9 : Below w.heap.size w w9 := B8.trans (b9.mono (by omega))
          replace mt := mt.below b9 (by omega)
          replace mu := mu.below b9 (by omega)
          replace g1 := g1.below b9 (by omega)
          replace m1 := m1.below b9 (by omega)
          replace own := own.below b9 (by omega)
          go_wp2
          go_ret
          exact ⟨rfl, B9⟩

set_option maxRecDepth 100000 in
theorem lifted_FnTimesOf (os : Os) (started : os.Started) (H : Type) (enc : TypeId × Value → H) :
    ReturnsInHanded {} Try.checked os 7 .any (Rows.fnTimesOfSpec.pre6 enc Try.prog Try.f7 Rows.fnTimesOfRow.domain false) (Rows.fnTimesOfSpec.post enc Try.prog Try.f7 false true false false) := by
  refine returnsInHanded_of_change (C := Try.checked) own started (by kernel_rfl) Try.func7
    (ChangeSpec.witness6 (enc := enc) (C := Try.checked) false ⟨#[], #[.slice none 0 0], []⟩ 8 (by kernel_rfl) (by kernel_rfl) (by kernel_rfl) (by kernel_rfl)) ?_
  intro W base args ds gs before hval0 hW hcnd _
  have hval : ∀ (j : Nat) t v, Try.f7.params[j]? = some t → args[j]? = some v → Value.okWide Try.prog W .any base t v := hval0
  have hW' := hW
  obtain ⟨p, q, hA0, hV, rfl, hfz, hnd⟩ := hW
  have hA : DataW.TrodAll enc Try.prog W 0 (fun _ => true) true Try.f7.params.toList args.toList ds p := hA0
  rw [Try.params7] at hA hval
  obtain ⟨v0, vs0, d0, ds0, p0, q0, hargs, rfl, rfl, h0, r0⟩ := trodAll_cons hA
  obtain ⟨rfl, rfl, rfl⟩ := trodAll_nil r0
  obtain rfl : args = #[v0] := by cases args; simp_all
  obtain ⟨rfl, rfl⟩ := trodVars_none hV
  obtain ⟨a0, len0, cap0, rfl⟩ := okWide_slice Try.underlying22 (hval 0 22 v0 rfl rfl)
  have k0 := h0
  have lt0 : ∀ x ∈ p0, x.block < W.heap.size := by obtain ⟨m, hm⟩ := k0; exact DataW.trod_lt m _ _ _ hm
  obtain ⟨fuel0, hf0⟩ := h0
  obtain ⟨hl0, hS0, hT0⟩ := open_bytes hf0
  clear hA0 hval0
  refine (fnTimesOf_walk a0 len0 cap0 W hT0 hl0 hS0).mono fun e W' ⟨he, bel⟩ => ?_
  subst he
  exact ⟨_, rfl, _, _, _, [], _, [], hW', trodAll_mk1 (shut_bool Try.underlying4 _), (trodAll_cons_mk (Below.trod laidOut (by kernel_rfl) (of_decide_eq_true (by kernel_rfl)) k0 bel lt0) trodAll_mk0), rfl, bel.frame _, fun h => by cases h⟩

theorem fnTimesOf_holds : Rows.FnTimesOfSaid :=
  OpenClaim.holds_of_wide 7 Try.f7 rfl rfl rfl rfl rfl rfl rfl ⟨rfl, rfl, rfl, rfl, rfl⟩ rfl rfl rfl rfl rfl (by kernel_rfl) Try.func7 (by kernel_rfl)
    (of_decide_eq_true (by kernel_rfl)) (by unfold Func.isWrapper; first | (rw [if_pos (by decide +kernel)]; kernel_rfl) | (rw [if_neg (by decide +kernel)]; exact ⟨rfl, rfl⟩))
    (fun os started H enc _ => lifted_FnTimesOf os started H enc)

#print axioms fnTimesOf_holds
end Go.Proofs.Ythiiniahkfjgmaa
