/- The walk of FnHoldsIn. -/
import Derived.Test.YthllbekoidogpaaSidenT
import Derived.Test.YthllbekoidogpaaIiden
import Derived.Test.YthllbekoidogpaaPartS
import Derived.Test.YthllbekoidogpaaPureX
import Derived.Test.YthllbekoidogpaaIword
import Derived.Test.YthllbekoidogpaaDrawIdens
namespace Go.Proofs.Ythllbekoidogpaa
open Go.RowKit
set_option linter.unusedVariables false

theorem made_ex {T : List (List Int)} (k : IsT T) {s : Nat} (hs : s < 2 ^ T.length) : ∃ m, Made T s m := by
  classical
  obtain ⟨p, hp⟩ : ∃ p : Nat → Bool, ∀ x, p x = true ↔ ∀ q, Clos T q → (∀ y, s.testBit y = true → q.testBit y = true) → q.testBit x = true :=
    ⟨fun x => decide (∀ q, Clos T q → (∀ y, s.testBit y = true → q.testBit y = true) → q.testBit x = true), fun x => decide_eq_true_iff⟩
  have hb : ∀ x, (msk p T.length).testBit x = true ↔ x < T.length ∧ p x = true := fun x => by rw [msk_bit, Bool.and_eq_true, decide_eq_true_iff]
  refine ⟨msk p T.length, msk_lt _ _, fun x hx => (hb x).2 ⟨bit_lt hs hx, (hp x).2 fun q _ h => h x hx⟩, fun a b ha hb' => ?_, fun q hq hsub x hx => (hp x).1 ((hb x).1 hx).2 q hq hsub⟩
  obtain ⟨a1, pa⟩ := (hb a).1 ha
  obtain ⟨b1, pb⟩ := (hb b).1 hb'
  obtain ⟨q0, q1⟩ := k.mul (x := (a : Int)) (y := (b : Int)) (by omega) (by omega) (by omega) (by omega)
  exact (hb _).2 ⟨by omega, (hp _).2 fun q hq hsub => hq a b ((hp a).1 pa q hq hsub) ((hp b).1 pb q hq hsub)⟩
theorem part_of {T : List (List Int)} (hk : okT T = true) : ∃ m : Nat, madeT T ((2 ^ (T.length - 1) : Nat) : Int) = (m : Int) ∧ IsP T m := by
  have k := okT_iff.1 hk
  have hlo := k.lo
  have hs : 2 ^ (T.length - 1) < 2 ^ T.length := Nat.pow_lt_pow_right (by omega) (by omega)
  obtain ⟨m, hm⟩ := made_ex k hs
  refine ⟨m, madeT_of hk hs hm, ?_, hk, hm.lt, hm.clos⟩
  have := hm.sub (T.length - 1) (by rw [Nat.testBit_two_pow_self])
  have h0 : m ≠ 0 := fun e => by rw [e] at this; simp at this
  omega
set_option maxRecDepth 20000 in
set_option maxHeartbeats 64000000 in
theorem fnHoldsIn_walk (A : Option Addr) (n c : Nat) (A' : Option Addr) (n' c' : Nat) (w : World) (h : Bytes w w.heap.size A n) (hc : n ≤ c) (hc2 : c ≤ 9223372036854775807) (h' : Bytes w w.heap.size A' n') (hc' : n' ≤ c') (hc2' : c' ≤ 9223372036854775807) :
    Calls Try.prog 3 #[.slice A n c, .slice A' n' c'] w fun e w' => e = .returned (.bool true) ∧ Below w.heap.size w w' := by
  by_cases hn : (1048576 : Int) < (n : Int)
  · go_enter Try.func3, Try.ntmps3
    go_wp2
    go_ret
    exact ⟨rfl, Below.refl _ _⟩
  by_cases hn' : (1048576 : Int) < (n' : Int)
  · go_enter Try.func3, Try.ntmps3
    go_wp2
    go_ret
    exact ⟨rfl, Below.refl _ _⟩
  · go_enter Try.func3, Try.ntmps3
    go_wp2_with fail
    refine (drawHoldsIn_any A n c w h hc hc2).mono ?_
    rintro e w1 ⟨A1, c1, T, u, v, rfl, B1, m1, hS, hu, hv⟩
    have hn1 : u.length ≤ 1048576 := by omega
    have hn2 : v.length ≤ 1048576 := by omega
    have hsz := size_bs u
    have hszv := size_bs v
    have hlT := hS.len
    cases hk : okT T
    · have HE := hide (hldW_false (T := T) (u := u) (v := v) (by unfold canA; rw [hk]; rfl))
      go_wp2_with fail
      refine (iHoldsIn_any A1 c1 _ _ T u v _ m1 (Nat.le_refl _) hS hn1 hn2).mono ?_
      rw [HE.out]
      rintro e w2 ⟨rfl, b2⟩
      have B2 := B1.trans (b2.mono B1.size)
      have m2 := m1.below b2 (Nat.le_refl _)
      go_wp2_with fail
      refine (sHoldsIn_any A1 c1 _ _ T u v _ m2 b2.size hS hn1 hn2).mono ?_
      rw [HE.out]
      rintro e w3 ⟨rfl, b3⟩
      have B3 := B2.trans (b3.mono B2.size)
      have m3 := m2.below b3 b2.size
      have z3 := Nat.le_trans b2.size b3.size
      go_wp2_with fail
      refine (sTableOk_any _ _ _ _ _ _ m3 hS).mono ?_
      rw [hk]
      rintro e w_ ⟨rfl, rfl⟩
      go_wp2_with fail
      refine (alive_any _).mono ?_
      rintro e w4 ⟨rfl, b4⟩
      go_wp2
      go_ret
      exact ⟨rfl, B3.trans (b4.mono B3.size)⟩
    cases hw1 : okW u
    · have HE := hide (hldW_false (T := T) (u := u) (v := v) (by unfold canA; rw [hk, hw1]; rfl))
      go_wp2_with fail
      refine (iHoldsIn_any A1 c1 _ _ T u v _ m1 (Nat.le_refl _) hS hn1 hn2).mono ?_
      rw [HE.out]
      rintro e w2 ⟨rfl, b2⟩
      have B2 := B1.trans (b2.mono B1.size)
      have m2 := m1.below b2 (Nat.le_refl _)
      go_wp2_with fail
      refine (sHoldsIn_any A1 c1 _ _ T u v _ m2 b2.size hS hn1 hn2).mono ?_
      rw [HE.out]
      rintro e w3 ⟨rfl, b3⟩
      have B3 := B2.trans (b3.mono B2.size)
      have m3 := m2.below b3 b2.size
      have z3 := Nat.le_trans b2.size b3.size
      go_wp2_with fail
      refine (sTableOk_any _ _ _ _ _ _ m3 hS).mono ?_
      rw [hk]
      rintro e w_ ⟨rfl, rfl⟩
      go_wp2_with fail
      refine (sWordOk_any u _ hn1).mono ?_
      rw [hw1]
      rintro e w_ ⟨rfl, rfl⟩
      go_wp2_with fail
      refine (alive_any _).mono ?_
      rintro e w4 ⟨rfl, b4⟩
      go_wp2
      go_ret
      exact ⟨rfl, B3.trans (b4.mono B3.size)⟩
    cases hw2 : okW v
    · have HE := hide (hldW_false (T := T) (u := u) (v := v) (by unfold canA; rw [hk, hw1, hw2]; rfl))
      go_wp2_with fail
      refine (iHoldsIn_any A1 c1 _ _ T u v _ m1 (Nat.le_refl _) hS hn1 hn2).mono ?_
      rw [HE.out]
      rintro e w2 ⟨rfl, b2⟩
      have B2 := B1.trans (b2.mono B1.size)
      have m2 := m1.below b2 (Nat.le_refl _)
      go_wp2_with fail
      refine (sHoldsIn_any A1 c1 _ _ T u v _ m2 b2.size hS hn1 hn2).mono ?_
      rw [HE.out]
      rintro e w3 ⟨rfl, b3⟩
      have B3 := B2.trans (b3.mono B2.size)
      have m3 := m2.below b3 b2.size
      have z3 := Nat.le_trans b2.size b3.size
      go_wp2_with fail
      refine (sTableOk_any _ _ _ _ _ _ m3 hS).mono ?_
      rw [hk]
      rintro e w_ ⟨rfl, rfl⟩
      go_wp2_with fail
      refine (sWordOk_any u _ hn1).mono ?_
      rw [hw1]
      rintro e w_ ⟨rfl, rfl⟩
      go_wp2_with fail
      refine (sWordOk_any v _ hn2).mono ?_
      rw [hw2]
      rintro e w_ ⟨rfl, rfl⟩
      go_wp2_with fail
      refine (alive_any _).mono ?_
      rintro e w4 ⟨rfl, b4⟩
      go_wp2
      go_ret
      exact ⟨rfl, B3.trans (b4.mono B3.size)⟩
    have kT := okT_iff.1 hk
    have hlo := kT.lo
    have hhi := kT.hi
    obtain ⟨p, hp, hP⟩ := part_of hk
    obtain ⟨ok, hok⟩ : ∃ b, hldW T u v = b := ⟨_, rfl⟩
    have HOK := hide hok
    have hu0 := okW_ne hw1
    have hv0 := okW_ne hw2
    have PART := hide (show ok = true → hldW (partT T (p : Int)) u v = true from fun h => hld_iff.2 ⟨canA_words (okT_iff.2 (isT_part hP)) hw1 hw2, hld_part hP hu0 hv0 (hld_iff.1 (hok.trans h)).2⟩)
    have TIMES := hide (fun (U : List (List Int)) (hc : canB T U = true) => (show hldW (timesT T U) u v = (ok && hldW U u v) from by
      rw [← hok, Bool.eq_iff_iff, Bool.and_eq_true, hld_iff, hld_iff, hld_iff, hld_times hc hu0 hv0]
      have k1 := canA_words (okT_iff.2 (isT_times hc)) hw1 hw2
      have k2 := canA_words hk hw1 hw2
      have k3 := canA_words (okT_iff.2 (canB_iff.1 hc).2.1) hw1 hw2
      simp [k1, k2, k3]))
    have TURN := hide (show grpT T = true → hldW (turnT T) (rndW u) (rndW v) = ok from fun hg => by
      have g := grpT_iff.1 hg
      rw [← hok, rndW_ok hw1, rndW_ok hw2]
      exact (hldW_eq (canA_words hk hw1 hw2) (canA_words (okT_iff.2 (isT_turnT hk)) (by rw [okW_rev]; exact hw1) (by rw [okW_rev]; exact hw2)) (hld_turn g hu0 hv0).symm).symm)
    have SELF := hide (hldW_self hk hw1)
    have HMB := hide hp
    have n3 : (rndW u).length ≤ 1048576 := by rw [rndW_ok hw1, List.length_reverse]; exact hn1
    have n4 : (rndW v).length ≤ 1048576 := by rw [rndW_ok hw2, List.length_reverse]; exact hn2
    have hSp : Small (partT T (p : Int)) := (isT_part hP).small
    clear hp hP hok hu0 hv0 kT
    obtain ⟨q0, q1⟩ := pow_int (show T.length - 1 ≤ 9 by omega)
    go_wp2_with fail
    refine (iHoldsIn_any A1 c1 _ _ T u v _ m1 (Nat.le_refl _) hS hn1 hn2).mono ?_
    rw [HOK.out]
    rintro e w2 ⟨rfl, b2⟩
    have B2 := B1.trans (b2.mono B1.size)
    have m2 := m1.below b2 (Nat.le_refl _)
    go_wp2_with fail
    refine (sHoldsIn_any A1 c1 _ _ T u v _ m2 b2.size hS hn1 hn2).mono ?_
    rw [HOK.out]
    rintro e w3 ⟨rfl, b3⟩
    have B3 := B2.trans (b3.mono B2.size)
    have m3 := m2.below b3 b2.size
    have z3 := Nat.le_trans b2.size b3.size
    go_wp2_with fail
    refine (sTableOk_any _ _ _ _ _ _ m3 hS).mono ?_
    rw [hk]
    rintro e w_ ⟨rfl, rfl⟩
    go_wp2_with fail
    refine (sWordOk_any u _ hn1).mono ?_
    rw [hw1]
    rintro e w_ ⟨rfl, rfl⟩
    go_wp2_with fail
    refine (sWordOk_any v _ hn2).mono ?_
    rw [hw2]
    rintro e w_ ⟨rfl, rfl⟩
    have e1 : (T.length : Int) - 1 = ((T.length - 1 : Nat) : Int) := by omega
    obtain ⟨r, hr⟩ : ∃ r, r = T.length - 1 := ⟨_, rfl⟩
    rw [← hr] at e1 HMB q0 q1
    have hr9 : r ≤ 9 := by omega
    have HR := hide hr
    clear hr hk hw1 hw2
    have hpw : (2 : Int) ^ r = ((2 ^ r : Nat) : Int) := by simp
    have HMB2 := hide (show madeT T ((2 : Int) ^ r) = (p : Int) from by rw [hpw]; exact HMB.out)
    clear hpw
    go_wp2_with fail
    refine (sMadeBy_any _ _ _ _ T _ _ m3 hS).mono ?_
    rw [HMB2.out]
    rintro e w4 ⟨rfl, q4⟩
    have B4 := B3.trans (q4.below w.heap.size)
    have m4 := m3.quiet q4
    have z4 := Nat.le_trans z3 (q4.below w3.heap.size).size
    clear e1
    go_wp2_with fail
    refine (sPartOf_any _ _ _ _ T (p : Int) _ m4 z4 hS).mono ?_
    rintro e w5 ⟨A5, c5, rfl, b5, m5⟩
    have B5 := B4.trans (b5.mono B4.size)
    have t5 := m4.below b5 z4
    have z5 := Nat.le_trans z4 b5.size
    go_wp2_with fail
    refine (drawTableOk_any A' n' c' _ (bytes_later h' B5) hc' hc2').mono ?_
    rintro e w6 ⟨A6, c6, U, rfl, b6, m6, hSU⟩
    have B6 := B5.trans (b6.mono B5.size)
    have t6 := t5.below b6 z5
    have z6 := Nat.le_trans z5 b6.size
    have p6 := m5.below b6 (Nat.le_refl _)
    go_wp2_with fail
    refine (sTimesOf_any _ _ _ _ _ _ _ _ T U _ t6 z6 hS m6 (Nat.le_refl _) hSU).mono ?_
    rintro e w7 ⟨A7, c7, rfl, b7, m7⟩
    have B7 := B6.trans (b7.mono B6.size)
    have t7 := t6.below b7 z6
    have z7 := Nat.le_trans z6 b7.size
    have p7 := p6.below b7 b6.size
    have y7 := Nat.le_trans b6.size b7.size
    have u7 := m6.below b7 (Nat.le_refl _)
    have hSX : Small (timesT T U) := by
      cases hx : canB T U
      · rw [timesT_not hx]; exact ⟨by simp, fun i hi => by simp at hi⟩
      · exact (isT_times hx).small
    cases ok
    · cases hcan : canB T U
      · cases hg : grpT T
        · go_wp2_with fail
          refine (sGroupedOk_any _ _ _ _ _ _ t7 hS).mono ?_
          rw [hg]
          rintro e wg ⟨rfl, qg⟩
          have bg := qg.below w7.heap.size
          have Bg := B7.trans (qg.below w.heap.size)
          have tg := t7.quiet qg
          have zg := Nat.le_trans z7 bg.size
          go_wp2_with fail
          refine (iHoldsIn_any A1 c1 _ _ T u u _ tg zg hS hn1 hn1).mono ?_
          rw [SELF.out]
          rintro e wz ⟨rfl, bz⟩
          go_wp2
          go_ret
          exact ⟨rfl, Bg.trans (bz.mono Bg.size)⟩
        · go_wp2_with fail
          refine (sGroupedOk_any _ _ _ _ _ _ t7 hS).mono ?_
          rw [hg]
          rintro e wg ⟨rfl, qg⟩
          have bg := qg.below w7.heap.size
          have Bg := B7.trans (qg.below w.heap.size)
          have tg := t7.quiet qg
          have zg := Nat.le_trans z7 bg.size
          go_wp2_with fail
          refine (iTurnedOf_any A1 c1 _ _ T _ tg zg hS).mono ?_
          rintro e w21 ⟨A21, c21, rfl, b21, g21⟩
          have B21 := Bg.trans (b21.mono Bg.size)
          have t21 := tg.below b21 zg
          have tz21 := Nat.le_trans zg b21.size
          have r21 := g21.mat
          go_wp2_with fail
          refine (iRoundOf_any u _ hn1).mono ?_
          rintro e w22 ⟨rfl, b22⟩
          have B22 := B21.trans (b22.mono B21.size)
          have t22 := t21.below b22 tz21
          have tz22 := Nat.le_trans tz21 b22.size
          have r22 := r21.below b22 (Nat.le_refl _)
          go_wp2_with fail
          refine (iRoundOf_any v _ hn2).mono ?_
          rintro e w23 ⟨rfl, b23⟩
          have B23 := B22.trans (b23.mono B22.size)
          have t23 := t22.below b23 tz22
          have tz23 := Nat.le_trans tz22 b23.size
          have r23 := r22.below b23 b22.size
          have rz23 := Nat.le_trans b22.size b23.size
          go_wp2_with fail
          refine (iHoldsIn_any A21 c21 _ _ (turnT T) (rndW u) (rndW v) _ r23 rz23 small_turnT n3 n4).mono ?_
          rw [TURN.out hg]
          rintro e w24 ⟨rfl, b24⟩
          have B24 := B23.trans (b24.mono B23.size)
          have t24 := t23.below b24 tz23
          have tz24 := Nat.le_trans tz23 b24.size
          go_wp2_with fail
          refine (iHoldsIn_any A1 c1 _ _ T u u _ t24 tz24 hS hn1 hn1).mono ?_
          rw [SELF.out]
          rintro e wz ⟨rfl, bz⟩
          go_wp2
          go_ret
          exact ⟨rfl, B24.trans (bz.mono B24.size)⟩
      · cases hg : grpT T
        · go_wp2_with fail
          refine (iHoldsIn_any A7 c7 _ _ (timesT T U) (u) (v) _ m7 (Nat.le_refl _) hSX hn1 hn2).mono ?_
          rw [TIMES.out U hcan]
          rintro e w8 ⟨rfl, b8⟩
          have B8 := B7.trans (b8.mono B7.size)
          have t8 := t7.below b8 z7
          have tz8 := Nat.le_trans z7 b8.size
          have p8 := p7.below b8 y7
          have pz8 := Nat.le_trans y7 b8.size
          have u8 := u7.below b8 b7.size
          have uz8 := Nat.le_trans b7.size b8.size
          have x8 := m7.below b8 (Nat.le_refl _)
          have xz8 := Nat.le_trans (Nat.le_refl _) b8.size
          go_wp2_with fail
          refine (sGroupedOk_any _ _ _ _ _ _ t8 hS).mono ?_
          rw [hg]
          rintro e wg ⟨rfl, qg⟩
          have bg := qg.below w8.heap.size
          have Bg := B8.trans (qg.below w.heap.size)
          have tg := t8.quiet qg
          have zg := Nat.le_trans tz8 bg.size
          go_wp2_with fail
          refine (iHoldsIn_any A1 c1 _ _ T u u _ tg zg hS hn1 hn1).mono ?_
          rw [SELF.out]
          rintro e wz ⟨rfl, bz⟩
          go_wp2
          go_ret
          exact ⟨rfl, Bg.trans (bz.mono Bg.size)⟩
        · go_wp2_with fail
          refine (iHoldsIn_any A7 c7 _ _ (timesT T U) (u) (v) _ m7 (Nat.le_refl _) hSX hn1 hn2).mono ?_
          rw [TIMES.out U hcan]
          rintro e w8 ⟨rfl, b8⟩
          have B8 := B7.trans (b8.mono B7.size)
          have t8 := t7.below b8 z7
          have tz8 := Nat.le_trans z7 b8.size
          have p8 := p7.below b8 y7
          have pz8 := Nat.le_trans y7 b8.size
          have u8 := u7.below b8 b7.size
          have uz8 := Nat.le_trans b7.size b8.size
          have x8 := m7.below b8 (Nat.le_refl _)
          have xz8 := Nat.le_trans (Nat.le_refl _) b8.size
          go_wp2_with fail
          refine (sGroupedOk_any _ _ _ _ _ _ t8 hS).mono ?_
          rw [hg]
          rintro e wg ⟨rfl, qg⟩
          have bg := qg.below w8.heap.size
          have Bg := B8.trans (qg.below w.heap.size)
          have tg := t8.quiet qg
          have zg := Nat.le_trans tz8 bg.size
          go_wp2_with fail
          refine (iTurnedOf_any A1 c1 _ _ T _ tg zg hS).mono ?_
          rintro e w21 ⟨A21, c21, rfl, b21, g21⟩
          have B21 := Bg.trans (b21.mono Bg.size)
          have t21 := tg.below b21 zg
          have tz21 := Nat.le_trans zg b21.size
          have r21 := g21.mat
          go_wp2_with fail
          refine (iRoundOf_any u _ hn1).mono ?_
          rintro e w22 ⟨rfl, b22⟩
          have B22 := B21.trans (b22.mono B21.size)
          have t22 := t21.below b22 tz21
          have tz22 := Nat.le_trans tz21 b22.size
          have r22 := r21.below b22 (Nat.le_refl _)
          go_wp2_with fail
          refine (iRoundOf_any v _ hn2).mono ?_
          rintro e w23 ⟨rfl, b23⟩
          have B23 := B22.trans (b23.mono B22.size)
          have t23 := t22.below b23 tz22
          have tz23 := Nat.le_trans tz22 b23.size
          have r23 := r22.below b23 b22.size
          have rz23 := Nat.le_trans b22.size b23.size
          go_wp2_with fail
          refine (iHoldsIn_any A21 c21 _ _ (turnT T) (rndW u) (rndW v) _ r23 rz23 small_turnT n3 n4).mono ?_
          rw [TURN.out hg]
          rintro e w24 ⟨rfl, b24⟩
          have B24 := B23.trans (b24.mono B23.size)
          have t24 := t23.below b24 tz23
          have tz24 := Nat.le_trans tz23 b24.size
          go_wp2_with fail
          refine (iHoldsIn_any A1 c1 _ _ T u u _ t24 tz24 hS hn1 hn1).mono ?_
          rw [SELF.out]
          rintro e wz ⟨rfl, bz⟩
          go_wp2
          go_ret
          exact ⟨rfl, B24.trans (bz.mono B24.size)⟩
    · cases hcan : canB T U
      · cases hg : grpT T
        · go_wp2_with fail
          refine (iHoldsIn_any A5 c5 _ _ (partT T (p : Int)) (u) (v) _ p7 y7 hSp hn1 hn2).mono ?_
          rw [PART.out (by first | rfl | trivial)]
          rintro e w8 ⟨rfl, b8⟩
          have B8 := B7.trans (b8.mono B7.size)
          have t8 := t7.below b8 z7
          have tz8 := Nat.le_trans z7 b8.size
          have p8 := p7.below b8 y7
          have pz8 := Nat.le_trans y7 b8.size
          have u8 := u7.below b8 b7.size
          have uz8 := Nat.le_trans b7.size b8.size
          have x8 := m7.below b8 (Nat.le_refl _)
          have xz8 := Nat.le_trans (Nat.le_refl _) b8.size
          go_wp2_with fail
          refine (sGroupedOk_any _ _ _ _ _ _ t8 hS).mono ?_
          rw [hg]
          rintro e wg ⟨rfl, qg⟩
          have bg := qg.below w8.heap.size
          have Bg := B8.trans (qg.below w.heap.size)
          have tg := t8.quiet qg
          have zg := Nat.le_trans tz8 bg.size
          go_wp2_with fail
          refine (iHoldsIn_any A1 c1 _ _ T u u _ tg zg hS hn1 hn1).mono ?_
          rw [SELF.out]
          rintro e wz ⟨rfl, bz⟩
          go_wp2
          go_ret
          exact ⟨rfl, Bg.trans (bz.mono Bg.size)⟩
        · go_wp2_with fail
          refine (iHoldsIn_any A5 c5 _ _ (partT T (p : Int)) (u) (v) _ p7 y7 hSp hn1 hn2).mono ?_
          rw [PART.out (by first | rfl | trivial)]
          rintro e w8 ⟨rfl, b8⟩
          have B8 := B7.trans (b8.mono B7.size)
          have t8 := t7.below b8 z7
          have tz8 := Nat.le_trans z7 b8.size
          have p8 := p7.below b8 y7
          have pz8 := Nat.le_trans y7 b8.size
          have u8 := u7.below b8 b7.size
          have uz8 := Nat.le_trans b7.size b8.size
          have x8 := m7.below b8 (Nat.le_refl _)
          have xz8 := Nat.le_trans (Nat.le_refl _) b8.size
          go_wp2_with fail
          refine (sGroupedOk_any _ _ _ _ _ _ t8 hS).mono ?_
          rw [hg]
          rintro e wg ⟨rfl, qg⟩
          have bg := qg.below w8.heap.size
          have Bg := B8.trans (qg.below w.heap.size)
          have tg := t8.quiet qg
          have zg := Nat.le_trans tz8 bg.size
          go_wp2_with fail
          refine (iTurnedOf_any A1 c1 _ _ T _ tg zg hS).mono ?_
          rintro e w21 ⟨A21, c21, rfl, b21, g21⟩
          have B21 := Bg.trans (b21.mono Bg.size)
          have t21 := tg.below b21 zg
          have tz21 := Nat.le_trans zg b21.size
          have r21 := g21.mat
          go_wp2_with fail
          refine (iRoundOf_any u _ hn1).mono ?_
          rintro e w22 ⟨rfl, b22⟩
          have B22 := B21.trans (b22.mono B21.size)
          have t22 := t21.below b22 tz21
          have tz22 := Nat.le_trans tz21 b22.size
          have r22 := r21.below b22 (Nat.le_refl _)
          go_wp2_with fail
          refine (iRoundOf_any v _ hn2).mono ?_
          rintro e w23 ⟨rfl, b23⟩
          have B23 := B22.trans (b23.mono B22.size)
          have t23 := t22.below b23 tz22
          have tz23 := Nat.le_trans tz22 b23.size
          have r23 := r22.below b23 b22.size
          have rz23 := Nat.le_trans b22.size b23.size
          go_wp2_with fail
          refine (iHoldsIn_any A21 c21 _ _ (turnT T) (rndW u) (rndW v) _ r23 rz23 small_turnT n3 n4).mono ?_
          rw [TURN.out hg]
          rintro e w24 ⟨rfl, b24⟩
          have B24 := B23.trans (b24.mono B23.size)
          have t24 := t23.below b24 tz23
          have tz24 := Nat.le_trans tz23 b24.size
          go_wp2_with fail
          refine (iHoldsIn_any A1 c1 _ _ T u u _ t24 tz24 hS hn1 hn1).mono ?_
          rw [SELF.out]
          rintro e wz ⟨rfl, bz⟩
          go_wp2
          go_ret
          exact ⟨rfl, B24.trans (bz.mono B24.size)⟩
      · cases hg : grpT T
        · go_wp2_with fail
          refine (iHoldsIn_any A5 c5 _ _ (partT T (p : Int)) (u) (v) _ p7 y7 hSp hn1 hn2).mono ?_
          rw [PART.out (by first | rfl | trivial)]
          rintro e w8 ⟨rfl, b8⟩
          have B8 := B7.trans (b8.mono B7.size)
          have t8 := t7.below b8 z7
          have tz8 := Nat.le_trans z7 b8.size
          have p8 := p7.below b8 y7
          have pz8 := Nat.le_trans y7 b8.size
          have u8 := u7.below b8 b7.size
          have uz8 := Nat.le_trans b7.size b8.size
          have x8 := m7.below b8 (Nat.le_refl _)
          have xz8 := Nat.le_trans (Nat.le_refl _) b8.size
          go_wp2_with fail
          refine (iHoldsIn_any A7 c7 _ _ (timesT T U) (u) (v) _ x8 xz8 hSX hn1 hn2).mono ?_
          rw [TIMES.out U hcan]
          rintro e w9 ⟨rfl, b9⟩
          have B9 := B8.trans (b9.mono B8.size)
          have t9 := t8.below b9 tz8
          have tz9 := Nat.le_trans tz8 b9.size
          have p9 := p8.below b9 pz8
          have pz9 := Nat.le_trans pz8 b9.size
          have u9 := u8.below b9 uz8
          have uz9 := Nat.le_trans uz8 b9.size
          have x9 := x8.below b9 xz8
          have xz9 := Nat.le_trans xz8 b9.size
          go_wp2_with fail
          refine (iHoldsIn_any A6 c6 _ _ (U) (u) (v) _ u9 uz9 hSU hn1 hn2).mono ?_
          rintro e w10 ⟨rfl, b10⟩
          have B10 := B9.trans (b10.mono B9.size)
          have t10 := t9.below b10 tz9
          have tz10 := Nat.le_trans tz9 b10.size
          have p10 := p9.below b10 pz9
          have pz10 := Nat.le_trans pz9 b10.size
          have u10 := u9.below b10 uz9
          have uz10 := Nat.le_trans uz9 b10.size
          have x10 := x9.below b10 xz9
          have xz10 := Nat.le_trans xz9 b10.size
          go_wp2_with fail
          refine (sGroupedOk_any _ _ _ _ _ _ t10 hS).mono ?_
          rw [hg]
          rintro e wg ⟨rfl, qg⟩
          have bg := qg.below w10.heap.size
          have Bg := B10.trans (qg.below w.heap.size)
          have tg := t10.quiet qg
          have zg := Nat.le_trans tz10 bg.size
          go_wp2_with fail
          refine (iHoldsIn_any A1 c1 _ _ T u u _ tg zg hS hn1 hn1).mono ?_
          rw [SELF.out]
          rintro e wz ⟨rfl, bz⟩
          go_wp2
          go_ret
          exact ⟨rfl, Bg.trans (bz.mono Bg.size)⟩
        · go_wp2_with fail
          refine (iHoldsIn_any A5 c5 _ _ (partT T (p : Int)) (u) (v) _ p7 y7 hSp hn1 hn2).mono ?_
          rw [PART.out (by first | rfl | trivial)]
          rintro e w8 ⟨rfl, b8⟩
          have B8 := B7.trans (b8.mono B7.size)
          have t8 := t7.below b8 z7
          have tz8 := Nat.le_trans z7 b8.size
          have p8 := p7.below b8 y7
          have pz8 := Nat.le_trans y7 b8.size
          have u8 := u7.below b8 b7.size
          have uz8 := Nat.le_trans b7.size b8.size
          have x8 := m7.below b8 (Nat.le_refl _)
          have xz8 := Nat.le_trans (Nat.le_refl _) b8.size
          go_wp2_with fail
          refine (iHoldsIn_any A7 c7 _ _ (timesT T U) (u) (v) _ x8 xz8 hSX hn1 hn2).mono ?_
          rw [TIMES.out U hcan]
          rintro e w9 ⟨rfl, b9⟩
          have B9 := B8.trans (b9.mono B8.size)
          have t9 := t8.below b9 tz8
          have tz9 := Nat.le_trans tz8 b9.size
          have p9 := p8.below b9 pz8
          have pz9 := Nat.le_trans pz8 b9.size
          have u9 := u8.below b9 uz8
          have uz9 := Nat.le_trans uz8 b9.size
          have x9 := x8.below b9 xz8
          have xz9 := Nat.le_trans xz8 b9.size
          go_wp2_with fail
          refine (iHoldsIn_any A6 c6 _ _ (U) (u) (v) _ u9 uz9 hSU hn1 hn2).mono ?_
          rintro e w10 ⟨rfl, b10⟩
          have B10 := B9.trans (b10.mono B9.size)
          have t10 := t9.below b10 tz9
          have tz10 := Nat.le_trans tz9 b10.size
          have p10 := p9.below b10 pz9
          have pz10 := Nat.le_trans pz9 b10.size
          have u10 := u9.below b10 uz9
          have uz10 := Nat.le_trans uz9 b10.size
          have x10 := x9.below b10 xz9
          have xz10 := Nat.le_trans xz9 b10.size
          go_wp2_with fail
          refine (sGroupedOk_any _ _ _ _ _ _ t10 hS).mono ?_
          rw [hg]
          rintro e wg ⟨rfl, qg⟩
          have bg := qg.below w10.heap.size
          have Bg := B10.trans (qg.below w.heap.size)
          have tg := t10.quiet qg
          have zg := Nat.le_trans tz10 bg.size
          go_wp2_with fail
          refine (iTurnedOf_any A1 c1 _ _ T _ tg zg hS).mono ?_
          rintro e w21 ⟨A21, c21, rfl, b21, g21⟩
          have B21 := Bg.trans (b21.mono Bg.size)
          have t21 := tg.below b21 zg
          have tz21 := Nat.le_trans zg b21.size
          have r21 := g21.mat
          go_wp2_with fail
          refine (iRoundOf_any u _ hn1).mono ?_
          rintro e w22 ⟨rfl, b22⟩
          have B22 := B21.trans (b22.mono B21.size)
          have t22 := t21.below b22 tz21
          have tz22 := Nat.le_trans tz21 b22.size
          have r22 := r21.below b22 (Nat.le_refl _)
          go_wp2_with fail
          refine (iRoundOf_any v _ hn2).mono ?_
          rintro e w23 ⟨rfl, b23⟩
          have B23 := B22.trans (b23.mono B22.size)
          have t23 := t22.below b23 tz22
          have tz23 := Nat.le_trans tz22 b23.size
          have r23 := r22.below b23 b22.size
          have rz23 := Nat.le_trans b22.size b23.size
          go_wp2_with fail
          refine (iHoldsIn_any A21 c21 _ _ (turnT T) (rndW u) (rndW v) _ r23 rz23 small_turnT n3 n4).mono ?_
          rw [TURN.out hg]
          rintro e w24 ⟨rfl, b24⟩
          have B24 := B23.trans (b24.mono B23.size)
          have t24 := t23.below b24 tz23
          have tz24 := Nat.le_trans tz23 b24.size
          go_wp2_with fail
          refine (iHoldsIn_any A1 c1 _ _ T u u _ t24 tz24 hS hn1 hn1).mono ?_
          rw [SELF.out]
          rintro e wz ⟨rfl, bz⟩
          go_wp2
          go_ret
          exact ⟨rfl, B24.trans (bz.mono B24.size)⟩

end Go.Proofs.Ythllbekoidogpaa
