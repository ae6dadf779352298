/- The walk of FnKindOf. -/
import Derived.Test.YthllbekoidogpaaSidenT
import Derived.Test.YthllbekoidogpaaIiden
import Derived.Test.YthllbekoidogpaaIband
import Derived.Test.YthllbekoidogpaaIrectOk
import Derived.Test.YthllbekoidogpaaDrawIdens
import Derived.Deep.RegionHeld3
namespace Go.Proofs.Ythllbekoidogpaa
open Go.RowKit
set_option linter.unusedVariables false

theorem bit_part {n k : Nat} : n / 2 ^ k % 2 = if n.testBit k = true then 1 else 0 := bit_half
theorem e_one {b : Bool} : ((((if b = true then 1 else 0 : Nat)) : Int) == 1) = b := by cases b <;> rfl
set_option maxRecDepth 20000 in
set_option maxHeartbeats 16000000 in
theorem fnKindOf_walk (A : Option Addr) (n c : Nat) (w : World) (h : Bytes w w.heap.size A n) (hc : n ≤ c) (hc2 : c ≤ 9223372036854775807) :
    Calls Try.prog 5 #[.slice A n c] w fun e w' => e = .returned (.bool true) ∧ Below w.heap.size w w' := by
  by_cases hn : (1048576 : Int) < (n : Int)
  · go_enter Try.func5, Try.ntmps5
    go_wp2
    go_ret
    exact ⟨rfl, Below.refl _ _⟩
  · go_enter Try.func5, Try.ntmps5
    go_wp2_with fail
    refine (drawKindOf_any A n c w h hc hc2).mono ?_
    rintro e w1 ⟨A1, c1, T, rfl, B1, m1, hS⟩
    cases hk : okT T
    · have HE := hide (kinW_not hk)
      go_wp2_with fail
      refine (iKindOf_any A1 c1 _ _ T _ m1 (Nat.le_refl _) hS).mono ?_
      rw [HE.out]
      rintro e w2 ⟨rfl, b2⟩
      have B2 := B1.trans (b2.mono B1.size)
      have m2 := m1.below b2 (Nat.le_refl _)
      go_wp2_with fail
      refine (sKindOf_any A1 c1 _ _ T _ m2 b2.size hS).mono ?_
      rw [HE.out]
      rintro e w3 ⟨rfl, b3⟩
      have B3 := B2.trans (b3.mono B2.size)
      have m3 := m2.below b3 b2.size
      have z3 := Nat.le_trans b2.size b3.size
      go_wp2_with fail
      refine (iTableOk_any _ _ _ _ _ _ m3 hS).mono ?_
      rw [hk]
      rintro e w_ ⟨rfl, rfl⟩
      go_wp2_with fail
      refine (alive_any _).mono ?_
      rintro e w4 ⟨rfl, b4⟩
      go_wp2
      go_ret
      exact ⟨rfl, B3.trans (b4.mono B3.size)⟩
    · have HE := hide (kinW_ok hk)
      have hlt := kinN_lt T
      have HBIT := hide (fun (k : Nat) (hk : k < 9) => kinN_bit T hk)
      obtain ⟨s, hs⟩ : ∃ s, s = kinN T := ⟨_, rfl⟩
      rw [← hs] at HE hlt HBIT
      clear hs
      have hs0 : ¬ (s : Int) < 0 := by omega
      cases hg : grpT T
      · go_wp2_with fail
        refine (iKindOf_any A1 c1 _ _ T _ m1 (Nat.le_refl _) hS).mono ?_
        rw [HE.out]
        rintro e w2 ⟨rfl, b2⟩
        have B2 := B1.trans (b2.mono B1.size)
        have m2 := m1.below b2 (Nat.le_refl _)
        go_wp2_with fail
        refine (sKindOf_any A1 c1 _ _ T _ m2 b2.size hS).mono ?_
        rw [HE.out]
        rintro e w3 ⟨rfl, b3⟩
        have B3 := B2.trans (b3.mono B2.size)
        have m3 := m2.below b3 b2.size
        have z3 := Nat.le_trans b2.size b3.size
        go_wp2_with fail
        refine (sGroupedOk_any _ _ _ _ _ _ m3 hS).mono ?_
        rw [hg]
        rintro e w4 ⟨rfl, q4⟩
        have B4 := B3.trans (q4.below w.heap.size)
        have m4 := m3.quiet q4
        have z4 := Nat.le_trans z3 (q4.below w3.heap.size).size
        go_wp2_with fail
        refine (alive_any _).mono ?_
        rintro e w5 ⟨rfl, b5⟩
        go_wp2
        go_ret
        exact ⟨rfl, B4.trans (b5.mono B4.size)⟩
      · have g := grpT_iff.1 hg
        have hp0 := bit_part (n := s) (k := 0)
        rw [HBIT.out 0 (by omega)] at hp0
        have hb0 : hldW T (idU 0) (idV 0) = bandT T := by
          rw [Bool.eq_iff_iff, hld_iff, bandT_iff, kind0 g]
          exact ⟨fun h => h.2, fun h => ⟨canA_words hk (idU_ok (by omega)) (idV_ok (by omega)), h⟩⟩
        rw [hb0, show s / 2 ^ 0 = s by simp] at hp0
        have r1 : ((s : Int) % 2) = ((s % 2 : Nat) : Int) := by omega
        have r2 : ((s : Int).tmod 2) = ((s % 2 : Nat) : Int) := by rw [Int.tmod_eq_emod_of_nonneg (by omega)]; exact r1
        cases hb : bandT T
        · rw [hb] at hp0
          have hp1 : s % 2 = 0 := by simpa using hp0
          rw [hp1] at r1 r2
          clear hp0 hp1 hb0 g
          go_wp2_with fail
          refine (iKindOf_any A1 c1 _ _ T _ m1 (Nat.le_refl _) hS).mono ?_
          rw [HE.out]
          rintro e w2 ⟨rfl, b2⟩
          have B2 := B1.trans (b2.mono B1.size)
          have m2 := m1.below b2 (Nat.le_refl _)
          go_wp2_with fail
          refine (sKindOf_any A1 c1 _ _ T _ m2 b2.size hS).mono ?_
          rw [HE.out]
          rintro e w3 ⟨rfl, b3⟩
          have B3 := B2.trans (b3.mono B2.size)
          have m3 := m2.below b3 b2.size
          have z3 := Nat.le_trans b2.size b3.size
          go_wp2_with fail
          refine (sGroupedOk_any _ _ _ _ _ _ m3 hS).mono ?_
          rw [hg]
          rintro e w4 ⟨rfl, q4⟩
          have B4 := B3.trans (q4.below w.heap.size)
          have m4 := m3.quiet q4
          have z4 := Nat.le_trans z3 (q4.below w3.heap.size).size
          go_wp2_with fail
          refine (iBandOk_any A1 c1 _ _ T _ m4 z4 hS).mono ?_
          rw [hb]
          rintro e w5 ⟨rfl, b5⟩
          go_wp2
          go_ret
          exact ⟨rfl, B4.trans (b5.mono B4.size)⟩
        · rw [hb] at hp0
          have hp1 : s % 2 = 1 := by simpa using hp0
          rw [hp1] at r1 r2
          clear hp0 hp1 hb0
          have bd := bandT_iff.1 hb
          have W : ∀ k, k < 9 → (hldW T (idU k) (idV k) = true ↔ Hld T (idU k) (idV k)) := fun k hk9 => by
            rw [hld_iff]
            exact ⟨fun h => h.2, fun h => ⟨canA_words hk (idU_ok hk9) (idV_ok hk9), h⟩⟩
          have M7 := fun h => (W 7 (by omega)).2 (mid7 bd h)
          have S8 := fun h => (W 8 (by omega)).2 (side8 bd h)
          have u1 := bit_part (n := s) (k := 1)
          rw [HBIT.out 1 (by omega)] at u1
          have n1 : hldW T (idU 1) (idV 1) = meetT T := by rw [Bool.eq_iff_iff, W 1 (by omega)]; exact kind1 bd
          rw [n1] at u1
          have u2 := bit_part (n := s) (k := 2)
          rw [HBIT.out 2 (by omega)] at u2
          have n2 : hldW T (idU 2) (idV 2) = firstT T := by rw [Bool.eq_iff_iff, W 2 (by omega)]; exact kind2 bd
          rw [n2] at u2
          have u3 := bit_part (n := s) (k := 3)
          rw [HBIT.out 3 (by omega)] at u3
          obtain ⟨X3, n3⟩ : ∃ b, hldW T (idU 3) (idV 3) = b := ⟨_, rfl⟩
          rw [n3] at u3
          have u4 := bit_part (n := s) (k := 4)
          rw [HBIT.out 4 (by omega)] at u4
          have n4 : hldW T (idU 4) (idV 4) = rectT T := by rw [Bool.eq_iff_iff, W 4 (by omega)]; exact kind4 bd
          rw [n4] at u4
          have u5 := bit_part (n := s) (k := 5)
          rw [HBIT.out 5 (by omega)] at u5
          have n5 : hldW T (idU 5) (idV 5) = leftT T := by rw [Bool.eq_iff_iff, W 5 (by omega)]; exact kind5 bd
          rw [n5] at u5
          have u6 := bit_part (n := s) (k := 6)
          rw [HBIT.out 6 (by omega)] at u6
          have n6 : hldW T (idU 6) (idV 6) = rightT T := by rw [Bool.eq_iff_iff, W 6 (by omega)]; exact kind6 bd
          rw [n6] at u6
          have u7 := bit_part (n := s) (k := 7)
          rw [HBIT.out 7 (by omega)] at u7
          obtain ⟨X7, n7⟩ : ∃ b, hldW T (idU 7) (idV 7) = b := ⟨_, rfl⟩
          rw [n7] at u7
          have u8 := bit_part (n := s) (k := 8)
          rw [HBIT.out 8 (by omega)] at u8
          obtain ⟨X8, n8⟩ : ∃ b, hldW T (idU 8) (idV 8) = b := ⟨_, rfl⟩
          rw [n8] at u8
          have M7' : (meetT T = true ∨ firstT T = true ∨ X3 = true ∨ rectT T = true) → X7 = true := fun h => by
            rw [← n7]
            refine M7 ?_
            rcases h with h | h | h | h
            · exact .inl ((W 1 (by omega)).1 (by rw [n1]; exact h))
            · exact .inr (.inl ((W 2 (by omega)).1 (by rw [n2]; exact h)))
            · exact .inr (.inr (.inl ((W 3 (by omega)).1 (by rw [n3]; exact h))))
            · exact .inr (.inr (.inr ((W 4 (by omega)).1 (by rw [n4]; exact h))))
          have S8' : (leftT T = true ∨ rightT T = true ∨ X7 = true) → X8 = true := fun h => by
            rw [← n8]
            refine S8 ?_
            rcases h with h | h | h
            · exact .inl ((W 5 (by omega)).1 (by rw [n5]; exact h))
            · exact .inr (.inl ((W 6 (by omega)).1 (by rw [n6]; exact h)))
            · exact .inr (.inr ((W 7 (by omega)).1 (by rw [n7]; exact h)))
          clear M7 S8 W n1 n2 n3 n4 n5 n6 n7 n8 g
          obtain ⟨X1, H1⟩ : ∃ b, b = meetT T := ⟨_, rfl⟩
          try rw [← H1] at M7'
          try rw [← H1] at S8'
          rw [← H1] at u1
          obtain ⟨X2, H2⟩ : ∃ b, b = firstT T := ⟨_, rfl⟩
          try rw [← H2] at M7'
          try rw [← H2] at S8'
          rw [← H2] at u2
          obtain ⟨X4, H4⟩ : ∃ b, b = rectT T := ⟨_, rfl⟩
          try rw [← H4] at M7'
          try rw [← H4] at S8'
          rw [← H4] at u4
          obtain ⟨X5, H5⟩ : ∃ b, b = leftT T := ⟨_, rfl⟩
          try rw [← H5] at M7'
          try rw [← H5] at S8'
          rw [← H5] at u5
          obtain ⟨X6, H6⟩ : ∃ b, b = rightT T := ⟨_, rfl⟩
          try rw [← H6] at M7'
          try rw [← H6] at S8'
          rw [← H6] at u6
          have H1 := hide H1
          have H2 := hide H2
          have H4 := hide H4
          have H5 := hide H5
          have H6 := hide H6
          have q1 : ((s : Int) / 2) = ((s / 2 ^ 1 : Nat) : Int) := by rw [show (2 : Nat) ^ 1 = 2 from rfl]; omega
          have l1 : s / 2 ^ 1 ≤ 511 := by have := Nat.div_le_self s (2 ^ 1); omega
          obtain ⟨m_1, hm1⟩ : ∃ m, m = s / 2 ^ 1 := ⟨_, rfl⟩
          rw [← hm1] at q1 u1 l1
          obtain ⟨e1, he1⟩ : ∃ e, e = m_1 % 2 := ⟨_, rfl⟩
          have f1 : ((m_1 : Int) % 2) = (e1 : Int) := by omega
          have t1 : ((m_1 : Int).tmod 2) = (e1 : Int) := by rw [Int.tmod_eq_emod_of_nonneg (by omega)]; exact f1
          rw [← he1] at u1
          have v1 : ((e1 : Int) == 1) = X1 := by rw [u1]; exact e_one
          have o1 : e1 ≤ 1 := by omega
          have y1 : X1 = true ↔ e1 = 1 := by rw [u1]; cases X1 <;> simp
          clear hm1 he1 u1
          have q2 : ((s : Int) / 4) = ((s / 2 ^ 2 : Nat) : Int) := by rw [show (2 : Nat) ^ 2 = 4 from rfl]; omega
          have l2 : s / 2 ^ 2 ≤ 511 := by have := Nat.div_le_self s (2 ^ 2); omega
          obtain ⟨m_2, hm2⟩ : ∃ m, m = s / 2 ^ 2 := ⟨_, rfl⟩
          rw [← hm2] at q2 u2 l2
          obtain ⟨e2, he2⟩ : ∃ e, e = m_2 % 2 := ⟨_, rfl⟩
          have f2 : ((m_2 : Int) % 2) = (e2 : Int) := by omega
          have t2 : ((m_2 : Int).tmod 2) = (e2 : Int) := by rw [Int.tmod_eq_emod_of_nonneg (by omega)]; exact f2
          rw [← he2] at u2
          have v2 : ((e2 : Int) == 1) = X2 := by rw [u2]; exact e_one
          have o2 : e2 ≤ 1 := by omega
          have y2 : X2 = true ↔ e2 = 1 := by rw [u2]; cases X2 <;> simp
          clear hm2 he2 u2
          have q3 : ((s : Int) / 8) = ((s / 2 ^ 3 : Nat) : Int) := by rw [show (2 : Nat) ^ 3 = 8 from rfl]; omega
          have l3 : s / 2 ^ 3 ≤ 511 := by have := Nat.div_le_self s (2 ^ 3); omega
          obtain ⟨m_3, hm3⟩ : ∃ m, m = s / 2 ^ 3 := ⟨_, rfl⟩
          rw [← hm3] at q3 u3 l3
          obtain ⟨e3, he3⟩ : ∃ e, e = m_3 % 2 := ⟨_, rfl⟩
          have f3 : ((m_3 : Int) % 2) = (e3 : Int) := by omega
          have t3 : ((m_3 : Int).tmod 2) = (e3 : Int) := by rw [Int.tmod_eq_emod_of_nonneg (by omega)]; exact f3
          rw [← he3] at u3
          have v3 : ((e3 : Int) == 1) = X3 := by rw [u3]; exact e_one
          have o3 : e3 ≤ 1 := by omega
          have y3 : X3 = true ↔ e3 = 1 := by rw [u3]; cases X3 <;> simp
          clear hm3 he3 u3
          have q4 : ((s : Int) / 16) = ((s / 2 ^ 4 : Nat) : Int) := by rw [show (2 : Nat) ^ 4 = 16 from rfl]; omega
          have l4 : s / 2 ^ 4 ≤ 511 := by have := Nat.div_le_self s (2 ^ 4); omega
          obtain ⟨m_4, hm4⟩ : ∃ m, m = s / 2 ^ 4 := ⟨_, rfl⟩
          rw [← hm4] at q4 u4 l4
          obtain ⟨e4, he4⟩ : ∃ e, e = m_4 % 2 := ⟨_, rfl⟩
          have f4 : ((m_4 : Int) % 2) = (e4 : Int) := by omega
          have t4 : ((m_4 : Int).tmod 2) = (e4 : Int) := by rw [Int.tmod_eq_emod_of_nonneg (by omega)]; exact f4
          rw [← he4] at u4
          have v4 : ((e4 : Int) == 1) = X4 := by rw [u4]; exact e_one
          have o4 : e4 ≤ 1 := by omega
          have y4 : X4 = true ↔ e4 = 1 := by rw [u4]; cases X4 <;> simp
          clear hm4 he4 u4
          have q5 : ((s : Int) / 32) = ((s / 2 ^ 5 : Nat) : Int) := by rw [show (2 : Nat) ^ 5 = 32 from rfl]; omega
          have l5 : s / 2 ^ 5 ≤ 511 := by have := Nat.div_le_self s (2 ^ 5); omega
          obtain ⟨m_5, hm5⟩ : ∃ m, m = s / 2 ^ 5 := ⟨_, rfl⟩
          rw [← hm5] at q5 u5 l5
          obtain ⟨e5, he5⟩ : ∃ e, e = m_5 % 2 := ⟨_, rfl⟩
          have f5 : ((m_5 : Int) % 2) = (e5 : Int) := by omega
          have t5 : ((m_5 : Int).tmod 2) = (e5 : Int) := by rw [Int.tmod_eq_emod_of_nonneg (by omega)]; exact f5
          rw [← he5] at u5
          have v5 : ((e5 : Int) == 1) = X5 := by rw [u5]; exact e_one
          have o5 : e5 ≤ 1 := by omega
          have y5 : X5 = true ↔ e5 = 1 := by rw [u5]; cases X5 <;> simp
          clear hm5 he5 u5
          have q6 : ((s : Int) / 64) = ((s / 2 ^ 6 : Nat) : Int) := by rw [show (2 : Nat) ^ 6 = 64 from rfl]; omega
          have l6 : s / 2 ^ 6 ≤ 511 := by have := Nat.div_le_self s (2 ^ 6); omega
          obtain ⟨m_6, hm6⟩ : ∃ m, m = s / 2 ^ 6 := ⟨_, rfl⟩
          rw [← hm6] at q6 u6 l6
          obtain ⟨e6, he6⟩ : ∃ e, e = m_6 % 2 := ⟨_, rfl⟩
          have f6 : ((m_6 : Int) % 2) = (e6 : Int) := by omega
          have t6 : ((m_6 : Int).tmod 2) = (e6 : Int) := by rw [Int.tmod_eq_emod_of_nonneg (by omega)]; exact f6
          rw [← he6] at u6
          have v6 : ((e6 : Int) == 1) = X6 := by rw [u6]; exact e_one
          have o6 : e6 ≤ 1 := by omega
          have y6 : X6 = true ↔ e6 = 1 := by rw [u6]; cases X6 <;> simp
          clear hm6 he6 u6
          have q7 : ((s : Int) / 128) = ((s / 2 ^ 7 : Nat) : Int) := by rw [show (2 : Nat) ^ 7 = 128 from rfl]; omega
          have l7 : s / 2 ^ 7 ≤ 511 := by have := Nat.div_le_self s (2 ^ 7); omega
          obtain ⟨m_7, hm7⟩ : ∃ m, m = s / 2 ^ 7 := ⟨_, rfl⟩
          rw [← hm7] at q7 u7 l7
          obtain ⟨e7, he7⟩ : ∃ e, e = m_7 % 2 := ⟨_, rfl⟩
          have f7 : ((m_7 : Int) % 2) = (e7 : Int) := by omega
          have t7 : ((m_7 : Int).tmod 2) = (e7 : Int) := by rw [Int.tmod_eq_emod_of_nonneg (by omega)]; exact f7
          rw [← he7] at u7
          have v7 : ((e7 : Int) == 1) = X7 := by rw [u7]; exact e_one
          have o7 : e7 ≤ 1 := by omega
          have y7 : X7 = true ↔ e7 = 1 := by rw [u7]; cases X7 <;> simp
          clear hm7 he7 u7
          have q8 : ((s : Int) / 256) = ((s / 2 ^ 8 : Nat) : Int) := by rw [show (2 : Nat) ^ 8 = 256 from rfl]; omega
          have l8 : s / 2 ^ 8 ≤ 511 := by have := Nat.div_le_self s (2 ^ 8); omega
          obtain ⟨m_8, hm8⟩ : ∃ m, m = s / 2 ^ 8 := ⟨_, rfl⟩
          rw [← hm8] at q8 u8 l8
          obtain ⟨e8, he8⟩ : ∃ e, e = m_8 % 2 := ⟨_, rfl⟩
          have f8 : ((m_8 : Int) % 2) = (e8 : Int) := by omega
          have t8 : ((m_8 : Int).tmod 2) = (e8 : Int) := by rw [Int.tmod_eq_emod_of_nonneg (by omega)]; exact f8
          rw [← he8] at u8
          have v8 : ((e8 : Int) == 1) = X8 := by rw [u8]; exact e_one
          have o8 : e8 ≤ 1 := by omega
          have y8 : X8 = true ↔ e8 = 1 := by rw [u8]; cases X8 <;> simp
          clear hm8 he8 u8
          obtain ⟨md, hmd⟩ : ∃ b, b = decide ((0 : Int) < (e1 : Int) + (e2 : Int) + (e3 : Int) + (e4 : Int)) := ⟨_, rfl⟩
          obtain ⟨sd, hsd⟩ : ∃ b, b = decide ((0 : Int) < (e5 : Int) + (e6 : Int) + (e7 : Int)) := ⟨_, rfl⟩
          have w7 : md = true → ((e7 : Int) == 1) = true := fun h => by
            rw [hmd, decide_eq_true_iff] at h
            rw [v7]
            refine M7' ?_
            rw [y1, y2, y3, y4]
            omega
          have w8 : sd = true → ((e8 : Int) == 1) = true := fun h => by
            rw [hsd, decide_eq_true_iff] at h
            rw [v8]
            refine S8' ?_
            rw [y5, y6, y7]
            omega
          have W7 := hide w7
          have W8 := hide w8
          clear M7' S8' y1 y2 y3 y4 y5 y6 y7 y8 w7 w8 v7 v8
          replace hmd := hmd.symm
          replace hsd := hsd.symm
          cases md
          · cases sd
            · go_wp2_with fail
              refine (iKindOf_any A1 c1 _ _ T _ m1 (Nat.le_refl _) hS).mono ?_
              rw [HE.out]
              rintro e w2 ⟨rfl, b2⟩
              have B2 := B1.trans (b2.mono B1.size)
              have m2 := m1.below b2 (Nat.le_refl _)
              go_wp2_with fail
              refine (sKindOf_any A1 c1 _ _ T _ m2 b2.size hS).mono ?_
              rw [HE.out]
              rintro e w3 ⟨rfl, b3⟩
              have B3 := B2.trans (b3.mono B2.size)
              have m3 := m2.below b3 b2.size
              have z3 := Nat.le_trans b2.size b3.size
              go_wp2_with fail
              refine (sGroupedOk_any _ _ _ _ _ _ m3 hS).mono ?_
              rw [hg]
              rintro e w4 ⟨rfl, q4⟩
              have B4 := B3.trans (q4.below w.heap.size)
              have m4 := m3.quiet q4
              have z4 := Nat.le_trans z3 (q4.below w3.heap.size).size
              go_wp2_with fail
              refine (iBandOk_any A1 c1 _ _ T _ m4 z4 hS).mono ?_
              rw [hb]
              rintro e w5 ⟨rfl, b5⟩
              have B5 := B4.trans (b5.mono B4.size)
              have m5 := m4.below b5 z4
              have z5 := Nat.le_trans z4 b5.size
              go_wp2_with fail
              refine (iMeetingOk_any A1 c1 _ _ T _ m5 z5 hS).mono ?_
              rw [← H1.out]
              rintro e w6 ⟨rfl, b6⟩
              have B6 := B5.trans (b6.mono B5.size)
              have m6 := m5.below b6 z5
              have z6 := Nat.le_trans z5 b6.size
              go_wp2_with fail
              refine (iFirstOk_any A1 c1 _ _ T _ m6 z6 hS).mono ?_
              rw [← H2.out]
              rintro e w7 ⟨rfl, b7⟩
              have B7 := B6.trans (b7.mono B6.size)
              have m7 := m6.below b7 z6
              have z7 := Nat.le_trans z6 b7.size
              go_wp2_with fail
              refine (iRectangularOk_any A1 c1 _ _ T _ m7 z7 hS).mono ?_
              rw [← H4.out]
              rintro e w8 ⟨rfl, b8⟩
              have B8 := B7.trans (b8.mono B7.size)
              have m8 := m7.below b8 z7
              have z8 := Nat.le_trans z7 b8.size
              go_wp2_with fail
              refine (iLeftOk_any A1 c1 _ _ T _ m8 z8 hS).mono ?_
              rw [← H5.out]
              rintro e w9 ⟨rfl, b9⟩
              have B9 := B8.trans (b9.mono B8.size)
              have m9 := m8.below b9 z8
              have z9 := Nat.le_trans z8 b9.size
              go_wp2_with fail
              refine (iRightOk_any A1 c1 _ _ T _ m9 z9 hS).mono ?_
              rw [← H6.out]
              rintro e w10 ⟨rfl, b10⟩
              have B10 := B9.trans (b10.mono B9.size)
              have m10 := m9.below b10 z9
              have z10 := Nat.le_trans z9 b10.size
              go_wp2
              go_ret
              exact ⟨rfl, B10⟩
            · have k8 := W8.out rfl
              go_wp2_with fail
              refine (iKindOf_any A1 c1 _ _ T _ m1 (Nat.le_refl _) hS).mono ?_
              rw [HE.out]
              rintro e w2 ⟨rfl, b2⟩
              have B2 := B1.trans (b2.mono B1.size)
              have m2 := m1.below b2 (Nat.le_refl _)
              go_wp2_with fail
              refine (sKindOf_any A1 c1 _ _ T _ m2 b2.size hS).mono ?_
              rw [HE.out]
              rintro e w3 ⟨rfl, b3⟩
              have B3 := B2.trans (b3.mono B2.size)
              have m3 := m2.below b3 b2.size
              have z3 := Nat.le_trans b2.size b3.size
              go_wp2_with fail
              refine (sGroupedOk_any _ _ _ _ _ _ m3 hS).mono ?_
              rw [hg]
              rintro e w4 ⟨rfl, q4⟩
              have B4 := B3.trans (q4.below w.heap.size)
              have m4 := m3.quiet q4
              have z4 := Nat.le_trans z3 (q4.below w3.heap.size).size
              go_wp2_with fail
              refine (iBandOk_any A1 c1 _ _ T _ m4 z4 hS).mono ?_
              rw [hb]
              rintro e w5 ⟨rfl, b5⟩
              have B5 := B4.trans (b5.mono B4.size)
              have m5 := m4.below b5 z4
              have z5 := Nat.le_trans z4 b5.size
              go_wp2_with fail
              refine (iMeetingOk_any A1 c1 _ _ T _ m5 z5 hS).mono ?_
              rw [← H1.out]
              rintro e w6 ⟨rfl, b6⟩
              have B6 := B5.trans (b6.mono B5.size)
              have m6 := m5.below b6 z5
              have z6 := Nat.le_trans z5 b6.size
              go_wp2_with fail
              refine (iFirstOk_any A1 c1 _ _ T _ m6 z6 hS).mono ?_
              rw [← H2.out]
              rintro e w7 ⟨rfl, b7⟩
              have B7 := B6.trans (b7.mono B6.size)
              have m7 := m6.below b7 z6
              have z7 := Nat.le_trans z6 b7.size
              go_wp2_with fail
              refine (iRectangularOk_any A1 c1 _ _ T _ m7 z7 hS).mono ?_
              rw [← H4.out]
              rintro e w8 ⟨rfl, b8⟩
              have B8 := B7.trans (b8.mono B7.size)
              have m8 := m7.below b8 z7
              have z8 := Nat.le_trans z7 b8.size
              go_wp2_with fail
              refine (iLeftOk_any A1 c1 _ _ T _ m8 z8 hS).mono ?_
              rw [← H5.out]
              rintro e w9 ⟨rfl, b9⟩
              have B9 := B8.trans (b9.mono B8.size)
              have m9 := m8.below b9 z8
              have z9 := Nat.le_trans z8 b9.size
              go_wp2_with fail
              refine (iRightOk_any A1 c1 _ _ T _ m9 z9 hS).mono ?_
              rw [← H6.out]
              rintro e w10 ⟨rfl, b10⟩
              have B10 := B9.trans (b10.mono B9.size)
              have m10 := m9.below b10 z9
              have z10 := Nat.le_trans z9 b10.size
              go_wp2
              go_ret
              exact ⟨rfl, B10⟩
          · have k7 := W7.out rfl
            cases sd
            · go_wp2_with fail
              refine (iKindOf_any A1 c1 _ _ T _ m1 (Nat.le_refl _) hS).mono ?_
              rw [HE.out]
              rintro e w2 ⟨rfl, b2⟩
              have B2 := B1.trans (b2.mono B1.size)
              have m2 := m1.below b2 (Nat.le_refl _)
              go_wp2_with fail
              refine (sKindOf_any A1 c1 _ _ T _ m2 b2.size hS).mono ?_
              rw [HE.out]
              rintro e w3 ⟨rfl, b3⟩
              have B3 := B2.trans (b3.mono B2.size)
              have m3 := m2.below b3 b2.size
              have z3 := Nat.le_trans b2.size b3.size
              go_wp2_with fail
              refine (sGroupedOk_any _ _ _ _ _ _ m3 hS).mono ?_
              rw [hg]
              rintro e w4 ⟨rfl, q4⟩
              have B4 := B3.trans (q4.below w.heap.size)
              have m4 := m3.quiet q4
              have z4 := Nat.le_trans z3 (q4.below w3.heap.size).size
              go_wp2_with fail
              refine (iBandOk_any A1 c1 _ _ T _ m4 z4 hS).mono ?_
              rw [hb]
              rintro e w5 ⟨rfl, b5⟩
              have B5 := B4.trans (b5.mono B4.size)
              have m5 := m4.below b5 z4
              have z5 := Nat.le_trans z4 b5.size
              go_wp2_with fail
              refine (iMeetingOk_any A1 c1 _ _ T _ m5 z5 hS).mono ?_
              rw [← H1.out]
              rintro e w6 ⟨rfl, b6⟩
              have B6 := B5.trans (b6.mono B5.size)
              have m6 := m5.below b6 z5
              have z6 := Nat.le_trans z5 b6.size
              go_wp2_with fail
              refine (iFirstOk_any A1 c1 _ _ T _ m6 z6 hS).mono ?_
              rw [← H2.out]
              rintro e w7 ⟨rfl, b7⟩
              have B7 := B6.trans (b7.mono B6.size)
              have m7 := m6.below b7 z6
              have z7 := Nat.le_trans z6 b7.size
              go_wp2_with fail
              refine (iRectangularOk_any A1 c1 _ _ T _ m7 z7 hS).mono ?_
              rw [← H4.out]
              rintro e w8 ⟨rfl, b8⟩
              have B8 := B7.trans (b8.mono B7.size)
              have m8 := m7.below b8 z7
              have z8 := Nat.le_trans z7 b8.size
              go_wp2_with fail
              refine (iLeftOk_any A1 c1 _ _ T _ m8 z8 hS).mono ?_
              rw [← H5.out]
              rintro e w9 ⟨rfl, b9⟩
              have B9 := B8.trans (b9.mono B8.size)
              have m9 := m8.below b9 z8
              have z9 := Nat.le_trans z8 b9.size
              go_wp2_with fail
              refine (iRightOk_any A1 c1 _ _ T _ m9 z9 hS).mono ?_
              rw [← H6.out]
              rintro e w10 ⟨rfl, b10⟩
              have B10 := B9.trans (b10.mono B9.size)
              have m10 := m9.below b10 z9
              have z10 := Nat.le_trans z9 b10.size
              go_wp2
              go_ret
              exact ⟨rfl, B10⟩
            · have k8 := W8.out rfl
              go_wp2_with fail
              refine (iKindOf_any A1 c1 _ _ T _ m1 (Nat.le_refl _) hS).mono ?_
              rw [HE.out]
              rintro e w2 ⟨rfl, b2⟩
              have B2 := B1.trans (b2.mono B1.size)
              have m2 := m1.below b2 (Nat.le_refl _)
              go_wp2_with fail
              refine (sKindOf_any A1 c1 _ _ T _ m2 b2.size hS).mono ?_
              rw [HE.out]
              rintro e w3 ⟨rfl, b3⟩
              have B3 := B2.trans (b3.mono B2.size)
              have m3 := m2.below b3 b2.size
              have z3 := Nat.le_trans b2.size b3.size
              go_wp2_with fail
              refine (sGroupedOk_any _ _ _ _ _ _ m3 hS).mono ?_
              rw [hg]
              rintro e w4 ⟨rfl, q4⟩
              have B4 := B3.trans (q4.below w.heap.size)
              have m4 := m3.quiet q4
              have z4 := Nat.le_trans z3 (q4.below w3.heap.size).size
              go_wp2_with fail
              refine (iBandOk_any A1 c1 _ _ T _ m4 z4 hS).mono ?_
              rw [hb]
              rintro e w5 ⟨rfl, b5⟩
              have B5 := B4.trans (b5.mono B4.size)
              have m5 := m4.below b5 z4
              have z5 := Nat.le_trans z4 b5.size
              go_wp2_with fail
              refine (iMeetingOk_any A1 c1 _ _ T _ m5 z5 hS).mono ?_
              rw [← H1.out]
              rintro e w6 ⟨rfl, b6⟩
              have B6 := B5.trans (b6.mono B5.size)
              have m6 := m5.below b6 z5
              have z6 := Nat.le_trans z5 b6.size
              go_wp2_with fail
              refine (iFirstOk_any A1 c1 _ _ T _ m6 z6 hS).mono ?_
              rw [← H2.out]
              rintro e w7 ⟨rfl, b7⟩
              have B7 := B6.trans (b7.mono B6.size)
              have m7 := m6.below b7 z6
              have z7 := Nat.le_trans z6 b7.size
              go_wp2_with fail
              refine (iRectangularOk_any A1 c1 _ _ T _ m7 z7 hS).mono ?_
              rw [← H4.out]
              rintro e w8 ⟨rfl, b8⟩
              have B8 := B7.trans (b8.mono B7.size)
              have m8 := m7.below b8 z7
              have z8 := Nat.le_trans z7 b8.size
              go_wp2_with fail
              refine (iLeftOk_any A1 c1 _ _ T _ m8 z8 hS).mono ?_
              rw [← H5.out]
              rintro e w9 ⟨rfl, b9⟩
              have B9 := B8.trans (b9.mono B8.size)
              have m9 := m8.below b9 z8
              have z9 := Nat.le_trans z8 b9.size
              go_wp2_with fail
              refine (iRightOk_any A1 c1 _ _ T _ m9 z9 hS).mono ?_
              rw [← H6.out]
              rintro e w10 ⟨rfl, b10⟩
              have B10 := B9.trans (b10.mono B9.size)
              have m10 := m9.below b10 z9
              have z10 := Nat.le_trans z9 b10.size
              go_wp2
              go_ret
              exact ⟨rfl, B10⟩

end Go.Proofs.Ythllbekoidogpaa
