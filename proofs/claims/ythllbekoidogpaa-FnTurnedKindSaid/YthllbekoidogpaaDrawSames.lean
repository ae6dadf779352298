/-  -/
import Derived.Test.YthllbekoidogpaaDrawWords
import Derived.Test.YthllbekoidogpaaSsame
import Derived.Deep.RegionHeld3
import Derived.Test.YthllbekoidogpaaDrawAll
namespace Go.Proofs.Ythllbekoidogpaa
open Go.RowKit
set_option linter.unusedVariables false


/-- A step that gives two words. -/
def PairStep (w wi : World) (B g P : Nat) (A : Option Addr) (n c : Nat) (e : Ending) (wj : World) : Prop :=
  ∃ u v P', e = .returned (.tuple #[.string (bs u), .string (bs v)]) ∧ u.length ≤ 40 ∧ v.length ≤ 100 ∧ St w wj B g P' A n c ∧ P' ≤ P + 200 ∧ Only g (g + 1) wi wj
set_option maxRecDepth 20000 in
set_option maxHeartbeats 8000000 in
theorem pair_st {w wi : World} {B g P n c : Nat} {A : Option Addr} (s : St w wi B g P A n c) (hP : P ≤ 300) :
    Calls Try.prog 56 #[.pointer (some ⟨g, 0, none⟩)] wi (PairStep w wi B g P A n c) := by
  go_enter Try.func56, Try.ntmps56
  go_wp2_with fail
  refine (word_st 7 14 s (by omega) (by omega) (by omega) (by omega) (by omega)).mono ?_
  rintro e w1 ⟨u, P1, rfl, hu, s1, hP1, o1⟩
  have hsu := size_bs u
  go_wp2_with fail
  refine (sWordOk_any u _ (by omega)).mono ?_
  cases hw : okW u
  · rintro e w_ ⟨rfl, rfl⟩
    go_wp2_with fail
    refine (word_st 7 14 s1 (by omega) (by omega) (by omega) (by omega) (by omega)).mono ?_
    rintro e w9 ⟨v, P9, rfl, hv, s9, hP9, o9⟩
    go_wp2
    go_ret2
    exact ⟨u, v, P9, rfl, hu, by omega, s9, by omega, (o1).trans o9⟩
  · rintro e w_ ⟨rfl, rfl⟩
    obtain ⟨_, l1, l24⟩ := okW_iff.1 hw
    go_wp2_with fail
    refine (pick_st (u.length : Int) s1 (by omega) (by omega) (by omega)).mono ?_
    rintro e_ w2 ⟨k, rfl, hk, s2, o2⟩
    go_wp2_with fail
    refine (pick_st ((u.length : Int) - (k : Int)) s2 (by omega) (by omega) (by omega)).mono ?_
    rintro e_ w3 ⟨d, rfl, hd, s3, o3⟩
    obtain ⟨j, hj⟩ : ∃ j, j = k + 1 + d := ⟨_, rfl⟩
    have hji : (k : Int) + 1 + (d : Int) = (j : Int) := by omega
    have hju : j ≤ u.length := by omega
    have hkj : k ≤ j := by omega
    clear hj
    go_wp2_with fail
    refine (pick_st 4 s3 (by omega) (by omega) (by omega)).mono ?_
    rintro e_ w4 ⟨a, rfl, ha, s4, o4⟩
    have O4 := ((o1.trans o2).trans o3).trans o4
    clear o1 o2 o3 o4 s1 s2 s3
    obtain rfl | rfl | rfl | rfl : a = 0 ∨ a = 1 ∨ a = 2 ∨ a = 3 := by omega
    · by_cases h24 : (u.length : Int) + (j : Int) - (k : Int) ≤ 24
      · have hs1 := fun w => slice_to Try.underlying9 u (j : Int) j rfl hju w
        have hs2 := fun w => slice_lh Try.underlying9 u (k : Int) (j : Int) k j rfl rfl hkj hju w
        have hs3 := fun w => slice_from Try.underlying9 u (j : Int) j rfl hju w
        have n1 : (u.take j).length ≤ 40 := by rw [List.length_take]; omega
        have n2 : ((u.drop k).take (j - k)).length ≤ 40 := by rw [List.length_take, List.length_drop]; omega
        have n3 : (u.drop j).length ≤ 40 := by rw [List.length_drop]; omega
        have nsum : (u.take j).length + ((u.drop k).take (j - k)).length + (u.drop j).length ≤ 100 := by rw [List.length_take, List.length_take, List.length_drop, List.length_drop]; omega
        obtain ⟨x1, hx1⟩ : ∃ x1, x1 = u.take j := ⟨_, rfl⟩
        obtain ⟨x2, hx2⟩ : ∃ x2, x2 = (u.drop k).take (j - k) := ⟨_, rfl⟩
        obtain ⟨x3, hx3⟩ : ∃ x3, x3 = u.drop j := ⟨_, rfl⟩
        rw [← hx1] at hs1 n1 nsum
        rw [← hx2] at hs2 n2 nsum
        rw [← hx3] at hs3 n3 nsum
        clear hx1 hx2 hx3
        have a1 := fun w => add_bs (P := Try.prog) x1 x2 (by omega) w
        have a2 := fun w => add_bs (P := Try.prog) (x1 ++ x2) x3 (by rw [List.length_append]; omega) w
        have n5 : (x1 ++ x2 ++ x3).length ≤ 100 := by rw [List.length_append, List.length_append]; exact nsum
        obtain ⟨y1, hy1⟩ : ∃ y1, y1 = x1 ++ x2 := ⟨_, rfl⟩
        rw [← hy1] at a1 a2 n5
        obtain ⟨y2, hy2⟩ : ∃ y2, y2 = y1 ++ x3 := ⟨_, rfl⟩
        rw [← hy2] at a2 n5
        clear hy1 hy2 nsum
        go_wp2
        refine wp_region_noPanic ?_
        refine wp_region_held_drew (S := (fun W => QD w4 W)) (by kernel_rfl) ?_ (fun hHeld => ?_)
        · exact (QD.refl _).drew
        first
          | (refine wpAnyH_take (i := 0) (v := ?_) (by simp only [List.getElem?_toArray, List.getElem?_cons_zero]; rfl) (by kernel_rfl) (by kernel_rfl) (by kernel_rfl) (fun _ _ _ h => h) (Or.inl ⟨by rfl, ?_⟩) hHeld ?_
             rotate_left
             · intro w_ hSw
               (try dsimp only at hSw)
               first
                 | (go_simp; done)
                 | (go_simp; with_reducible rfl))
          | (refine wpAnyH_take (i := 0) (v := undef) (by simp only [List.getElem?_toArray, List.getElem?_cons_zero]; rfl) (by kernel_rfl) (by kernel_rfl) (by kernel_rfl) (fun _ _ _ h => h) (Or.inr ⟨by rfl, rfl⟩) hHeld ?_)
        try simp only [Act.put, List.setIfInBounds_toArray, List.set_cons_zero, List.set_cons_succ]
        first
          | (refine wpAnyH_take (i := 1) (v := ?_) (by simp only [List.getElem?_toArray, List.getElem?_cons_succ, List.getElem?_cons_zero]; rfl) (by kernel_rfl) (by kernel_rfl) (by kernel_rfl) (fun _ _ _ h => h) (Or.inl ⟨by rfl, ?_⟩) hHeld ?_
             rotate_left
             · intro w_ hSw
               (try dsimp only at hSw)
               first
                 | (go_simp; done)
                 | (go_simp; with_reducible rfl))
          | (refine wpAnyH_take (i := 1) (v := undef) (by simp only [List.getElem?_toArray, List.getElem?_cons_succ, List.getElem?_cons_zero]; rfl) (by kernel_rfl) (by kernel_rfl) (by kernel_rfl) (fun _ _ _ h => h) (Or.inr ⟨by rfl, rfl⟩) hHeld ?_)
        try simp only [Act.put, List.setIfInBounds_toArray, List.set_cons_zero, List.set_cons_succ]
        first
          | (refine wpAnyH_take (i := 2) (v := ?_) (by simp only [List.getElem?_toArray, List.getElem?_cons_succ, List.getElem?_cons_zero]; rfl) (by kernel_rfl) (by kernel_rfl) (by kernel_rfl) (fun _ _ _ h => h) (Or.inl ⟨by rfl, ?_⟩) hHeld ?_
             rotate_left
             · intro w_ hSw
               (try dsimp only at hSw)
               first
                 | (go_simp; done)
                 | (go_simp; with_reducible rfl))
          | (refine wpAnyH_take (i := 2) (v := undef) (by simp only [List.getElem?_toArray, List.getElem?_cons_succ, List.getElem?_cons_zero]; rfl) (by kernel_rfl) (by kernel_rfl) (by kernel_rfl) (fun _ _ _ h => h) (Or.inr ⟨by rfl, rfl⟩) hHeld ?_)
        try simp only [Act.put, List.setIfInBounds_toArray, List.set_cons_zero, List.set_cons_succ]
        first
          | (refine wpAnyH_take (i := 3) (v := ?_) (by simp only [List.getElem?_toArray, List.getElem?_cons_succ, List.getElem?_cons_zero]; rfl) (by kernel_rfl) (by kernel_rfl) (by kernel_rfl) (fun _ _ _ h => h) (Or.inl ⟨by rfl, ?_⟩) hHeld ?_
             rotate_left
             · intro w_ hSw
               (try dsimp only at hSw)
               first
                 | (go_simp; done)
                 | (go_simp; with_reducible rfl))
          | (refine wpAnyH_take (i := 3) (v := undef) (by simp only [List.getElem?_toArray, List.getElem?_cons_succ, List.getElem?_cons_zero]; rfl) (by kernel_rfl) (by kernel_rfl) (by kernel_rfl) (fun _ _ _ h => h) (Or.inr ⟨by rfl, rfl⟩) hHeld ?_)
        try simp only [Act.put, List.setIfInBounds_toArray, List.set_cons_zero, List.set_cons_succ]
        first
          | (refine wpAnyH_take (i := 4) (v := ?_) (by simp only [List.getElem?_toArray, List.getElem?_cons_succ, List.getElem?_cons_zero]; rfl) (by kernel_rfl) (by kernel_rfl) (by kernel_rfl) (fun _ _ _ h => h) (Or.inl ⟨by rfl, ?_⟩) hHeld ?_
             rotate_left
             · intro w_ hSw
               (try dsimp only at hSw)
               first
                 | (go_simp; done)
                 | (go_simp; with_reducible rfl))
          | (refine wpAnyH_take (i := 4) (v := undef) (by simp only [List.getElem?_toArray, List.getElem?_cons_succ, List.getElem?_cons_zero]; rfl) (by kernel_rfl) (by kernel_rfl) (by kernel_rfl) (fun _ _ _ h => h) (Or.inr ⟨by rfl, rfl⟩) hHeld ?_)
        try simp only [Act.put, List.setIfInBounds_toArray, List.set_cons_zero, List.set_cons_succ]
        first
          | (refine wpAnyH_take (i := 5) (v := ?_) (by simp only [List.getElem?_toArray, List.getElem?_cons_succ, List.getElem?_cons_zero]; rfl) (by kernel_rfl) (by kernel_rfl) (by kernel_rfl) (fun _ _ _ h => h) (Or.inl ⟨by rfl, ?_⟩) hHeld ?_
             rotate_left
             · intro w_ hSw
               (try dsimp only at hSw)
               first
                 | (go_simp; done)
                 | (go_simp; with_reducible rfl))
          | (refine wpAnyH_take (i := 5) (v := undef) (by simp only [List.getElem?_toArray, List.getElem?_cons_succ, List.getElem?_cons_zero]; rfl) (by kernel_rfl) (by kernel_rfl) (by kernel_rfl) (fun _ _ _ h => h) (Or.inr ⟨by rfl, rfl⟩) hHeld ?_)
        try simp only [Act.put, List.setIfInBounds_toArray, List.set_cons_zero, List.set_cons_succ]
        first
          | (refine wpAnyH_take (i := 6) (v := ?_) (by simp only [List.getElem?_toArray, List.getElem?_cons_succ, List.getElem?_cons_zero]; rfl) (by kernel_rfl) (by kernel_rfl) (by kernel_rfl) (fun _ _ _ h => h) (Or.inl ⟨by rfl, ?_⟩) hHeld ?_
             rotate_left
             · intro w_ hSw
               (try dsimp only at hSw)
               first
                 | (go_simp; done)
                 | (go_simp; with_reducible rfl))
          | (refine wpAnyH_take (i := 6) (v := undef) (by simp only [List.getElem?_toArray, List.getElem?_cons_succ, List.getElem?_cons_zero]; rfl) (by kernel_rfl) (by kernel_rfl) (by kernel_rfl) (fun _ _ _ h => h) (Or.inr ⟨by rfl, rfl⟩) hHeld ?_)
        try simp only [Act.put, List.setIfInBounds_toArray, List.set_cons_zero, List.set_cons_succ]
        first
          | (refine wpAnyH_take (i := 7) (v := ?_) (by simp only [List.getElem?_toArray, List.getElem?_cons_succ, List.getElem?_cons_zero]; rfl) (by kernel_rfl) (by kernel_rfl) (by kernel_rfl) (fun _ _ _ h => h) (Or.inl ⟨by rfl, ?_⟩) hHeld ?_
             rotate_left
             · intro w_ hSw
               (try dsimp only at hSw)
               first
                 | (go_simp; done)
                 | (go_simp; with_reducible rfl))
          | (refine wpAnyH_take (i := 7) (v := undef) (by simp only [List.getElem?_toArray, List.getElem?_cons_succ, List.getElem?_cons_zero]; rfl) (by kernel_rfl) (by kernel_rfl) (by kernel_rfl) (fun _ _ _ h => h) (Or.inr ⟨by rfl, rfl⟩) hHeld ?_)
        try simp only [Act.put, List.setIfInBounds_toArray, List.set_cons_zero, List.set_cons_succ]
        first
          | (refine wpAnyH_take (i := 8) (v := ?_) (by simp only [List.getElem?_toArray, List.getElem?_cons_succ, List.getElem?_cons_zero]; rfl) (by kernel_rfl) (by kernel_rfl) (by kernel_rfl) (fun _ _ _ h => h) (Or.inl ⟨by rfl, ?_⟩) hHeld ?_
             rotate_left
             · intro w_ hSw
               (try dsimp only at hSw)
               first
                 | (go_simp; done)
                 | (go_simp; with_reducible rfl))
          | (refine wpAnyH_take (i := 8) (v := undef) (by simp only [List.getElem?_toArray, List.getElem?_cons_succ, List.getElem?_cons_zero]; rfl) (by kernel_rfl) (by kernel_rfl) (by kernel_rfl) (fun _ _ _ h => h) (Or.inr ⟨by rfl, rfl⟩) hHeld ?_)
        try simp only [Act.put, List.setIfInBounds_toArray, List.set_cons_zero, List.set_cons_succ]
        first
          | (refine wpAnyH_take (i := 9) (v := ?_) (by simp only [List.getElem?_toArray, List.getElem?_cons_succ, List.getElem?_cons_zero]; rfl) (by kernel_rfl) (by kernel_rfl) (by kernel_rfl) (fun _ _ _ h => h) (Or.inl ⟨by rfl, ?_⟩) hHeld ?_
             rotate_left
             · intro w_ hSw
               (try dsimp only at hSw)
               first
                 | (go_simp; done)
                 | (go_simp; with_reducible rfl))
          | (refine wpAnyH_take (i := 9) (v := undef) (by simp only [List.getElem?_toArray, List.getElem?_cons_succ, List.getElem?_cons_zero]; rfl) (by kernel_rfl) (by kernel_rfl) (by kernel_rfl) (fun _ _ _ h => h) (Or.inr ⟨by rfl, rfl⟩) hHeld ?_)
        try simp only [Act.put, List.setIfInBounds_toArray, List.set_cons_zero, List.set_cons_succ]
        first
          | (refine wpAnyH_take (i := 10) (v := ?_) (by simp only [List.getElem?_toArray, List.getElem?_cons_succ, List.getElem?_cons_zero]; rfl) (by kernel_rfl) (by kernel_rfl) (by kernel_rfl) (fun _ _ _ h => h) (Or.inl ⟨by rfl, ?_⟩) hHeld ?_
             rotate_left
             · intro w_ hSw
               (try dsimp only at hSw)
               first
                 | (go_simp; done)
                 | (go_simp; with_reducible rfl))
          | (refine wpAnyH_take (i := 10) (v := undef) (by simp only [List.getElem?_toArray, List.getElem?_cons_succ, List.getElem?_cons_zero]; rfl) (by kernel_rfl) (by kernel_rfl) (by kernel_rfl) (fun _ _ _ h => h) (Or.inr ⟨by rfl, rfl⟩) hHeld ?_)
        try simp only [Act.put, List.setIfInBounds_toArray, List.set_cons_zero, List.set_cons_succ]
        first
          | (refine wpAnyH_take (i := 11) (v := ?_) (by simp only [List.getElem?_toArray, List.getElem?_cons_succ, List.getElem?_cons_zero]; rfl) (by kernel_rfl) (by kernel_rfl) (by kernel_rfl) (fun _ _ _ h => h) (Or.inl ⟨by rfl, ?_⟩) hHeld ?_
             rotate_left
             · intro w_ hSw
               (try dsimp only at hSw)
               first
                 | (go_simp; done)
                 | (go_simp; with_reducible rfl))
          | (refine wpAnyH_take (i := 11) (v := undef) (by simp only [List.getElem?_toArray, List.getElem?_cons_succ, List.getElem?_cons_zero]; rfl) (by kernel_rfl) (by kernel_rfl) (by kernel_rfl) (fun _ _ _ h => h) (Or.inr ⟨by rfl, rfl⟩) hHeld ?_)
        try simp only [Act.put, List.setIfInBounds_toArray, List.set_cons_zero, List.set_cons_succ]
        first
          | (refine wpAnyH_take (i := 12) (v := ?_) (by simp only [List.getElem?_toArray, List.getElem?_cons_succ, List.getElem?_cons_zero]; rfl) (by kernel_rfl) (by kernel_rfl) (by kernel_rfl) (fun _ _ _ h => h) (Or.inl ⟨by rfl, ?_⟩) hHeld ?_
             rotate_left
             · intro w_ hSw
               (try dsimp only at hSw)
               first
                 | (go_simp; done)
                 | (go_simp; with_reducible rfl))
          | (refine wpAnyH_take (i := 12) (v := undef) (by simp only [List.getElem?_toArray, List.getElem?_cons_succ, List.getElem?_cons_zero]; rfl) (by kernel_rfl) (by kernel_rfl) (by kernel_rfl) (fun _ _ _ h => h) (Or.inr ⟨by rfl, rfl⟩) hHeld ?_)
        try simp only [Act.put, List.setIfInBounds_toArray, List.set_cons_zero, List.set_cons_succ]
        first
          | (refine wpAnyH_take (i := 13) (v := ?_) (by simp only [List.getElem?_toArray, List.getElem?_cons_succ, List.getElem?_cons_zero]; rfl) (by kernel_rfl) (by kernel_rfl) (by kernel_rfl) (fun _ _ _ h => h) (Or.inl ⟨by rfl, ?_⟩) hHeld ?_
             rotate_left
             · intro w_ hSw
               (try dsimp only at hSw)
               first
                 | (go_simp; done)
                 | (go_simp; with_reducible rfl))
          | (refine wpAnyH_take (i := 13) (v := undef) (by simp only [List.getElem?_toArray, List.getElem?_cons_succ, List.getElem?_cons_zero]; rfl) (by kernel_rfl) (by kernel_rfl) (by kernel_rfl) (fun _ _ _ h => h) (Or.inr ⟨by rfl, rfl⟩) hHeld ?_)
        try simp only [Act.put, List.setIfInBounds_toArray, List.set_cons_zero, List.set_cons_succ]
        first
          | (refine wpAnyH_take (i := 14) (v := ?_) (by simp only [List.getElem?_toArray, List.getElem?_cons_succ, List.getElem?_cons_zero]; rfl) (by kernel_rfl) (by kernel_rfl) (by kernel_rfl) (fun _ _ _ h => h) (Or.inl ⟨by rfl, ?_⟩) hHeld ?_
             rotate_left
             · intro w_ hSw
               (try dsimp only at hSw)
               first
                 | (go_simp; done)
                 | (go_simp; with_reducible rfl))
          | (refine wpAnyH_take (i := 14) (v := undef) (by simp only [List.getElem?_toArray, List.getElem?_cons_succ, List.getElem?_cons_zero]; rfl) (by kernel_rfl) (by kernel_rfl) (by kernel_rfl) (fun _ _ _ h => h) (Or.inr ⟨by rfl, rfl⟩) hHeld ?_)
        try simp only [Act.put, List.setIfInBounds_toArray, List.set_cons_zero, List.set_cons_succ]
        refine wpAnyH_done (by kernel_rfl) (NoPanic.normal ?_) _
        go_wp2
        go_ret2
        exact ⟨u, y2, _, rfl, hu, n5, s4.below (hHeld.below _), by omega, O4.trans (Only.of_below (hHeld.below _))⟩
      · go_wp2_with fail
        refine (word_st 7 14 s4 (by omega) (by omega) (by omega) (by omega) (by omega)).mono ?_
        rintro e w9 ⟨v, P9, rfl, hv, s9, hP9, o9⟩
        go_wp2
        go_ret2
        exact ⟨u, v, P9, rfl, hu, by omega, s9, by omega, (O4).trans o9⟩
    · go_wp2_with fail
      refine (sl7Made_any u.length u _ (Nat.le_refl _) (.inr hw)).mono ?_
      have hm := made_short hw
      rintro e w5 ⟨rfl, q5⟩
      go_wp2
      go_ret2
      exact ⟨u, made u, _, rfl, hu, by omega, s4.below (q5.below _), by omega, O4.trans (Only.of_below (q5.below _))⟩
    · have a1 := fun w => add_bs (P := Try.prog) u u (by omega) w
      have nv : (u ++ u).length ≤ 48 := by rw [List.length_append]; omega
      have nv2 : u.length ≤ (u ++ u).length := by rw [List.length_append]; omega
      obtain ⟨v, hv⟩ : ∃ v, v = u ++ u := ⟨_, rfl⟩
      rw [← hv] at a1 nv nv2
      clear hv
      go_wp2_with fail
      refine (pick_st ((u.length : Int) + 1) s4 (by omega) (by omega) (by omega)).mono ?_
      rintro e_ w5 ⟨q, rfl, hq, s5, o5⟩
      have O5 := O4.trans o5
      have hqv : q ≤ v.length := by omega
      have hs1 := fun w => slice_to Try.underlying9 v (q : Int) q rfl hqv w
      have hs2 := fun w => slice_from Try.underlying9 v (q : Int) q rfl hqv w
      have n1 : (v.take q).length + (v.drop q).length ≤ 48 := by rw [List.length_take, List.length_drop]; omega
      obtain ⟨x1, hx1⟩ : ∃ x1, x1 = v.take q := ⟨_, rfl⟩
      obtain ⟨x2, hx2⟩ : ∃ x2, x2 = v.drop q := ⟨_, rfl⟩
      rw [← hx1] at hs1 n1
      rw [← hx2] at hs2 n1
      clear hx1 hx2
      have hmx : Try.prog.follows .mixedOrders = true := by kernel_rfl
      have s5d : St w w5.drew B g _ A n c := s5.below (below_drewN 1)
      have o5d : Only g (g + 1) wi w5.drew := O5.drewN 1
      go_wp2
      refine wp_region_noPanic ?_
      refine wp_region_any hmx ?_
      change wpAny _ _ _ _ _ _ _ (World.drew _)
      refine wpAny_take (i := 0) (v := ?_) (by simp only [List.getElem?_toArray, List.getElem?_cons_zero]; rfl) (by kernel_rfl) (by kernel_rfl) (by kernel_rfl) (fun _ _ _ h => h) (Or.inl ⟨by rfl, ?_⟩) ?_
      rotate_left
      · intro w_
        first
          | (go_simp; done)
          | (go_simp; with_reducible rfl)
      try simp only [Act.put, List.setIfInBounds_toArray, List.set_cons_zero, List.set_cons_succ]
      refine wpAny_take (i := 1) (v := ?_) (by simp only [List.getElem?_toArray, List.getElem?_cons_succ, List.getElem?_cons_zero]; rfl) (by kernel_rfl) (by kernel_rfl) (by kernel_rfl) (fun _ _ _ h => h) (Or.inl ⟨by rfl, ?_⟩) ?_
      rotate_left
      · intro w_
        first
          | (go_simp; done)
          | (go_simp; with_reducible rfl)
      try simp only [Act.put, List.setIfInBounds_toArray, List.set_cons_zero, List.set_cons_succ]
      refine wpAny_take (i := 2) (v := ?_) (by simp only [List.getElem?_toArray, List.getElem?_cons_succ, List.getElem?_cons_zero]; rfl) (by kernel_rfl) (by kernel_rfl) (by kernel_rfl) (fun _ _ _ h => h) (Or.inl ⟨by rfl, ?_⟩) ?_
      rotate_left
      · intro w_
        first
          | (go_simp; done)
          | (go_simp; with_reducible rfl)
      try simp only [Act.put, List.setIfInBounds_toArray, List.set_cons_zero, List.set_cons_succ]
      refine wpAny_take (i := 3) (v := ?_) (by simp only [List.getElem?_toArray, List.getElem?_cons_succ, List.getElem?_cons_zero]; rfl) (by kernel_rfl) (by kernel_rfl) (by kernel_rfl) (fun _ _ _ h => h) (Or.inl ⟨by rfl, ?_⟩) ?_
      rotate_left
      · intro w_
        first
          | (go_simp; done)
          | (go_simp; with_reducible rfl)
      try simp only [Act.put, List.setIfInBounds_toArray, List.set_cons_zero, List.set_cons_succ]
      refine wpAny_take (i := 4) (v := ?_) (by simp only [List.getElem?_toArray, List.getElem?_cons_succ, List.getElem?_cons_zero]; rfl) (by kernel_rfl) (by kernel_rfl) (by kernel_rfl) (fun _ _ _ h => h) (Or.inl ⟨by rfl, ?_⟩) ?_
      rotate_left
      · intro w_
        first
          | (go_simp; done)
          | (go_simp; with_reducible rfl)
      try simp only [Act.put, List.setIfInBounds_toArray, List.set_cons_zero, List.set_cons_succ]
      refine wpAny_take (i := 7) (v := ?_) (by simp only [List.getElem?_toArray, List.getElem?_cons_succ, List.getElem?_cons_zero]; rfl) (by kernel_rfl) (by kernel_rfl) (by kernel_rfl) (fun _ _ _ h => h) (Or.inl ⟨by rfl, ?_⟩) ?_
      rotate_left
      · intro w_
        first
          | (go_simp; done)
          | (go_simp; with_reducible rfl)
      try simp only [Act.put, List.setIfInBounds_toArray, List.set_cons_zero, List.set_cons_succ]
      refine wpAny_take (i := 8) (v := ?_) (by simp only [List.getElem?_toArray, List.getElem?_cons_succ, List.getElem?_cons_zero]; rfl) (by kernel_rfl) (by kernel_rfl) (by kernel_rfl) (fun _ _ _ h => h) (Or.inl ⟨by rfl, ?_⟩) ?_
      rotate_left
      · intro w_
        first
          | (go_simp; done)
          | (go_simp; with_reducible rfl)
      try simp only [Act.put, List.setIfInBounds_toArray, List.set_cons_zero, List.set_cons_succ]
      refine wpAny_take (i := 9) (v := ?_) (by simp only [List.getElem?_toArray, List.getElem?_cons_succ, List.getElem?_cons_zero]; rfl) (by kernel_rfl) (by kernel_rfl) (by kernel_rfl) (fun _ _ _ h => h) (Or.inl ⟨by rfl, ?_⟩) ?_
      rotate_left
      · intro w_
        first
          | (go_simp; done)
          | (go_simp; with_reducible rfl)
      try simp only [Act.put, List.setIfInBounds_toArray, List.set_cons_zero, List.set_cons_succ]
      refine wpAny_ready (rs := [5]) (by kernel_rfl) (by simp) ?_
      refine AllReady.cons (by simp only [List.getElem?_toArray, List.getElem?_cons_succ, List.getElem?_cons_zero]; rfl) (fun K hK => ?_) AllReady.nil
      go_simp
      refine (word_st 2 0 s5d (by omega) (by omega) (by omega) (by omega) (by omega)).mono ?_
      rintro e w6 ⟨y, P6, rfl, hy, s6, hP6, o6⟩
      have a2 := fun w => add_bs (P := Try.prog) x1 y (by omega) w
      have a3 := fun w => add_bs (P := Try.prog) (x1 ++ y) x2 (by rw [List.length_append]; omega) w
      obtain ⟨z1, hz1⟩ : ∃ z1, z1 = x1 ++ y := ⟨_, rfl⟩
      rw [← hz1] at a2 a3
      obtain ⟨z2, hz2⟩ : ∃ z2, z2 = z1 ++ x2 := ⟨_, rfl⟩
      rw [← hz2] at a3
      have HZL := hide (show z2.length ≤ 100 from by rw [hz2, hz1, List.length_append, List.length_append]; omega)
      clear hz1 hz2
      try simp only []
      refine hK _ _ ?_
      clear hK K
      try simp only [Act.put, List.setIfInBounds_toArray, List.set_cons_zero, List.set_cons_succ]
      refine wpAny_take (i := 6) (v := ?_) (by simp only [List.getElem?_toArray, List.getElem?_cons_succ, List.getElem?_cons_zero]; rfl) (by kernel_rfl) (by kernel_rfl) (by kernel_rfl) (fun _ _ _ h => h) (Or.inl ⟨by rfl, ?_⟩) ?_
      rotate_left
      · intro w_
        first
          | (go_simp; done)
          | (go_simp; with_reducible rfl)
      try simp only [Act.put, List.setIfInBounds_toArray, List.set_cons_zero, List.set_cons_succ]
      refine wpAny_take (i := 10) (v := ?_) (by simp only [List.getElem?_toArray, List.getElem?_cons_succ, List.getElem?_cons_zero]; rfl) (by kernel_rfl) (by kernel_rfl) (by kernel_rfl) (fun _ _ _ h => h) (Or.inl ⟨by rfl, ?_⟩) ?_
      rotate_left
      · intro w_
        first
          | (go_simp; done)
          | (go_simp; with_reducible rfl)
      try simp only [Act.put, List.setIfInBounds_toArray, List.set_cons_zero, List.set_cons_succ]
      refine wpAny_take (i := 11) (v := ?_) (by simp only [List.getElem?_toArray, List.getElem?_cons_succ, List.getElem?_cons_zero]; rfl) (by kernel_rfl) (by kernel_rfl) (by kernel_rfl) (fun _ _ _ h => h) (Or.inl ⟨by rfl, ?_⟩) ?_
      rotate_left
      · intro w_
        first
          | (go_simp; done)
          | (go_simp; with_reducible rfl)
      try simp only [Act.put, List.setIfInBounds_toArray, List.set_cons_zero, List.set_cons_succ]
      refine wpAny_take (i := 12) (v := ?_) (by simp only [List.getElem?_toArray, List.getElem?_cons_succ, List.getElem?_cons_zero]; rfl) (by kernel_rfl) (by kernel_rfl) (by kernel_rfl) (fun _ _ _ h => h) (Or.inl ⟨by rfl, ?_⟩) ?_
      rotate_left
      · intro w_
        first
          | (go_simp; done)
          | (go_simp; with_reducible rfl)
      try simp only [Act.put, List.setIfInBounds_toArray, List.set_cons_zero, List.set_cons_succ]
      refine wpAny_done (by kernel_rfl) (NoPanic.normal ?_) _
      go_wp2
      go_ret2
      exact ⟨u, z2, _, rfl, hu, HZL.out, s6, by omega, o5d.trans o6⟩
    · go_wp2_with fail
      refine (word_st 7 14 s4 (by omega) (by omega) (by omega) (by omega) (by omega)).mono ?_
      rintro e w9 ⟨v, P9, rfl, hv, s9, hP9, o9⟩
      go_wp2
      go_ret2
      exact ⟨u, v, P9, rfl, hu, by omega, s9, by omega, (O4).trans o9⟩
end Go.Proofs.Ythllbekoidogpaa

namespace Go.Proofs.Ythllbekoidogpaa
open Go.RowKit
set_option linter.unusedVariables false


def DrawnP (w : World) (e : Ending) (w' : World) : Prop := ∃ u v, e = .returned (.tuple #[.string (bs u), .string (bs v)]) ∧ u.length ≤ 100 ∧ v.length ≤ 100 ∧ Below w.heap.size w w'
def DrawnA (w : World) (e : Ending) (w' : World) : Prop := ∃ A c T u v, e = .returned (.tuple #[.slice A T.length c, .string (bs u), .string (bs v)]) ∧ Below w.heap.size w w' ∧ Mat w' w.heap.size w'.heap.size A T ∧ Small T ∧ u.length ≤ 100 ∧ v.length ≤ 100
end Go.Proofs.Ythllbekoidogpaa
