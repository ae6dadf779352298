/- The walk of FnWeakBelow. -/
import Derived.Test.YtcegjiiondmchaaEq
import Derived.Test.YtcegjiiondmchaaPureX
import Derived.Test.YtcegjiiondmchaaIband
import Derived.Test.YtcegjiiondmchaaIord
import Derived.Test.YtcegjiiondmchaaSord
import Derived.Test.YtcegjiiondmchaaDrawOrds
import Derived.Test.YtcegjiiondmchaaSlev
import Derived.Deep.RegionHeld3
namespace Go.Proofs.Ytcegjiiondmchaa
open Go.RowKit
set_option linter.unusedVariables false

set_option maxRecDepth 20000 in
set_option maxHeartbeats 8000000 in
theorem fnWeakBelow_walk (A : Option Addr) (n c : Nat) (w : World) (h : Bytes w w.heap.size A n) (hc : n ≤ c) (hc2 : c ≤ 9223372036854775807) :
    Calls Try.prog 4 #[.slice A n c] w fun e w' => e = .returned (.bool true) ∧ Below w.heap.size w w' := by
  by_cases hn : (1048576 : Int) < (n : Int)
  · go_enter Try.func4, Try.ntmps4
    go_wp2
    go_ret
    exact ⟨rfl, Below.refl _ _⟩
  · go_enter Try.func4, Try.ntmps4
    go_wp2_with fail
    refine (drawWeakBelow_any A n c w h hc hc2).mono ?_
    rintro e w1 ⟨A1, c1, T, x, y, rfl, B1, m1, hS⟩
    have hlT := hS.len
    cases hb : bandT T
    · have HE := hide (weakT_not (T := T) (x := x) (y := y) (by rw [hb]; rfl))
      go_wp2_with fail
      refine (iWeakBelow_any _ _ _ _ _ _ _ _ m1 (by omega) hS).mono ?_
      rw [HE.out]
      rintro e w2 ⟨rfl, b2⟩
      have B2 := B1.trans (b2.mono B1.size)
      have m2 := m1.below b2 (by omega)
      have z2 := b2.size
      go_wp2_with fail
      refine (sWeakBelow_any _ _ _ _ _ _ _ _ m2 hS).mono ?_
      rw [HE.out]
      rintro e w3 ⟨rfl, q3⟩
      have B3 := B2.trans (q3.below w.heap.size)
      have m3 := m2.quiet q3
      have z3 := q3.below 0 |>.size
      go_wp2_with fail
      refine (sLevelsOf_any _ _ _ _ _ _ m3 (by omega) hS).mono ?_
      rintro e w4 ⟨A4, c4, rfl, b4, l4, _, _⟩
      have B4 := B3.trans (b4.mono B3.size)
      have m4 := m3.below b4 (by omega)
      have z4 := b4.size
      rw [levsL_not hb, List.length_nil]
      go_wp2_with fail
      refine (alive_any _).mono ?_
      rintro e w5 ⟨rfl, b5⟩
      go_wp2
      go_ret
      exact ⟨rfl, B4.trans (b5.mono B4.size)⟩
    · have k1 := (band_tab hb).lo
      by_cases x0 : x < 0
      · have HE := hide (weakT_not (T := T) (x := x) (y := y) (can2_false (.inl (inT_false (.inl x0)))))
        have d_x0 := decide_eq_true x0
        go_wp2_with fail
        refine (iWeakBelow_any _ _ _ _ _ _ _ _ m1 (by omega) hS).mono ?_
        rw [HE.out]
        rintro e w2 ⟨rfl, b2⟩
        have B2 := B1.trans (b2.mono B1.size)
        have m2 := m1.below b2 (by omega)
        have z2 := b2.size
        go_wp2_with fail
        refine (sWeakBelow_any _ _ _ _ _ _ _ _ m2 hS).mono ?_
        rw [HE.out]
        rintro e w3 ⟨rfl, q3⟩
        have B3 := B2.trans (q3.below w.heap.size)
        have m3 := m2.quiet q3
        have z3 := q3.below 0 |>.size
        go_wp2_with fail
        refine (sLevelsOf_any _ _ _ _ _ _ m3 (by omega) hS).mono ?_
        rintro e w4 ⟨A4, c4, rfl, b4, l4, _, _⟩
        have B4 := B3.trans (b4.mono B3.size)
        have m4 := m3.below b4 (by omega)
        have z4 := b4.size
        have hz : (((levsL T).length : Int) == 0) = false := beq_eq_false_iff_ne.2 (by rw [len_levsL hb]; omega)
        go_wp2_with fail
        refine (alive_any _).mono ?_
        rintro e w5 ⟨rfl, b5⟩
        go_wp2
        go_ret
        exact ⟨rfl, B4.trans (b5.mono B4.size)⟩
      · have d_x0 := decide_eq_false x0
        by_cases y0 : y < 0
        · have HE := hide (weakT_not (T := T) (x := x) (y := y) (can2_false (.inr (inT_false (.inl y0)))))
          have d_y0 := decide_eq_true y0
          go_wp2_with fail
          refine (iWeakBelow_any _ _ _ _ _ _ _ _ m1 (by omega) hS).mono ?_
          rw [HE.out]
          rintro e w2 ⟨rfl, b2⟩
          have B2 := B1.trans (b2.mono B1.size)
          have m2 := m1.below b2 (by omega)
          have z2 := b2.size
          go_wp2_with fail
          refine (sWeakBelow_any _ _ _ _ _ _ _ _ m2 hS).mono ?_
          rw [HE.out]
          rintro e w3 ⟨rfl, q3⟩
          have B3 := B2.trans (q3.below w.heap.size)
          have m3 := m2.quiet q3
          have z3 := q3.below 0 |>.size
          go_wp2_with fail
          refine (sLevelsOf_any _ _ _ _ _ _ m3 (by omega) hS).mono ?_
          rintro e w4 ⟨A4, c4, rfl, b4, l4, _, _⟩
          have B4 := B3.trans (b4.mono B3.size)
          have m4 := m3.below b4 (by omega)
          have z4 := b4.size
          have hz : (((levsL T).length : Int) == 0) = false := beq_eq_false_iff_ne.2 (by rw [len_levsL hb]; omega)
          go_wp2_with fail
          refine (alive_any _).mono ?_
          rintro e w5 ⟨rfl, b5⟩
          go_wp2
          go_ret
          exact ⟨rfl, B4.trans (b5.mono B4.size)⟩
        · have d_y0 := decide_eq_false y0
          by_cases x1 : (T.length : Int) ≤ x
          · have HE := hide (weakT_not (T := T) (x := x) (y := y) (can2_false (.inl (inT_false (.inr x1)))))
            have d_x1 := decide_eq_true x1
            go_wp2_with fail
            refine (iWeakBelow_any _ _ _ _ _ _ _ _ m1 (by omega) hS).mono ?_
            rw [HE.out]
            rintro e w2 ⟨rfl, b2⟩
            have B2 := B1.trans (b2.mono B1.size)
            have m2 := m1.below b2 (by omega)
            have z2 := b2.size
            go_wp2_with fail
            refine (sWeakBelow_any _ _ _ _ _ _ _ _ m2 hS).mono ?_
            rw [HE.out]
            rintro e w3 ⟨rfl, q3⟩
            have B3 := B2.trans (q3.below w.heap.size)
            have m3 := m2.quiet q3
            have z3 := q3.below 0 |>.size
            go_wp2_with fail
            refine (sLevelsOf_any _ _ _ _ _ _ m3 (by omega) hS).mono ?_
            rintro e w4 ⟨A4, c4, rfl, b4, l4, _, _⟩
            have B4 := B3.trans (b4.mono B3.size)
            have m4 := m3.below b4 (by omega)
            have z4 := b4.size
            have hz : (((levsL T).length : Int) == 0) = false := beq_eq_false_iff_ne.2 (by rw [len_levsL hb]; omega)
            go_wp2_with fail
            refine (alive_any _).mono ?_
            rintro e w5 ⟨rfl, b5⟩
            go_wp2
            go_ret
            exact ⟨rfl, B4.trans (b5.mono B4.size)⟩
          · have d_x1 := decide_eq_false x1
            by_cases y1 : (T.length : Int) ≤ y
            · have HE := hide (weakT_not (T := T) (x := x) (y := y) (can2_false (.inr (inT_false (.inr y1)))))
              have d_y1 := decide_eq_true y1
              go_wp2_with fail
              refine (iWeakBelow_any _ _ _ _ _ _ _ _ m1 (by omega) hS).mono ?_
              rw [HE.out]
              rintro e w2 ⟨rfl, b2⟩
              have B2 := B1.trans (b2.mono B1.size)
              have m2 := m1.below b2 (by omega)
              have z2 := b2.size
              go_wp2_with fail
              refine (sWeakBelow_any _ _ _ _ _ _ _ _ m2 hS).mono ?_
              rw [HE.out]
              rintro e w3 ⟨rfl, q3⟩
              have B3 := B2.trans (q3.below w.heap.size)
              have m3 := m2.quiet q3
              have z3 := q3.below 0 |>.size
              go_wp2_with fail
              refine (sLevelsOf_any _ _ _ _ _ _ m3 (by omega) hS).mono ?_
              rintro e w4 ⟨A4, c4, rfl, b4, l4, _, _⟩
              have B4 := B3.trans (b4.mono B3.size)
              have m4 := m3.below b4 (by omega)
              have z4 := b4.size
              have hz : (((levsL T).length : Int) == 0) = false := beq_eq_false_iff_ne.2 (by rw [len_levsL hb]; omega)
              go_wp2_with fail
              refine (alive_any _).mono ?_
              rintro e w5 ⟨rfl, b5⟩
              go_wp2
              go_ret
              exact ⟨rfl, B4.trans (b5.mono B4.size)⟩
            · have d_y1 := decide_eq_false y1
              obtain ⟨a, rfl⟩ : ∃ a : Nat, x = a := ⟨x.toNat, by omega⟩
              obtain ⟨b, rfl⟩ : ∃ b : Nat, y = b := ⟨y.toNat, by omega⟩
              have ha : a < T.length := by omega
              have hb1 : b < T.length := by omega
              have d_x2 := decide_eq_false (show ¬ T.length ≤ a by omega)
              have d_y2 := decide_eq_false (show ¬ T.length ≤ b by omega)
              clear x0 y0 x1 y1
              have bd := bandT_iff.1 hb
              have k := bd.g.tab
              have k9 := k.hi
              obtain ⟨p, hp, p1⟩ := mul_nat k ha hb1
              have hwl := bd.weak_lev hb ha hb1 p1 hp
              have hE := weakT_of hb ha hb1
              have hE2 := hE
              rw [hp] at hE2
              have HA := hide (show weakT T a a = true from by rw [weakT_of hb ha ha, bd.ss (th_nat ha), bd.ss (th_nat ha)]; exact beq_self_eq_true _)
              have HB := hide (belowT_of hb ha hb1)
              have HW := hide (fun (h : blw T a b = true) => bd.blw_weak ha hb1 h)
              have hl := len_levsL hb
              have HLE := hide (fun x (hx : x < T.length) => el_levsL hb hx)
              have hwk : (mul T (p : Int) (a : Int) == (a : Int)) = (((num (inLev T) p : Nat) : Int) == ((num (inLev T) a : Nat) : Int)) := by rw [← hwl, hp]
              rw [hwk] at hE2
              have HE0 := hide hE2
              clear hwl hE hE2 hwk
              cases hc : (((num (inLev T) p : Nat) : Int) == ((num (inLev T) a : Nat) : Int))
              · have HE := hide (HE0.out.trans hc)
                have HX := hide (show belowT T a b = false from by
                  rw [HB.out]
                  cases e : blw T a b with
                  | false => rfl
                  | true =>
                    have h1 := HE.out
                    rw [weakT_of hb ha hb1, HW.out e] at h1
                    simp at h1)
                go_wp2_with fail
                refine (iWeakBelow_any _ _ _ _ _ _ _ _ m1 (by omega) hS).mono ?_
                rw [HE.out]
                rintro e w2 ⟨rfl, b2⟩
                have B2 := B1.trans (b2.mono B1.size)
                have m2 := m1.below b2 (by omega)
                have z2 := b2.size
                go_wp2_with fail
                refine (sWeakBelow_any _ _ _ _ _ _ _ _ m2 hS).mono ?_
                rw [HE.out]
                rintro e w3 ⟨rfl, q3⟩
                have B3 := B2.trans (q3.below w.heap.size)
                have m3 := m2.quiet q3
                have z3 := q3.below 0 |>.size
                go_wp2_with fail
                refine (sLevelsOf_any _ _ _ _ _ _ m3 (by omega) hS).mono ?_
                rintro e w4 ⟨A4, c4, rfl, b4, l4, _, _⟩
                have B4 := B3.trans (b4.mono B3.size)
                have m4 := m3.below b4 (by omega)
                have z4 := b4.size
                rw [hl]
                have hz : ((T.length : Int) == 0) = false := beq_eq_false_iff_ne.2 (by omega)
                obtain ⟨bL, oL, rfl, _, hbL, _⟩ := l4 0 (by rw [hl]; omega)
                have hL : ∀ x, x < T.length → w4.cell? ⟨bL, oL + x, none⟩ = some (.int .i64 (num (inLev T) x : Nat)) := fun x hx => by
                  obtain ⟨b', o', e', _, _, hc⟩ := l4 x (by rw [hl]; exact hx)
                  obtain ⟨rfl, rfl⟩ : bL = b' ∧ oL = o' := by simpa using e'
                  rw [hc, HLE.out x hx]
                obtain ⟨bb, oo, rfl, _, hbb, hcell⟩ := m4.head k
                obtain ⟨bx1, ox1, cx1, hcx1, _, hbx1, v1⟩ := hcell (a : Nat) (by omega) (by omega)
                have v1 := v1 (b : Nat) (by omega) (by omega)
                rw [hp] at v1
                rw [Int.toNat_natCast] at hcx1 v1
                have g1 := hL p p1
                have g2 := hL a ha
                have MK := hide (fun (W : World) (hW : Below w4.heap.size w4 W) => (⟨(hW.cell (p := ⟨bb, oo + a, none⟩) (by show bb < _; omega)).trans hcx1, (hW.cell (p := ⟨bx1, ox1 + b, none⟩) (by show bx1 < _; omega)).trans v1, (hW.cell (p := ⟨bL, oL + p, none⟩) (by show bL < _; omega)).trans g1, (hW.cell (p := ⟨bL, oL + a, none⟩) (by show bL < _; omega)).trans g2, hW⟩ :
                  W.cell? ⟨bb, oo + a, none⟩ = some (.slice (some ⟨bx1, ox1, none⟩) T.length cx1) ∧ W.cell? ⟨bx1, ox1 + b, none⟩ = some (.int .i64 (p : Nat)) ∧ W.cell? ⟨bL, oL + p, none⟩ = some (.int .i64 (num (inLev T) p : Nat)) ∧ W.cell? ⟨bL, oL + a, none⟩ = some (.int .i64 (num (inLev T) a : Nat)) ∧ Below w4.heap.size w4 W))
                clear hL l4 HLE hcell hcx1 v1 g1 g2
                have M4 := hide m4
                have hsz : w1.heap.size ≤ w4.heap.size := by omega
                clear m4 m1 m2 m3
                go_wp2_with fail
                refine wp_region_noPanic ?_
                refine wp_region_held_drew (S := (fun W => W.cell? ⟨bb, oo + a, none⟩ = some (.slice (some ⟨bx1, ox1, none⟩) T.length cx1) ∧ W.cell? ⟨bx1, ox1 + b, none⟩ = some (.int .i64 (p : Nat)) ∧ W.cell? ⟨bL, oL + p, none⟩ = some (.int .i64 (num (inLev T) p : Nat)) ∧ W.cell? ⟨bL, oL + a, none⟩ = some (.int .i64 (num (inLev T) a : Nat)) ∧ Below w4.heap.size w4 W)) (by kernel_rfl) ?_ (fun hHeld => ?_)
                · exact MK.out _ (Below.refl _ _).drew
                first
                  | (refine wpAnyH_take (i := 0) (v := ?_) (by simp only [List.getElem?_toArray, List.getElem?_cons_zero]; rfl) (by kernel_rfl) (by kernel_rfl) (by kernel_rfl) (fun _ _ _ h => h) (Or.inl ⟨by rfl, ?_⟩) hHeld ?_
                     rotate_left
                     · intro w_ hSw
                       (try dsimp only at hSw)
                       first
                         | (go_simp; done)
                         | (go_simp; with_reducible rfl))
                  | (refine wpAnyH_take (i := 0) (v := undef) (by simp only [List.getElem?_toArray, List.getElem?_cons_zero]; rfl) (by kernel_rfl) (by kernel_rfl) (by kernel_rfl) (fun _ _ _ h => h) (Or.inr ⟨by rfl, rfl⟩) hHeld ?_)
                try simp only [Act.put, List.setIfInBounds_toArray, List.set_cons_zero, List.set_cons_succ]
                first
                  | (refine wpAnyH_take (i := 1) (v := ?_) (by simp only [List.getElem?_toArray, List.getElem?_cons_succ, List.getElem?_cons_zero]; rfl) (by kernel_rfl) (by kernel_rfl) (by kernel_rfl) (fun _ _ _ h => h) (Or.inl ⟨by rfl, ?_⟩) hHeld ?_
                     rotate_left
                     · intro w_ hSw
                       (try dsimp only at hSw)
                       first
                         | (go_simp; done)
                         | (go_simp; with_reducible rfl))
                  | (refine wpAnyH_take (i := 1) (v := undef) (by simp only [List.getElem?_toArray, List.getElem?_cons_succ, List.getElem?_cons_zero]; rfl) (by kernel_rfl) (by kernel_rfl) (by kernel_rfl) (fun _ _ _ h => h) (Or.inr ⟨by rfl, rfl⟩) hHeld ?_)
                try simp only [Act.put, List.setIfInBounds_toArray, List.set_cons_zero, List.set_cons_succ]
                first
                  | (refine wpAnyH_take (i := 2) (v := ?_) (by simp only [List.getElem?_toArray, List.getElem?_cons_succ, List.getElem?_cons_zero]; rfl) (by kernel_rfl) (by kernel_rfl) (by kernel_rfl) (fun _ _ _ h => h) (Or.inl ⟨by rfl, ?_⟩) hHeld ?_
                     rotate_left
                     · intro w_ hSw
                       (try dsimp only at hSw)
                       first
                         | (go_simp; done)
                         | (go_simp; with_reducible rfl))
                  | (refine wpAnyH_take (i := 2) (v := undef) (by simp only [List.getElem?_toArray, List.getElem?_cons_succ, List.getElem?_cons_zero]; rfl) (by kernel_rfl) (by kernel_rfl) (by kernel_rfl) (fun _ _ _ h => h) (Or.inr ⟨by rfl, rfl⟩) hHeld ?_)
                try simp only [Act.put, List.setIfInBounds_toArray, List.set_cons_zero, List.set_cons_succ]
                first
                  | (refine wpAnyH_take (i := 3) (v := ?_) (by simp only [List.getElem?_toArray, List.getElem?_cons_succ, List.getElem?_cons_zero]; rfl) (by kernel_rfl) (by kernel_rfl) (by kernel_rfl) (fun _ _ _ h => h) (Or.inl ⟨by rfl, ?_⟩) hHeld ?_
                     rotate_left
                     · intro w_ hSw
                       (try dsimp only at hSw)
                       first
                         | (go_simp; done)
                         | (go_simp; with_reducible rfl))
                  | (refine wpAnyH_take (i := 3) (v := undef) (by simp only [List.getElem?_toArray, List.getElem?_cons_succ, List.getElem?_cons_zero]; rfl) (by kernel_rfl) (by kernel_rfl) (by kernel_rfl) (fun _ _ _ h => h) (Or.inr ⟨by rfl, rfl⟩) hHeld ?_)
                try simp only [Act.put, List.setIfInBounds_toArray, List.set_cons_zero, List.set_cons_succ]
                first
                  | (refine wpAnyH_take (i := 4) (v := ?_) (by simp only [List.getElem?_toArray, List.getElem?_cons_succ, List.getElem?_cons_zero]; rfl) (by kernel_rfl) (by kernel_rfl) (by kernel_rfl) (fun _ _ _ h => h) (Or.inl ⟨by rfl, ?_⟩) hHeld ?_
                     rotate_left
                     · intro w_ hSw
                       (try dsimp only at hSw)
                       first
                         | (go_simp; done)
                         | (go_simp; with_reducible rfl))
                  | (refine wpAnyH_take (i := 4) (v := undef) (by simp only [List.getElem?_toArray, List.getElem?_cons_succ, List.getElem?_cons_zero]; rfl) (by kernel_rfl) (by kernel_rfl) (by kernel_rfl) (fun _ _ _ h => h) (Or.inr ⟨by rfl, rfl⟩) hHeld ?_)
                try simp only [Act.put, List.setIfInBounds_toArray, List.set_cons_zero, List.set_cons_succ]
                first
                  | (refine wpAnyH_take (i := 5) (v := ?_) (by simp only [List.getElem?_toArray, List.getElem?_cons_succ, List.getElem?_cons_zero]; rfl) (by kernel_rfl) (by kernel_rfl) (by kernel_rfl) (fun _ _ _ h => h) (Or.inl ⟨by rfl, ?_⟩) hHeld ?_
                     rotate_left
                     · intro w_ hSw
                       (try dsimp only at hSw)
                       first
                         | (go_simp; done)
                         | (go_simp; with_reducible rfl))
                  | (refine wpAnyH_take (i := 5) (v := undef) (by simp only [List.getElem?_toArray, List.getElem?_cons_succ, List.getElem?_cons_zero]; rfl) (by kernel_rfl) (by kernel_rfl) (by kernel_rfl) (fun _ _ _ h => h) (Or.inr ⟨by rfl, rfl⟩) hHeld ?_)
                try simp only [Act.put, List.setIfInBounds_toArray, List.set_cons_zero, List.set_cons_succ]
                first
                  | (refine wpAnyH_take (i := 6) (v := ?_) (by simp only [List.getElem?_toArray, List.getElem?_cons_succ, List.getElem?_cons_zero]; rfl) (by kernel_rfl) (by kernel_rfl) (by kernel_rfl) (fun _ _ _ h => h) (Or.inl ⟨by rfl, ?_⟩) hHeld ?_
                     rotate_left
                     · intro w_ hSw
                       (try dsimp only at hSw)
                       first
                         | (go_simp; done)
                         | (go_simp; with_reducible rfl))
                  | (refine wpAnyH_take (i := 6) (v := undef) (by simp only [List.getElem?_toArray, List.getElem?_cons_succ, List.getElem?_cons_zero]; rfl) (by kernel_rfl) (by kernel_rfl) (by kernel_rfl) (fun _ _ _ h => h) (Or.inr ⟨by rfl, rfl⟩) hHeld ?_)
                try simp only [Act.put, List.setIfInBounds_toArray, List.set_cons_zero, List.set_cons_succ]
                first
                  | (refine wpAnyH_take (i := 7) (v := ?_) (by simp only [List.getElem?_toArray, List.getElem?_cons_succ, List.getElem?_cons_zero]; rfl) (by kernel_rfl) (by kernel_rfl) (by kernel_rfl) (fun _ _ _ h => h) (Or.inl ⟨by rfl, ?_⟩) hHeld ?_
                     rotate_left
                     · intro w_ hSw
                       (try dsimp only at hSw)
                       first
                         | (go_simp; done)
                         | (go_simp; with_reducible rfl))
                  | (refine wpAnyH_take (i := 7) (v := undef) (by simp only [List.getElem?_toArray, List.getElem?_cons_succ, List.getElem?_cons_zero]; rfl) (by kernel_rfl) (by kernel_rfl) (by kernel_rfl) (fun _ _ _ h => h) (Or.inr ⟨by rfl, rfl⟩) hHeld ?_)
                try simp only [Act.put, List.setIfInBounds_toArray, List.set_cons_zero, List.set_cons_succ]
                first
                  | (refine wpAnyH_take (i := 8) (v := ?_) (by simp only [List.getElem?_toArray, List.getElem?_cons_succ, List.getElem?_cons_zero]; rfl) (by kernel_rfl) (by kernel_rfl) (by kernel_rfl) (fun _ _ _ h => h) (Or.inl ⟨by rfl, ?_⟩) hHeld ?_
                     rotate_left
                     · intro w_ hSw
                       (try dsimp only at hSw)
                       first
                         | (go_simp; done)
                         | (go_simp; with_reducible rfl))
                  | (refine wpAnyH_take (i := 8) (v := undef) (by simp only [List.getElem?_toArray, List.getElem?_cons_succ, List.getElem?_cons_zero]; rfl) (by kernel_rfl) (by kernel_rfl) (by kernel_rfl) (fun _ _ _ h => h) (Or.inr ⟨by rfl, rfl⟩) hHeld ?_)
                try simp only [Act.put, List.setIfInBounds_toArray, List.set_cons_zero, List.set_cons_succ]
                first
                  | (refine wpAnyH_take (i := 9) (v := ?_) (by simp only [List.getElem?_toArray, List.getElem?_cons_succ, List.getElem?_cons_zero]; rfl) (by kernel_rfl) (by kernel_rfl) (by kernel_rfl) (fun _ _ _ h => h) (Or.inl ⟨by rfl, ?_⟩) hHeld ?_
                     rotate_left
                     · intro w_ hSw
                       (try dsimp only at hSw)
                       first
                         | (go_simp; done)
                         | (go_simp; with_reducible rfl))
                  | (refine wpAnyH_take (i := 9) (v := undef) (by simp only [List.getElem?_toArray, List.getElem?_cons_succ, List.getElem?_cons_zero]; rfl) (by kernel_rfl) (by kernel_rfl) (by kernel_rfl) (fun _ _ _ h => h) (Or.inr ⟨by rfl, rfl⟩) hHeld ?_)
                try simp only [Act.put, List.setIfInBounds_toArray, List.set_cons_zero, List.set_cons_succ]
                first
                  | (refine wpAnyH_take (i := 10) (v := ?_) (by simp only [List.getElem?_toArray, List.getElem?_cons_succ, List.getElem?_cons_zero]; rfl) (by kernel_rfl) (by kernel_rfl) (by kernel_rfl) (fun _ _ _ h => h) (Or.inl ⟨by rfl, ?_⟩) hHeld ?_
                     rotate_left
                     · intro w_ hSw
                       (try dsimp only at hSw)
                       first
                         | (go_simp; done)
                         | (go_simp; with_reducible rfl))
                  | (refine wpAnyH_take (i := 10) (v := undef) (by simp only [List.getElem?_toArray, List.getElem?_cons_succ, List.getElem?_cons_zero]; rfl) (by kernel_rfl) (by kernel_rfl) (by kernel_rfl) (fun _ _ _ h => h) (Or.inr ⟨by rfl, rfl⟩) hHeld ?_)
                try simp only [Act.put, List.setIfInBounds_toArray, List.set_cons_zero, List.set_cons_succ]
                first
                  | (refine wpAnyH_take (i := 11) (v := ?_) (by simp only [List.getElem?_toArray, List.getElem?_cons_succ, List.getElem?_cons_zero]; rfl) (by kernel_rfl) (by kernel_rfl) (by kernel_rfl) (fun _ _ _ h => h) (Or.inl ⟨by rfl, ?_⟩) hHeld ?_
                     rotate_left
                     · intro w_ hSw
                       (try dsimp only at hSw)
                       first
                         | (go_simp; done)
                         | (go_simp; with_reducible rfl))
                  | (refine wpAnyH_take (i := 11) (v := undef) (by simp only [List.getElem?_toArray, List.getElem?_cons_succ, List.getElem?_cons_zero]; rfl) (by kernel_rfl) (by kernel_rfl) (by kernel_rfl) (fun _ _ _ h => h) (Or.inr ⟨by rfl, rfl⟩) hHeld ?_)
                try simp only [Act.put, List.setIfInBounds_toArray, List.set_cons_zero, List.set_cons_succ]
                first
                  | (refine wpAnyH_take (i := 12) (v := ?_) (by simp only [List.getElem?_toArray, List.getElem?_cons_succ, List.getElem?_cons_zero]; rfl) (by kernel_rfl) (by kernel_rfl) (by kernel_rfl) (fun _ _ _ h => h) (Or.inl ⟨by rfl, ?_⟩) hHeld ?_
                     rotate_left
                     · intro w_ hSw
                       (try dsimp only at hSw)
                       first
                         | (go_simp; done)
                         | (go_simp; with_reducible rfl))
                  | (refine wpAnyH_take (i := 12) (v := undef) (by simp only [List.getElem?_toArray, List.getElem?_cons_succ, List.getElem?_cons_zero]; rfl) (by kernel_rfl) (by kernel_rfl) (by kernel_rfl) (fun _ _ _ h => h) (Or.inr ⟨by rfl, rfl⟩) hHeld ?_)
                try simp only [Act.put, List.setIfInBounds_toArray, List.set_cons_zero, List.set_cons_succ]
                first
                  | (refine wpAnyH_take (i := 13) (v := ?_) (by simp only [List.getElem?_toArray, List.getElem?_cons_succ, List.getElem?_cons_zero]; rfl) (by kernel_rfl) (by kernel_rfl) (by kernel_rfl) (fun _ _ _ h => h) (Or.inl ⟨by rfl, ?_⟩) hHeld ?_
                     rotate_left
                     · intro w_ hSw
                       (try dsimp only at hSw)
                       first
                         | (go_simp; done)
                         | (go_simp; with_reducible rfl))
                  | (refine wpAnyH_take (i := 13) (v := undef) (by simp only [List.getElem?_toArray, List.getElem?_cons_succ, List.getElem?_cons_zero]; rfl) (by kernel_rfl) (by kernel_rfl) (by kernel_rfl) (fun _ _ _ h => h) (Or.inr ⟨by rfl, rfl⟩) hHeld ?_)
                try simp only [Act.put, List.setIfInBounds_toArray, List.set_cons_zero, List.set_cons_succ]
                first
                  | (refine wpAnyH_take (i := 14) (v := ?_) (by simp only [List.getElem?_toArray, List.getElem?_cons_succ, List.getElem?_cons_zero]; rfl) (by kernel_rfl) (by kernel_rfl) (by kernel_rfl) (fun _ _ _ h => h) (Or.inl ⟨by rfl, ?_⟩) hHeld ?_
                     rotate_left
                     · intro w_ hSw
                       (try dsimp only at hSw)
                       first
                         | (go_simp; done)
                         | (go_simp; with_reducible rfl))
                  | (refine wpAnyH_take (i := 14) (v := undef) (by simp only [List.getElem?_toArray, List.getElem?_cons_succ, List.getElem?_cons_zero]; rfl) (by kernel_rfl) (by kernel_rfl) (by kernel_rfl) (fun _ _ _ h => h) (Or.inr ⟨by rfl, rfl⟩) hHeld ?_)
                try simp only [Act.put, List.setIfInBounds_toArray, List.set_cons_zero, List.set_cons_succ]
                first
                  | (refine wpAnyH_take (i := 15) (v := ?_) (by simp only [List.getElem?_toArray, List.getElem?_cons_succ, List.getElem?_cons_zero]; rfl) (by kernel_rfl) (by kernel_rfl) (by kernel_rfl) (fun _ _ _ h => h) (Or.inl ⟨by rfl, ?_⟩) hHeld ?_
                     rotate_left
                     · intro w_ hSw
                       (try dsimp only at hSw)
                       first
                         | (go_simp; done)
                         | (go_simp; with_reducible rfl))
                  | (refine wpAnyH_take (i := 15) (v := undef) (by simp only [List.getElem?_toArray, List.getElem?_cons_succ, List.getElem?_cons_zero]; rfl) (by kernel_rfl) (by kernel_rfl) (by kernel_rfl) (fun _ _ _ h => h) (Or.inr ⟨by rfl, rfl⟩) hHeld ?_)
                try simp only [Act.put, List.setIfInBounds_toArray, List.set_cons_zero, List.set_cons_succ]
                first
                  | (refine wpAnyH_take (i := 16) (v := ?_) (by simp only [List.getElem?_toArray, List.getElem?_cons_succ, List.getElem?_cons_zero]; rfl) (by kernel_rfl) (by kernel_rfl) (by kernel_rfl) (fun _ _ _ h => h) (Or.inl ⟨by rfl, ?_⟩) hHeld ?_
                     rotate_left
                     · intro w_ hSw
                       (try dsimp only at hSw)
                       first
                         | (go_simp; done)
                         | (go_simp; with_reducible rfl))
                  | (refine wpAnyH_take (i := 16) (v := undef) (by simp only [List.getElem?_toArray, List.getElem?_cons_succ, List.getElem?_cons_zero]; rfl) (by kernel_rfl) (by kernel_rfl) (by kernel_rfl) (fun _ _ _ h => h) (Or.inr ⟨by rfl, rfl⟩) hHeld ?_)
                try simp only [Act.put, List.setIfInBounds_toArray, List.set_cons_zero, List.set_cons_succ]
                first
                  | (refine wpAnyH_take (i := 17) (v := ?_) (by simp only [List.getElem?_toArray, List.getElem?_cons_succ, List.getElem?_cons_zero]; rfl) (by kernel_rfl) (by kernel_rfl) (by kernel_rfl) (fun _ _ _ h => h) (Or.inl ⟨by rfl, ?_⟩) hHeld ?_
                     rotate_left
                     · intro w_ hSw
                       (try dsimp only at hSw)
                       first
                         | (go_simp; done)
                         | (go_simp; with_reducible rfl))
                  | (refine wpAnyH_take (i := 17) (v := undef) (by simp only [List.getElem?_toArray, List.getElem?_cons_succ, List.getElem?_cons_zero]; rfl) (by kernel_rfl) (by kernel_rfl) (by kernel_rfl) (fun _ _ _ h => h) (Or.inr ⟨by rfl, rfl⟩) hHeld ?_)
                try simp only [Act.put, List.setIfInBounds_toArray, List.set_cons_zero, List.set_cons_succ]
                first
                  | (refine wpAnyH_take (i := 18) (v := ?_) (by simp only [List.getElem?_toArray, List.getElem?_cons_succ, List.getElem?_cons_zero]; rfl) (by kernel_rfl) (by kernel_rfl) (by kernel_rfl) (fun _ _ _ h => h) (Or.inl ⟨by rfl, ?_⟩) hHeld ?_
                     rotate_left
                     · intro w_ hSw
                       (try dsimp only at hSw)
                       first
                         | (go_simp; done)
                         | (go_simp; with_reducible rfl))
                  | (refine wpAnyH_take (i := 18) (v := undef) (by simp only [List.getElem?_toArray, List.getElem?_cons_succ, List.getElem?_cons_zero]; rfl) (by kernel_rfl) (by kernel_rfl) (by kernel_rfl) (fun _ _ _ h => h) (Or.inr ⟨by rfl, rfl⟩) hHeld ?_)
                try simp only [Act.put, List.setIfInBounds_toArray, List.set_cons_zero, List.set_cons_succ]
                first
                  | (refine wpAnyH_take (i := 19) (v := ?_) (by simp only [List.getElem?_toArray, List.getElem?_cons_succ, List.getElem?_cons_zero]; rfl) (by kernel_rfl) (by kernel_rfl) (by kernel_rfl) (fun _ _ _ h => h) (Or.inl ⟨by rfl, ?_⟩) hHeld ?_
                     rotate_left
                     · intro w_ hSw
                       (try dsimp only at hSw)
                       first
                         | (go_simp; done)
                         | (go_simp; with_reducible rfl))
                  | (refine wpAnyH_take (i := 19) (v := undef) (by simp only [List.getElem?_toArray, List.getElem?_cons_succ, List.getElem?_cons_zero]; rfl) (by kernel_rfl) (by kernel_rfl) (by kernel_rfl) (fun _ _ _ h => h) (Or.inr ⟨by rfl, rfl⟩) hHeld ?_)
                try simp only [Act.put, List.setIfInBounds_toArray, List.set_cons_zero, List.set_cons_succ]
                first
                  | (refine wpAnyH_take (i := 20) (v := ?_) (by simp only [List.getElem?_toArray, List.getElem?_cons_succ, List.getElem?_cons_zero]; rfl) (by kernel_rfl) (by kernel_rfl) (by kernel_rfl) (fun _ _ _ h => h) (Or.inl ⟨by rfl, ?_⟩) hHeld ?_
                     rotate_left
                     · intro w_ hSw
                       (try dsimp only at hSw)
                       first
                         | (go_simp; done)
                         | (go_simp; with_reducible rfl))
                  | (refine wpAnyH_take (i := 20) (v := undef) (by simp only [List.getElem?_toArray, List.getElem?_cons_succ, List.getElem?_cons_zero]; rfl) (by kernel_rfl) (by kernel_rfl) (by kernel_rfl) (fun _ _ _ h => h) (Or.inr ⟨by rfl, rfl⟩) hHeld ?_)
                try simp only [Act.put, List.setIfInBounds_toArray, List.set_cons_zero, List.set_cons_succ]
                refine wpAnyH_ready (rs := [21]) (by kernel_rfl) (by simp) ?_
                refine AllReadyH.cons (by simp only [List.getElem?_toArray, List.getElem?_cons_succ, List.getElem?_cons_zero]; rfl) (fun K hK => ?_) AllReadyH.nil
                go_simp
                go_at_call 16
                have hb4 := hHeld.2.2.2.2
                refine (iBelowOk_any _ _ w.heap.size w1.heap.size T (a : Int) (b : Int) _ (M4.out.below (B := w4.heap.size) hb4 hsz) (Nat.le_trans hsz hb4.size) hS).mono ?_
                rw [HX.out]
                rintro e wj ⟨rfl, hbj⟩
                refine hK.out _ _ ?_ (fun hHeld => ?_)
                · exact MK.out _ (hb4.trans (hbj.mono hb4.size))
                clear hK K
                try simp only [Act.put, List.setIfInBounds_toArray, List.set_cons_zero, List.set_cons_succ]
                first
                  | (refine wpAnyH_take (i := 22) (v := ?_) (by simp only [List.getElem?_toArray, List.getElem?_cons_succ, List.getElem?_cons_zero]; rfl) (by kernel_rfl) (by kernel_rfl) (by kernel_rfl) (fun _ _ _ h => h) (Or.inl ⟨by rfl, ?_⟩) hHeld ?_
                     rotate_left
                     · intro w_ hSw
                       (try dsimp only at hSw)
                       first
                         | (go_simp; done)
                         | (go_simp; with_reducible rfl))
                  | (refine wpAnyH_take (i := 22) (v := undef) (by simp only [List.getElem?_toArray, List.getElem?_cons_succ, List.getElem?_cons_zero]; rfl) (by kernel_rfl) (by kernel_rfl) (by kernel_rfl) (fun _ _ _ h => h) (Or.inr ⟨by rfl, rfl⟩) hHeld ?_)
                try simp only [Act.put, List.setIfInBounds_toArray, List.set_cons_zero, List.set_cons_succ]
                first
                  | (refine wpAnyH_take (i := 23) (v := ?_) (by simp only [List.getElem?_toArray, List.getElem?_cons_succ, List.getElem?_cons_zero]; rfl) (by kernel_rfl) (by kernel_rfl) (by kernel_rfl) (fun _ _ _ h => h) (Or.inl ⟨by rfl, ?_⟩) hHeld ?_
                     rotate_left
                     · intro w_ hSw
                       (try dsimp only at hSw)
                       first
                         | (go_simp; done)
                         | (go_simp; with_reducible rfl))
                  | (refine wpAnyH_take (i := 23) (v := undef) (by simp only [List.getElem?_toArray, List.getElem?_cons_succ, List.getElem?_cons_zero]; rfl) (by kernel_rfl) (by kernel_rfl) (by kernel_rfl) (fun _ _ _ h => h) (Or.inr ⟨by rfl, rfl⟩) hHeld ?_)
                try simp only [Act.put, List.setIfInBounds_toArray, List.set_cons_zero, List.set_cons_succ]
                first
                  | (refine wpAnyH_take (i := 24) (v := ?_) (by simp only [List.getElem?_toArray, List.getElem?_cons_succ, List.getElem?_cons_zero]; rfl) (by kernel_rfl) (by kernel_rfl) (by kernel_rfl) (fun _ _ _ h => h) (Or.inl ⟨by rfl, ?_⟩) hHeld ?_
                     rotate_left
                     · intro w_ hSw
                       (try dsimp only at hSw)
                       first
                         | (go_simp; done)
                         | (go_simp; with_reducible rfl))
                  | (refine wpAnyH_take (i := 24) (v := undef) (by simp only [List.getElem?_toArray, List.getElem?_cons_succ, List.getElem?_cons_zero]; rfl) (by kernel_rfl) (by kernel_rfl) (by kernel_rfl) (fun _ _ _ h => h) (Or.inr ⟨by rfl, rfl⟩) hHeld ?_)
                try simp only [Act.put, List.setIfInBounds_toArray, List.set_cons_zero, List.set_cons_succ]
                first
                  | (refine wpAnyH_take (i := 25) (v := ?_) (by simp only [List.getElem?_toArray, List.getElem?_cons_succ, List.getElem?_cons_zero]; rfl) (by kernel_rfl) (by kernel_rfl) (by kernel_rfl) (fun _ _ _ h => h) (Or.inl ⟨by rfl, ?_⟩) hHeld ?_
                     rotate_left
                     · intro w_ hSw
                       (try dsimp only at hSw)
                       first
                         | (go_simp; done)
                         | (go_simp; with_reducible rfl))
                  | (refine wpAnyH_take (i := 25) (v := undef) (by simp only [List.getElem?_toArray, List.getElem?_cons_succ, List.getElem?_cons_zero]; rfl) (by kernel_rfl) (by kernel_rfl) (by kernel_rfl) (fun _ _ _ h => h) (Or.inr ⟨by rfl, rfl⟩) hHeld ?_)
                try simp only [Act.put, List.setIfInBounds_toArray, List.set_cons_zero, List.set_cons_succ]
                first
                  | (refine wpAnyH_take (i := 26) (v := ?_) (by simp only [List.getElem?_toArray, List.getElem?_cons_succ, List.getElem?_cons_zero]; rfl) (by kernel_rfl) (by kernel_rfl) (by kernel_rfl) (fun _ _ _ h => h) (Or.inl ⟨by rfl, ?_⟩) hHeld ?_
                     rotate_left
                     · intro w_ hSw
                       (try dsimp only at hSw)
                       first
                         | (go_simp; done)
                         | (go_simp; with_reducible rfl))
                  | (refine wpAnyH_take (i := 26) (v := undef) (by simp only [List.getElem?_toArray, List.getElem?_cons_succ, List.getElem?_cons_zero]; rfl) (by kernel_rfl) (by kernel_rfl) (by kernel_rfl) (fun _ _ _ h => h) (Or.inr ⟨by rfl, rfl⟩) hHeld ?_)
                try simp only [Act.put, List.setIfInBounds_toArray, List.set_cons_zero, List.set_cons_succ]
                first
                  | (refine wpAnyH_take (i := 27) (v := ?_) (by simp only [List.getElem?_toArray, List.getElem?_cons_succ, List.getElem?_cons_zero]; rfl) (by kernel_rfl) (by kernel_rfl) (by kernel_rfl) (fun _ _ _ h => h) (Or.inl ⟨by rfl, ?_⟩) hHeld ?_
                     rotate_left
                     · intro w_ hSw
                       (try dsimp only at hSw)
                       first
                         | (go_simp; done)
                         | (go_simp; with_reducible rfl))
                  | (refine wpAnyH_take (i := 27) (v := undef) (by simp only [List.getElem?_toArray, List.getElem?_cons_succ, List.getElem?_cons_zero]; rfl) (by kernel_rfl) (by kernel_rfl) (by kernel_rfl) (fun _ _ _ h => h) (Or.inr ⟨by rfl, rfl⟩) hHeld ?_)
                try simp only [Act.put, List.setIfInBounds_toArray, List.set_cons_zero, List.set_cons_succ]
                first
                  | (refine wpAnyH_take (i := 28) (v := ?_) (by simp only [List.getElem?_toArray, List.getElem?_cons_succ, List.getElem?_cons_zero]; rfl) (by kernel_rfl) (by kernel_rfl) (by kernel_rfl) (fun _ _ _ h => h) (Or.inl ⟨by rfl, ?_⟩) hHeld ?_
                     rotate_left
                     · intro w_ hSw
                       (try dsimp only at hSw)
                       first
                         | (go_simp; done)
                         | (go_simp; with_reducible rfl))
                  | (refine wpAnyH_take (i := 28) (v := undef) (by simp only [List.getElem?_toArray, List.getElem?_cons_succ, List.getElem?_cons_zero]; rfl) (by kernel_rfl) (by kernel_rfl) (by kernel_rfl) (fun _ _ _ h => h) (Or.inr ⟨by rfl, rfl⟩) hHeld ?_)
                try simp only [Act.put, List.setIfInBounds_toArray, List.set_cons_zero, List.set_cons_succ]
                first
                  | (refine wpAnyH_take (i := 29) (v := ?_) (by simp only [List.getElem?_toArray, List.getElem?_cons_succ, List.getElem?_cons_zero]; rfl) (by kernel_rfl) (by kernel_rfl) (by kernel_rfl) (fun _ _ _ h => h) (Or.inl ⟨by rfl, ?_⟩) hHeld ?_
                     rotate_left
                     · intro w_ hSw
                       (try dsimp only at hSw)
                       first
                         | (go_simp; done)
                         | (go_simp; with_reducible rfl))
                  | (refine wpAnyH_take (i := 29) (v := undef) (by simp only [List.getElem?_toArray, List.getElem?_cons_succ, List.getElem?_cons_zero]; rfl) (by kernel_rfl) (by kernel_rfl) (by kernel_rfl) (fun _ _ _ h => h) (Or.inr ⟨by rfl, rfl⟩) hHeld ?_)
                try simp only [Act.put, List.setIfInBounds_toArray, List.set_cons_zero, List.set_cons_succ]
                first
                  | (refine wpAnyH_take (i := 30) (v := ?_) (by simp only [List.getElem?_toArray, List.getElem?_cons_succ, List.getElem?_cons_zero]; rfl) (by kernel_rfl) (by kernel_rfl) (by kernel_rfl) (fun _ _ _ h => h) (Or.inl ⟨by rfl, ?_⟩) hHeld ?_
                     rotate_left
                     · intro w_ hSw
                       (try dsimp only at hSw)
                       first
                         | (go_simp; done)
                         | (go_simp; with_reducible rfl))
                  | (refine wpAnyH_take (i := 30) (v := undef) (by simp only [List.getElem?_toArray, List.getElem?_cons_succ, List.getElem?_cons_zero]; rfl) (by kernel_rfl) (by kernel_rfl) (by kernel_rfl) (fun _ _ _ h => h) (Or.inr ⟨by rfl, rfl⟩) hHeld ?_)
                try simp only [Act.put, List.setIfInBounds_toArray, List.set_cons_zero, List.set_cons_succ]
                refine wpAnyH_ready (rs := [31]) (by kernel_rfl) (by simp) ?_
                refine AllReadyH.cons (by simp only [List.getElem?_toArray, List.getElem?_cons_succ, List.getElem?_cons_zero]; rfl) (fun K hK => ?_) AllReadyH.nil
                go_simp
                go_at_call 21
                have hb4 := hHeld.2.2.2.2
                refine (iWeakBelow_any _ _ w.heap.size w1.heap.size T (a : Int) (a : Int) _ (M4.out.below (B := w4.heap.size) hb4 hsz) (Nat.le_trans hsz hb4.size) hS).mono ?_
                rw [HA.out]
                rintro e wk ⟨rfl, hbk⟩
                refine hK.out _ _ ?_ (fun hHeld => ?_)
                · exact MK.out _ (hb4.trans (hbk.mono hb4.size))
                clear hK K
                try simp only [Act.put, List.setIfInBounds_toArray, List.set_cons_zero, List.set_cons_succ]
                first
                  | (refine wpAnyH_take (i := 32) (v := ?_) (by simp only [List.getElem?_toArray, List.getElem?_cons_succ, List.getElem?_cons_zero]; rfl) (by kernel_rfl) (by kernel_rfl) (by kernel_rfl) (fun _ _ _ h => h) (Or.inl ⟨by rfl, ?_⟩) hHeld ?_
                     rotate_left
                     · intro w_ hSw
                       (try dsimp only at hSw)
                       first
                         | (go_simp; done)
                         | (go_simp; with_reducible rfl))
                  | (refine wpAnyH_take (i := 32) (v := undef) (by simp only [List.getElem?_toArray, List.getElem?_cons_succ, List.getElem?_cons_zero]; rfl) (by kernel_rfl) (by kernel_rfl) (by kernel_rfl) (fun _ _ _ h => h) (Or.inr ⟨by rfl, rfl⟩) hHeld ?_)
                try simp only [Act.put, List.setIfInBounds_toArray, List.set_cons_zero, List.set_cons_succ]
                first
                  | (refine wpAnyH_take (i := 33) (v := ?_) (by simp only [List.getElem?_toArray, List.getElem?_cons_succ, List.getElem?_cons_zero]; rfl) (by kernel_rfl) (by kernel_rfl) (by kernel_rfl) (fun _ _ _ h => h) (Or.inl ⟨by rfl, ?_⟩) hHeld ?_
                     rotate_left
                     · intro w_ hSw
                       (try dsimp only at hSw)
                       first
                         | (go_simp; done)
                         | (go_simp; with_reducible rfl))
                  | (refine wpAnyH_take (i := 33) (v := undef) (by simp only [List.getElem?_toArray, List.getElem?_cons_succ, List.getElem?_cons_zero]; rfl) (by kernel_rfl) (by kernel_rfl) (by kernel_rfl) (fun _ _ _ h => h) (Or.inr ⟨by rfl, rfl⟩) hHeld ?_)
                try simp only [Act.put, List.setIfInBounds_toArray, List.set_cons_zero, List.set_cons_succ]
                refine wpAnyH_done (by kernel_rfl) (NoPanic.normal ?_) _
                go_wp2
                go_ret
                exact ⟨rfl, B4.trans (hHeld.2.2.2.2.mono B4.size)⟩
              · have HE := hide (HE0.out.trans hc)
                cases hbl : blw T a b
                all_goals
                  have HX := hide (HB.out.trans hbl)
                  clear hbl
                  go_wp2_with fail
                  refine (iWeakBelow_any _ _ _ _ _ _ _ _ m1 (by omega) hS).mono ?_
                  rw [HE.out]
                  rintro e w2 ⟨rfl, b2⟩
                  have B2 := B1.trans (b2.mono B1.size)
                  have m2 := m1.below b2 (by omega)
                  have z2 := b2.size
                  go_wp2_with fail
                  refine (sWeakBelow_any _ _ _ _ _ _ _ _ m2 hS).mono ?_
                  rw [HE.out]
                  rintro e w3 ⟨rfl, q3⟩
                  have B3 := B2.trans (q3.below w.heap.size)
                  have m3 := m2.quiet q3
                  have z3 := q3.below 0 |>.size
                  go_wp2_with fail
                  refine (sLevelsOf_any _ _ _ _ _ _ m3 (by omega) hS).mono ?_
                  rintro e w4 ⟨A4, c4, rfl, b4, l4, _, _⟩
                  have B4 := B3.trans (b4.mono B3.size)
                  have m4 := m3.below b4 (by omega)
                  have z4 := b4.size
                  rw [hl]
                  have hz : ((T.length : Int) == 0) = false := beq_eq_false_iff_ne.2 (by omega)
                  obtain ⟨bL, oL, rfl, _, hbL, _⟩ := l4 0 (by rw [hl]; omega)
                  have hL : ∀ x, x < T.length → w4.cell? ⟨bL, oL + x, none⟩ = some (.int .i64 (num (inLev T) x : Nat)) := fun x hx => by
                    obtain ⟨b', o', e', _, _, hc⟩ := l4 x (by rw [hl]; exact hx)
                    obtain ⟨rfl, rfl⟩ : bL = b' ∧ oL = o' := by simpa using e'
                    rw [hc, HLE.out x hx]
                  obtain ⟨bb, oo, rfl, _, hbb, hcell⟩ := m4.head k
                  obtain ⟨bx1, ox1, cx1, hcx1, _, hbx1, v1⟩ := hcell (a : Nat) (by omega) (by omega)
                  have v1 := v1 (b : Nat) (by omega) (by omega)
                  rw [hp] at v1
                  rw [Int.toNat_natCast] at hcx1 v1
                  have g1 := hL p p1
                  have g2 := hL a ha
                  have MK := hide (fun (W : World) (hW : Below w4.heap.size w4 W) => (⟨(hW.cell (p := ⟨bb, oo + a, none⟩) (by show bb < _; omega)).trans hcx1, (hW.cell (p := ⟨bx1, ox1 + b, none⟩) (by show bx1 < _; omega)).trans v1, (hW.cell (p := ⟨bL, oL + p, none⟩) (by show bL < _; omega)).trans g1, (hW.cell (p := ⟨bL, oL + a, none⟩) (by show bL < _; omega)).trans g2, hW⟩ :
                    W.cell? ⟨bb, oo + a, none⟩ = some (.slice (some ⟨bx1, ox1, none⟩) T.length cx1) ∧ W.cell? ⟨bx1, ox1 + b, none⟩ = some (.int .i64 (p : Nat)) ∧ W.cell? ⟨bL, oL + p, none⟩ = some (.int .i64 (num (inLev T) p : Nat)) ∧ W.cell? ⟨bL, oL + a, none⟩ = some (.int .i64 (num (inLev T) a : Nat)) ∧ Below w4.heap.size w4 W))
                  clear hL l4 HLE hcell hcx1 v1 g1 g2
                  have M4 := hide m4
                  have hsz : w1.heap.size ≤ w4.heap.size := by omega
                  clear m4 m1 m2 m3
                  go_wp2_with fail
                  refine wp_region_noPanic ?_
                  refine wp_region_held_drew (S := (fun W => W.cell? ⟨bb, oo + a, none⟩ = some (.slice (some ⟨bx1, ox1, none⟩) T.length cx1) ∧ W.cell? ⟨bx1, ox1 + b, none⟩ = some (.int .i64 (p : Nat)) ∧ W.cell? ⟨bL, oL + p, none⟩ = some (.int .i64 (num (inLev T) p : Nat)) ∧ W.cell? ⟨bL, oL + a, none⟩ = some (.int .i64 (num (inLev T) a : Nat)) ∧ Below w4.heap.size w4 W)) (by kernel_rfl) ?_ (fun hHeld => ?_)
                  · exact MK.out _ (Below.refl _ _).drew
                  first
                    | (refine wpAnyH_take (i := 0) (v := ?_) (by simp only [List.getElem?_toArray, List.getElem?_cons_zero]; rfl) (by kernel_rfl) (by kernel_rfl) (by kernel_rfl) (fun _ _ _ h => h) (Or.inl ⟨by rfl, ?_⟩) hHeld ?_
                       rotate_left
                       · intro w_ hSw
                         (try dsimp only at hSw)
                         first
                           | (go_simp; done)
                           | (go_simp; with_reducible rfl))
                    | (refine wpAnyH_take (i := 0) (v := undef) (by simp only [List.getElem?_toArray, List.getElem?_cons_zero]; rfl) (by kernel_rfl) (by kernel_rfl) (by kernel_rfl) (fun _ _ _ h => h) (Or.inr ⟨by rfl, rfl⟩) hHeld ?_)
                  try simp only [Act.put, List.setIfInBounds_toArray, List.set_cons_zero, List.set_cons_succ]
                  first
                    | (refine wpAnyH_take (i := 1) (v := ?_) (by simp only [List.getElem?_toArray, List.getElem?_cons_succ, List.getElem?_cons_zero]; rfl) (by kernel_rfl) (by kernel_rfl) (by kernel_rfl) (fun _ _ _ h => h) (Or.inl ⟨by rfl, ?_⟩) hHeld ?_
                       rotate_left
                       · intro w_ hSw
                         (try dsimp only at hSw)
                         first
                           | (go_simp; done)
                           | (go_simp; with_reducible rfl))
                    | (refine wpAnyH_take (i := 1) (v := undef) (by simp only [List.getElem?_toArray, List.getElem?_cons_succ, List.getElem?_cons_zero]; rfl) (by kernel_rfl) (by kernel_rfl) (by kernel_rfl) (fun _ _ _ h => h) (Or.inr ⟨by rfl, rfl⟩) hHeld ?_)
                  try simp only [Act.put, List.setIfInBounds_toArray, List.set_cons_zero, List.set_cons_succ]
                  first
                    | (refine wpAnyH_take (i := 2) (v := ?_) (by simp only [List.getElem?_toArray, List.getElem?_cons_succ, List.getElem?_cons_zero]; rfl) (by kernel_rfl) (by kernel_rfl) (by kernel_rfl) (fun _ _ _ h => h) (Or.inl ⟨by rfl, ?_⟩) hHeld ?_
                       rotate_left
                       · intro w_ hSw
                         (try dsimp only at hSw)
                         first
                           | (go_simp; done)
                           | (go_simp; with_reducible rfl))
                    | (refine wpAnyH_take (i := 2) (v := undef) (by simp only [List.getElem?_toArray, List.getElem?_cons_succ, List.getElem?_cons_zero]; rfl) (by kernel_rfl) (by kernel_rfl) (by kernel_rfl) (fun _ _ _ h => h) (Or.inr ⟨by rfl, rfl⟩) hHeld ?_)
                  try simp only [Act.put, List.setIfInBounds_toArray, List.set_cons_zero, List.set_cons_succ]
                  first
                    | (refine wpAnyH_take (i := 3) (v := ?_) (by simp only [List.getElem?_toArray, List.getElem?_cons_succ, List.getElem?_cons_zero]; rfl) (by kernel_rfl) (by kernel_rfl) (by kernel_rfl) (fun _ _ _ h => h) (Or.inl ⟨by rfl, ?_⟩) hHeld ?_
                       rotate_left
                       · intro w_ hSw
                         (try dsimp only at hSw)
                         first
                           | (go_simp; done)
                           | (go_simp; with_reducible rfl))
                    | (refine wpAnyH_take (i := 3) (v := undef) (by simp only [List.getElem?_toArray, List.getElem?_cons_succ, List.getElem?_cons_zero]; rfl) (by kernel_rfl) (by kernel_rfl) (by kernel_rfl) (fun _ _ _ h => h) (Or.inr ⟨by rfl, rfl⟩) hHeld ?_)
                  try simp only [Act.put, List.setIfInBounds_toArray, List.set_cons_zero, List.set_cons_succ]
                  first
                    | (refine wpAnyH_take (i := 4) (v := ?_) (by simp only [List.getElem?_toArray, List.getElem?_cons_succ, List.getElem?_cons_zero]; rfl) (by kernel_rfl) (by kernel_rfl) (by kernel_rfl) (fun _ _ _ h => h) (Or.inl ⟨by rfl, ?_⟩) hHeld ?_
                       rotate_left
                       · intro w_ hSw
                         (try dsimp only at hSw)
                         first
                           | (go_simp; done)
                           | (go_simp; with_reducible rfl))
                    | (refine wpAnyH_take (i := 4) (v := undef) (by simp only [List.getElem?_toArray, List.getElem?_cons_succ, List.getElem?_cons_zero]; rfl) (by kernel_rfl) (by kernel_rfl) (by kernel_rfl) (fun _ _ _ h => h) (Or.inr ⟨by rfl, rfl⟩) hHeld ?_)
                  try simp only [Act.put, List.setIfInBounds_toArray, List.set_cons_zero, List.set_cons_succ]
                  first
                    | (refine wpAnyH_take (i := 5) (v := ?_) (by simp only [List.getElem?_toArray, List.getElem?_cons_succ, List.getElem?_cons_zero]; rfl) (by kernel_rfl) (by kernel_rfl) (by kernel_rfl) (fun _ _ _ h => h) (Or.inl ⟨by rfl, ?_⟩) hHeld ?_
                       rotate_left
                       · intro w_ hSw
                         (try dsimp only at hSw)
                         first
                           | (go_simp; done)
                           | (go_simp; with_reducible rfl))
                    | (refine wpAnyH_take (i := 5) (v := undef) (by simp only [List.getElem?_toArray, List.getElem?_cons_succ, List.getElem?_cons_zero]; rfl) (by kernel_rfl) (by kernel_rfl) (by kernel_rfl) (fun _ _ _ h => h) (Or.inr ⟨by rfl, rfl⟩) hHeld ?_)
                  try simp only [Act.put, List.setIfInBounds_toArray, List.set_cons_zero, List.set_cons_succ]
                  first
                    | (refine wpAnyH_take (i := 6) (v := ?_) (by simp only [List.getElem?_toArray, List.getElem?_cons_succ, List.getElem?_cons_zero]; rfl) (by kernel_rfl) (by kernel_rfl) (by kernel_rfl) (fun _ _ _ h => h) (Or.inl ⟨by rfl, ?_⟩) hHeld ?_
                       rotate_left
                       · intro w_ hSw
                         (try dsimp only at hSw)
                         first
                           | (go_simp; done)
                           | (go_simp; with_reducible rfl))
                    | (refine wpAnyH_take (i := 6) (v := undef) (by simp only [List.getElem?_toArray, List.getElem?_cons_succ, List.getElem?_cons_zero]; rfl) (by kernel_rfl) (by kernel_rfl) (by kernel_rfl) (fun _ _ _ h => h) (Or.inr ⟨by rfl, rfl⟩) hHeld ?_)
                  try simp only [Act.put, List.setIfInBounds_toArray, List.set_cons_zero, List.set_cons_succ]
                  first
                    | (refine wpAnyH_take (i := 7) (v := ?_) (by simp only [List.getElem?_toArray, List.getElem?_cons_succ, List.getElem?_cons_zero]; rfl) (by kernel_rfl) (by kernel_rfl) (by kernel_rfl) (fun _ _ _ h => h) (Or.inl ⟨by rfl, ?_⟩) hHeld ?_
                       rotate_left
                       · intro w_ hSw
                         (try dsimp only at hSw)
                         first
                           | (go_simp; done)
                           | (go_simp; with_reducible rfl))
                    | (refine wpAnyH_take (i := 7) (v := undef) (by simp only [List.getElem?_toArray, List.getElem?_cons_succ, List.getElem?_cons_zero]; rfl) (by kernel_rfl) (by kernel_rfl) (by kernel_rfl) (fun _ _ _ h => h) (Or.inr ⟨by rfl, rfl⟩) hHeld ?_)
                  try simp only [Act.put, List.setIfInBounds_toArray, List.set_cons_zero, List.set_cons_succ]
                  first
                    | (refine wpAnyH_take (i := 8) (v := ?_) (by simp only [List.getElem?_toArray, List.getElem?_cons_succ, List.getElem?_cons_zero]; rfl) (by kernel_rfl) (by kernel_rfl) (by kernel_rfl) (fun _ _ _ h => h) (Or.inl ⟨by rfl, ?_⟩) hHeld ?_
                       rotate_left
                       · intro w_ hSw
                         (try dsimp only at hSw)
                         first
                           | (go_simp; done)
                           | (go_simp; with_reducible rfl))
                    | (refine wpAnyH_take (i := 8) (v := undef) (by simp only [List.getElem?_toArray, List.getElem?_cons_succ, List.getElem?_cons_zero]; rfl) (by kernel_rfl) (by kernel_rfl) (by kernel_rfl) (fun _ _ _ h => h) (Or.inr ⟨by rfl, rfl⟩) hHeld ?_)
                  try simp only [Act.put, List.setIfInBounds_toArray, List.set_cons_zero, List.set_cons_succ]
                  first
                    | (refine wpAnyH_take (i := 9) (v := ?_) (by simp only [List.getElem?_toArray, List.getElem?_cons_succ, List.getElem?_cons_zero]; rfl) (by kernel_rfl) (by kernel_rfl) (by kernel_rfl) (fun _ _ _ h => h) (Or.inl ⟨by rfl, ?_⟩) hHeld ?_
                       rotate_left
                       · intro w_ hSw
                         (try dsimp only at hSw)
                         first
                           | (go_simp; done)
                           | (go_simp; with_reducible rfl))
                    | (refine wpAnyH_take (i := 9) (v := undef) (by simp only [List.getElem?_toArray, List.getElem?_cons_succ, List.getElem?_cons_zero]; rfl) (by kernel_rfl) (by kernel_rfl) (by kernel_rfl) (fun _ _ _ h => h) (Or.inr ⟨by rfl, rfl⟩) hHeld ?_)
                  try simp only [Act.put, List.setIfInBounds_toArray, List.set_cons_zero, List.set_cons_succ]
                  first
                    | (refine wpAnyH_take (i := 10) (v := ?_) (by simp only [List.getElem?_toArray, List.getElem?_cons_succ, List.getElem?_cons_zero]; rfl) (by kernel_rfl) (by kernel_rfl) (by kernel_rfl) (fun _ _ _ h => h) (Or.inl ⟨by rfl, ?_⟩) hHeld ?_
                       rotate_left
                       · intro w_ hSw
                         (try dsimp only at hSw)
                         first
                           | (go_simp; done)
                           | (go_simp; with_reducible rfl))
                    | (refine wpAnyH_take (i := 10) (v := undef) (by simp only [List.getElem?_toArray, List.getElem?_cons_succ, List.getElem?_cons_zero]; rfl) (by kernel_rfl) (by kernel_rfl) (by kernel_rfl) (fun _ _ _ h => h) (Or.inr ⟨by rfl, rfl⟩) hHeld ?_)
                  try simp only [Act.put, List.setIfInBounds_toArray, List.set_cons_zero, List.set_cons_succ]
                  first
                    | (refine wpAnyH_take (i := 11) (v := ?_) (by simp only [List.getElem?_toArray, List.getElem?_cons_succ, List.getElem?_cons_zero]; rfl) (by kernel_rfl) (by kernel_rfl) (by kernel_rfl) (fun _ _ _ h => h) (Or.inl ⟨by rfl, ?_⟩) hHeld ?_
                       rotate_left
                       · intro w_ hSw
                         (try dsimp only at hSw)
                         first
                           | (go_simp; done)
                           | (go_simp; with_reducible rfl))
                    | (refine wpAnyH_take (i := 11) (v := undef) (by simp only [List.getElem?_toArray, List.getElem?_cons_succ, List.getElem?_cons_zero]; rfl) (by kernel_rfl) (by kernel_rfl) (by kernel_rfl) (fun _ _ _ h => h) (Or.inr ⟨by rfl, rfl⟩) hHeld ?_)
                  try simp only [Act.put, List.setIfInBounds_toArray, List.set_cons_zero, List.set_cons_succ]
                  first
                    | (refine wpAnyH_take (i := 12) (v := ?_) (by simp only [List.getElem?_toArray, List.getElem?_cons_succ, List.getElem?_cons_zero]; rfl) (by kernel_rfl) (by kernel_rfl) (by kernel_rfl) (fun _ _ _ h => h) (Or.inl ⟨by rfl, ?_⟩) hHeld ?_
                       rotate_left
                       · intro w_ hSw
                         (try dsimp only at hSw)
                         first
                           | (go_simp; done)
                           | (go_simp; with_reducible rfl))
                    | (refine wpAnyH_take (i := 12) (v := undef) (by simp only [List.getElem?_toArray, List.getElem?_cons_succ, List.getElem?_cons_zero]; rfl) (by kernel_rfl) (by kernel_rfl) (by kernel_rfl) (fun _ _ _ h => h) (Or.inr ⟨by rfl, rfl⟩) hHeld ?_)
                  try simp only [Act.put, List.setIfInBounds_toArray, List.set_cons_zero, List.set_cons_succ]
                  first
                    | (refine wpAnyH_take (i := 13) (v := ?_) (by simp only [List.getElem?_toArray, List.getElem?_cons_succ, List.getElem?_cons_zero]; rfl) (by kernel_rfl) (by kernel_rfl) (by kernel_rfl) (fun _ _ _ h => h) (Or.inl ⟨by rfl, ?_⟩) hHeld ?_
                       rotate_left
                       · intro w_ hSw
                         (try dsimp only at hSw)
                         first
                           | (go_simp; done)
                           | (go_simp; with_reducible rfl))
                    | (refine wpAnyH_take (i := 13) (v := undef) (by simp only [List.getElem?_toArray, List.getElem?_cons_succ, List.getElem?_cons_zero]; rfl) (by kernel_rfl) (by kernel_rfl) (by kernel_rfl) (fun _ _ _ h => h) (Or.inr ⟨by rfl, rfl⟩) hHeld ?_)
                  try simp only [Act.put, List.setIfInBounds_toArray, List.set_cons_zero, List.set_cons_succ]
                  first
                    | (refine wpAnyH_take (i := 14) (v := ?_) (by simp only [List.getElem?_toArray, List.getElem?_cons_succ, List.getElem?_cons_zero]; rfl) (by kernel_rfl) (by kernel_rfl) (by kernel_rfl) (fun _ _ _ h => h) (Or.inl ⟨by rfl, ?_⟩) hHeld ?_
                       rotate_left
                       · intro w_ hSw
                         (try dsimp only at hSw)
                         first
                           | (go_simp; done)
                           | (go_simp; with_reducible rfl))
                    | (refine wpAnyH_take (i := 14) (v := undef) (by simp only [List.getElem?_toArray, List.getElem?_cons_succ, List.getElem?_cons_zero]; rfl) (by kernel_rfl) (by kernel_rfl) (by kernel_rfl) (fun _ _ _ h => h) (Or.inr ⟨by rfl, rfl⟩) hHeld ?_)
                  try simp only [Act.put, List.setIfInBounds_toArray, List.set_cons_zero, List.set_cons_succ]
                  first
                    | (refine wpAnyH_take (i := 15) (v := ?_) (by simp only [List.getElem?_toArray, List.getElem?_cons_succ, List.getElem?_cons_zero]; rfl) (by kernel_rfl) (by kernel_rfl) (by kernel_rfl) (fun _ _ _ h => h) (Or.inl ⟨by rfl, ?_⟩) hHeld ?_
                       rotate_left
                       · intro w_ hSw
                         (try dsimp only at hSw)
                         first
                           | (go_simp; done)
                           | (go_simp; with_reducible rfl))
                    | (refine wpAnyH_take (i := 15) (v := undef) (by simp only [List.getElem?_toArray, List.getElem?_cons_succ, List.getElem?_cons_zero]; rfl) (by kernel_rfl) (by kernel_rfl) (by kernel_rfl) (fun _ _ _ h => h) (Or.inr ⟨by rfl, rfl⟩) hHeld ?_)
                  try simp only [Act.put, List.setIfInBounds_toArray, List.set_cons_zero, List.set_cons_succ]
                  first
                    | (refine wpAnyH_take (i := 16) (v := ?_) (by simp only [List.getElem?_toArray, List.getElem?_cons_succ, List.getElem?_cons_zero]; rfl) (by kernel_rfl) (by kernel_rfl) (by kernel_rfl) (fun _ _ _ h => h) (Or.inl ⟨by rfl, ?_⟩) hHeld ?_
                       rotate_left
                       · intro w_ hSw
                         (try dsimp only at hSw)
                         first
                           | (go_simp; done)
                           | (go_simp; with_reducible rfl))
                    | (refine wpAnyH_take (i := 16) (v := undef) (by simp only [List.getElem?_toArray, List.getElem?_cons_succ, List.getElem?_cons_zero]; rfl) (by kernel_rfl) (by kernel_rfl) (by kernel_rfl) (fun _ _ _ h => h) (Or.inr ⟨by rfl, rfl⟩) hHeld ?_)
                  try simp only [Act.put, List.setIfInBounds_toArray, List.set_cons_zero, List.set_cons_succ]
                  first
                    | (refine wpAnyH_take (i := 17) (v := ?_) (by simp only [List.getElem?_toArray, List.getElem?_cons_succ, List.getElem?_cons_zero]; rfl) (by kernel_rfl) (by kernel_rfl) (by kernel_rfl) (fun _ _ _ h => h) (Or.inl ⟨by rfl, ?_⟩) hHeld ?_
                       rotate_left
                       · intro w_ hSw
                         (try dsimp only at hSw)
                         first
                           | (go_simp; done)
                           | (go_simp; with_reducible rfl))
                    | (refine wpAnyH_take (i := 17) (v := undef) (by simp only [List.getElem?_toArray, List.getElem?_cons_succ, List.getElem?_cons_zero]; rfl) (by kernel_rfl) (by kernel_rfl) (by kernel_rfl) (fun _ _ _ h => h) (Or.inr ⟨by rfl, rfl⟩) hHeld ?_)
                  try simp only [Act.put, List.setIfInBounds_toArray, List.set_cons_zero, List.set_cons_succ]
                  first
                    | (refine wpAnyH_take (i := 18) (v := ?_) (by simp only [List.getElem?_toArray, List.getElem?_cons_succ, List.getElem?_cons_zero]; rfl) (by kernel_rfl) (by kernel_rfl) (by kernel_rfl) (fun _ _ _ h => h) (Or.inl ⟨by rfl, ?_⟩) hHeld ?_
                       rotate_left
                       · intro w_ hSw
                         (try dsimp only at hSw)
                         first
                           | (go_simp; done)
                           | (go_simp; with_reducible rfl))
                    | (refine wpAnyH_take (i := 18) (v := undef) (by simp only [List.getElem?_toArray, List.getElem?_cons_succ, List.getElem?_cons_zero]; rfl) (by kernel_rfl) (by kernel_rfl) (by kernel_rfl) (fun _ _ _ h => h) (Or.inr ⟨by rfl, rfl⟩) hHeld ?_)
                  try simp only [Act.put, List.setIfInBounds_toArray, List.set_cons_zero, List.set_cons_succ]
                  first
                    | (refine wpAnyH_take (i := 19) (v := ?_) (by simp only [List.getElem?_toArray, List.getElem?_cons_succ, List.getElem?_cons_zero]; rfl) (by kernel_rfl) (by kernel_rfl) (by kernel_rfl) (fun _ _ _ h => h) (Or.inl ⟨by rfl, ?_⟩) hHeld ?_
                       rotate_left
                       · intro w_ hSw
                         (try dsimp only at hSw)
                         first
                           | (go_simp; done)
                           | (go_simp; with_reducible rfl))
                    | (refine wpAnyH_take (i := 19) (v := undef) (by simp only [List.getElem?_toArray, List.getElem?_cons_succ, List.getElem?_cons_zero]; rfl) (by kernel_rfl) (by kernel_rfl) (by kernel_rfl) (fun _ _ _ h => h) (Or.inr ⟨by rfl, rfl⟩) hHeld ?_)
                  try simp only [Act.put, List.setIfInBounds_toArray, List.set_cons_zero, List.set_cons_succ]
                  first
                    | (refine wpAnyH_take (i := 20) (v := ?_) (by simp only [List.getElem?_toArray, List.getElem?_cons_succ, List.getElem?_cons_zero]; rfl) (by kernel_rfl) (by kernel_rfl) (by kernel_rfl) (fun _ _ _ h => h) (Or.inl ⟨by rfl, ?_⟩) hHeld ?_
                       rotate_left
                       · intro w_ hSw
                         (try dsimp only at hSw)
                         first
                           | (go_simp; done)
                           | (go_simp; with_reducible rfl))
                    | (refine wpAnyH_take (i := 20) (v := undef) (by simp only [List.getElem?_toArray, List.getElem?_cons_succ, List.getElem?_cons_zero]; rfl) (by kernel_rfl) (by kernel_rfl) (by kernel_rfl) (fun _ _ _ h => h) (Or.inr ⟨by rfl, rfl⟩) hHeld ?_)
                  try simp only [Act.put, List.setIfInBounds_toArray, List.set_cons_zero, List.set_cons_succ]
                  refine wpAnyH_ready (rs := [21]) (by kernel_rfl) (by simp) ?_
                  refine AllReadyH.cons (by simp only [List.getElem?_toArray, List.getElem?_cons_succ, List.getElem?_cons_zero]; rfl) (fun K hK => ?_) AllReadyH.nil
                  go_simp
                  go_at_call 16
                  have hb4 := hHeld.2.2.2.2
                  refine (iBelowOk_any _ _ w.heap.size w1.heap.size T (a : Int) (b : Int) _ (M4.out.below (B := w4.heap.size) hb4 hsz) (Nat.le_trans hsz hb4.size) hS).mono ?_
                  rw [HX.out]
                  rintro e wj ⟨rfl, hbj⟩
                  refine hK.out _ _ ?_ (fun hHeld => ?_)
                  · exact MK.out _ (hb4.trans (hbj.mono hb4.size))
                  clear hK K
                  try simp only [Act.put, List.setIfInBounds_toArray, List.set_cons_zero, List.set_cons_succ]
                  first
                    | (refine wpAnyH_take (i := 22) (v := ?_) (by simp only [List.getElem?_toArray, List.getElem?_cons_succ, List.getElem?_cons_zero]; rfl) (by kernel_rfl) (by kernel_rfl) (by kernel_rfl) (fun _ _ _ h => h) (Or.inl ⟨by rfl, ?_⟩) hHeld ?_
                       rotate_left
                       · intro w_ hSw
                         (try dsimp only at hSw)
                         first
                           | (go_simp; done)
                           | (go_simp; with_reducible rfl))
                    | (refine wpAnyH_take (i := 22) (v := undef) (by simp only [List.getElem?_toArray, List.getElem?_cons_succ, List.getElem?_cons_zero]; rfl) (by kernel_rfl) (by kernel_rfl) (by kernel_rfl) (fun _ _ _ h => h) (Or.inr ⟨by rfl, rfl⟩) hHeld ?_)
                  try simp only [Act.put, List.setIfInBounds_toArray, List.set_cons_zero, List.set_cons_succ]
                  first
                    | (refine wpAnyH_take (i := 23) (v := ?_) (by simp only [List.getElem?_toArray, List.getElem?_cons_succ, List.getElem?_cons_zero]; rfl) (by kernel_rfl) (by kernel_rfl) (by kernel_rfl) (fun _ _ _ h => h) (Or.inl ⟨by rfl, ?_⟩) hHeld ?_
                       rotate_left
                       · intro w_ hSw
                         (try dsimp only at hSw)
                         first
                           | (go_simp; done)
                           | (go_simp; with_reducible rfl))
                    | (refine wpAnyH_take (i := 23) (v := undef) (by simp only [List.getElem?_toArray, List.getElem?_cons_succ, List.getElem?_cons_zero]; rfl) (by kernel_rfl) (by kernel_rfl) (by kernel_rfl) (fun _ _ _ h => h) (Or.inr ⟨by rfl, rfl⟩) hHeld ?_)
                  try simp only [Act.put, List.setIfInBounds_toArray, List.set_cons_zero, List.set_cons_succ]
                  first
                    | (refine wpAnyH_take (i := 24) (v := ?_) (by simp only [List.getElem?_toArray, List.getElem?_cons_succ, List.getElem?_cons_zero]; rfl) (by kernel_rfl) (by kernel_rfl) (by kernel_rfl) (fun _ _ _ h => h) (Or.inl ⟨by rfl, ?_⟩) hHeld ?_
                       rotate_left
                       · intro w_ hSw
                         (try dsimp only at hSw)
                         first
                           | (go_simp; done)
                           | (go_simp; with_reducible rfl))
                    | (refine wpAnyH_take (i := 24) (v := undef) (by simp only [List.getElem?_toArray, List.getElem?_cons_succ, List.getElem?_cons_zero]; rfl) (by kernel_rfl) (by kernel_rfl) (by kernel_rfl) (fun _ _ _ h => h) (Or.inr ⟨by rfl, rfl⟩) hHeld ?_)
                  try simp only [Act.put, List.setIfInBounds_toArray, List.set_cons_zero, List.set_cons_succ]
                  first
                    | (refine wpAnyH_take (i := 25) (v := ?_) (by simp only [List.getElem?_toArray, List.getElem?_cons_succ, List.getElem?_cons_zero]; rfl) (by kernel_rfl) (by kernel_rfl) (by kernel_rfl) (fun _ _ _ h => h) (Or.inl ⟨by rfl, ?_⟩) hHeld ?_
                       rotate_left
                       · intro w_ hSw
                         (try dsimp only at hSw)
                         first
                           | (go_simp; done)
                           | (go_simp; with_reducible rfl))
                    | (refine wpAnyH_take (i := 25) (v := undef) (by simp only [List.getElem?_toArray, List.getElem?_cons_succ, List.getElem?_cons_zero]; rfl) (by kernel_rfl) (by kernel_rfl) (by kernel_rfl) (fun _ _ _ h => h) (Or.inr ⟨by rfl, rfl⟩) hHeld ?_)
                  try simp only [Act.put, List.setIfInBounds_toArray, List.set_cons_zero, List.set_cons_succ]
                  first
                    | (refine wpAnyH_take (i := 26) (v := ?_) (by simp only [List.getElem?_toArray, List.getElem?_cons_succ, List.getElem?_cons_zero]; rfl) (by kernel_rfl) (by kernel_rfl) (by kernel_rfl) (fun _ _ _ h => h) (Or.inl ⟨by rfl, ?_⟩) hHeld ?_
                       rotate_left
                       · intro w_ hSw
                         (try dsimp only at hSw)
                         first
                           | (go_simp; done)
                           | (go_simp; with_reducible rfl))
                    | (refine wpAnyH_take (i := 26) (v := undef) (by simp only [List.getElem?_toArray, List.getElem?_cons_succ, List.getElem?_cons_zero]; rfl) (by kernel_rfl) (by kernel_rfl) (by kernel_rfl) (fun _ _ _ h => h) (Or.inr ⟨by rfl, rfl⟩) hHeld ?_)
                  try simp only [Act.put, List.setIfInBounds_toArray, List.set_cons_zero, List.set_cons_succ]
                  first
                    | (refine wpAnyH_take (i := 27) (v := ?_) (by simp only [List.getElem?_toArray, List.getElem?_cons_succ, List.getElem?_cons_zero]; rfl) (by kernel_rfl) (by kernel_rfl) (by kernel_rfl) (fun _ _ _ h => h) (Or.inl ⟨by rfl, ?_⟩) hHeld ?_
                       rotate_left
                       · intro w_ hSw
                         (try dsimp only at hSw)
                         first
                           | (go_simp; done)
                           | (go_simp; with_reducible rfl))
                    | (refine wpAnyH_take (i := 27) (v := undef) (by simp only [List.getElem?_toArray, List.getElem?_cons_succ, List.getElem?_cons_zero]; rfl) (by kernel_rfl) (by kernel_rfl) (by kernel_rfl) (fun _ _ _ h => h) (Or.inr ⟨by rfl, rfl⟩) hHeld ?_)
                  try simp only [Act.put, List.setIfInBounds_toArray, List.set_cons_zero, List.set_cons_succ]
                  first
                    | (refine wpAnyH_take (i := 28) (v := ?_) (by simp only [List.getElem?_toArray, List.getElem?_cons_succ, List.getElem?_cons_zero]; rfl) (by kernel_rfl) (by kernel_rfl) (by kernel_rfl) (fun _ _ _ h => h) (Or.inl ⟨by rfl, ?_⟩) hHeld ?_
                       rotate_left
                       · intro w_ hSw
                         (try dsimp only at hSw)
                         first
                           | (go_simp; done)
                           | (go_simp; with_reducible rfl))
                    | (refine wpAnyH_take (i := 28) (v := undef) (by simp only [List.getElem?_toArray, List.getElem?_cons_succ, List.getElem?_cons_zero]; rfl) (by kernel_rfl) (by kernel_rfl) (by kernel_rfl) (fun _ _ _ h => h) (Or.inr ⟨by rfl, rfl⟩) hHeld ?_)
                  try simp only [Act.put, List.setIfInBounds_toArray, List.set_cons_zero, List.set_cons_succ]
                  first
                    | (refine wpAnyH_take (i := 29) (v := ?_) (by simp only [List.getElem?_toArray, List.getElem?_cons_succ, List.getElem?_cons_zero]; rfl) (by kernel_rfl) (by kernel_rfl) (by kernel_rfl) (fun _ _ _ h => h) (Or.inl ⟨by rfl, ?_⟩) hHeld ?_
                       rotate_left
                       · intro w_ hSw
                         (try dsimp only at hSw)
                         first
                           | (go_simp; done)
                           | (go_simp; with_reducible rfl))
                    | (refine wpAnyH_take (i := 29) (v := undef) (by simp only [List.getElem?_toArray, List.getElem?_cons_succ, List.getElem?_cons_zero]; rfl) (by kernel_rfl) (by kernel_rfl) (by kernel_rfl) (fun _ _ _ h => h) (Or.inr ⟨by rfl, rfl⟩) hHeld ?_)
                  try simp only [Act.put, List.setIfInBounds_toArray, List.set_cons_zero, List.set_cons_succ]
                  first
                    | (refine wpAnyH_take (i := 30) (v := ?_) (by simp only [List.getElem?_toArray, List.getElem?_cons_succ, List.getElem?_cons_zero]; rfl) (by kernel_rfl) (by kernel_rfl) (by kernel_rfl) (fun _ _ _ h => h) (Or.inl ⟨by rfl, ?_⟩) hHeld ?_
                       rotate_left
                       · intro w_ hSw
                         (try dsimp only at hSw)
                         first
                           | (go_simp; done)
                           | (go_simp; with_reducible rfl))
                    | (refine wpAnyH_take (i := 30) (v := undef) (by simp only [List.getElem?_toArray, List.getElem?_cons_succ, List.getElem?_cons_zero]; rfl) (by kernel_rfl) (by kernel_rfl) (by kernel_rfl) (fun _ _ _ h => h) (Or.inr ⟨by rfl, rfl⟩) hHeld ?_)
                  try simp only [Act.put, List.setIfInBounds_toArray, List.set_cons_zero, List.set_cons_succ]
                  refine wpAnyH_ready (rs := [31]) (by kernel_rfl) (by simp) ?_
                  refine AllReadyH.cons (by simp only [List.getElem?_toArray, List.getElem?_cons_succ, List.getElem?_cons_zero]; rfl) (fun K hK => ?_) AllReadyH.nil
                  go_simp
                  go_at_call 21
                  have hb4 := hHeld.2.2.2.2
                  refine (iWeakBelow_any _ _ w.heap.size w1.heap.size T (a : Int) (a : Int) _ (M4.out.below (B := w4.heap.size) hb4 hsz) (Nat.le_trans hsz hb4.size) hS).mono ?_
                  rw [HA.out]
                  rintro e wk ⟨rfl, hbk⟩
                  refine hK.out _ _ ?_ (fun hHeld => ?_)
                  · exact MK.out _ (hb4.trans (hbk.mono hb4.size))
                  clear hK K
                  try simp only [Act.put, List.setIfInBounds_toArray, List.set_cons_zero, List.set_cons_succ]
                  first
                    | (refine wpAnyH_take (i := 32) (v := ?_) (by simp only [List.getElem?_toArray, List.getElem?_cons_succ, List.getElem?_cons_zero]; rfl) (by kernel_rfl) (by kernel_rfl) (by kernel_rfl) (fun _ _ _ h => h) (Or.inl ⟨by rfl, ?_⟩) hHeld ?_
                       rotate_left
                       · intro w_ hSw
                         (try dsimp only at hSw)
                         first
                           | (go_simp; done)
                           | (go_simp; with_reducible rfl))
                    | (refine wpAnyH_take (i := 32) (v := undef) (by simp only [List.getElem?_toArray, List.getElem?_cons_succ, List.getElem?_cons_zero]; rfl) (by kernel_rfl) (by kernel_rfl) (by kernel_rfl) (fun _ _ _ h => h) (Or.inr ⟨by rfl, rfl⟩) hHeld ?_)
                  try simp only [Act.put, List.setIfInBounds_toArray, List.set_cons_zero, List.set_cons_succ]
                  first
                    | (refine wpAnyH_take (i := 33) (v := ?_) (by simp only [List.getElem?_toArray, List.getElem?_cons_succ, List.getElem?_cons_zero]; rfl) (by kernel_rfl) (by kernel_rfl) (by kernel_rfl) (fun _ _ _ h => h) (Or.inl ⟨by rfl, ?_⟩) hHeld ?_
                       rotate_left
                       · intro w_ hSw
                         (try dsimp only at hSw)
                         first
                           | (go_simp; done)
                           | (go_simp; with_reducible rfl))
                    | (refine wpAnyH_take (i := 33) (v := undef) (by simp only [List.getElem?_toArray, List.getElem?_cons_succ, List.getElem?_cons_zero]; rfl) (by kernel_rfl) (by kernel_rfl) (by kernel_rfl) (fun _ _ _ h => h) (Or.inr ⟨by rfl, rfl⟩) hHeld ?_)
                  try simp only [Act.put, List.setIfInBounds_toArray, List.set_cons_zero, List.set_cons_succ]
                  refine wpAnyH_done (by kernel_rfl) (NoPanic.normal ?_) _
                  go_wp2
                  go_ret
                  exact ⟨rfl, B4.trans (hHeld.2.2.2.2.mono B4.size)⟩

end Go.Proofs.Ytcegjiiondmchaa
