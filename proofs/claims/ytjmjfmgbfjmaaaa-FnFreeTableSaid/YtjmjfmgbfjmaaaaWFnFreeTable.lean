/- The walk of FnFreeTable. -/
import Derived.Test.YtjmjfmgbfjmaaaaSfreeT
import Derived.Test.YtjmjfmgbfjmaaaaIfree
import Derived.Test.YtjmjfmgbfjmaaaaIband
import Derived.Test.YtjmjfmgbfjmaaaaIlev2
import Derived.Test.YtjmjfmgbfjmaaaaMadeS
import Derived.Test.YtjmjfmgbfjmaaaaHelp
import Derived.Test.YtjmjfmgbfjmaaaaEq
import Derived.Test.YtjmjfmgbfjmaaaaDrawFrees
import Derived.Test.YtjmjfmgbfjmaaaaFreeQ
import Derived.Deep.RegionHeld3
namespace Go.Proofs.Ytjmjfmgbfjmaaaa
open Go.RowKit
set_option linter.unusedVariables false

set_option maxRecDepth 20000 in
set_option maxHeartbeats 16000000 in
theorem fnFreeTable_walk (A : Option Addr) (n c : Nat) (w : World) (h : Bytes w w.heap.size A n) (hc : n ≤ c) (hc2 : c ≤ 9223372036854775807) :
    Calls Try.prog 6 #[.slice A n c] w fun e w' => e = .returned (.bool true) ∧ Below w.heap.size w w' := by
  by_cases hn : (1048576 : Int) < (n : Int)
  · go_enter Try.func6, Try.ntmps6
    go_wp2
    go_ret
    exact ⟨rfl, Below.refl _ _⟩
  · go_enter Try.func6, Try.ntmps6
    go_wp2_with fail
    refine (drawFreeTable_any A n c w h hc hc2).mono ?_
    rintro e w1 ⟨x, rfl, hx1, hx2, B1⟩
    obtain rfl | rfl | rfl | rfl : x = 0 ∨ x = 1 ∨ x = 2 ∨ x = 3 := by omega
    · go_wp2_with fail
      refine (iFreeTable_any (0) _).mono ?_
      rw [show freeT 0 = [] from freeT_not rfl]
      rintro e w2 ⟨A1, c1, rfl, b2, g1⟩
      have B2 := B1.trans (b2.mono B1.size)
      go_wp2_with fail
      refine (sFreeTable_any (0) _).mono ?_
      rw [show freeT 0 = [] from freeT_not rfl]
      rintro e w3 ⟨A2, c2, rfl, b3, m1⟩
      have B3 := B2.trans (b3.mono B2.size)
      have r1 := g1.mat.below b3 (Nat.le_refl _)
      clear g1
      have hS : Small ([] : List (List Int)) := ⟨by decide, by decide⟩
      go_wp2_with fail
      refine (sameRows_same _ _ _ _ _ _ _ _ _ _ r1 m1 hS).mono ?_
      rintro e w4 ⟨rfl, q4⟩
      have B4 := B3.trans (q4.below w.heap.size)
      have z4 : w2.heap.size ≤ w4.heap.size := Nat.le_trans b3.size (q4.below w3.heap.size).size
      replace r1 := r1.quiet q4
      clear m1 q4
      go_wp2_with fail
      refine (alive_any _).mono ?_
      rintro e w5 ⟨rfl, b5⟩
      go_wp2
      go_ret
      exact ⟨rfl, B4.trans (b5.mono B4.size)⟩
    · go_wp2_with fail
      refine (iFreeTable_any (1) _).mono ?_
      rw [freeT_one]
      rintro e w2 ⟨A1, c1, rfl, b2, g1⟩
      have B2 := B1.trans (b2.mono B1.size)
      go_wp2_with fail
      refine (sFreeTable_any (1) _).mono ?_
      rw [freeT_one]
      rintro e w3 ⟨A2, c2, rfl, b3, m1⟩
      have B3 := B2.trans (b3.mono B2.size)
      have r1 := g1.mat.below b3 (Nat.le_refl _)
      clear g1
      have hS : Small [[0]] := ⟨by decide, by decide⟩
      go_wp2_with fail
      refine (sameRows_same _ _ _ _ _ _ _ _ _ _ r1 m1 hS).mono ?_
      rintro e w4 ⟨rfl, q4⟩
      have B4 := B3.trans (q4.below w.heap.size)
      have z4 : w2.heap.size ≤ w4.heap.size := Nat.le_trans b3.size (q4.below w3.heap.size).size
      replace r1 := r1.quiet q4
      clear m1 q4
      have HB := hide f1_band
      have HC := hide f1_count
      have HM := hide f1_made
      obtain ⟨T, hT⟩ : ∃ T : List (List Int), T = [[0]] := ⟨_, rfl⟩
      have hTl : T.length = 1 := by rw [hT]; rfl
      rw [← hT] at r1 hS HB HC HM
      try rw [← hT]
      clear hT
      try rw [hTl]
      have HTl := hide hTl
      clear hTl
      go_wp2_with fail
      refine (sAllWords_any (1) _).mono ?_
      rw [allW_one]
      rintro e w5 ⟨A3, c3, rfl, b5, m2, k3, k4⟩
      have B5 := B4.trans (b5.mono B4.size)
      have r5 := r1.below b5 z4
      have z5 := Nat.le_trans z4 b5.size
      rw [show w1L.length = 1 from rfl]
      obtain ⟨bb, oo, rfl, _, _, d0⟩ := m2 0 (by decide)
      obtain ⟨s0, h0⟩ : ∃ s, s = bs (sl w1L 0) := ⟨_, rfl⟩
      have y0 : s0.size = 1 := by rw [h0, size_bs]; rfl
      rw [← h0] at d0
      clear h0
      replace d0 : w5.cell? ⟨bb, oo, none⟩ = some (.string s0) := d0
      clear m2 k3 k4 r1
      go_wp2
      go_loopg [7, 6] 1 (fun g i s wr => ∃ k : Nat, k ≤ 1 ∧ Hid (g = 1 - k) ∧ i = .int .i64 k ∧ s = .int .i64 (el [0, 1] k) ∧ w5 = wr)
      case atStart => exact ⟨0, Nat.zero_le _, rfl, rfl, rfl, rfl⟩
      case round =>
        obtain ⟨k, hk, hg, rfl, rfl, rfl⟩ := hrel
        obtain rfl | rfl : k = 0 ∨ k = 1 := by omega
        · rw [show el [0, 1] 0 = 0 from rfl]
          go_wp2
          go_roundg (1 - 1)
          case measure => go_light; have := hg.out; omega
          case rel => go_light; exact ⟨1, by omega, rfl, rfl, rfl, rfl⟩
        · have v1 : IntKind.i64.wrap 1 = 1 := rfl
          have v2 : IntKind.i64.wrap 2 = 2 := rfl
          have v3 : IntKind.i64.wrap 3 = 3 := rfl
          have v4 : IntKind.i64.wrap 4 = 4 := rfl
          have v63 : IntKind.i64.wrap 63 = 63 := rfl
          have v64 : IntKind.i64.wrap 64 = 64 := rfl
          rw [show el [0, 1] 1 = 1 from rfl]
          go_wp2_with fail
          refine wp_region_noPanic ?_
          refine wp_region_held_drew (S := (fun W => Below w5.heap.size w5 W)) (by kernel_rfl) ?_ (fun hHeld => ?_)
          · exact (Below.refl _ _).drew
          first
            | (refine wpAnyH_take (i := 0) (v := ?_) (by simp only [List.getElem?_toArray, List.getElem?_cons_zero]; rfl) (by kernel_rfl) (by kernel_rfl) (by kernel_rfl) (fun _ _ _ h => h) (Or.inl ⟨by rfl, ?_⟩) hHeld ?_
               rotate_left
               · intro w_ hSw
                 (try dsimp only at hSw)
                 first
                   | (go_simp; done)
                   | (go_simp; with_reducible rfl))
            | (refine wpAnyH_take (i := 0) (v := undef) (by simp only [List.getElem?_toArray, List.getElem?_cons_zero]; rfl) (by kernel_rfl) (by kernel_rfl) (by kernel_rfl) (fun _ _ _ h => h) (Or.inr ⟨by rfl, rfl⟩) hHeld ?_)
          try simp only [Act.put, List.setIfInBounds_toArray, List.set_cons_zero, List.set_cons_succ]
          refine wpAnyH_ready (rs := [1]) (by kernel_rfl) (by simp) ?_
          refine AllReadyH.cons (by simp only [List.getElem?_toArray, List.getElem?_cons_succ, List.getElem?_cons_zero]; rfl) (fun K hK => ?_) AllReadyH.nil
          go_simp
          go_at_call 30
          refine (show Calls _ _ #[.slice A1 1 c1] _ _ from (by have hq := iBandOk_any A1 c1 _ _ T _ (r5.below hHeld z5) (Nat.le_trans z5 hHeld.size) hS; rw [HTl.out] at hq; exact hq)).mono ?_
          rw [HB.out]
          rintro e wa ⟨rfl, ba⟩
          refine hK.out _ _ ?_ (fun hHeld => ?_)
          · exact hHeld.trans (ba.mono hHeld.size)
          clear hK K
          try simp only [Act.put, List.setIfInBounds_toArray, List.set_cons_zero, List.set_cons_succ]
          first
            | (refine wpAnyH_take (i := 2) (v := ?_) (by simp only [List.getElem?_toArray, List.getElem?_cons_succ, List.getElem?_cons_zero]; rfl) (by kernel_rfl) (by kernel_rfl) (by kernel_rfl) (fun _ _ _ h => h) (Or.inl ⟨by rfl, ?_⟩) hHeld ?_
               rotate_left
               · intro w_ hSw
                 (try dsimp only at hSw)
                 first
                   | (go_simp; done)
                   | (go_simp; with_reducible rfl))
            | (refine wpAnyH_take (i := 2) (v := undef) (by simp only [List.getElem?_toArray, List.getElem?_cons_succ, List.getElem?_cons_zero]; rfl) (by kernel_rfl) (by kernel_rfl) (by kernel_rfl) (fun _ _ _ h => h) (Or.inr ⟨by rfl, rfl⟩) hHeld ?_)
          try simp only [Act.put, List.setIfInBounds_toArray, List.set_cons_zero, List.set_cons_succ]
          first
            | (refine wpAnyH_take (i := 3) (v := ?_) (by simp only [List.getElem?_toArray, List.getElem?_cons_succ, List.getElem?_cons_zero]; rfl) (by kernel_rfl) (by kernel_rfl) (by kernel_rfl) (fun _ _ _ h => h) (Or.inl ⟨by rfl, ?_⟩) hHeld ?_
               rotate_left
               · intro w_ hSw
                 (try dsimp only at hSw)
                 first
                   | (go_simp; done)
                   | (go_simp; with_reducible rfl))
            | (refine wpAnyH_take (i := 3) (v := undef) (by simp only [List.getElem?_toArray, List.getElem?_cons_succ, List.getElem?_cons_zero]; rfl) (by kernel_rfl) (by kernel_rfl) (by kernel_rfl) (fun _ _ _ h => h) (Or.inr ⟨by rfl, rfl⟩) hHeld ?_)
          try simp only [Act.put, List.setIfInBounds_toArray, List.set_cons_zero, List.set_cons_succ]
          first
            | (refine wpAnyH_take (i := 5) (v := ?_) (by simp only [List.getElem?_toArray, List.getElem?_cons_succ, List.getElem?_cons_zero]; rfl) (by kernel_rfl) (by kernel_rfl) (by kernel_rfl) (fun _ _ _ h => h) (Or.inl ⟨by rfl, ?_⟩) hHeld ?_
               rotate_left
               · intro w_ hSw
                 (try dsimp only at hSw)
                 first
                   | (go_simp; done)
                   | (go_simp; with_reducible rfl))
            | (refine wpAnyH_take (i := 5) (v := undef) (by simp only [List.getElem?_toArray, List.getElem?_cons_succ, List.getElem?_cons_zero]; rfl) (by kernel_rfl) (by kernel_rfl) (by kernel_rfl) (fun _ _ _ h => h) (Or.inr ⟨by rfl, rfl⟩) hHeld ?_)
          try simp only [Act.put, List.setIfInBounds_toArray, List.set_cons_zero, List.set_cons_succ]
          first
            | (refine wpAnyH_take (i := 6) (v := ?_) (by simp only [List.getElem?_toArray, List.getElem?_cons_succ, List.getElem?_cons_zero]; rfl) (by kernel_rfl) (by kernel_rfl) (by kernel_rfl) (fun _ _ _ h => h) (Or.inl ⟨by rfl, ?_⟩) hHeld ?_
               rotate_left
               · intro w_ hSw
                 (try dsimp only at hSw)
                 first
                   | (go_simp; done)
                   | (go_simp; with_reducible rfl))
            | (refine wpAnyH_take (i := 6) (v := undef) (by simp only [List.getElem?_toArray, List.getElem?_cons_succ, List.getElem?_cons_zero]; rfl) (by kernel_rfl) (by kernel_rfl) (by kernel_rfl) (fun _ _ _ h => h) (Or.inr ⟨by rfl, rfl⟩) hHeld ?_)
          try simp only [Act.put, List.setIfInBounds_toArray, List.set_cons_zero, List.set_cons_succ]
          first
            | (refine wpAnyH_take (i := 7) (v := ?_) (by simp only [List.getElem?_toArray, List.getElem?_cons_succ, List.getElem?_cons_zero]; rfl) (by kernel_rfl) (by kernel_rfl) (by kernel_rfl) (fun _ _ _ h => h) (Or.inl ⟨by rfl, ?_⟩) hHeld ?_
               rotate_left
               · intro w_ hSw
                 (try dsimp only at hSw)
                 first
                   | (go_simp; done)
                   | (go_simp; with_reducible rfl))
            | (refine wpAnyH_take (i := 7) (v := undef) (by simp only [List.getElem?_toArray, List.getElem?_cons_succ, List.getElem?_cons_zero]; rfl) (by kernel_rfl) (by kernel_rfl) (by kernel_rfl) (fun _ _ _ h => h) (Or.inr ⟨by rfl, rfl⟩) hHeld ?_)
          try simp only [Act.put, List.setIfInBounds_toArray, List.set_cons_zero, List.set_cons_succ]
          refine wpAnyH_ready (rs := [4]) (by kernel_rfl) (by simp) ?_
          refine AllReadyH.cons (by simp only [List.getElem?_toArray, List.getElem?_cons_succ, List.getElem?_cons_zero]; rfl) (fun K hK => ?_) AllReadyH.nil
          go_simp
          go_at_call 31
          refine (show Calls _ _ #[.slice A1 1 c1] _ _ from (by have hq := iCountLevels_any A1 c1 _ _ T _ (r5.below hHeld z5) (Nat.le_trans z5 hHeld.size) hS; rw [HTl.out] at hq; exact hq)).mono ?_
          rw [HC.out]
          rintro e wb ⟨rfl, bb2⟩
          refine hK.out _ _ ?_ (fun hHeld => ?_)
          · exact hHeld.trans (bb2.mono hHeld.size)
          clear hK K
          try simp only [Act.put, List.setIfInBounds_toArray, List.set_cons_zero, List.set_cons_succ]
          first
            | (refine wpAnyH_take (i := 8) (v := ?_) (by simp only [List.getElem?_toArray, List.getElem?_cons_succ, List.getElem?_cons_zero]; rfl) (by kernel_rfl) (by kernel_rfl) (by kernel_rfl) (fun _ _ _ h => h) (Or.inl ⟨by rfl, ?_⟩) hHeld ?_
               rotate_left
               · intro w_ hSw
                 (try dsimp only at hSw)
                 first
                   | (go_simp; done)
                   | (go_simp; with_reducible rfl))
            | (refine wpAnyH_take (i := 8) (v := undef) (by simp only [List.getElem?_toArray, List.getElem?_cons_succ, List.getElem?_cons_zero]; rfl) (by kernel_rfl) (by kernel_rfl) (by kernel_rfl) (fun _ _ _ h => h) (Or.inr ⟨by rfl, rfl⟩) hHeld ?_)
          try simp only [Act.put, List.setIfInBounds_toArray, List.set_cons_zero, List.set_cons_succ]
          first
            | (refine wpAnyH_take (i := 9) (v := ?_) (by simp only [List.getElem?_toArray, List.getElem?_cons_succ, List.getElem?_cons_zero]; rfl) (by kernel_rfl) (by kernel_rfl) (by kernel_rfl) (fun _ _ _ h => h) (Or.inl ⟨by rfl, ?_⟩) hHeld ?_
               rotate_left
               · intro w_ hSw
                 (try dsimp only at hSw)
                 first
                   | (go_simp; done)
                   | (go_simp; with_reducible rfl))
            | (refine wpAnyH_take (i := 9) (v := undef) (by simp only [List.getElem?_toArray, List.getElem?_cons_succ, List.getElem?_cons_zero]; rfl) (by kernel_rfl) (by kernel_rfl) (by kernel_rfl) (fun _ _ _ h => h) (Or.inr ⟨by rfl, rfl⟩) hHeld ?_)
          try simp only [Act.put, List.setIfInBounds_toArray, List.set_cons_zero, List.set_cons_succ]
          first
            | (refine wpAnyH_take (i := 10) (v := ?_) (by simp only [List.getElem?_toArray, List.getElem?_cons_succ, List.getElem?_cons_zero]; rfl) (by kernel_rfl) (by kernel_rfl) (by kernel_rfl) (fun _ _ _ h => h) (Or.inl ⟨by rfl, ?_⟩) hHeld ?_
               rotate_left
               · intro w_ hSw
                 (try dsimp only at hSw)
                 first
                   | (go_simp; done)
                   | (go_simp; with_reducible rfl))
            | (refine wpAnyH_take (i := 10) (v := undef) (by simp only [List.getElem?_toArray, List.getElem?_cons_succ, List.getElem?_cons_zero]; rfl) (by kernel_rfl) (by kernel_rfl) (by kernel_rfl) (fun _ _ _ h => h) (Or.inr ⟨by rfl, rfl⟩) hHeld ?_)
          try simp only [Act.put, List.setIfInBounds_toArray, List.set_cons_zero, List.set_cons_succ]
          first
            | (refine wpAnyH_take (i := 11) (v := ?_) (by simp only [List.getElem?_toArray, List.getElem?_cons_succ, List.getElem?_cons_zero]; rfl) (by kernel_rfl) (by kernel_rfl) (by kernel_rfl) (fun _ _ _ h => h) (Or.inl ⟨by rfl, ?_⟩) hHeld ?_
               rotate_left
               · intro w_ hSw
                 (try dsimp only at hSw)
                 first
                   | (go_simp; done)
                   | (go_simp; with_reducible rfl))
            | (refine wpAnyH_take (i := 11) (v := undef) (by simp only [List.getElem?_toArray, List.getElem?_cons_succ, List.getElem?_cons_zero]; rfl) (by kernel_rfl) (by kernel_rfl) (by kernel_rfl) (fun _ _ _ h => h) (Or.inr ⟨by rfl, rfl⟩) hHeld ?_)
          try simp only [Act.put, List.setIfInBounds_toArray, List.set_cons_zero, List.set_cons_succ]
          first
            | (refine wpAnyH_take (i := 12) (v := ?_) (by simp only [List.getElem?_toArray, List.getElem?_cons_succ, List.getElem?_cons_zero]; rfl) (by kernel_rfl) (by kernel_rfl) (by kernel_rfl) (fun _ _ _ h => h) (Or.inl ⟨by rfl, ?_⟩) hHeld ?_
               rotate_left
               · intro w_ hSw
                 (try dsimp only at hSw)
                 first
                   | (go_simp; done)
                   | (go_simp; with_reducible rfl))
            | (refine wpAnyH_take (i := 12) (v := undef) (by simp only [List.getElem?_toArray, List.getElem?_cons_succ, List.getElem?_cons_zero]; rfl) (by kernel_rfl) (by kernel_rfl) (by kernel_rfl) (fun _ _ _ h => h) (Or.inr ⟨by rfl, rfl⟩) hHeld ?_)
          try simp only [Act.put, List.setIfInBounds_toArray, List.set_cons_zero, List.set_cons_succ]
          first
            | (refine wpAnyH_take (i := 14) (v := ?_) (by simp only [List.getElem?_toArray, List.getElem?_cons_succ, List.getElem?_cons_zero]; rfl) (by kernel_rfl) (by kernel_rfl) (by kernel_rfl) (fun _ _ _ h => h) (Or.inl ⟨by rfl, ?_⟩) hHeld ?_
               rotate_left
               · intro w_ hSw
                 (try dsimp only at hSw)
                 first
                   | (go_simp; done)
                   | (go_simp; with_reducible rfl))
            | (refine wpAnyH_take (i := 14) (v := undef) (by simp only [List.getElem?_toArray, List.getElem?_cons_succ, List.getElem?_cons_zero]; rfl) (by kernel_rfl) (by kernel_rfl) (by kernel_rfl) (fun _ _ _ h => h) (Or.inr ⟨by rfl, rfl⟩) hHeld ?_)
          try simp only [Act.put, List.setIfInBounds_toArray, List.set_cons_zero, List.set_cons_succ]
          first
            | (refine wpAnyH_take (i := 15) (v := ?_) (by simp only [List.getElem?_toArray, List.getElem?_cons_succ, List.getElem?_cons_zero]; rfl) (by kernel_rfl) (by kernel_rfl) (by kernel_rfl) (fun _ _ _ h => h) (Or.inl ⟨by rfl, ?_⟩) hHeld ?_
               rotate_left
               · intro w_ hSw
                 (try dsimp only at hSw)
                 first
                   | (go_simp; done)
                   | (go_simp; with_reducible rfl))
            | (refine wpAnyH_take (i := 15) (v := undef) (by simp only [List.getElem?_toArray, List.getElem?_cons_succ, List.getElem?_cons_zero]; rfl) (by kernel_rfl) (by kernel_rfl) (by kernel_rfl) (fun _ _ _ h => h) (Or.inr ⟨by rfl, rfl⟩) hHeld ?_)
          try simp only [Act.put, List.setIfInBounds_toArray, List.set_cons_zero, List.set_cons_succ]
          first
            | (refine wpAnyH_take (i := 16) (v := ?_) (by simp only [List.getElem?_toArray, List.getElem?_cons_succ, List.getElem?_cons_zero]; rfl) (by kernel_rfl) (by kernel_rfl) (by kernel_rfl) (fun _ _ _ h => h) (Or.inl ⟨by rfl, ?_⟩) hHeld ?_
               rotate_left
               · intro w_ hSw
                 (try dsimp only at hSw)
                 first
                   | (go_simp; done)
                   | (go_simp; with_reducible rfl))
            | (refine wpAnyH_take (i := 16) (v := undef) (by simp only [List.getElem?_toArray, List.getElem?_cons_succ, List.getElem?_cons_zero]; rfl) (by kernel_rfl) (by kernel_rfl) (by kernel_rfl) (fun _ _ _ h => h) (Or.inr ⟨by rfl, rfl⟩) hHeld ?_)
          try simp only [Act.put, List.setIfInBounds_toArray, List.set_cons_zero, List.set_cons_succ]
          first
            | (refine wpAnyH_take (i := 17) (v := ?_) (by simp only [List.getElem?_toArray, List.getElem?_cons_succ, List.getElem?_cons_zero]; rfl) (by kernel_rfl) (by kernel_rfl) (by kernel_rfl) (fun _ _ _ h => h) (Or.inl ⟨by rfl, ?_⟩) hHeld ?_
               rotate_left
               · intro w_ hSw
                 (try dsimp only at hSw)
                 first
                   | (go_simp; done)
                   | (go_simp; with_reducible rfl))
            | (refine wpAnyH_take (i := 17) (v := undef) (by simp only [List.getElem?_toArray, List.getElem?_cons_succ, List.getElem?_cons_zero]; rfl) (by kernel_rfl) (by kernel_rfl) (by kernel_rfl) (fun _ _ _ h => h) (Or.inr ⟨by rfl, rfl⟩) hHeld ?_)
          try simp only [Act.put, List.setIfInBounds_toArray, List.set_cons_zero, List.set_cons_succ]
          refine wpAnyH_ready (rs := [13]) (by kernel_rfl) (by simp) ?_
          refine AllReadyH.cons (by simp only [List.getElem?_toArray, List.getElem?_cons_succ, List.getElem?_cons_zero]; rfl) (fun K hK => ?_) AllReadyH.nil
          go_simp
          go_at_call 32
          refine (show Calls _ _ #[.slice A1 1 c1, .int .i64 1] _ _ from (by have hq := iMadeBy_any A1 c1 _ _ T (1) _ (r5.below hHeld z5) (Nat.le_trans z5 hHeld.size) hS; rw [HTl.out] at hq; exact hq)).mono ?_
          rw [HM.out]
          rintro e wc ⟨rfl, bc⟩
          refine hK.out _ _ ?_ (fun hHeld => ?_)
          · exact hHeld.trans (bc.mono hHeld.size)
          clear hK K
          try simp only [Act.put, List.setIfInBounds_toArray, List.set_cons_zero, List.set_cons_succ]
          first
            | (refine wpAnyH_take (i := 18) (v := ?_) (by simp only [List.getElem?_toArray, List.getElem?_cons_succ, List.getElem?_cons_zero]; rfl) (by kernel_rfl) (by kernel_rfl) (by kernel_rfl) (fun _ _ _ h => h) (Or.inl ⟨by rfl, ?_⟩) hHeld ?_
               rotate_left
               · intro w_ hSw
                 (try dsimp only at hSw)
                 first
                   | (go_simp; done)
                   | (go_simp; with_reducible rfl))
            | (refine wpAnyH_take (i := 18) (v := undef) (by simp only [List.getElem?_toArray, List.getElem?_cons_succ, List.getElem?_cons_zero]; rfl) (by kernel_rfl) (by kernel_rfl) (by kernel_rfl) (fun _ _ _ h => h) (Or.inr ⟨by rfl, rfl⟩) hHeld ?_)
          try simp only [Act.put, List.setIfInBounds_toArray, List.set_cons_zero, List.set_cons_succ]
          first
            | (refine wpAnyH_take (i := 19) (v := ?_) (by simp only [List.getElem?_toArray, List.getElem?_cons_succ, List.getElem?_cons_zero]; rfl) (by kernel_rfl) (by kernel_rfl) (by kernel_rfl) (fun _ _ _ h => h) (Or.inl ⟨by rfl, ?_⟩) hHeld ?_
               rotate_left
               · intro w_ hSw
                 (try dsimp only at hSw)
                 first
                   | (go_simp; done)
                   | (go_simp; with_reducible rfl))
            | (refine wpAnyH_take (i := 19) (v := undef) (by simp only [List.getElem?_toArray, List.getElem?_cons_succ, List.getElem?_cons_zero]; rfl) (by kernel_rfl) (by kernel_rfl) (by kernel_rfl) (fun _ _ _ h => h) (Or.inr ⟨by rfl, rfl⟩) hHeld ?_)
          try simp only [Act.put, List.setIfInBounds_toArray, List.set_cons_zero, List.set_cons_succ]
          first
            | (refine wpAnyH_take (i := 20) (v := ?_) (by simp only [List.getElem?_toArray, List.getElem?_cons_succ, List.getElem?_cons_zero]; rfl) (by kernel_rfl) (by kernel_rfl) (by kernel_rfl) (fun _ _ _ h => h) (Or.inl ⟨by rfl, ?_⟩) hHeld ?_
               rotate_left
               · intro w_ hSw
                 (try dsimp only at hSw)
                 first
                   | (go_simp; done)
                   | (go_simp; with_reducible rfl))
            | (refine wpAnyH_take (i := 20) (v := undef) (by simp only [List.getElem?_toArray, List.getElem?_cons_succ, List.getElem?_cons_zero]; rfl) (by kernel_rfl) (by kernel_rfl) (by kernel_rfl) (fun _ _ _ h => h) (Or.inr ⟨by rfl, rfl⟩) hHeld ?_)
          try simp only [Act.put, List.setIfInBounds_toArray, List.set_cons_zero, List.set_cons_succ]
          refine wpAnyH_done (by kernel_rfl) (NoPanic.normal ?_) _
          go_wp2
          go_ret
          exact ⟨rfl, B5.trans (hHeld.mono B5.size)⟩
    · go_wp2_with fail
      refine (iFreeTable_any (2) _).mono ?_
      rw [freeT_two]
      rintro e w2 ⟨A1, c1, rfl, b2, g1⟩
      have B2 := B1.trans (b2.mono B1.size)
      go_wp2_with fail
      refine (sFreeTable_any (2) _).mono ?_
      rw [freeT_two]
      rintro e w3 ⟨A2, c2, rfl, b3, m1⟩
      have B3 := B2.trans (b3.mono B2.size)
      have r1 := g1.mat.below b3 (Nat.le_refl _)
      clear g1
      have hS : Small f2L := ⟨by decide, by decide⟩
      go_wp2_with fail
      refine (sameRows_same _ _ _ _ _ _ _ _ _ _ r1 m1 hS).mono ?_
      rintro e w4 ⟨rfl, q4⟩
      have B4 := B3.trans (q4.below w.heap.size)
      have z4 : w2.heap.size ≤ w4.heap.size := Nat.le_trans b3.size (q4.below w3.heap.size).size
      replace r1 := r1.quiet q4
      clear m1 q4
      have HB := hide f2_band
      have HC := hide f2_count
      have HM := hide f2_made
      obtain ⟨T, hT⟩ : ∃ T : List (List Int), T = f2L := ⟨_, rfl⟩
      have hTl : T.length = 6 := by rw [hT]; rfl
      rw [← hT] at r1 hS HB HC HM
      try rw [← hT]
      clear hT
      try rw [hTl]
      have HTl := hide hTl
      clear hTl
      go_wp2_with fail
      refine (sAllWords_any (2) _).mono ?_
      rw [allW_two]
      rintro e w5 ⟨A3, c3, rfl, b5, m2, k3, k4⟩
      have B5 := B4.trans (b5.mono B4.size)
      have r5 := r1.below b5 z4
      have z5 := Nat.le_trans z4 b5.size
      rw [show w2L.length = 6 from rfl]
      obtain ⟨bb, oo, rfl, _, _, d0⟩ := m2 0 (by decide)
      obtain ⟨b', o', e', _, _, d1⟩ := m2 1 (by decide)
      obtain ⟨rfl, rfl⟩ : bb = b' ∧ oo = o' := by simpa using e'
      clear e'
      obtain ⟨b', o', e', _, _, d2⟩ := m2 2 (by decide)
      obtain ⟨rfl, rfl⟩ : bb = b' ∧ oo = o' := by simpa using e'
      clear e'
      obtain ⟨b', o', e', _, _, d3⟩ := m2 3 (by decide)
      obtain ⟨rfl, rfl⟩ : bb = b' ∧ oo = o' := by simpa using e'
      clear e'
      obtain ⟨b', o', e', _, _, d4⟩ := m2 4 (by decide)
      obtain ⟨rfl, rfl⟩ : bb = b' ∧ oo = o' := by simpa using e'
      clear e'
      obtain ⟨b', o', e', _, _, d5⟩ := m2 5 (by decide)
      obtain ⟨rfl, rfl⟩ : bb = b' ∧ oo = o' := by simpa using e'
      clear e'
      obtain ⟨s0, h0⟩ : ∃ s, s = bs (sl w2L 0) := ⟨_, rfl⟩
      have y0 : s0.size = 1 := by rw [h0, size_bs]; rfl
      rw [← h0] at d0
      clear h0
      obtain ⟨s1, h1⟩ : ∃ s, s = bs (sl w2L 1) := ⟨_, rfl⟩
      have y1 : s1.size = 4 := by rw [h1, size_bs]; rfl
      rw [← h1] at d1
      clear h1
      obtain ⟨s2, h2⟩ : ∃ s, s = bs (sl w2L 2) := ⟨_, rfl⟩
      have y2 : s2.size = 4 := by rw [h2, size_bs]; rfl
      rw [← h2] at d2
      clear h2
      obtain ⟨s3, h3⟩ : ∃ s, s = bs (sl w2L 3) := ⟨_, rfl⟩
      have y3 : s3.size = 1 := by rw [h3, size_bs]; rfl
      rw [← h3] at d3
      clear h3
      obtain ⟨s4, h4⟩ : ∃ s, s = bs (sl w2L 4) := ⟨_, rfl⟩
      have y4 : s4.size = 4 := by rw [h4, size_bs]; rfl
      rw [← h4] at d4
      clear h4
      obtain ⟨s5, h5⟩ : ∃ s, s = bs (sl w2L 5) := ⟨_, rfl⟩
      have y5 : s5.size = 4 := by rw [h5, size_bs]; rfl
      rw [← h5] at d5
      clear h5
      replace d0 : w5.cell? ⟨bb, oo, none⟩ = some (.string s0) := d0
      clear m2 k3 k4 r1
      go_wp2
      go_loopg [7, 6] 6 (fun g i s wr => ∃ k : Nat, k ≤ 6 ∧ Hid (g = 6 - k) ∧ i = .int .i64 k ∧ s = .int .i64 (el [0, 1, 1, 1, 9, 9, 9] k) ∧ w5 = wr)
      case atStart => exact ⟨0, Nat.zero_le _, rfl, rfl, rfl, rfl⟩
      case round =>
        obtain ⟨k, hk, hg, rfl, rfl, rfl⟩ := hrel
        obtain rfl | rfl | rfl | rfl | rfl | rfl | rfl : k = 0 ∨ k = 1 ∨ k = 2 ∨ k = 3 ∨ k = 4 ∨ k = 5 ∨ k = 6 := by omega
        · rw [show el [0, 1, 1, 1, 9, 9, 9] 0 = 0 from rfl]
          go_wp2
          go_roundg (6 - 1)
          case measure => go_light; have := hg.out; omega
          case rel => go_light; exact ⟨1, by omega, rfl, rfl, rfl, rfl⟩
        · rw [show el [0, 1, 1, 1, 9, 9, 9] 1 = 1 from rfl]
          go_wp2
          go_roundg (6 - 2)
          case measure => go_light; have := hg.out; omega
          case rel => go_light; exact ⟨2, by omega, rfl, rfl, rfl, rfl⟩
        · rw [show el [0, 1, 1, 1, 9, 9, 9] 2 = 1 from rfl]
          go_wp2
          go_roundg (6 - 3)
          case measure => go_light; have := hg.out; omega
          case rel => go_light; exact ⟨3, by omega, rfl, rfl, rfl, rfl⟩
        · rw [show el [0, 1, 1, 1, 9, 9, 9] 3 = 1 from rfl]
          go_wp2
          go_roundg (6 - 4)
          case measure => go_light; have := hg.out; omega
          case rel => go_light; exact ⟨4, by omega, rfl, rfl, rfl, rfl⟩
        · rw [show el [0, 1, 1, 1, 9, 9, 9] 4 = 9 from rfl]
          go_wp2
          go_roundg (6 - 5)
          case measure => go_light; have := hg.out; omega
          case rel => go_light; exact ⟨5, by omega, rfl, rfl, rfl, rfl⟩
        · rw [show el [0, 1, 1, 1, 9, 9, 9] 5 = 9 from rfl]
          go_wp2
          go_roundg (6 - 6)
          case measure => go_light; have := hg.out; omega
          case rel => go_light; exact ⟨6, by omega, rfl, rfl, rfl, rfl⟩
        · have v1 : IntKind.i64.wrap 1 = 1 := rfl
          have v2 : IntKind.i64.wrap 2 = 2 := rfl
          have v3 : IntKind.i64.wrap 3 = 3 := rfl
          have v4 : IntKind.i64.wrap 4 = 4 := rfl
          have v63 : IntKind.i64.wrap 63 = 63 := rfl
          have v64 : IntKind.i64.wrap 64 = 64 := rfl
          rw [show el [0, 1, 1, 1, 9, 9, 9] 6 = 9 from rfl]
          go_wp2_with fail
          refine wp_region_noPanic ?_
          refine wp_region_held_drew (S := (fun W => Below w5.heap.size w5 W)) (by kernel_rfl) ?_ (fun hHeld => ?_)
          · exact (Below.refl _ _).drew
          first
            | (refine wpAnyH_take (i := 0) (v := ?_) (by simp only [List.getElem?_toArray, List.getElem?_cons_zero]; rfl) (by kernel_rfl) (by kernel_rfl) (by kernel_rfl) (fun _ _ _ h => h) (Or.inl ⟨by rfl, ?_⟩) hHeld ?_
               rotate_left
               · intro w_ hSw
                 (try dsimp only at hSw)
                 first
                   | (go_simp; done)
                   | (go_simp; with_reducible rfl))
            | (refine wpAnyH_take (i := 0) (v := undef) (by simp only [List.getElem?_toArray, List.getElem?_cons_zero]; rfl) (by kernel_rfl) (by kernel_rfl) (by kernel_rfl) (fun _ _ _ h => h) (Or.inr ⟨by rfl, rfl⟩) hHeld ?_)
          try simp only [Act.put, List.setIfInBounds_toArray, List.set_cons_zero, List.set_cons_succ]
          refine wpAnyH_ready (rs := [1]) (by kernel_rfl) (by simp) ?_
          refine AllReadyH.cons (by simp only [List.getElem?_toArray, List.getElem?_cons_succ, List.getElem?_cons_zero]; rfl) (fun K hK => ?_) AllReadyH.nil
          go_simp
          go_at_call 30
          refine (show Calls _ _ #[.slice A1 6 c1] _ _ from (by have hq := iBandOk_any A1 c1 _ _ T _ (r5.below hHeld z5) (Nat.le_trans z5 hHeld.size) hS; rw [HTl.out] at hq; exact hq)).mono ?_
          rw [HB.out]
          rintro e wa ⟨rfl, ba⟩
          refine hK.out _ _ ?_ (fun hHeld => ?_)
          · exact hHeld.trans (ba.mono hHeld.size)
          clear hK K
          try simp only [Act.put, List.setIfInBounds_toArray, List.set_cons_zero, List.set_cons_succ]
          first
            | (refine wpAnyH_take (i := 2) (v := ?_) (by simp only [List.getElem?_toArray, List.getElem?_cons_succ, List.getElem?_cons_zero]; rfl) (by kernel_rfl) (by kernel_rfl) (by kernel_rfl) (fun _ _ _ h => h) (Or.inl ⟨by rfl, ?_⟩) hHeld ?_
               rotate_left
               · intro w_ hSw
                 (try dsimp only at hSw)
                 first
                   | (go_simp; done)
                   | (go_simp; with_reducible rfl))
            | (refine wpAnyH_take (i := 2) (v := undef) (by simp only [List.getElem?_toArray, List.getElem?_cons_succ, List.getElem?_cons_zero]; rfl) (by kernel_rfl) (by kernel_rfl) (by kernel_rfl) (fun _ _ _ h => h) (Or.inr ⟨by rfl, rfl⟩) hHeld ?_)
          try simp only [Act.put, List.setIfInBounds_toArray, List.set_cons_zero, List.set_cons_succ]
          first
            | (refine wpAnyH_take (i := 3) (v := ?_) (by simp only [List.getElem?_toArray, List.getElem?_cons_succ, List.getElem?_cons_zero]; rfl) (by kernel_rfl) (by kernel_rfl) (by kernel_rfl) (fun _ _ _ h => h) (Or.inl ⟨by rfl, ?_⟩) hHeld ?_
               rotate_left
               · intro w_ hSw
                 (try dsimp only at hSw)
                 first
                   | (go_simp; done)
                   | (go_simp; with_reducible rfl))
            | (refine wpAnyH_take (i := 3) (v := undef) (by simp only [List.getElem?_toArray, List.getElem?_cons_succ, List.getElem?_cons_zero]; rfl) (by kernel_rfl) (by kernel_rfl) (by kernel_rfl) (fun _ _ _ h => h) (Or.inr ⟨by rfl, rfl⟩) hHeld ?_)
          try simp only [Act.put, List.setIfInBounds_toArray, List.set_cons_zero, List.set_cons_succ]
          first
            | (refine wpAnyH_take (i := 5) (v := ?_) (by simp only [List.getElem?_toArray, List.getElem?_cons_succ, List.getElem?_cons_zero]; rfl) (by kernel_rfl) (by kernel_rfl) (by kernel_rfl) (fun _ _ _ h => h) (Or.inl ⟨by rfl, ?_⟩) hHeld ?_
               rotate_left
               · intro w_ hSw
                 (try dsimp only at hSw)
                 first
                   | (go_simp; done)
                   | (go_simp; with_reducible rfl))
            | (refine wpAnyH_take (i := 5) (v := undef) (by simp only [List.getElem?_toArray, List.getElem?_cons_succ, List.getElem?_cons_zero]; rfl) (by kernel_rfl) (by kernel_rfl) (by kernel_rfl) (fun _ _ _ h => h) (Or.inr ⟨by rfl, rfl⟩) hHeld ?_)
          try simp only [Act.put, List.setIfInBounds_toArray, List.set_cons_zero, List.set_cons_succ]
          first
            | (refine wpAnyH_take (i := 6) (v := ?_) (by simp only [List.getElem?_toArray, List.getElem?_cons_succ, List.getElem?_cons_zero]; rfl) (by kernel_rfl) (by kernel_rfl) (by kernel_rfl) (fun _ _ _ h => h) (Or.inl ⟨by rfl, ?_⟩) hHeld ?_
               rotate_left
               · intro w_ hSw
                 (try dsimp only at hSw)
                 first
                   | (go_simp; done)
                   | (go_simp; with_reducible rfl))
            | (refine wpAnyH_take (i := 6) (v := undef) (by simp only [List.getElem?_toArray, List.getElem?_cons_succ, List.getElem?_cons_zero]; rfl) (by kernel_rfl) (by kernel_rfl) (by kernel_rfl) (fun _ _ _ h => h) (Or.inr ⟨by rfl, rfl⟩) hHeld ?_)
          try simp only [Act.put, List.setIfInBounds_toArray, List.set_cons_zero, List.set_cons_succ]
          first
            | (refine wpAnyH_take (i := 7) (v := ?_) (by simp only [List.getElem?_toArray, List.getElem?_cons_succ, List.getElem?_cons_zero]; rfl) (by kernel_rfl) (by kernel_rfl) (by kernel_rfl) (fun _ _ _ h => h) (Or.inl ⟨by rfl, ?_⟩) hHeld ?_
               rotate_left
               · intro w_ hSw
                 (try dsimp only at hSw)
                 first
                   | (go_simp; done)
                   | (go_simp; with_reducible rfl))
            | (refine wpAnyH_take (i := 7) (v := undef) (by simp only [List.getElem?_toArray, List.getElem?_cons_succ, List.getElem?_cons_zero]; rfl) (by kernel_rfl) (by kernel_rfl) (by kernel_rfl) (fun _ _ _ h => h) (Or.inr ⟨by rfl, rfl⟩) hHeld ?_)
          try simp only [Act.put, List.setIfInBounds_toArray, List.set_cons_zero, List.set_cons_succ]
          refine wpAnyH_ready (rs := [4]) (by kernel_rfl) (by simp) ?_
          refine AllReadyH.cons (by simp only [List.getElem?_toArray, List.getElem?_cons_succ, List.getElem?_cons_zero]; rfl) (fun K hK => ?_) AllReadyH.nil
          go_simp
          go_at_call 31
          refine (show Calls _ _ #[.slice A1 6 c1] _ _ from (by have hq := iCountLevels_any A1 c1 _ _ T _ (r5.below hHeld z5) (Nat.le_trans z5 hHeld.size) hS; rw [HTl.out] at hq; exact hq)).mono ?_
          rw [HC.out]
          rintro e wb ⟨rfl, bb2⟩
          refine hK.out _ _ ?_ (fun hHeld => ?_)
          · exact hHeld.trans (bb2.mono hHeld.size)
          clear hK K
          try simp only [Act.put, List.setIfInBounds_toArray, List.set_cons_zero, List.set_cons_succ]
          first
            | (refine wpAnyH_take (i := 8) (v := ?_) (by simp only [List.getElem?_toArray, List.getElem?_cons_succ, List.getElem?_cons_zero]; rfl) (by kernel_rfl) (by kernel_rfl) (by kernel_rfl) (fun _ _ _ h => h) (Or.inl ⟨by rfl, ?_⟩) hHeld ?_
               rotate_left
               · intro w_ hSw
                 (try dsimp only at hSw)
                 first
                   | (go_simp; done)
                   | (go_simp; with_reducible rfl))
            | (refine wpAnyH_take (i := 8) (v := undef) (by simp only [List.getElem?_toArray, List.getElem?_cons_succ, List.getElem?_cons_zero]; rfl) (by kernel_rfl) (by kernel_rfl) (by kernel_rfl) (fun _ _ _ h => h) (Or.inr ⟨by rfl, rfl⟩) hHeld ?_)
          try simp only [Act.put, List.setIfInBounds_toArray, List.set_cons_zero, List.set_cons_succ]
          first
            | (refine wpAnyH_take (i := 9) (v := ?_) (by simp only [List.getElem?_toArray, List.getElem?_cons_succ, List.getElem?_cons_zero]; rfl) (by kernel_rfl) (by kernel_rfl) (by kernel_rfl) (fun _ _ _ h => h) (Or.inl ⟨by rfl, ?_⟩) hHeld ?_
               rotate_left
               · intro w_ hSw
                 (try dsimp only at hSw)
                 first
                   | (go_simp; done)
                   | (go_simp; with_reducible rfl))
            | (refine wpAnyH_take (i := 9) (v := undef) (by simp only [List.getElem?_toArray, List.getElem?_cons_succ, List.getElem?_cons_zero]; rfl) (by kernel_rfl) (by kernel_rfl) (by kernel_rfl) (fun _ _ _ h => h) (Or.inr ⟨by rfl, rfl⟩) hHeld ?_)
          try simp only [Act.put, List.setIfInBounds_toArray, List.set_cons_zero, List.set_cons_succ]
          first
            | (refine wpAnyH_take (i := 10) (v := ?_) (by simp only [List.getElem?_toArray, List.getElem?_cons_succ, List.getElem?_cons_zero]; rfl) (by kernel_rfl) (by kernel_rfl) (by kernel_rfl) (fun _ _ _ h => h) (Or.inl ⟨by rfl, ?_⟩) hHeld ?_
               rotate_left
               · intro w_ hSw
                 (try dsimp only at hSw)
                 first
                   | (go_simp; done)
                   | (go_simp; with_reducible rfl))
            | (refine wpAnyH_take (i := 10) (v := undef) (by simp only [List.getElem?_toArray, List.getElem?_cons_succ, List.getElem?_cons_zero]; rfl) (by kernel_rfl) (by kernel_rfl) (by kernel_rfl) (fun _ _ _ h => h) (Or.inr ⟨by rfl, rfl⟩) hHeld ?_)
          try simp only [Act.put, List.setIfInBounds_toArray, List.set_cons_zero, List.set_cons_succ]
          first
            | (refine wpAnyH_take (i := 11) (v := ?_) (by simp only [List.getElem?_toArray, List.getElem?_cons_succ, List.getElem?_cons_zero]; rfl) (by kernel_rfl) (by kernel_rfl) (by kernel_rfl) (fun _ _ _ h => h) (Or.inl ⟨by rfl, ?_⟩) hHeld ?_
               rotate_left
               · intro w_ hSw
                 (try dsimp only at hSw)
                 first
                   | (go_simp; done)
                   | (go_simp; with_reducible rfl))
            | (refine wpAnyH_take (i := 11) (v := undef) (by simp only [List.getElem?_toArray, List.getElem?_cons_succ, List.getElem?_cons_zero]; rfl) (by kernel_rfl) (by kernel_rfl) (by kernel_rfl) (fun _ _ _ h => h) (Or.inr ⟨by rfl, rfl⟩) hHeld ?_)
          try simp only [Act.put, List.setIfInBounds_toArray, List.set_cons_zero, List.set_cons_succ]
          first
            | (refine wpAnyH_take (i := 12) (v := ?_) (by simp only [List.getElem?_toArray, List.getElem?_cons_succ, List.getElem?_cons_zero]; rfl) (by kernel_rfl) (by kernel_rfl) (by kernel_rfl) (fun _ _ _ h => h) (Or.inl ⟨by rfl, ?_⟩) hHeld ?_
               rotate_left
               · intro w_ hSw
                 (try dsimp only at hSw)
                 first
                   | (go_simp; done)
                   | (go_simp; with_reducible rfl))
            | (refine wpAnyH_take (i := 12) (v := undef) (by simp only [List.getElem?_toArray, List.getElem?_cons_succ, List.getElem?_cons_zero]; rfl) (by kernel_rfl) (by kernel_rfl) (by kernel_rfl) (fun _ _ _ h => h) (Or.inr ⟨by rfl, rfl⟩) hHeld ?_)
          try simp only [Act.put, List.setIfInBounds_toArray, List.set_cons_zero, List.set_cons_succ]
          first
            | (refine wpAnyH_take (i := 14) (v := ?_) (by simp only [List.getElem?_toArray, List.getElem?_cons_succ, List.getElem?_cons_zero]; rfl) (by kernel_rfl) (by kernel_rfl) (by kernel_rfl) (fun _ _ _ h => h) (Or.inl ⟨by rfl, ?_⟩) hHeld ?_
               rotate_left
               · intro w_ hSw
                 (try dsimp only at hSw)
                 first
                   | (go_simp; done)
                   | (go_simp; with_reducible rfl))
            | (refine wpAnyH_take (i := 14) (v := undef) (by simp only [List.getElem?_toArray, List.getElem?_cons_succ, List.getElem?_cons_zero]; rfl) (by kernel_rfl) (by kernel_rfl) (by kernel_rfl) (fun _ _ _ h => h) (Or.inr ⟨by rfl, rfl⟩) hHeld ?_)
          try simp only [Act.put, List.setIfInBounds_toArray, List.set_cons_zero, List.set_cons_succ]
          first
            | (refine wpAnyH_take (i := 15) (v := ?_) (by simp only [List.getElem?_toArray, List.getElem?_cons_succ, List.getElem?_cons_zero]; rfl) (by kernel_rfl) (by kernel_rfl) (by kernel_rfl) (fun _ _ _ h => h) (Or.inl ⟨by rfl, ?_⟩) hHeld ?_
               rotate_left
               · intro w_ hSw
                 (try dsimp only at hSw)
                 first
                   | (go_simp; done)
                   | (go_simp; with_reducible rfl))
            | (refine wpAnyH_take (i := 15) (v := undef) (by simp only [List.getElem?_toArray, List.getElem?_cons_succ, List.getElem?_cons_zero]; rfl) (by kernel_rfl) (by kernel_rfl) (by kernel_rfl) (fun _ _ _ h => h) (Or.inr ⟨by rfl, rfl⟩) hHeld ?_)
          try simp only [Act.put, List.setIfInBounds_toArray, List.set_cons_zero, List.set_cons_succ]
          first
            | (refine wpAnyH_take (i := 16) (v := ?_) (by simp only [List.getElem?_toArray, List.getElem?_cons_succ, List.getElem?_cons_zero]; rfl) (by kernel_rfl) (by kernel_rfl) (by kernel_rfl) (fun _ _ _ h => h) (Or.inl ⟨by rfl, ?_⟩) hHeld ?_
               rotate_left
               · intro w_ hSw
                 (try dsimp only at hSw)
                 first
                   | (go_simp; done)
                   | (go_simp; with_reducible rfl))
            | (refine wpAnyH_take (i := 16) (v := undef) (by simp only [List.getElem?_toArray, List.getElem?_cons_succ, List.getElem?_cons_zero]; rfl) (by kernel_rfl) (by kernel_rfl) (by kernel_rfl) (fun _ _ _ h => h) (Or.inr ⟨by rfl, rfl⟩) hHeld ?_)
          try simp only [Act.put, List.setIfInBounds_toArray, List.set_cons_zero, List.set_cons_succ]
          first
            | (refine wpAnyH_take (i := 17) (v := ?_) (by simp only [List.getElem?_toArray, List.getElem?_cons_succ, List.getElem?_cons_zero]; rfl) (by kernel_rfl) (by kernel_rfl) (by kernel_rfl) (fun _ _ _ h => h) (Or.inl ⟨by rfl, ?_⟩) hHeld ?_
               rotate_left
               · intro w_ hSw
                 (try dsimp only at hSw)
                 first
                   | (go_simp; done)
                   | (go_simp; with_reducible rfl))
            | (refine wpAnyH_take (i := 17) (v := undef) (by simp only [List.getElem?_toArray, List.getElem?_cons_succ, List.getElem?_cons_zero]; rfl) (by kernel_rfl) (by kernel_rfl) (by kernel_rfl) (fun _ _ _ h => h) (Or.inr ⟨by rfl, rfl⟩) hHeld ?_)
          try simp only [Act.put, List.setIfInBounds_toArray, List.set_cons_zero, List.set_cons_succ]
          refine wpAnyH_ready (rs := [13]) (by kernel_rfl) (by simp) ?_
          refine AllReadyH.cons (by simp only [List.getElem?_toArray, List.getElem?_cons_succ, List.getElem?_cons_zero]; rfl) (fun K hK => ?_) AllReadyH.nil
          go_simp
          go_at_call 32
          refine (show Calls _ _ #[.slice A1 6 c1, .int .i64 9] _ _ from (by have hq := iMadeBy_any A1 c1 _ _ T (9) _ (r5.below hHeld z5) (Nat.le_trans z5 hHeld.size) hS; rw [HTl.out] at hq; exact hq)).mono ?_
          rw [HM.out]
          rintro e wc ⟨rfl, bc⟩
          refine hK.out _ _ ?_ (fun hHeld => ?_)
          · exact hHeld.trans (bc.mono hHeld.size)
          clear hK K
          try simp only [Act.put, List.setIfInBounds_toArray, List.set_cons_zero, List.set_cons_succ]
          first
            | (refine wpAnyH_take (i := 18) (v := ?_) (by simp only [List.getElem?_toArray, List.getElem?_cons_succ, List.getElem?_cons_zero]; rfl) (by kernel_rfl) (by kernel_rfl) (by kernel_rfl) (fun _ _ _ h => h) (Or.inl ⟨by rfl, ?_⟩) hHeld ?_
               rotate_left
               · intro w_ hSw
                 (try dsimp only at hSw)
                 first
                   | (go_simp; done)
                   | (go_simp; with_reducible rfl))
            | (refine wpAnyH_take (i := 18) (v := undef) (by simp only [List.getElem?_toArray, List.getElem?_cons_succ, List.getElem?_cons_zero]; rfl) (by kernel_rfl) (by kernel_rfl) (by kernel_rfl) (fun _ _ _ h => h) (Or.inr ⟨by rfl, rfl⟩) hHeld ?_)
          try simp only [Act.put, List.setIfInBounds_toArray, List.set_cons_zero, List.set_cons_succ]
          first
            | (refine wpAnyH_take (i := 19) (v := ?_) (by simp only [List.getElem?_toArray, List.getElem?_cons_succ, List.getElem?_cons_zero]; rfl) (by kernel_rfl) (by kernel_rfl) (by kernel_rfl) (fun _ _ _ h => h) (Or.inl ⟨by rfl, ?_⟩) hHeld ?_
               rotate_left
               · intro w_ hSw
                 (try dsimp only at hSw)
                 first
                   | (go_simp; done)
                   | (go_simp; with_reducible rfl))
            | (refine wpAnyH_take (i := 19) (v := undef) (by simp only [List.getElem?_toArray, List.getElem?_cons_succ, List.getElem?_cons_zero]; rfl) (by kernel_rfl) (by kernel_rfl) (by kernel_rfl) (fun _ _ _ h => h) (Or.inr ⟨by rfl, rfl⟩) hHeld ?_)
          try simp only [Act.put, List.setIfInBounds_toArray, List.set_cons_zero, List.set_cons_succ]
          first
            | (refine wpAnyH_take (i := 20) (v := ?_) (by simp only [List.getElem?_toArray, List.getElem?_cons_succ, List.getElem?_cons_zero]; rfl) (by kernel_rfl) (by kernel_rfl) (by kernel_rfl) (fun _ _ _ h => h) (Or.inl ⟨by rfl, ?_⟩) hHeld ?_
               rotate_left
               · intro w_ hSw
                 (try dsimp only at hSw)
                 first
                   | (go_simp; done)
                   | (go_simp; with_reducible rfl))
            | (refine wpAnyH_take (i := 20) (v := undef) (by simp only [List.getElem?_toArray, List.getElem?_cons_succ, List.getElem?_cons_zero]; rfl) (by kernel_rfl) (by kernel_rfl) (by kernel_rfl) (fun _ _ _ h => h) (Or.inr ⟨by rfl, rfl⟩) hHeld ?_)
          try simp only [Act.put, List.setIfInBounds_toArray, List.set_cons_zero, List.set_cons_succ]
          refine wpAnyH_done (by kernel_rfl) (NoPanic.normal ?_) _
          go_wp2
          go_ret
          exact ⟨rfl, B5.trans (hHeld.mono B5.size)⟩
    · go_wp2_with fail
      refine (iFreeTable_any (3) _).mono ?_
      rw [show freeT 3 = [] from freeT_not rfl]
      rintro e w2 ⟨A1, c1, rfl, b2, g1⟩
      have B2 := B1.trans (b2.mono B1.size)
      go_wp2_with fail
      refine (sFreeTable_any (3) _).mono ?_
      rw [show freeT 3 = [] from freeT_not rfl]
      rintro e w3 ⟨A2, c2, rfl, b3, m1⟩
      have B3 := B2.trans (b3.mono B2.size)
      have r1 := g1.mat.below b3 (Nat.le_refl _)
      clear g1
      have hS : Small ([] : List (List Int)) := ⟨by decide, by decide⟩
      go_wp2_with fail
      refine (sameRows_same _ _ _ _ _ _ _ _ _ _ r1 m1 hS).mono ?_
      rintro e w4 ⟨rfl, q4⟩
      have B4 := B3.trans (q4.below w.heap.size)
      have z4 : w2.heap.size ≤ w4.heap.size := Nat.le_trans b3.size (q4.below w3.heap.size).size
      replace r1 := r1.quiet q4
      clear m1 q4
      go_wp2_with fail
      refine (alive_any _).mono ?_
      rintro e w5 ⟨rfl, b5⟩
      go_wp2
      go_ret
      exact ⟨rfl, B4.trans (b5.mono B4.size)⟩

end Go.Proofs.Ytjmjfmgbfjmaaaa
