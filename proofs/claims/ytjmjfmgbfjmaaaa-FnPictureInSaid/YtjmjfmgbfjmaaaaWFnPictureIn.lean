/- The walk of FnPictureIn. -/
import Derived.Test.YtjmjfmgbfjmaaaaSfreeT
import Derived.Test.YtjmjfmgbfjmaaaaIfree
import Derived.Test.YtjmjfmgbfjmaaaaIband
import Derived.Test.YtjmjfmgbfjmaaaaHelp
import Derived.Test.YtjmjfmgbfjmaaaaEq
import Derived.Test.YtjmjfmgbfjmaaaaValP
import Derived.Test.YtjmjfmgbfjmaaaaDrawBands
import Derived.Test.YtjmjfmgbfjmaaaaDrawFrees
import Derived.Test.YtjmjfmgbfjmaaaaFreeQ
import Derived.Deep.RegionHeld3
namespace Go.Proofs.Ytjmjfmgbfjmaaaa
open Go.RowKit
set_option linter.unusedVariables false

theorem f2_rows : f2L = rowsX w2L 6 := by decide +kernel
theorem f2_at {k j : Nat} (hk : k < 6) (hj : j < 6) : el (rw_ f2L k) j = ((ixP w2L k j : Nat) : Int) := by
  rw [f2_rows, rw_rowsX hk]
  exact el_rowX hj
theorem f2_ix {k j : Nat} (hk : k < 6) (hj : j < 6) : ixP w2L k j < 6 := freeOk2.ix k j hk hj
theorem pic_at {T : List (List Int)} {a b : Int} {k : Nat} (hk : k < 6) : el (picC T a b 6) k = valW T (sl w2L k) a b a := by
  rw [← allW_two]
  simp [picC, el, List.getD, hk]
theorem pic_can {T : List (List Int)} {a b : Int} {u : List UInt8} (h : canP T a b = true) (hu : okW u = true) : canV T u a b a = true := by
  unfold canP at h
  unfold canV
  simp only [Bool.and_eq_true] at h ⊢
  exact ⟨h.1, hu, h.2.1, h.2.2, h.2.1⟩
/-- Products of the picture are pictures of products. -/
theorem pic_mul {T : List (List Int)} {a b : Int} {k j : Nat} (bd : bandT T = true) (h : canP T a b = true) (hk : k < 6) (hj : j < 6) : prodT T [el (picC T a b 6) k, el (picC T a b 6) j] = el (picC T a b 6) (ixP w2L k j) := by
  have F := freeOk2
  obtain ⟨u1, l1⟩ := F.word k hk
  obtain ⟨u2, l2⟩ := F.word j hj
  have hw : okW (sl w2L k ++ sl w2L j) = true := okW_app u1 u2 (by omega)
  have e : sl w2L (ixP w2L k j) = made (sl w2L k ++ sl w2L j) := of_decide_eq_true ((F.uniq _ k j (F.ix k j hk hj) hk hj).trans (decide_eq_true rfl))
  rw [pic_at hk, pic_at hj, pic_at (f2_ix hk hj), valW_app (grpT_iff.2 (bandT_iff.1 bd).g) (pic_can h u1) (pic_can h u2) (pic_can h hw), e]
  exact valW_same bd (same_made _).symm hw (okW_made hw)
theorem pic_rng {T : List (List Int)} {a b : Int} {k : Nat} (hT : T.length ≤ 1048576) (hk : k < 6) : -1 ≤ el (picC T a b 6) k ∧ el (picC T a b 6) k ≤ 1048576 := by
  rw [pic_at hk]
  exact valW_rng hT
set_option maxRecDepth 20000 in
set_option maxHeartbeats 16000000 in
theorem fnPictureIn_walk (A : Option Addr) (n c : Nat) (w : World) (h : Bytes w w.heap.size A n) (hc : n ≤ c) (hc2 : c ≤ 9223372036854775807) :
    Calls Try.prog 7 #[.slice A n c] w fun e w' => e = .returned (.bool true) ∧ Below w.heap.size w w' := by
  by_cases hn : (1048576 : Int) < (n : Int)
  · go_enter Try.func7, Try.ntmps7
    go_wp2
    go_ret
    exact ⟨rfl, Below.refl _ _⟩
  · go_enter Try.func7, Try.ntmps7
    go_wp2_with fail
    refine (drawPictureIn_any A n c w h hc hc2).mono ?_
    rintro e w1 ⟨A0, c0, T, x, y, rfl, B1, h1, hS⟩
    have hlT := hS.len
    have hlp : (picW T x y).length ≤ 1048576 := Nat.le_trans (len_picW T x y) (by decide)
    go_wp2_with fail
    refine (iPictureIn_any A0 c0 _ _ T x y _ h1 (Nat.le_refl _) hS).mono ?_
    rintro e w2 ⟨A1, c1, rfl, b2, g1, k1, k2⟩
    have B2 := B1.trans (b2.mono B1.size)
    have h2 := h1.below b2 (Nat.le_refl _)
    go_wp2_with fail
    refine (sPictureIn_any A0 c0 _ _ T x y _ h2 b2.size hS).mono ?_
    rintro e w3 ⟨A2, c2, rfl, b3, m1, k3, k4⟩
    have B3 := B2.trans (b3.mono B2.size)
    have h3 := h2.below b3 b2.size
    have r1 := g1.row.below b3 (Nat.le_refl _)
    clear g1 k1 k2 k3 k4 h1 h2
    go_wp2_with fail
    refine (sameInts_same _ _ _ _ _ _ _ _ _ _ r1 m1 hlp).mono ?_
    rintro e w4 ⟨rfl, q4⟩
    have B4 := B3.trans (q4.below w.heap.size)
    have z4 : w2.heap.size ≤ w4.heap.size := Nat.le_trans b3.size (q4.below w3.heap.size).size
    have z1 : w1.heap.size ≤ w4.heap.size := Nat.le_trans b2.size z4
    replace r1 := r1.quiet q4
    replace h3 := h3.quiet q4
    clear m1 q4 hlp
    cases hcan : canP T x y
    · rw [picW_not hcan]
      go_wp2_with fail
      refine (alive_any _).mono ?_
      rintro e w5 ⟨rfl, b5⟩
      go_wp2
      go_ret
      exact ⟨rfl, B4.trans (b5.mono B4.size)⟩
    rw [picW_ok hcan] at r1 ⊢
    have HV := hide (fun k (hk : k < 6) => pic_rng (T := T) (a := x) (b := y) hlT hk)
    have HP := hide (fun (bd : bandT T = true) k j (hk : k < 6) (hj : j < 6) => pic_mul bd hcan hk hj)
    obtain ⟨P, hP⟩ : ∃ P, P = picC T x y 6 := ⟨_, rfl⟩
    have hPl : P.length = 6 := by rw [hP, len_picC]
    rw [← hP] at r1 HV HP ⊢
    rw [hPl]
    have HPl := hide hPl
    clear hP hPl hcan
    go_wp2_with fail
    refine (sFreeTable_any 2 _).mono ?_
    rw [freeT_two]
    rintro e w5 ⟨A5, c5, rfl, b5, m5⟩
    have B5 := B4.trans (b5.mono B4.size)
    have r5 := r1.below b5 z4
    have h5 := h3.below b5 z1
    have z5 := Nat.le_trans z1 b5.size
    have y5 := Nat.le_trans z4 b5.size
    have HF := hide (fun k j (hk : k < 6) (hj : j < 6) => f2_at hk hj)
    have HI := hide (fun k j (hk : k < 6) (hj : j < 6) => f2_ix hk hj)
    have HR := hide (show ∀ k, k < 6 → (rw_ f2L k).length = 6 from by decide)
    obtain ⟨F, hF⟩ : ∃ F, F = f2L := ⟨_, rfl⟩
    have hFl : F.length = 6 := by rw [hF]; rfl
    rw [← hF] at m5 HF HR ⊢
    rw [hFl]
    have HFl := hide hFl
    clear hF hFl r1 h3
    obtain ⟨bl, ol, rfl, _, hbl, _⟩ := r5 0 (by rw [HPl.out]; decide)
    obtain ⟨bf, of, _, _, rfl, _, hbf, _, _⟩ := m5 0 (by rw [HFl.out]; decide)
    have lbl : bl < w5.heap.size := Nat.lt_of_lt_of_le hbl y5
    cases hb : bandT T
    · go_wp2
      go_loopg [8] 1 (fun g i wr => i = .int .i64 0 ∧ w5 = wr)
      case atStart => exact ⟨rfl, rfl⟩
      case round =>
        obtain ⟨rfl, rfl⟩ := hrel
        have hBx := Below.refl w5.heap.size w5
        go_wp2_with fail
        refine (iBandOk_any A0 c0 _ _ T _ (h5.below hBx z5) (Nat.le_trans z5 hBx.size) hS).mono ?_
        rw [hb]
        rintro e w6 ⟨rfl, bbw6⟩
        go_wp2_with fail
        refine (alive_any _).mono ?_
        rintro e wz ⟨rfl, bz⟩
        go_wp2
        go_ret
        exact ⟨rfl, (B5.trans (bbw6.mono B5.size)).trans (bz.mono (B5.trans (bbw6.mono B5.size)).size)⟩
    · go_wp2
      go_loopg [8] 6 (fun g i wr => ∃ k : Nat, k ≤ 6 ∧ Hid (g = 6 - k) ∧ i = .int .i64 k ∧ Below w5.heap.size w5 wr)
      case atStart => exact ⟨0, Nat.zero_le _, rfl, rfl, Below.refl _ _⟩
      case round =>
        obtain ⟨k, hk, hg, rfl, hBx⟩ := hrel
        by_cases hkt : k < 6
        · go_wp2_with fail
          refine (iBandOk_any A0 c0 _ _ T _ (h5.below hBx z5) (Nat.le_trans z5 hBx.size) hS).mono ?_
          rw [hb]
          rintro e w6 ⟨rfl, bbw6⟩
          have hB6 := hBx.trans (bbw6.mono hBx.size)
          go_wp2
          go_loopg [9] 6 (fun g i wi => ∃ j : Nat, j ≤ 6 ∧ Hid (g = 6 - j) ∧ i = .int .i64 j ∧ Below w5.heap.size w5 wi)
          case atStart => exact ⟨0, Nat.zero_le _, rfl, rfl, hB6⟩
          case round =>
            clear hBx hB6 bbw6
            obtain ⟨j, hj, hgj, rfl, hBi⟩ := hrel
            by_cases hjt : j < 6
            · have hij := HI.out k j hkt hjt
              have hfj := HF.out k j hkt hjt
              have hpr := HP.out hb k j hkt hjt
              obtain ⟨p, hp⟩ : ∃ p, p = ixP w2L k j := ⟨_, rfl⟩
              rw [← hp] at hij hfj hpr
              clear hp
              obtain ⟨b', o', Ar, cr, e', _, hbf', hck, hrow⟩ := m5 k (by rw [HFl.out]; exact hkt)
              obtain ⟨rfl, rfl⟩ : bf = b' ∧ of = o' := by simpa using e'
              clear e'
              obtain ⟨br, or_, rfl, _, hbr, hcj⟩ := hrow j (by rw [HR.out k hkt]; exact hjt)
              rw [HR.out k hkt] at hck
              rw [hfj] at hcj
              obtain ⟨b1_, o1_, e1, _, _, cp⟩ := r5 p (by rw [HPl.out]; exact hij)
              obtain ⟨rfl, rfl⟩ : bl = b1_ ∧ ol = o1_ := by simpa using e1
              obtain ⟨b2_, o2_, e2, _, _, ck⟩ := r5 k (by rw [HPl.out]; exact hkt)
              obtain ⟨rfl, rfl⟩ : bl = b2_ ∧ ol = o2_ := by simpa using e2
              obtain ⟨b3_, o3_, e3, _, _, cj⟩ := r5 j (by rw [HPl.out]; exact hjt)
              obtain ⟨rfl, rfl⟩ : bl = b3_ ∧ ol = o3_ := by simpa using e3
              clear e1 e2 e3 hrow hfj
              obtain ⟨vp, hvp⟩ : ∃ v, v = el P p := ⟨_, rfl⟩
              obtain ⟨vk, hvk⟩ : ∃ v, v = el P k := ⟨_, rfl⟩
              obtain ⟨vj, hvj⟩ : ∃ v, v = el P j := ⟨_, rfl⟩
              rw [← hvp] at hpr cp
              rw [← hvk] at hpr ck
              rw [← hvj] at hpr cj
              clear hvp hvk hvj
              have HPR := hide hpr
              have MK := hide (show ∀ W, Below wr.heap.size wr W → (fun W => W.cell? ⟨bf, of + k, none⟩ = some (.slice (some ⟨br, or_, none⟩) 6 cr) ∧ W.cell? ⟨br, or_ + j, none⟩ = some (.int .i64 (p : Nat)) ∧ W.cell? ⟨bl, ol + p, none⟩ = some (.int .i64 vp) ∧ W.cell? ⟨bl, ol + k, none⟩ = some (.int .i64 vk) ∧ W.cell? ⟨bl, ol + j, none⟩ = some (.int .i64 vj) ∧ Below wr.heap.size wr W) W from fun W hW => by
                have hX := hBi.trans (hW.mono hBi.size)
                exact ⟨(hX.cell (p := ⟨bf, of + k, none⟩) hbf).trans hck, (hX.cell (p := ⟨br, or_ + j, none⟩) hbr).trans hcj, (hX.cell (p := ⟨bl, ol + p, none⟩) lbl).trans cp, (hX.cell (p := ⟨bl, ol + k, none⟩) lbl).trans ck, (hX.cell (p := ⟨bl, ol + j, none⟩) lbl).trans cj, hW⟩)
              clear hpr hck hcj cp ck cj
              have ip : (p : Int) < 6 := by omega
              have ik : (k : Int) < 6 := by omega
              have ij : (j : Int) < 6 := by omega
              go_wp2_with fail
              refine wp_region_noPanic ?_
              refine wp_region_held_drew (S := (fun W => W.cell? ⟨bf, of + k, none⟩ = some (.slice (some ⟨br, or_, none⟩) 6 cr) ∧ W.cell? ⟨br, or_ + j, none⟩ = some (.int .i64 (p : Nat)) ∧ W.cell? ⟨bl, ol + p, none⟩ = some (.int .i64 vp) ∧ W.cell? ⟨bl, ol + k, none⟩ = some (.int .i64 vk) ∧ W.cell? ⟨bl, ol + j, none⟩ = some (.int .i64 vj) ∧ Below wr.heap.size wr W)) (by kernel_rfl) ?_ (fun hHeld => ?_)
              · exact MK.out _ (Below.refl _ _).drew
              first
                | (refine wpAnyH_take (i := 0) (v := ?_) (by simp only [List.getElem?_toArray, List.getElem?_cons_zero]; rfl) (by kernel_rfl) (by kernel_rfl) (by kernel_rfl) (fun _ _ _ h => h) (Or.inl ⟨by rfl, ?_⟩) hHeld ?_
                   rotate_left
                   · intro w_ hSw
                     (try dsimp only at hSw)
                     first
                       | (go_simp; done)
                       | (go_simp; with_reducible rfl))
                | (refine wpAnyH_take (i := 0) (v := undef) (by simp only [List.getElem?_toArray, List.getElem?_cons_zero]; rfl) (by kernel_rfl) (by kernel_rfl) (by kernel_rfl) (fun _ _ _ h => h) (Or.inr ⟨by rfl, rfl⟩) hHeld ?_)
              try simp only [Act.put, List.setIfInBounds_toArray, List.set_cons_zero, List.set_cons_succ]
              first
                | (refine wpAnyH_take (i := 1) (v := ?_) (by simp only [List.getElem?_toArray, List.getElem?_cons_succ, List.getElem?_cons_zero]; rfl) (by kernel_rfl) (by kernel_rfl) (by kernel_rfl) (fun _ _ _ h => h) (Or.inl ⟨by rfl, ?_⟩) hHeld ?_
                   rotate_left
                   · intro w_ hSw
                     (try dsimp only at hSw)
                     first
                       | (go_simp; done)
                       | (go_simp; with_reducible rfl))
                | (refine wpAnyH_take (i := 1) (v := undef) (by simp only [List.getElem?_toArray, List.getElem?_cons_succ, List.getElem?_cons_zero]; rfl) (by kernel_rfl) (by kernel_rfl) (by kernel_rfl) (fun _ _ _ h => h) (Or.inr ⟨by rfl, rfl⟩) hHeld ?_)
              try simp only [Act.put, List.setIfInBounds_toArray, List.set_cons_zero, List.set_cons_succ]
              first
                | (refine wpAnyH_take (i := 2) (v := ?_) (by simp only [List.getElem?_toArray, List.getElem?_cons_succ, List.getElem?_cons_zero]; rfl) (by kernel_rfl) (by kernel_rfl) (by kernel_rfl) (fun _ _ _ h => h) (Or.inl ⟨by rfl, ?_⟩) hHeld ?_
                   rotate_left
                   · intro w_ hSw
                     (try dsimp only at hSw)
                     first
                       | (go_simp; done)
                       | (go_simp; with_reducible rfl))
                | (refine wpAnyH_take (i := 2) (v := undef) (by simp only [List.getElem?_toArray, List.getElem?_cons_succ, List.getElem?_cons_zero]; rfl) (by kernel_rfl) (by kernel_rfl) (by kernel_rfl) (fun _ _ _ h => h) (Or.inr ⟨by rfl, rfl⟩) hHeld ?_)
              try simp only [Act.put, List.setIfInBounds_toArray, List.set_cons_zero, List.set_cons_succ]
              first
                | (refine wpAnyH_take (i := 3) (v := ?_) (by simp only [List.getElem?_toArray, List.getElem?_cons_succ, List.getElem?_cons_zero]; rfl) (by kernel_rfl) (by kernel_rfl) (by kernel_rfl) (fun _ _ _ h => h) (Or.inl ⟨by rfl, ?_⟩) hHeld ?_
                   rotate_left
                   · intro w_ hSw
                     (try dsimp only at hSw)
                     first
                       | (go_simp; done)
                       | (go_simp; with_reducible rfl))
                | (refine wpAnyH_take (i := 3) (v := undef) (by simp only [List.getElem?_toArray, List.getElem?_cons_succ, List.getElem?_cons_zero]; rfl) (by kernel_rfl) (by kernel_rfl) (by kernel_rfl) (fun _ _ _ h => h) (Or.inr ⟨by rfl, rfl⟩) hHeld ?_)
              try simp only [Act.put, List.setIfInBounds_toArray, List.set_cons_zero, List.set_cons_succ]
              first
                | (refine wpAnyH_take (i := 4) (v := ?_) (by simp only [List.getElem?_toArray, List.getElem?_cons_succ, List.getElem?_cons_zero]; rfl) (by kernel_rfl) (by kernel_rfl) (by kernel_rfl) (fun _ _ _ h => h) (Or.inl ⟨by rfl, ?_⟩) hHeld ?_
                   rotate_left
                   · intro w_ hSw
                     (try dsimp only at hSw)
                     first
                       | (go_simp; done)
                       | (go_simp; with_reducible rfl))
                | (refine wpAnyH_take (i := 4) (v := undef) (by simp only [List.getElem?_toArray, List.getElem?_cons_succ, List.getElem?_cons_zero]; rfl) (by kernel_rfl) (by kernel_rfl) (by kernel_rfl) (fun _ _ _ h => h) (Or.inr ⟨by rfl, rfl⟩) hHeld ?_)
              try simp only [Act.put, List.setIfInBounds_toArray, List.set_cons_zero, List.set_cons_succ]
              first
                | (refine wpAnyH_take (i := 5) (v := ?_) (by simp only [List.getElem?_toArray, List.getElem?_cons_succ, List.getElem?_cons_zero]; rfl) (by kernel_rfl) (by kernel_rfl) (by kernel_rfl) (fun _ _ _ h => h) (Or.inl ⟨by rfl, ?_⟩) hHeld ?_
                   rotate_left
                   · intro w_ hSw
                     (try dsimp only at hSw)
                     first
                       | (go_simp; done)
                       | (go_simp; with_reducible rfl))
                | (refine wpAnyH_take (i := 5) (v := undef) (by simp only [List.getElem?_toArray, List.getElem?_cons_succ, List.getElem?_cons_zero]; rfl) (by kernel_rfl) (by kernel_rfl) (by kernel_rfl) (fun _ _ _ h => h) (Or.inr ⟨by rfl, rfl⟩) hHeld ?_)
              try simp only [Act.put, List.setIfInBounds_toArray, List.set_cons_zero, List.set_cons_succ]
              first
                | (refine wpAnyH_take (i := 6) (v := ?_) (by simp only [List.getElem?_toArray, List.getElem?_cons_succ, List.getElem?_cons_zero]; rfl) (by kernel_rfl) (by kernel_rfl) (by kernel_rfl) (fun _ _ _ h => h) (Or.inl ⟨by rfl, ?_⟩) hHeld ?_
                   rotate_left
                   · intro w_ hSw
                     (try dsimp only at hSw)
                     first
                       | (go_simp; done)
                       | (go_simp; with_reducible rfl))
                | (refine wpAnyH_take (i := 6) (v := undef) (by simp only [List.getElem?_toArray, List.getElem?_cons_succ, List.getElem?_cons_zero]; rfl) (by kernel_rfl) (by kernel_rfl) (by kernel_rfl) (fun _ _ _ h => h) (Or.inr ⟨by rfl, rfl⟩) hHeld ?_)
              try simp only [Act.put, List.setIfInBounds_toArray, List.set_cons_zero, List.set_cons_succ]
              first
                | (refine wpAnyH_take (i := 7) (v := ?_) (by simp only [List.getElem?_toArray, List.getElem?_cons_succ, List.getElem?_cons_zero]; rfl) (by kernel_rfl) (by kernel_rfl) (by kernel_rfl) (fun _ _ _ h => h) (Or.inl ⟨by rfl, ?_⟩) hHeld ?_
                   rotate_left
                   · intro w_ hSw
                     (try dsimp only at hSw)
                     first
                       | (go_simp; done)
                       | (go_simp; with_reducible rfl))
                | (refine wpAnyH_take (i := 7) (v := undef) (by simp only [List.getElem?_toArray, List.getElem?_cons_succ, List.getElem?_cons_zero]; rfl) (by kernel_rfl) (by kernel_rfl) (by kernel_rfl) (fun _ _ _ h => h) (Or.inr ⟨by rfl, rfl⟩) hHeld ?_)
              try simp only [Act.put, List.setIfInBounds_toArray, List.set_cons_zero, List.set_cons_succ]
              first
                | (refine wpAnyH_take (i := 8) (v := ?_) (by simp only [List.getElem?_toArray, List.getElem?_cons_succ, List.getElem?_cons_zero]; rfl) (by kernel_rfl) (by kernel_rfl) (by kernel_rfl) (fun _ _ _ h => h) (Or.inl ⟨by rfl, ?_⟩) hHeld ?_
                   rotate_left
                   · intro w_ hSw
                     (try dsimp only at hSw)
                     first
                       | (go_simp; done)
                       | (go_simp; with_reducible rfl))
                | (refine wpAnyH_take (i := 8) (v := undef) (by simp only [List.getElem?_toArray, List.getElem?_cons_succ, List.getElem?_cons_zero]; rfl) (by kernel_rfl) (by kernel_rfl) (by kernel_rfl) (fun _ _ _ h => h) (Or.inr ⟨by rfl, rfl⟩) hHeld ?_)
              try simp only [Act.put, List.setIfInBounds_toArray, List.set_cons_zero, List.set_cons_succ]
              first
                | (refine wpAnyH_take (i := 9) (v := ?_) (by simp only [List.getElem?_toArray, List.getElem?_cons_succ, List.getElem?_cons_zero]; rfl) (by kernel_rfl) (by kernel_rfl) (by kernel_rfl) (fun _ _ _ h => h) (Or.inl ⟨by rfl, ?_⟩) hHeld ?_
                   rotate_left
                   · intro w_ hSw
                     (try dsimp only at hSw)
                     first
                       | (go_simp; done)
                       | (go_simp; with_reducible rfl))
                | (refine wpAnyH_take (i := 9) (v := undef) (by simp only [List.getElem?_toArray, List.getElem?_cons_succ, List.getElem?_cons_zero]; rfl) (by kernel_rfl) (by kernel_rfl) (by kernel_rfl) (fun _ _ _ h => h) (Or.inr ⟨by rfl, rfl⟩) hHeld ?_)
              try simp only [Act.put, List.setIfInBounds_toArray, List.set_cons_zero, List.set_cons_succ]
              first
                | (refine wpAnyH_take (i := 10) (v := ?_) (by simp only [List.getElem?_toArray, List.getElem?_cons_succ, List.getElem?_cons_zero]; rfl) (by kernel_rfl) (by kernel_rfl) (by kernel_rfl) (fun _ _ _ h => h) (Or.inl ⟨by rfl, ?_⟩) hHeld ?_
                   rotate_left
                   · intro w_ hSw
                     (try dsimp only at hSw)
                     first
                       | (go_simp; done)
                       | (go_simp; with_reducible rfl))
                | (refine wpAnyH_take (i := 10) (v := undef) (by simp only [List.getElem?_toArray, List.getElem?_cons_succ, List.getElem?_cons_zero]; rfl) (by kernel_rfl) (by kernel_rfl) (by kernel_rfl) (fun _ _ _ h => h) (Or.inr ⟨by rfl, rfl⟩) hHeld ?_)
              try simp only [Act.put, List.setIfInBounds_toArray, List.set_cons_zero, List.set_cons_succ]
              first
                | (refine wpAnyH_take (i := 11) (v := ?_) (by simp only [List.getElem?_toArray, List.getElem?_cons_succ, List.getElem?_cons_zero]; rfl) (by kernel_rfl) (by kernel_rfl) (by kernel_rfl) (fun _ _ _ h => h) (Or.inl ⟨by rfl, ?_⟩) hHeld ?_
                   rotate_left
                   · intro w_ hSw
                     (try dsimp only at hSw)
                     first
                       | (go_simp; done)
                       | (go_simp; with_reducible rfl))
                | (refine wpAnyH_take (i := 11) (v := undef) (by simp only [List.getElem?_toArray, List.getElem?_cons_succ, List.getElem?_cons_zero]; rfl) (by kernel_rfl) (by kernel_rfl) (by kernel_rfl) (fun _ _ _ h => h) (Or.inr ⟨by rfl, rfl⟩) hHeld ?_)
              try simp only [Act.put, List.setIfInBounds_toArray, List.set_cons_zero, List.set_cons_succ]
              first
                | (refine wpAnyH_take (i := 12) (v := ?_) (by simp only [List.getElem?_toArray, List.getElem?_cons_succ, List.getElem?_cons_zero]; rfl) (by kernel_rfl) (by kernel_rfl) (by kernel_rfl) (fun _ _ _ h => h) (Or.inl ⟨by rfl, ?_⟩) hHeld ?_
                   rotate_left
                   · intro w_ hSw
                     (try dsimp only at hSw)
                     first
                       | (go_simp; done)
                       | (go_simp; with_reducible rfl))
                | (refine wpAnyH_take (i := 12) (v := undef) (by simp only [List.getElem?_toArray, List.getElem?_cons_succ, List.getElem?_cons_zero]; rfl) (by kernel_rfl) (by kernel_rfl) (by kernel_rfl) (fun _ _ _ h => h) (Or.inr ⟨by rfl, rfl⟩) hHeld ?_)
              try simp only [Act.put, List.setIfInBounds_toArray, List.set_cons_zero, List.set_cons_succ]
              first
                | (refine wpAnyH_take (i := 13) (v := ?_) (by simp only [List.getElem?_toArray, List.getElem?_cons_succ, List.getElem?_cons_zero]; rfl) (by kernel_rfl) (by kernel_rfl) (by kernel_rfl) (fun _ _ _ h => h) (Or.inl ⟨by rfl, ?_⟩) hHeld ?_
                   rotate_left
                   · intro w_ hSw
                     (try dsimp only at hSw)
                     first
                       | (go_simp; done)
                       | (go_simp; with_reducible rfl))
                | (refine wpAnyH_take (i := 13) (v := undef) (by simp only [List.getElem?_toArray, List.getElem?_cons_succ, List.getElem?_cons_zero]; rfl) (by kernel_rfl) (by kernel_rfl) (by kernel_rfl) (fun _ _ _ h => h) (Or.inr ⟨by rfl, rfl⟩) hHeld ?_)
              try simp only [Act.put, List.setIfInBounds_toArray, List.set_cons_zero, List.set_cons_succ]
              first
                | (refine wpAnyH_take (i := 14) (v := ?_) (by simp only [List.getElem?_toArray, List.getElem?_cons_succ, List.getElem?_cons_zero]; rfl) (by kernel_rfl) (by kernel_rfl) (by kernel_rfl) (fun _ _ _ h => h) (Or.inl ⟨by rfl, ?_⟩) hHeld ?_
                   rotate_left
                   · intro w_ hSw
                     (try dsimp only at hSw)
                     first
                       | (go_simp; done)
                       | (go_simp; with_reducible rfl))
                | (refine wpAnyH_take (i := 14) (v := undef) (by simp only [List.getElem?_toArray, List.getElem?_cons_succ, List.getElem?_cons_zero]; rfl) (by kernel_rfl) (by kernel_rfl) (by kernel_rfl) (fun _ _ _ h => h) (Or.inr ⟨by rfl, rfl⟩) hHeld ?_)
              try simp only [Act.put, List.setIfInBounds_toArray, List.set_cons_zero, List.set_cons_succ]
              first
                | (refine wpAnyH_take (i := 15) (v := ?_) (by simp only [List.getElem?_toArray, List.getElem?_cons_succ, List.getElem?_cons_zero]; rfl) (by kernel_rfl) (by kernel_rfl) (by kernel_rfl) (fun _ _ _ h => h) (Or.inl ⟨by rfl, ?_⟩) hHeld ?_
                   rotate_left
                   · intro w_ hSw
                     (try dsimp only at hSw)
                     first
                       | (go_simp; done)
                       | (go_simp; with_reducible rfl))
                | (refine wpAnyH_take (i := 15) (v := undef) (by simp only [List.getElem?_toArray, List.getElem?_cons_succ, List.getElem?_cons_zero]; rfl) (by kernel_rfl) (by kernel_rfl) (by kernel_rfl) (fun _ _ _ h => h) (Or.inr ⟨by rfl, rfl⟩) hHeld ?_)
              try simp only [Act.put, List.setIfInBounds_toArray, List.set_cons_zero, List.set_cons_succ]
              first
                | (refine wpAnyH_take (i := 16) (v := ?_) (by simp only [List.getElem?_toArray, List.getElem?_cons_succ, List.getElem?_cons_zero]; rfl) (by kernel_rfl) (by kernel_rfl) (by kernel_rfl) (fun _ _ _ h => h) (Or.inl ⟨by rfl, ?_⟩) hHeld ?_
                   rotate_left
                   · intro w_ hSw
                     (try dsimp only at hSw)
                     first
                       | (go_simp; done)
                       | (go_simp; with_reducible rfl))
                | (refine wpAnyH_take (i := 16) (v := undef) (by simp only [List.getElem?_toArray, List.getElem?_cons_succ, List.getElem?_cons_zero]; rfl) (by kernel_rfl) (by kernel_rfl) (by kernel_rfl) (fun _ _ _ h => h) (Or.inr ⟨by rfl, rfl⟩) hHeld ?_)
              try simp only [Act.put, List.setIfInBounds_toArray, List.set_cons_zero, List.set_cons_succ]
              first
                | (refine wpAnyH_take (i := 17) (v := ?_) (by simp only [List.getElem?_toArray, List.getElem?_cons_succ, List.getElem?_cons_zero]; rfl) (by kernel_rfl) (by kernel_rfl) (by kernel_rfl) (fun _ _ _ h => h) (Or.inl ⟨by rfl, ?_⟩) hHeld ?_
                   rotate_left
                   · intro w_ hSw
                     (try dsimp only at hSw)
                     first
                       | (go_simp; done)
                       | (go_simp; with_reducible rfl))
                | (refine wpAnyH_take (i := 17) (v := undef) (by simp only [List.getElem?_toArray, List.getElem?_cons_succ, List.getElem?_cons_zero]; rfl) (by kernel_rfl) (by kernel_rfl) (by kernel_rfl) (fun _ _ _ h => h) (Or.inr ⟨by rfl, rfl⟩) hHeld ?_)
              try simp only [Act.put, List.setIfInBounds_toArray, List.set_cons_zero, List.set_cons_succ]
              first
                | (refine wpAnyH_take (i := 18) (v := ?_) (by simp only [List.getElem?_toArray, List.getElem?_cons_succ, List.getElem?_cons_zero]; rfl) (by kernel_rfl) (by kernel_rfl) (by kernel_rfl) (fun _ _ _ h => h) (Or.inl ⟨by rfl, ?_⟩) hHeld ?_
                   rotate_left
                   · intro w_ hSw
                     (try dsimp only at hSw)
                     first
                       | (go_simp; done)
                       | (go_simp; with_reducible rfl))
                | (refine wpAnyH_take (i := 18) (v := undef) (by simp only [List.getElem?_toArray, List.getElem?_cons_succ, List.getElem?_cons_zero]; rfl) (by kernel_rfl) (by kernel_rfl) (by kernel_rfl) (fun _ _ _ h => h) (Or.inr ⟨by rfl, rfl⟩) hHeld ?_)
              try simp only [Act.put, List.setIfInBounds_toArray, List.set_cons_zero, List.set_cons_succ]
              refine wpAnyH_ready (rs := [19]) (by kernel_rfl) (by simp) ?_
              refine AllReadyH.cons (by simp only [List.getElem?_toArray, List.getElem?_cons_succ, List.getElem?_cons_zero]; rfl) (fun K hK => ?_) AllReadyH.nil
              go_simp
              have hb4 := hHeld.2.2.2.2.2
              refine hK.out _ _ ?_ (fun hHeld => ?_)
              · exact MK.out _ (hb4.alloc hb4.size _)
              clear hK K
              try simp only [Act.put, List.setIfInBounds_toArray, List.set_cons_zero, List.set_cons_succ]
              refine wpAnyH_ready (rs := [20]) (by kernel_rfl) (by simp) ?_
              refine AllReadyH.cons (by simp only [List.getElem?_toArray, List.getElem?_cons_succ, List.getElem?_cons_zero]; rfl) (fun K hK => ?_) AllReadyH.nil
              go_simp
              go_at_call 37
              have hb4 := hHeld.2.2.2.2.2
              have hb5 := hBi.trans (hb4.mono hBi.size)
              refine (iProductOf_any A0 _ c0 2 w.heap.size w1.heap.size _ _ T [vk, vj] _ (h5.below hb5 z5) (Nat.le_trans z5 hb5.size) hS (row_lit (W := wr.drew) #[.int .i64 vk, .int .i64 vj] rfl) (by simp) (by simp) (by simp) (by simp)).mono ?_
              rw [HPR.out]
              rintro e wp ⟨rfl, hbp⟩
              refine hK.out _ _ ?_ (fun hHeld => ?_)
              · exact MK.out _ (hb4.trans (hbp.mono hb4.size))
              clear hK K
              try simp only [Act.put, List.setIfInBounds_toArray, List.set_cons_zero, List.set_cons_succ]
              first
                | (refine wpAnyH_take (i := 21) (v := ?_) (by simp only [List.getElem?_toArray, List.getElem?_cons_succ, List.getElem?_cons_zero]; rfl) (by kernel_rfl) (by kernel_rfl) (by kernel_rfl) (fun _ _ _ h => h) (Or.inl ⟨by rfl, ?_⟩) hHeld ?_
                   rotate_left
                   · intro w_ hSw
                     (try dsimp only at hSw)
                     first
                       | (go_simp; done)
                       | (go_simp; with_reducible rfl))
                | (refine wpAnyH_take (i := 21) (v := undef) (by simp only [List.getElem?_toArray, List.getElem?_cons_succ, List.getElem?_cons_zero]; rfl) (by kernel_rfl) (by kernel_rfl) (by kernel_rfl) (fun _ _ _ h => h) (Or.inr ⟨by rfl, rfl⟩) hHeld ?_)
              try simp only [Act.put, List.setIfInBounds_toArray, List.set_cons_zero, List.set_cons_succ]
              refine wpAnyH_done (by kernel_rfl) (NoPanic.normal ?_) _
              go_wp2
              go_roundg (6 - (j + 1))
              case measure => go_light; have := hgj.out; omega
              case rel => go_light; exact ⟨j + 1, by omega, rfl, by go_num, hBi.trans (hHeld.2.2.2.2.2.mono hBi.size)⟩
            · obtain rfl : j = 6 := by omega
              go_wp2
              go_roundg (6 - (k + 1))
              case measure => go_light; have := hg.out; omega
              case rel => go_light; exact ⟨k + 1, by omega, rfl, by go_num, hBi⟩
        · obtain rfl : k = 6 := by omega
          go_wp2_with fail
          refine (alive_any _).mono ?_
          rintro e wz ⟨rfl, bz⟩
          go_wp2
          go_ret
          exact ⟨rfl, (B5.trans (hBx.mono B5.size)).trans (bz.mono (B5.trans (hBx.mono B5.size)).size)⟩

end Go.Proofs.Ytjmjfmgbfjmaaaa
