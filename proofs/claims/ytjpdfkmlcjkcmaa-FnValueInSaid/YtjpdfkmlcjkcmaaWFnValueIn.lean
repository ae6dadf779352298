/- The walk of FnValueIn. -/
import Derived.Test.YtjpdfkmlcjkcmaaSword
import Derived.Test.YtjpdfkmlcjkcmaaIword
import Derived.Test.YtjpdfkmlcjkcmaaDrawWords
import Derived.Test.YtjpdfkmlcjkcmaaValP
import Derived.Test.YtjpdfkmlcjkcmaaIband
import Derived.Test.YtjpdfkmlcjkcmaaDrawBands
import Derived.Deep.RegionHeld3
namespace Go.Proofs.Ytjpdfkmlcjkcmaa
open Go.RowKit
set_option linter.unusedVariables false

set_option maxRecDepth 20000 in
set_option maxHeartbeats 16000000 in
theorem fnValueIn_walk (A : Option Addr) (n c : Nat) (A' : Option Addr) (n' c' : Nat) (w : World) (h : Bytes w w.heap.size A n) (hc : n ≤ c) (hc2 : c ≤ 9223372036854775807) (h' : Bytes w w.heap.size A' n') (hc' : n' ≤ c') (hc2' : c' ≤ 9223372036854775807) :
    Calls Try.prog 8 #[.slice A n c, .slice A' n' c'] w fun e w' => e = .returned (.bool true) ∧ Below w.heap.size w w' := by
  by_cases hn : (1048576 : Int) < (n : Int)
  · go_enter Try.func8, Try.ntmps8
    go_wp2
    go_ret
    exact ⟨rfl, Below.refl _ _⟩
  by_cases hn' : (1048576 : Int) < (n' : Int)
  · go_enter Try.func8, Try.ntmps8
    go_wp2
    go_ret
    exact ⟨rfl, Below.refl _ _⟩
  · go_enter Try.func8, Try.ntmps8
    go_wp2_with fail
    refine (drawValueIn_any A n c w h hc hc2).mono ?_
    rintro e w1 ⟨A1, c1, T, u, x, y, z, rfl, B1, M1, hS, hu⟩
    have N1 := hide (Nat.le_refl w1.heap.size)
    have hn1 : u.length ≤ 1048576 := by omega
    have hsz := size_bs u
    have hlT := hS.len
    cases hw : canV T u x y z
    · have HE := hide (valW_cannot hw)
      go_wp2_with fail
      refine (iValueIn_any _ _ _ _ T u x y z w1 M1 N1.out hS hn1).mono ?_
      rw [HE.out]
      rintro e w2 ⟨rfl, b2⟩
      have B2 := B1.trans (b2.mono B1.size)
      have M2 := M1.below b2 (by have := B1.size; have := N1.out; omega)
      have N2 := hide (Nat.le_trans N1.out b2.size)
      go_wp2_with fail
      refine (sValueIn_any _ _ _ _ T u x y z w2 M2 N2.out hS hn1).mono ?_
      rw [HE.out]
      rintro e w3 ⟨rfl, b3⟩
      have B3 := B2.trans (b3.mono B2.size)
      have M3 := M2.below b3 (by have := B2.size; have := N2.out; omega)
      have N3 := hide (Nat.le_trans N2.out b3.size)
      go_wp2_with fail
      refine (alive_any _).mono ?_
      rintro e w4 ⟨rfl, b4⟩
      go_wp2
      go_ret
      exact ⟨rfl, B3.trans (b4.mono B3.size)⟩
    · obtain ⟨e1, t0, t1⟩ := valW_can hw
      obtain ⟨n1, hn1e⟩ : ∃ n1, n1 = valW T u x y z := ⟨_, rfl⟩
      rw [← e1, ← hn1e] at t0 t1
      have HE := hide hn1e.symm
      clear e1 hn1e
      go_wp2_with fail
      refine (iValueIn_any _ _ _ _ T u x y z w1 M1 N1.out hS hn1).mono ?_
      rw [HE.out]
      rintro e w2 ⟨rfl, b2⟩
      have B2 := B1.trans (b2.mono B1.size)
      have M2 := M1.below b2 (by have := B1.size; have := N1.out; omega)
      have N2 := hide (Nat.le_trans N1.out b2.size)
      go_wp2_with fail
      refine (sValueIn_any _ _ _ _ T u x y z w2 M2 N2.out hS hn1).mono ?_
      rw [HE.out]
      rintro e w3 ⟨rfl, b3⟩
      have B3 := B2.trans (b3.mono B2.size)
      have M3 := M2.below b3 (by have := B2.size; have := N2.out; omega)
      have N3 := hide (Nat.le_trans N2.out b3.size)
      go_wp2_with fail
      refine (drawWordOk_any A' n' c' _ (bytes_later h' B3) hc' hc2').mono ?_
      rintro e w4 ⟨v, rfl, hv, b4⟩
      have B4 := B3.trans (b4.mono B3.size)
      have hnv : v.length ≤ 1048576 := by omega
      have hszv := size_bs v
      have M4 := M3.below b4 (by have := B3.size; have := N3.out; omega)
      have N4 := hide (Nat.le_trans N3.out b4.size)
      have hnuv : (u ++ v).length ≤ 1048576 := by rw [List.length_append]; omega
      have hnuu : (u ++ u).length ≤ 1048576 := by rw [List.length_append]; omega
      have add1 := fun w => add_bs (P := Try.prog) u v (by omega) w
      have add2 := fun w => add_bs (P := Try.prog) u u (by omega) w
      have G1 := hide (fun (g : grpT T = true) (p : canV T v x y z = true) (q : canV T (u ++ v) x y z = true) => valW_app g hw p q)
      have G2 := hide (fun (b : bandT T = true) (q : canV T (u ++ u) x y z = true) => valW_twice b hw q)
      rw [HE.out] at G1 G2
      obtain ⟨q, hq⟩ : ∃ q, q = u ++ v := ⟨_, rfl⟩
      obtain ⟨d, hd⟩ : ∃ d, d = u ++ u := ⟨_, rfl⟩
      rw [← hq] at G1 add1 hnuv
      rw [← hd] at G2 add2 hnuu
      clear hq hd
      obtain ⟨m1, hm1⟩ : ∃ m1, m1 = valW T v x y z := ⟨_, rfl⟩
      obtain ⟨m2, hm2⟩ : ∃ m2, m2 = valW T q x y z := ⟨_, rfl⟩
      obtain ⟨m3, hm3⟩ : ∃ m3, m3 = valW T d x y z := ⟨_, rfl⟩
      rw [← hm1, ← hm2] at G1
      rw [← hm3] at G2
      have F1 := hide (show canV T v x y z = false → m1 = -1 from fun p => hm1.trans (valW_cannot p))
      have F2 := hide (show canV T q x y z = false → m2 = -1 from fun p => hm2.trans (valW_cannot p))
      have F3 := hide (show canV T d x y z = false → m3 = -1 from fun p => hm3.trans (valW_cannot p))
      have P1 := hide (show canV T v x y z = true → 0 ≤ m1 from fun p => by rw [hm1, (valW_can p).1]; exact (valW_can p).2.1)
      have P2 := hide (show canV T q x y z = true → 0 ≤ m2 from fun p => by rw [hm2, (valW_can p).1]; exact (valW_can p).2.1)
      have P3 := hide (show canV T d x y z = true → 0 ≤ m3 from fun p => by rw [hm3, (valW_can p).1]; exact (valW_can p).2.1)
      have H1 := hide hm1.symm
      have H2 := hide hm2.symm
      have H3 := hide hm3.symm
      clear hm1 hm2 hm3
      go_wp2_with fail
      refine (iValueIn_any _ _ _ _ T v x y z w4 M4 N4.out hS hnv).mono ?_
      rw [H1.out]
      rintro e w5 ⟨rfl, b5⟩
      have B5 := B4.trans (b5.mono B4.size)
      have M5 := M4.below b5 (by have := B4.size; have := N4.out; omega)
      have N5 := hide (Nat.le_trans N4.out b5.size)
      go_wp2_with fail
      refine (iValueIn_any _ _ _ _ T q x y z w5 M5 N5.out hS hnuv).mono ?_
      rw [H2.out]
      rintro e w6 ⟨rfl, b6⟩
      have B6 := B5.trans (b6.mono B5.size)
      have M6 := M5.below b6 (by have := B5.size; have := N5.out; omega)
      have N6 := hide (Nat.le_trans N5.out b6.size)
      go_wp2_with fail
      refine (iValueIn_any _ _ _ _ T d x y z w6 M6 N6.out hS hnuu).mono ?_
      rw [H3.out]
      rintro e w7 ⟨rfl, b7⟩
      have B7 := B6.trans (b7.mono B6.size)
      have M7 := M6.below b7 (by have := B6.size; have := N6.out; omega)
      have N7 := hide (Nat.le_trans N6.out b7.size)
      cases hg : grpT T
      · go_wp2_with fail
        refine (iGroupedOk_any _ _ _ _ T w7 M7 N7.out hS).mono ?_
        rw [hg]
        rintro e w8 ⟨rfl, b8⟩
        have B8 := B7.trans (b8.mono B7.size)
        have M8 := M7.below b8 (by have := B7.size; have := N7.out; omega)
        have N8 := hide (Nat.le_trans N7.out b8.size)
        cases hb : bandT T
        · go_wp2_with fail
          refine (iBandOk_any _ _ _ _ T _ M8 N8.out hS).mono ?_
          rw [hb]
          rintro e w9 ⟨rfl, b9⟩
          have B9 := B8.trans (b9.mono B8.size)
          have M9 := M8.below b9 (by have := B8.size; have := N8.out; omega)
          have N9 := hide (Nat.le_trans N8.out b9.size)
          go_wp2_with fail
          refine (alive_any _).mono ?_
          rintro e w10 ⟨rfl, b10⟩
          go_wp2
          go_ret
          exact ⟨rfl, B9.trans (b10.mono B9.size)⟩
        · cases hd : canV T d x y z
          · obtain rfl := F3.out hd
            go_wp2_with fail
            refine (iBandOk_any _ _ _ _ T _ M8 N8.out hS).mono ?_
            rw [hb]
            rintro e w9 ⟨rfl, b9⟩
            have B9 := B8.trans (b9.mono B8.size)
            have M9 := M8.below b9 (by have := B8.size; have := N8.out; omega)
            have N9 := hide (Nat.le_trans N8.out b9.size)
            go_wp2_with fail
            refine (alive_any _).mono ?_
            rintro e w10 ⟨rfl, b10⟩
            go_wp2
            go_ret
            exact ⟨rfl, B9.trans (b10.mono B9.size)⟩
          · have p3 := P3.out hd
            have e3 : m3 = n1 := G2.out hb hd
            subst e3
            go_wp2_with fail
            refine (iBandOk_any _ _ _ _ T _ M8 N8.out hS).mono ?_
            rw [hb]
            rintro e w9 ⟨rfl, b9⟩
            have B9 := B8.trans (b9.mono B8.size)
            have M9 := M8.below b9 (by have := B8.size; have := N8.out; omega)
            have N9 := hide (Nat.le_trans N8.out b9.size)
            go_wp2_with fail
            refine (alive_any _).mono ?_
            rintro e w10 ⟨rfl, b10⟩
            go_wp2
            go_ret
            exact ⟨rfl, B9.trans (b10.mono B9.size)⟩
      · cases hv1 : canV T v x y z
        · obtain rfl := F1.out hv1
          go_wp2_with fail
          refine (iGroupedOk_any _ _ _ _ T w7 M7 N7.out hS).mono ?_
          rw [hg]
          rintro e w8 ⟨rfl, b8⟩
          have B8 := B7.trans (b8.mono B7.size)
          have M8 := M7.below b8 (by have := B7.size; have := N7.out; omega)
          have N8 := hide (Nat.le_trans N7.out b8.size)
          cases hb : bandT T
          · go_wp2_with fail
            refine (iBandOk_any _ _ _ _ T _ M8 N8.out hS).mono ?_
            rw [hb]
            rintro e w9 ⟨rfl, b9⟩
            have B9 := B8.trans (b9.mono B8.size)
            have M9 := M8.below b9 (by have := B8.size; have := N8.out; omega)
            have N9 := hide (Nat.le_trans N8.out b9.size)
            go_wp2_with fail
            refine (alive_any _).mono ?_
            rintro e w10 ⟨rfl, b10⟩
            go_wp2
            go_ret
            exact ⟨rfl, B9.trans (b10.mono B9.size)⟩
          · cases hd : canV T d x y z
            · obtain rfl := F3.out hd
              go_wp2_with fail
              refine (iBandOk_any _ _ _ _ T _ M8 N8.out hS).mono ?_
              rw [hb]
              rintro e w9 ⟨rfl, b9⟩
              have B9 := B8.trans (b9.mono B8.size)
              have M9 := M8.below b9 (by have := B8.size; have := N8.out; omega)
              have N9 := hide (Nat.le_trans N8.out b9.size)
              go_wp2_with fail
              refine (alive_any _).mono ?_
              rintro e w10 ⟨rfl, b10⟩
              go_wp2
              go_ret
              exact ⟨rfl, B9.trans (b10.mono B9.size)⟩
            · have p3 := P3.out hd
              have e3 : m3 = n1 := G2.out hb hd
              subst e3
              go_wp2_with fail
              refine (iBandOk_any _ _ _ _ T _ M8 N8.out hS).mono ?_
              rw [hb]
              rintro e w9 ⟨rfl, b9⟩
              have B9 := B8.trans (b9.mono B8.size)
              have M9 := M8.below b9 (by have := B8.size; have := N8.out; omega)
              have N9 := hide (Nat.le_trans N8.out b9.size)
              go_wp2_with fail
              refine (alive_any _).mono ?_
              rintro e w10 ⟨rfl, b10⟩
              go_wp2
              go_ret
              exact ⟨rfl, B9.trans (b10.mono B9.size)⟩
        · have p1 := P1.out hv1
          cases hv2 : canV T q x y z
          · obtain rfl := F2.out hv2
            go_wp2_with fail
            refine (iGroupedOk_any _ _ _ _ T w7 M7 N7.out hS).mono ?_
            rw [hg]
            rintro e w8 ⟨rfl, b8⟩
            have B8 := B7.trans (b8.mono B7.size)
            have M8 := M7.below b8 (by have := B7.size; have := N7.out; omega)
            have N8 := hide (Nat.le_trans N7.out b8.size)
            cases hb : bandT T
            · go_wp2_with fail
              refine (iBandOk_any _ _ _ _ T _ M8 N8.out hS).mono ?_
              rw [hb]
              rintro e w9 ⟨rfl, b9⟩
              have B9 := B8.trans (b9.mono B8.size)
              have M9 := M8.below b9 (by have := B8.size; have := N8.out; omega)
              have N9 := hide (Nat.le_trans N8.out b9.size)
              go_wp2_with fail
              refine (alive_any _).mono ?_
              rintro e w10 ⟨rfl, b10⟩
              go_wp2
              go_ret
              exact ⟨rfl, B9.trans (b10.mono B9.size)⟩
            · cases hd : canV T d x y z
              · obtain rfl := F3.out hd
                go_wp2_with fail
                refine (iBandOk_any _ _ _ _ T _ M8 N8.out hS).mono ?_
                rw [hb]
                rintro e w9 ⟨rfl, b9⟩
                have B9 := B8.trans (b9.mono B8.size)
                have M9 := M8.below b9 (by have := B8.size; have := N8.out; omega)
                have N9 := hide (Nat.le_trans N8.out b9.size)
                go_wp2_with fail
                refine (alive_any _).mono ?_
                rintro e w10 ⟨rfl, b10⟩
                go_wp2
                go_ret
                exact ⟨rfl, B9.trans (b10.mono B9.size)⟩
              · have p3 := P3.out hd
                have e3 : m3 = n1 := G2.out hb hd
                subst e3
                go_wp2_with fail
                refine (iBandOk_any _ _ _ _ T _ M8 N8.out hS).mono ?_
                rw [hb]
                rintro e w9 ⟨rfl, b9⟩
                have B9 := B8.trans (b9.mono B8.size)
                have M9 := M8.below b9 (by have := B8.size; have := N8.out; omega)
                have N9 := hide (Nat.le_trans N8.out b9.size)
                go_wp2_with fail
                refine (alive_any _).mono ?_
                rintro e w10 ⟨rfl, b10⟩
                go_wp2
                go_ret
                exact ⟨rfl, B9.trans (b10.mono B9.size)⟩
          · have p2 := P2.out hv2
            have GG := hide (G1.out hg hv1 hv2)
            go_wp2_with fail
            refine (iGroupedOk_any _ _ _ _ T w7 M7 N7.out hS).mono ?_
            rw [hg]
            rintro e w8 ⟨rfl, b8⟩
            have B8 := B7.trans (b8.mono B7.size)
            have M8 := M7.below b8 (by have := B7.size; have := N7.out; omega)
            have N8 := hide (Nat.le_trans N7.out b8.size)
            go_wp2_with fail
            refine (iProductOf_any _ _ _ 2 _ _ _ _ T [n1, m1] _ (M8.below ((Below.refl _ w8).alloc (Nat.le_refl _) _) N8.out) (by have := N8.out; simp; omega) hS (row_lit (W := w8) #[.int .i64 n1, .int .i64 m1] rfl) (by simp) (by simp) (by simp) (by omega)).mono ?_
            rw [GG.out]
            rintro e w9 ⟨rfl, b9d⟩
            have b9 := ((Below.refl _ w8).alloc (Nat.le_refl _) (.cells #[.int .i64 n1, .int .i64 m1] 3)).trans (b9d.mono (by simp))
            have B9 := B8.trans (b9.mono B8.size)
            have M9 := M8.below b9 (by have := B8.size; have := N8.out; omega)
            have N9 := hide (Nat.le_trans N8.out b9.size)
            cases hb : bandT T
            · go_wp2_with fail
              refine (iBandOk_any _ _ _ _ T _ M9 N9.out hS).mono ?_
              rw [hb]
              rintro e w10 ⟨rfl, b10⟩
              have B10 := B9.trans (b10.mono B9.size)
              have M10 := M9.below b10 (by have := B9.size; have := N9.out; omega)
              have N10 := hide (Nat.le_trans N9.out b10.size)
              go_wp2_with fail
              refine (alive_any _).mono ?_
              rintro e w11 ⟨rfl, b11⟩
              go_wp2
              go_ret
              exact ⟨rfl, B10.trans (b11.mono B10.size)⟩
            · cases hd : canV T d x y z
              · obtain rfl := F3.out hd
                go_wp2_with fail
                refine (iBandOk_any _ _ _ _ T _ M9 N9.out hS).mono ?_
                rw [hb]
                rintro e w10 ⟨rfl, b10⟩
                have B10 := B9.trans (b10.mono B9.size)
                have M10 := M9.below b10 (by have := B9.size; have := N9.out; omega)
                have N10 := hide (Nat.le_trans N9.out b10.size)
                go_wp2_with fail
                refine (alive_any _).mono ?_
                rintro e w11 ⟨rfl, b11⟩
                go_wp2
                go_ret
                exact ⟨rfl, B10.trans (b11.mono B10.size)⟩
              · have p3 := P3.out hd
                have e3 : m3 = n1 := G2.out hb hd
                subst e3
                go_wp2_with fail
                refine (iBandOk_any _ _ _ _ T _ M9 N9.out hS).mono ?_
                rw [hb]
                rintro e w10 ⟨rfl, b10⟩
                have B10 := B9.trans (b10.mono B9.size)
                have M10 := M9.below b10 (by have := B9.size; have := N9.out; omega)
                have N10 := hide (Nat.le_trans N9.out b10.size)
                go_wp2_with fail
                refine (alive_any _).mono ?_
                rintro e w11 ⟨rfl, b11⟩
                go_wp2
                go_ret
                exact ⟨rfl, B10.trans (b11.mono B10.size)⟩

end Go.Proofs.Ytjpdfkmlcjkcmaa
