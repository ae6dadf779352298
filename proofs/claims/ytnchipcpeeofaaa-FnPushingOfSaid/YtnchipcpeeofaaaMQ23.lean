/-  -/
import Derived.Test.YtnchipcpeeofaaaMQ09
import Derived.Test.YtnchipcpeeofaaaMQ22
namespace Go.Proofs.Ytnchipcpeeofaaa
open Go.RowKit
set_option linter.unusedVariables false


/-- The first things of levels, below k. -/
def firK (T : List (List Int)) (k : Nat) : List Int := List.map (fun p : Nat => (p : Int)) ((List.range k).filter fun p => rp (inLev T) p)
theorem firK_succ (T : List (List Int)) (k : Nat) : firK T (k + 1) = firK T k ++ (if rp (inLev T) k = true then [(k : Int)] else []) := by
  simp only [firK, List.range_succ, List.filter_append, List.map_append]
  congr 1
  cases h : rp (inLev T) k <;> simp [List.filter, h]
theorem len_firK (T : List (List Int)) : ∀ k, (firK T k).length = ct (inLev T) k
  | 0 => rfl
  | k + 1 => by
    rw [firK_succ, List.length_append, len_firK T k]
    simp only [ct]
    split <;> simp
theorem el_firK {T : List (List Int)} {z : Nat} (h : rp (inLev T) z = true) : ∀ k, z < k → el (firK T k) (ct (inLev T) z) = (z : Int)
  | 0, h0 => absurd h0 (Nat.not_lt_zero _)
  | k + 1, hk => by
    rw [firK_succ]
    by_cases e : z = k
    · subst e
      rw [if_pos h, ← len_firK, el_app_last]
    · have h1 := el_firK h k (by omega)
      have h2 : ct (inLev T) z < (firK T k).length := by
        rw [len_firK]
        have := ct_mono (r := inLev T) (show z + 1 ≤ k by omega)
        rw [ct_rp h] at this
        omega
      rw [el_app_left h2, h1]
theorem fl_rp {T : List (List Int)} (hb : bandT T = true) {v : Nat} (h : v < nL T) : rp (inLev T) (fl T v) = true ∧ ct (inLev T) (fl T v) = v := by
  obtain ⟨a1, a2, a3⟩ := fl_ok h
  have hr : rp (inLev T) (fl T v) = true := rp_iff.2 fun b hb2 => by
    cases e : inLev T (fl T v) b with
    | false => rfl
    | true => exact absurd (((band_eqvL hb).num_eq a1 (by omega) e).symm.trans a2) (a3 b hb2)
  exact ⟨hr, by rw [← num_rp hr, a2]⟩
theorem el_firL {T : List (List Int)} (hb : bandT T = true) {v : Nat} (h : v < nL T) : el (firK T T.length) v = ((fl T v : Nat) : Int) := by
  obtain ⟨h1, h2⟩ := fl_rp hb h
  have := el_firK h1 T.length (fl_ok h).1
  rwa [h2] at this
theorem rp_num {T : List (List Int)} (hb : bandT T = true) {a : Nat} (ha : a < T.length) : (((num (inLev T) a : Nat) : Int) == ((ct (inLev T) a : Nat) : Int)) = rp (inLev T) a := by
  cases h : rp (inLev T) a
  · obtain ⟨h1, h2, _⟩ := fs_some h
    have E := band_eqvL hb
    have := E.num_eq ha (by omega) h2
    have h3 := E.num_lt (show fs (inLev T) a < T.length by omega) h1
    rw [beq_eq_false_iff_ne]
    omega
  · rw [num_rp h]; simp
/-- The table under way. -/
def rowV (T : List (List Int)) (x k : Nat) : List Int := (List.range k).map fun y => levM T x y
def rowsV (T : List (List Int)) (L k : Nat) : List (List Int) := (List.range k).map fun x => rowV T x L
theorem rowV_succ (T : List (List Int)) (x k : Nat) : rowV T x k ++ [levM T x k] = rowV T x (k + 1) := by simp [rowV, List.range_succ]
theorem rowsV_succ (T : List (List Int)) (L k : Nat) : rowsV T L k ++ [rowV T k L] = rowsV T L (k + 1) := by simp [rowsV, List.range_succ]
theorem len_rowV (T : List (List Int)) (x k : Nat) : (rowV T x k).length = k := by simp [rowV]
theorem len_rowsV (T : List (List Int)) (L k : Nat) : (rowsV T L k).length = k := by simp [rowsV]

theorem ATab.keepNil {base base' : Nat} {w w1 : World} {v u : Value} {xs : List Int} (h : ATab base w v []) (hr : ARow base' w u xs) (hg : w.grownBy w1 u.ownBlock) : ATab base w1 v [] := by
  obtain ⟨vs, h1, _⟩ := h
  exact ⟨vs, World.ownsRow.kept h1 hg (own_ne h1 hr (by decide)), fun i hi => absurd hi (by simp)⟩

set_option maxRecDepth 20000 in
set_option maxHeartbeats 8000000 in
theorem sLevelTable_any (A : Option Addr) (c lo hi : Nat) (T : List (List Int)) (w : World) (h : Mat w lo hi A T) (hh : hi ≤ w.heap.size) (hS : Small T) :
    Calls Try.prog 23 #[.slice A T.length c] w (NewTab w (levelT T)) := by
  have hlT := hS.len
  go_enter Try.func23, Try.ntmps23
  go_wp2_with fail
  refine (sLevelsOf_any _ _ _ _ T w h hh hS).mono ?_
  rintro e w1 ⟨A1, c1, rfl, B1, hR, _, _⟩
  have m1 := h.below B1 hh
  have z1 := B1.size
  have c2 := (Below.refl w1.heap.size w1).alloc (Nat.le_refl _) (.cells #[] 24) |>.alloc (by simp) (.cells #[] 3)
  cases hr : bandT T
  · have HE := hide (levelT_not hr)
    rw [levsL_not hr]
    clear hR m1
    go_wp2
    go_loopg [6, 5] 1 (fun g i v wr => i = .int .i64 0 ∧ (∃ A' c', v = .slice A' 0 c') ∧ Below w1.heap.size w1 wr)
    case atStart => exact ⟨rfl, ⟨_, _, rfl⟩, c2⟩
    case round =>
      obtain ⟨rfl, ⟨A', c', rfl⟩, hB⟩ := hrel
      clear c2
      go_wp2
      go_loopg [7, 4] 1 (fun g i v wr2 => i = .int .i64 0 ∧ v = .slice (some ⟨w1.heap.size, 0, none⟩) 0 0 ∧ wr = wr2)
      case atStart => exact ⟨rfl, rfl, rfl⟩
      case round =>
        obtain ⟨rfl, rfl, rfl⟩ := hrel
        go_wp2
        go_ret
        rw [HE.out]
        exact ⟨_, 0, rfl, B1.trans (hB.mono z1), Mat.nil _ _ _ _⟩
  · have k := band_tab hr
    have k9 := k.hi
    have T1 : ATab w1.heap.size (w1.alloc (.cells #[] 24)) (.slice (some ⟨w1.heap.size, 0, none⟩) 0 0) [] := ATab.made (Nat.le_refl _)
    have T2 := T1.below ((Below.refl _ _).alloc (Nat.le_refl _) (.cells #[] 3))
    have zc : (w1.alloc (.cells #[] 24)).heap.size = w1.heap.size + 1 := by simp
    have l0 := ARow.made (w := w1.alloc (.cells #[] 24)) (base := w1.heap.size) (by rw [zc]; omega)
    rw [zc] at l0
    clear zc T1
    rw [len_levsL hr]
    go_wp2
    go_loopg [6, 5] T.length (fun g i v wr => ∃ a : Nat, a ≤ T.length ∧ Hid (g = T.length - a) ∧ i = .int .i64 a ∧ ARow w1.heap.size wr v (firK T a) ∧ Below w1.heap.size w1 wr ∧ ATab w1.heap.size wr (.slice (some ⟨w1.heap.size, 0, none⟩) 0 0) [])
    case atStart => exact ⟨0, Nat.zero_le _, rfl, rfl, l0, c2, T2⟩
    case round =>
      clear l0 T2 c2
      obtain ⟨a, ha, hgk, rfl, hF, hB, hT⟩ := hrel
      have hs : w1.heap.size ≤ wr.heap.size := hB.size
      obtain ⟨A5, c5, rfl, _, _, hF5⟩ := hF.val
      rw [len_firK] at hF ⊢
      by_cases hlt : a < T.length
      · obtain ⟨b3, o3, rfl, _, hl3, g1⟩ := (hR.below hB (Nat.le_refl _)) a (by rw [len_levsL hr]; exact hlt)
        rw [el_levsL hr hlt] at g1
        have hl5 : (firK T a).length ≤ 1048576 := by rw [len_firK]; have := ct_le (inLev T) a; omega
        cases hrp : rp (inLev T) a
        · have e := rp_num hr hlt
          rw [hrp] at e
          have HX := hide (show firK T (a + 1) = firK T a from by rw [firK_succ, hrp]; simp)
          have HC := hide (len_firK T a)
          go_wp2
          go_roundg (T.length - (a + 1))
          case measure => go_light; have := hgk.out; omega
          case rel => go_light; exact ⟨a + 1, by omega, rfl, by go_num, by rw [HX.out]; exact hF, hB, hT⟩
        · have e := rp_num hr hlt
          rw [hrp] at e
          have HX := hide (show firK T (a + 1) = firK T a ++ [(a : Int)] from by rw [firK_succ, hrp]; simp)
          go_wp2_with (at_builtin; refine wp_app_int rfl (.tmp 27) (.tmp 29) rfl w1.heap.size _ _ _ _ rfl rfl hF hl5 hs ?_; intro v2 w3 hown2 hg2)
          go_roundg (T.length - (a + 1))
          case measure => go_light; have := hgk.out; omega
          case rel => go_light; exact ⟨a + 1, by omega, rfl, by go_num, by rw [HX.out]; exact hown2, hB.trans (hF.belowOf hg2 (Nat.le_refl _) hs), hT.keepNil hF hg2⟩
      · obtain rfl : T.length = a := by omega
        have hB1 := hB
        have hT2 := hT
        clear hB hT
        obtain ⟨L, hL⟩ : ∃ L, L = ct (inLev T) T.length := ⟨_, rfl⟩
        have hL9 : L ≤ 9 := by rw [hL]; have := ct_le (inLev T) T.length; omega
        have hLn : nL T = L := hL.symm
        have HE := hide (show levelT T = rowsV T L L from by rw [levelT_ok hr, hLn]; rfl)
        rw [← hL] at hF ⊢
        clear hL
        go_wp2
        go_loopg [7, 4] L (fun g i v wr => ∃ x : Nat, x ≤ L ∧ Hid (g = L - x) ∧ i = .int .i64 x ∧ ATab w1.heap.size wr v (rowsV T L x) ∧ Below w1.heap.size w1 wr ∧ ARow w1.heap.size wr (.slice A5 L c5) (firK T T.length))
        case atStart => exact ⟨0, Nat.zero_le _, rfl, rfl, hT2, hB1, hF⟩
        case round =>
          clear hT2 hB1 hF hF5
          obtain ⟨x, hx, hgk, rfl, hA, hB, hF⟩ := hrel
          by_cases hxt : x < L
          · obtain ⟨wo, rfl⟩ : ∃ wo : World, wo = wr := ⟨_, rfl⟩
            have hxi : (x : Int) < (L : Int) := by omega
            go_wp2
            have hb1 := (Below.refl wo.heap.size wo).alloc (Nat.le_refl _) (.cells #[] 3)
            have hr0 := ARow.made (w := wo) (Nat.le_refl _)
            go_loopg [9, 8] L (fun g i u wi => ∃ y : Nat, y ≤ L ∧ Hid (g = L - y) ∧ i = .int .i64 y ∧ ARow wo.heap.size wi u (rowV T x y) ∧ Below wo.heap.size wo wi)
            case atStart => exact ⟨0, Nat.zero_le _, rfl, rfl, hr0, hb1⟩
            case round =>
              clear hb1 hr0
              obtain ⟨y, hy, hgk2, rfl, hR2, hW⟩ := hrel
              have hwi : w1.heap.size ≤ wo.heap.size := hB.size
              by_cases hyt : y < L
              · have hyi : (y : Int) < (L : Int) := by omega
                have hl' : (rowV T x y).length ≤ 1048576 := by rw [len_rowV]; omega
                have hs2 := hW.size
                obtain ⟨xa1, _, _⟩ := fl_ok (T := T) (v := x) (by omega)
                obtain ⟨xb1, _, _⟩ := fl_ok (T := T) (v := y) (by omega)
                obtain ⟨z, ez, zt⟩ := mul_nat k xa1 xb1
                have EM := hide (show levM T x y = ((num (inLev T) z : Nat) : Int) from by unfold levM; rw [ez, Int.toNat_natCast])
                have ef1 := el_firL hr (show x < nL T by omega)
                have ef2 := el_firL hr (show y < nL T by omega)
                have hlf : (firK T T.length).length = L := by rw [len_firK]; exact hLn
                obtain ⟨A5', c5', e5, _, _, hR5⟩ := hF.val
                injection e5 with e5 e51 e52
                clear e51 e52
                subst e5
                obtain ⟨b5, o5, rfl, _, hl5, g1⟩ := hR5 x (by rw [hlf]; exact hxt)
                obtain ⟨b5', o5', e5, _, _, g2⟩ := hR5 y (by rw [hlf]; exact hyt)
                obtain ⟨rfl, rfl⟩ : b5 = b5' ∧ o5 = o5' := by simpa using e5
                obtain ⟨b3, o3, rfl, _, hl3, g3⟩ := (hR.below hB (Nat.le_refl _)) z (by rw [len_levsL hr]; exact zt)
                obtain ⟨bt, ot, b2, o2, c', rfl, _, hbl, g4, _, hbl2, g5⟩ := (m1.below hB (by omega)).at_ k (x := (fl T x : Nat)) (y := (fl T y : Nat)) (by omega) (by omega) (by omega) (by omega)
                rw [ef1] at g1
                rw [ef2] at g2
                rw [el_levsL hr zt] at g3
                rw [Int.toNat_natCast] at g4 g5
                rw [ez] at g5
                clear ef1 ef2 ez hlf e5
                obtain ⟨p, hp⟩ : ∃ p, p = fl T x := ⟨_, rfl⟩
                obtain ⟨q, hq⟩ : ∃ q, q = fl T y := ⟨_, rfl⟩
                rw [← hp] at g1 g4 xa1
                rw [← hq] at g2 g5 xb1
                clear hp hq
                have MK := hide (fun (W : World) (hW' : Below wo.heap.size wo W) =>
                  (⟨(hW'.cell (p := ⟨b5, o5 + x, none⟩) hl5).trans g1, (hW'.cell (p := ⟨b5, o5 + y, none⟩) hl5).trans g2, (hW'.cell (p := ⟨bt, ot + p, none⟩) (by show bt < _; omega)).trans g4, (hW'.cell (p := ⟨b2, o2 + q, none⟩) (by show b2 < _; omega)).trans g5, (hW'.cell (p := ⟨b3, o3 + z, none⟩) (by show b3 < _; omega)).trans g3, hW'⟩ :
                    W.cell? ⟨b5, o5 + x, none⟩ = some (.int .i64 (p : Nat)) ∧ W.cell? ⟨b5, o5 + y, none⟩ = some (.int .i64 (q : Nat)) ∧ W.cell? ⟨bt, ot + p, none⟩ = some (.slice (some ⟨b2, o2, none⟩) T.length c') ∧ W.cell? ⟨b2, o2 + q, none⟩ = some (.int .i64 (z : Nat)) ∧ W.cell? ⟨b3, o3 + z, none⟩ = some (.int .i64 (num (inLev T) z : Nat)) ∧ Below wo.heap.size wo W))
                have xai : (p : Int) < (T.length : Int) := by omega
                have xbi : (q : Int) < (T.length : Int) := by omega
                have zi : (z : Int) < (T.length : Int) := by omega
                clear g1 g2 g3 g4 g5
                go_wp2
                go_region_held3 (fun W => W.cell? ⟨b5, o5 + x, none⟩ = some (.int .i64 (p : Nat)) ∧ W.cell? ⟨b5, o5 + y, none⟩ = some (.int .i64 (q : Nat)) ∧ W.cell? ⟨bt, ot + p, none⟩ = some (.slice (some ⟨b2, o2, none⟩) T.length c') ∧ W.cell? ⟨b2, o2 + q, none⟩ = some (.int .i64 (z : Nat)) ∧ W.cell? ⟨b3, o3 + z, none⟩ = some (.int .i64 (num (inLev T) z : Nat)) ∧ Below wo.heap.size wo W)
                  (first
                    | exact MK.out _ hW.drew
                    | (go_split_ands
                       exact MK.out _ (Below.alloc (by assumption) (Below.size (by assumption)) _))
                    | (go_split_ands
                       exact MK.out _ (Below.trans hW (by assumption))))
                  (first
                    | (refine step_app_drew (by rfl) (.tmp 44) (.tmp 61) (by rfl) wo.heap.size _ (rowV T x y) _ 1 (by rfl) (by rfl) hR2 hl' hs2 ?_
                       intro v1 w3 hown1 hg1
                       have hb1 : Below wo.heap.size wr w3 := ARow.belowOf hR2 hg1 (Nat.le_refl _) hs2))
                go_wp2
                go_roundg (L - (y + 1))
                case measure => go_light; have := hgk2.out; omega
                case rel => go_light; exact ⟨y + 1, by omega, rfl, by go_num, by rw [← rowV_succ, EM.out]; exact hown1, hW.trans (hR2.belowOf hg1 (Nat.le_refl _) hs2)⟩
              · obtain rfl : L = y := by omega
                have hA2 := hA.below hW
                obtain ⟨Ar, cr, hAr, _, _, _⟩ := hR2.val
                rw [len_rowV] at hAr
                subst hAr
                have hl' : (rowsV T L x).length ≤ 1048576 := by rw [len_rowsV]; omega
                have hs2 : w1.heap.size ≤ wr.heap.size := Nat.le_trans hwi hW.size
                have h52 := hF.below hW
                go_wp2_with (at_builtin; refine wp_app_row rfl (.tmp 63) (.tmp 65) rfl w1.heap.size _ _ _ _ _ rfl rfl hA2 (hR2.mono hwi) hl' hs2 ?_; intro v1 w3 hown1 hg1)
                go_roundg (L - (x + 1))
                case measure => go_light; have := hgk.out; omega
                case rel => go_light; exact ⟨x + 1, by omega, rfl, by go_num, by rw [← rowsV_succ]; exact hown1, (hB.trans (hW.mono hwi)).trans (hA2.belowOf hg1 (Nat.le_refl _) hs2), hA2.keepRow h52 hg1⟩
          · obtain rfl : L = x := by omega
            obtain ⟨A', c', hv, _, _, hM⟩ := hA.val
            rw [len_rowsV] at hv
            subst hv
            go_wp2
            go_ret
            rw [HE.out]
            exact ⟨A', c', ret_slice (by rw [len_rowsV]), B1.trans (hB.mono z1), hM.mono z1 (Nat.le_refl _)⟩
end Go.Proofs.Ytnchipcpeeofaaa
