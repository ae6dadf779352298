
/- The set and the part of a level: the specification's. -/
import Derived.Test.YtcegjiiondmchadSlev
import Derived.Test.YtcegjiiondmchadPartS
namespace Go.Proofs.Ytcegjiiondmchad
open Go.RowKit
set_option linter.unusedVariables false


theorem countT_lo (T : List (List Int)) : -1 ≤ countT T ∧ countT T ≤ 9 := by
  unfold countT
  cases h : bandT T
  · simp
  · have := nL_le T
    have := (band_tab h).hi
    simp only [if_true]
    omega
theorem countT_in {T : List (List Int)} {l : Int} : (decide (0 ≤ l) && decide (l ≤ countT T - 1)) = true ↔ bandT T = true ∧ 0 ≤ l ∧ l < nL T := by
  rw [Bool.and_eq_true, decide_eq_true_iff, decide_eq_true_iff]
  unfold countT
  cases h : bandT T
  · simp; omega
  · simp; omega
/-- The things of a level under way. -/
def mskL (T : List (List Int)) (v k : Nat) : Nat := msk (fun a => num (inLev T) a == v) k
theorem mskL_no {T : List (List Int)} {v k : Nat} (h : (((num (inLev T) k : Nat) : Int) == (v : Int)) = false) : mskL T v (k + 1) = mskL T v k := by
  unfold mskL
  have : ¬ num (inLev T) k = v := fun e => by rw [e] at h; simp at h
  simp [msk, this]
theorem mskL_yes {T : List (List Int)} {v k : Nat} (h : (((num (inLev T) k : Nat) : Int) == (v : Int)) = true) : mskL T v (k + 1) = mskL T v k ||| 2 ^ k := by
  unfold mskL
  rw [msk_or, if_pos]
  have : ((num (inLev T) k : Nat) : Int) = (v : Int) := by simpa using h
  simp; omega
theorem mskL_lt (T : List (List Int)) (v k : Nat) : mskL T v k < 2 ^ k := msk_lt _ _

set_option maxRecDepth 20000 in
set_option maxHeartbeats 4000000 in
theorem sLevelSet_any (A : Option Addr) (c lo hi : Nat) (T : List (List Int)) (l : Int) (w : World) (h : Mat w lo hi A T) (hh : hi ≤ w.heap.size) (hS : Small T) :
    Calls Try.prog 30 #[.slice A T.length c, .int .i64 l] w fun e w' => e = .returned (.int .i64 (levS T l)) ∧ Below w.heap.size w w' := by
  have hlT := hS.len
  obtain ⟨n0, n1⟩ := countT_lo T
  go_enter Try.func30, Try.ntmps30
  go_wp2_with fail
  refine (sLevelsOf_any _ _ _ _ T w h hh hS).mono ?_
  rintro e w1 ⟨A1, c1, rfl, B1, hR, _, _⟩
  have m1 := h.below B1 hh
  have z1 := B1.size
  go_wp2_with fail
  refine (sCountLevels_any _ _ _ _ T w1 m1 (by omega) hS).mono ?_
  rintro e w2 ⟨rfl, B2⟩
  have B12 := B1.trans (B2.mono z1)
  have hR2 := hR.below B2 (Nat.le_refl _)
  clear hR m1
  go_wp2_with fail
  refine (l1In_any l _ _ _).mono ?_
  cases hin : (decide (0 ≤ l) && decide (l ≤ countT T - 1))
  · have HE := hide (levS_not (T := T) (l := l) (fun q => by rw [countT_in.2 q] at hin; cases hin))
    rintro e w' ⟨rfl, rfl⟩
    clear hR2
    go_wp2
    go_ret
    rw [HE.out]
    exact ⟨rfl, B12⟩
  · obtain ⟨hr, l0, l1⟩ := countT_in.1 hin
    obtain ⟨v, rfl⟩ : ∃ v : Nat, l = v := ⟨l.toNat, by omega⟩
    have hv : v < nL T := by omega
    have HE := hide (show levS T v = ((mskL T v T.length : Nat) : Int) from levS_ok hr hv)
    have k := band_tab hr
    have k9 := k.hi
    rw [len_levsL hr]
    rintro e w' ⟨rfl, rfl⟩
    clear hin n0 n1
    go_wp2
    go_loopg [7, 6] T.length (fun g i x wr => ∃ a : Nat, a ≤ T.length ∧ Hid (g = T.length - a) ∧ i = .int .i64 a ∧ x = .int .i64 (mskL T v a : Nat) ∧ w2 = wr)
    case atStart => exact ⟨0, Nat.zero_le _, rfl, rfl, rfl, rfl⟩
    case round =>
      obtain ⟨a, ha, hgk, rfl, rfl, rfl⟩ := hrel
      by_cases hlt : a < T.length
      · obtain ⟨bx, ox, rfl, _, _, hc2⟩ := hR2 a (by rw [len_levsL hr]; exact hlt)
        rw [el_levsL hr hlt] at hc2
        have hp9 := pow_le9 (show a ≤ 9 by omega)
        have hml := mskL_lt T v a
        cases e : (((num (inLev T) a : Nat) : Int) == (v : Int))
        · have HX := hide (mskL_no e)
          go_wp2
          go_roundg (T.length - (a + 1))
          case measure => go_light; have := hgk.out; omega
          case rel => go_light; exact ⟨a + 1, by omega, rfl, by go_num, by rw [HX.out], rfl⟩
        · have HX := hide (mskL_yes e)
          have ha9 : a ≤ 9 := by omega
          obtain ⟨g1, g2⟩ := pow_int ha9
          have hm1 : mskL T v a < 1024 := by omega
          have HOR := hide (or_pow hm1 ha9)
          go_wp2
          go_roundg (T.length - (a + 1))
          case measure => go_light; have := hgk.out; omega
          case rel => go_light; exact ⟨a + 1, by omega, rfl, by go_num, by rw [HX.out, HOR.out], rfl⟩
      · obtain rfl : T.length = a := by omega
        go_wp2
        go_ret
        rw [HE.out]
        exact ⟨rfl, B12⟩

set_option maxRecDepth 20000 in
set_option maxHeartbeats 4000000 in
theorem sLevelPart_any (A : Option Addr) (c lo hi : Nat) (T : List (List Int)) (l : Int) (w : World) (h : Mat w lo hi A T) (hh : hi ≤ w.heap.size) (hS : Small T) :
    Calls Try.prog 34 #[.slice A T.length c, .int .i64 l] w (NewTab w (levP T l)) := by
  have hlT := hS.len
  go_enter Try.func34, Try.ntmps34
  go_wp2_with fail
  refine (sLevelSet_any _ _ _ _ T l w h hh hS).mono ?_
  rintro e w1 ⟨rfl, B1⟩
  have m1 := h.below B1 hh
  have z1 := B1.size
  rcases levS_or T l with ⟨e, _⟩ | ⟨v, rfl, hr, hv, e, kP⟩
  · have HE := hide (levP_not e)
    have b0 := B1.trans (((Below.refl w1.heap.size w1).alloc (Nat.le_refl _) (.cells #[] 25)).mono z1)
    rw [e]
    go_wp2
    go_ret
    rw [HE.out]
    exact ⟨_, 0, rfl, b0, Mat.nil _ _ _ _⟩
  · have HE := hide (levP_ok hr hv)
    have hlt : ¬ ((levB T v : Nat) : Int) < 0 := by omega
    rw [e]
    go_wp2_with fail
    refine (sPartOf_any _ _ _ _ T _ w1 m1 (by omega) hS).mono ?_
    rintro e w2 ⟨A2, c2, rfl, B2, hM⟩
    go_wp2
    go_ret
    rw [HE.out]
    exact ⟨A2, c2, rfl, B1.trans (B2.mono z1), hM.mono z1 (Nat.le_refl _)⟩
end Go.Proofs.Ytcegjiiondmchad
