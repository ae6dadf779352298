
/- The table of levels: the specification's. -/
import Derived.Test.YtcegjiiondmchaaSlev
import Derived.Test.YtcegjiiondmchaaPartS
namespace Go.Proofs.Ytcegjiiondmchaa
open Go.RowKit
set_option linter.unusedVariables false


/-- The first things of levels, below k. -/
def firK (T : List (List Int)) (k : Nat) : List Int := List.map (fun p : Nat => (p : Int)) ((List.range k).filter fun p => rp (inLev T) p)
theorem firK_succ (T : List (List Int)) (k : Nat) : firK T (k + 1) = firK T k ++ (if rp (inLev T) k = true then [(k : Int)] else []) := by
  simp only [firK, List.range_succ, List.filter_append, List.map_append]
  congr 1
  cases h : rp (inLev T) k <;> simp [List.filter, h]
theorem len_firK (T : List (List Int)) : ∀ k, (firK T k).length = ct (inLev T) k
  | 0 => rfl
  | k + 1 => by
    rw [firK_succ, List.length_append, len_firK T k]
    simp only [ct]
    split <;> simp
theorem el_firK {T : List (List Int)} {z : Nat} (h : rp (inLev T) z = true) : ∀ k, z < k → el (firK T k) (ct (inLev T) z) = (z : Int)
  | 0, h0 => absurd h0 (Nat.not_lt_zero _)
  | k + 1, hk => by
    rw [firK_succ]
    by_cases e : z = k
    · subst e
      rw [if_pos h, ← len_firK, el_app_last]
    · have h1 := el_firK h k (by omega)
      have h2 : ct (inLev T) z < (firK T k).length := by
        rw [len_firK]
        have := ct_mono (r := inLev T) (show z + 1 ≤ k by omega)
        rw [ct_rp h] at this
        omega
      rw [el_app_left h2, h1]
theorem fl_rp {T : List (List Int)} (hb : bandT T = true) {v : Nat} (h : v < nL T) : rp (inLev T) (fl T v) = true ∧ ct (inLev T) (fl T v) = v := by
  obtain ⟨a1, a2, a3⟩ := fl_ok h
  have hr : rp (inLev T) (fl T v) = true := rp_iff.2 fun b hb2 => by
    cases e : inLev T (fl T v) b with
    | false => rfl
    | true => exact absurd (((band_eqvL hb).num_eq a1 (by omega) e).symm.trans a2) (a3 b hb2)
  exact ⟨hr, by rw [← num_rp hr, a2]⟩
theorem el_firL {T : List (List Int)} (hb : bandT T = true) {v : Nat} (h : v < nL T) : el (firK T T.length) v = ((fl T v : Nat) : Int) := by
  obtain ⟨h1, h2⟩ := fl_rp hb h
  have := el_firK h1 T.length (fl_ok h).1
  rwa [h2] at this
theorem rp_num {T : List (List Int)} (hb : bandT T = true) {a : Nat} (ha : a < T.length) : (((num (inLev T) a : Nat) : Int) == ((ct (inLev T) a : Nat) : Int)) = rp (inLev T) a := by
  cases h : rp (inLev T) a
  · obtain ⟨h1, h2, _⟩ := fs_some h
    have E := band_eqvL hb
    have := E.num_eq ha (by omega) h2
    have h3 := E.num_lt (show fs (inLev T) a < T.length by omega) h1
    rw [beq_eq_false_iff_ne]
    omega
  · rw [num_rp h]; simp
/-- The table under way. -/
def rowV (T : List (List Int)) (x k : Nat) : List Int := (List.range k).map fun y => levM T x y
def rowsV (T : List (List Int)) (L k : Nat) : List (List Int) := (List.range k).map fun x => rowV T x L
theorem rowV_succ (T : List (List Int)) (x k : Nat) : rowV T x k ++ [levM T x k] = rowV T x (k + 1) := by simp [rowV, List.range_succ]
theorem rowsV_succ (T : List (List Int)) (L k : Nat) : rowsV T L k ++ [rowV T k L] = rowsV T L (k + 1) := by simp [rowsV, List.range_succ]
theorem len_rowV (T : List (List Int)) (x k : Nat) : (rowV T x k).length = k := by simp [rowV]
theorem len_rowsV (T : List (List Int)) (L k : Nat) : (rowsV T L k).length = k := by simp [rowsV]

theorem ATab.keepNil {base base' : Nat} {w w1 : World} {v u : Value} {xs : List Int} (h : ATab base w v []) (hr : ARow base' w u xs) (hg : w.grownBy w1 u.ownBlock) : ATab base w1 v [] := by
  obtain ⟨vs, h1, _⟩ := h
  exact ⟨vs, World.ownsRow.kept h1 hg (own_ne h1 hr (by decide)), fun i hi => absurd hi (by simp)⟩

end Go.Proofs.Ytcegjiiondmchaa
