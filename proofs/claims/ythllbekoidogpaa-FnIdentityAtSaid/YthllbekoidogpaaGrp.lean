
/- The product of two things as the program reads it, and whether brackets matter. -/
import Derived.Test.YthllbekoidogpaaHelp
import Derived.Test.YthllbekoidogpaaTab
import Derived.Deep.RegionHeld3
import Derived.Deep.AppendLies
namespace Go.Proofs.Ythllbekoidogpaa
open Go.RowKit
set_option linter.unusedVariables false


/-- A table in memory at which x and y are things: what a product reads. -/
theorem Mat.at_ {w : World} {lo hi : Nat} {A : Option Addr} {T : List (List Int)} (h : Mat w lo hi A T) (k : IsT T) {x y : Int} (hx0 : 0 ≤ x) (hx1 : x < T.length) (hy0 : 0 ≤ y) (hy1 : y < T.length) :
    ∃ b o b2 o2 c, A = some ⟨b, o, none⟩ ∧ lo ≤ b ∧ b < hi ∧ w.cell? ⟨b, o + x.toNat, none⟩ = some (.slice (some ⟨b2, o2, none⟩) T.length c) ∧ lo ≤ b2 ∧ b2 < hi ∧ w.cell? ⟨b2, o2 + y.toNat, none⟩ = some (.int .i64 (mul T x y)) := by
  obtain ⟨b, o, A', c, rfl, h1, h2, hc, hR⟩ := h x.toNat (by omega)
  have hl := k.len x.toNat (by omega)
  obtain ⟨b2, o2, rfl, h3, h4, hc2⟩ := hR y.toNat (by omega)
  rw [hl] at hc
  exact ⟨b, o, b2, o2, c, rfl, h1, h2, hc, h3, h4, hc2⟩

set_option maxHeartbeats 400000 in
theorem product_any (A : Option Addr) (c lo hi : Nat) (T : List (List Int)) (x y : Int) (w : World) (h : Mat w lo hi A T) (hh : hi ≤ w.heap.size) (k : IsT T) (hx0 : 0 ≤ x) (hx1 : x < T.length) (hy0 : 0 ≤ y) (hy1 : y < T.length) :
    Calls Try.prog 62 #[.agg #[.slice A T.length c], .int .i64 x, .int .i64 y] w fun e w' => e = .returned (.int .i64 (mul T x y)) ∧ Below w.heap.size w w' := by
  obtain ⟨b, o, b2, o2, c', rfl, _, hb, hc, _, hb2, hc2⟩ := h.at_ k hx0 hx1 hy0 hy1
  have hb' : b < w.heap.size := by omega
  have hb2' : b2 < w.heap.size := by omega
  go_enter Try.func62, Try.ntmps62
  go_wp2
  go_ret
  exact ⟨rfl, (Below.refl _ _).alloc (Nat.le_refl _) _⟩

/-- What stays while a call that makes memory reads a table. -/
structure GS (w : World) (lo hi : Nat) (A : Option Addr) (T : List (List Int)) (w' : World) : Prop where
  mat : Mat w' lo hi A T
  hh : hi ≤ w.heap.size
  size : w.heap.size < w'.heap.size
  below : Below w.heap.size w w'
theorem GS.step {w w0 w1 : World} {lo hi : Nat} {A : Option Addr} {T : List (List Int)} (hb : Below w0.heap.size w0 w1) (h : GS w lo hi A T w0) : GS w lo hi A T w1 :=
  ⟨h.mat.below hb (by have := h.hh; have := h.size; omega), h.hh, Nat.lt_of_lt_of_le h.size hb.size, h.below.trans (hb.mono (Nat.le_of_lt h.size))⟩
theorem GS.cell {w w0 w1 : World} {lo hi : Nat} {A : Option Addr} {T : List (List Int)} (hb : Below w0.heap.size w0 w1) (h : GS w lo hi A T w0) {v : Option Value} (hc : w0.cell? ⟨w.heap.size, 0, none⟩ = v) : w1.cell? ⟨w.heap.size, 0, none⟩ = v :=
  (hb.cell (p := ⟨w.heap.size, 0, none⟩) h.size).trans hc
theorem GS.top {w w0 : World} {lo hi : Nat} {A : Option Addr} {T : List (List Int)} (h : GS w lo hi A T w0) : hi ≤ w0.heap.size := by have := h.hh; have := h.size; omega
theorem GS.drew {w w0 : World} {lo hi : Nat} {A : Option Addr} {T : List (List Int)} (h : GS w lo hi A T w0) : GS w lo hi A T w0.drew := ⟨h.mat, h.hh, h.size, h.below.drew⟩

set_option maxHeartbeats 2000000 in
theorem grouped_any (A : Option Addr) (c lo hi : Nat) (T : List (List Int)) (x y z : Int) (w : World) (h : Mat w lo hi A T) (hh : hi ≤ w.heap.size) (k : IsT T) (hx0 : 0 ≤ x) (hx1 : x < T.length) (hy0 : 0 ≤ y) (hy1 : y < T.length) (hz0 : 0 ≤ z) (hz1 : z < T.length) :
    Calls Try.prog 83 #[.agg #[.slice A T.length c], .int .i64 x, .int .i64 y, .int .i64 z] w fun e w' => e = .returned (.bool (assoc T x y z)) ∧ Below w.heap.size w w' := by
  obtain ⟨hm0, hm1⟩ := k.mul hy0 hy1 hz0 hz1
  obtain ⟨hn0, hn1⟩ := k.mul hx0 hx1 hy0 hy1
  have hG : GS w lo hi A T (w.alloc (.cells #[.slice A T.length c] 61)) := ⟨h.below ((Below.refl _ _).alloc (Nat.le_refl _) _) hh, hh, by simp, (Below.refl _ _).alloc (Nat.le_refl _) _⟩
  go_enter Try.func83, Try.ntmps83
  go_wp2_with fail
  go_region_held3 (fun w' => w'.cell? ⟨w.heap.size, 0, none⟩ = some (.slice A T.length c) ∧ GS w lo hi A T w')
    (first
      | exact ⟨by simp, hG.drew⟩
      | (go_split_ands
         exact ⟨GS.cell (by assumption) (by assumption) (by assumption), GS.step (by assumption) (by assumption)⟩))
    (first
      | (go_at_call 62
         refine (product_any _ _ lo hi T _ _ _ ?_ ?_ k ?_ ?_ ?_ ?_).mono ?_
         · go_split_ands
           exact GS.mat (by assumption)
         · go_split_ands
           exact GS.top (by assumption)
         · assumption
         · assumption
         · assumption
         · assumption
         rintro e w1 ⟨rfl, hb⟩))
  go_wp2
  go_ret
  go_split_ands
  exact ⟨rfl, GS.below (by assumption)⟩

set_option maxHeartbeats 2000000 in
theorem iGroupedOk_any (A : Option Addr) (c lo hi : Nat) (T : List (List Int)) (w : World) (h : Mat w lo hi A T) (hh : hi ≤ w.heap.size) (hS : Small T) :
    Calls Try.prog 67 #[.slice A T.length c] w fun e w' => e = .returned (.bool (grpT T)) ∧ Below w.heap.size w w' := by
  have hn := hS.len
  cases hk : okT T
  · go_enter Try.func67, Try.ntmps67
    go_wp2_with (go_at_call 33; refine (iTableOk_any _ _ _ _ _ _ h hS).mono ?_; rintro e w' ⟨rfl, rfl⟩; rw [hk])
    go_ret
    exact ⟨ret_bool (grpT_not hk).symm, Below.refl _ _⟩
  · have k := okT_iff.1 hk
    have hG : GS w lo hi A T (w.alloc (.cells #[.slice A T.length c] 61)) := ⟨h.below ((Below.refl _ _).alloc (Nat.le_refl _) _) hh, hh, by simp, (Below.refl _ _).alloc (Nat.le_refl _) _⟩
    go_enter Try.func67, Try.ntmps67
    go_wp2_with (go_at_call 33; refine (iTableOk_any _ _ _ _ _ _ h hS).mono ?_; rintro e w' ⟨rfl, rfl⟩; rw [hk])
    go_loopg [14] T.length (fun g i wr => ∃ p : Nat, p ≤ T.length ∧ g = T.length - p ∧ i = .int .i64 p ∧ wr.cell? ⟨w.heap.size, 0, none⟩ = some (.slice A T.length c) ∧ GS w lo hi A T wr ∧ Hid (∀ x, x < p → ∀ y, y < T.length → ∀ z, z < T.length → assoc T (x : Nat) (y : Nat) (z : Nat) = true))
    case atStart => exact ⟨0, Nat.zero_le _, rfl, rfl, by simp, hG, fun _ hj => absurd hj (Nat.not_lt_zero _)⟩
    case round =>
      obtain ⟨p, hp, rfl, rfl, hC1, hG1, hH1⟩ := hrel
      clear hG
      by_cases hpt : p < T.length
      · go_wp2
        go_loopg [19] T.length (fun g i wr => ∃ q : Nat, q ≤ T.length ∧ g = T.length - q ∧ i = .int .i64 q ∧ wr.cell? ⟨w.heap.size, 0, none⟩ = some (.slice A T.length c) ∧ GS w lo hi A T wr ∧ Hid (∀ y, y < q → ∀ z, z < T.length → assoc T (p : Nat) (y : Nat) (z : Nat) = true))
        case atStart => exact ⟨0, Nat.zero_le _, rfl, rfl, hC1, hG1, fun _ hj => absurd hj (Nat.not_lt_zero _)⟩
        case round =>
          clear hC1 hG1
          obtain ⟨q, hq, rfl, rfl, hC2, hG2, hH2⟩ := hrel
          by_cases hqt : q < T.length
          · go_wp2
            go_loopg [24] T.length (fun g i wr => ∃ r : Nat, r ≤ T.length ∧ g = T.length - r ∧ i = .int .i64 r ∧ wr.cell? ⟨w.heap.size, 0, none⟩ = some (.slice A T.length c) ∧ GS w lo hi A T wr ∧ Hid (∀ z, z < r → assoc T (p : Nat) (q : Nat) (z : Nat) = true))
            case atStart => exact ⟨0, Nat.zero_le _, rfl, rfl, hC2, hG2, fun _ hj => absurd hj (Nat.not_lt_zero _)⟩
            case round =>
              clear hC2 hG2
              obtain ⟨r, hr, rfl, rfl, hC3, hG3, hH3⟩ := hrel
              by_cases hrt : r < T.length
              · go_wp2_with fail
                refine (grouped_any _ _ _ _ _ _ _ _ _ hG3.mat hG3.top k (by omega) (by omega) (by omega) (by omega) (by omega) (by omega)).mono ?_
                rintro e w1 ⟨rfl, hb⟩
                cases ha : assoc T (p : Nat) (q : Nat) (r : Nat)
                · go_wp2
                  go_ret
                  exact ⟨ret_bool (grpT_at (by omega) (by omega) (by omega) (by omega) (by omega) (by omega) ha).symm, (GS.step hb hG3).below⟩
                · go_wp2
                  go_roundg (T.length - (r + 1))
                  case measure => go_light; omega
                  case rel => go_light; exact ⟨r + 1, by omega, rfl, by go_num, GS.cell hb hG3 hC3, GS.step hb hG3, fun j hj => by
                    by_cases e : j = r
                    · subst e; exact ha
                    · exact hH3 j (by omega)⟩
              · obtain rfl : r = T.length := by omega
                go_wp2
                go_roundg (T.length - (q + 1))
                case measure => go_light; omega
                case rel => go_light; exact ⟨q + 1, by omega, rfl, by go_num, hC3, hG3, fun j hj => by
                    by_cases e : j = q
                    · subst e; exact hH3
                    · exact hH2 j (by omega)⟩
          · obtain rfl : q = T.length := by omega
            go_wp2
            go_roundg (T.length - (p + 1))
            case measure => go_light; omega
            case rel => go_light; exact ⟨p + 1, by omega, rfl, by go_num, hC2, hG2, fun j hj => by
                    by_cases e : j = p
                    · subst e; exact hH2
                    · exact hH1 j (by omega)⟩
      · obtain rfl : p = T.length := by omega
        go_wp2
        go_ret
        exact ⟨ret_bool (grpT_all k hH1.out).symm, hG1.below⟩
end Go.Proofs.Ythllbekoidogpaa
