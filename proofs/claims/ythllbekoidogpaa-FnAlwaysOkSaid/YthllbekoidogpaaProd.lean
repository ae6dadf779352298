
/- Products of rows: the program's fold, and the specification's loop. -/
import Derived.Test.YthllbekoidogpaaGrp
import Derived.Test.YthllbekoidogpaaSgrp
import Derived.Test.YthllbekoidogpaaTab
namespace Go.Proofs.Ythllbekoidogpaa
open Go.RowKit
set_option linter.unusedVariables false


/-- The product of the first k + 1 things of a row. -/
def pf (T : List (List Int)) (xs : List Int) : Nat → Int
  | 0 => el xs 0
  | k + 1 => mul T (pf T xs k) (el xs (k + 1))
theorem pf_in {T : List (List Int)} {xs : List Int} (k : IsT T) (h : ∀ j, j < xs.length → 0 ≤ el xs j ∧ el xs j < T.length) : ∀ j, j < xs.length → 0 ≤ pf T xs j ∧ pf T xs j < T.length
  | 0, hj => h 0 hj
  | j + 1, hj => by
    obtain ⟨h0, h1⟩ := pf_in k h j (by omega)
    obtain ⟨h2, h3⟩ := h (j + 1) hj
    exact k.mul h0 h1 h2 h3
/-- The product of a row, or -1. -/
def prodT (T : List (List Int)) (xs : List Int) : Int := if okT T = true ∧ xs.length ≠ 0 ∧ okRow T.length xs = true then pf T xs (xs.length - 1) else -1
theorem prodT_ok {T : List (List Int)} {xs : List Int} (h1 : okT T = true) (h2 : xs.length ≠ 0) (h3 : okRow T.length xs = true) : prodT T xs = pf T xs (xs.length - 1) := by unfold prodT; rw [if_pos ⟨h1, h2, h3⟩]
theorem prodT_not {T : List (List Int)} {xs : List Int} (h : okT T = false ∨ xs.length = 0 ∨ okRow T.length xs = false) : prodT T xs = -1 := by
  unfold prodT
  rw [if_neg]
  rintro ⟨h1, h2, h3⟩
  rcases h with h | h | h
  · rw [h1] at h; cases h
  · exact h2 h
  · rw [h3] at h; cases h

set_option maxHeartbeats 2000000 in
theorem folded_any (A A2 : Option Addr) (c c2 lo hi lo2 hi2 : Nat) (T : List (List Int)) (xs : List Int) (w : World) (h : Mat w lo hi A T) (hh : hi ≤ w.heap.size) (k : IsT T) (h2 : Row w lo2 hi2 A2 xs) (hh2 : hi2 ≤ w.heap.size)
    (hx : ∀ j, j < xs.length → 0 ≤ el xs j ∧ el xs j < T.length) (hn0 : 1 ≤ xs.length) (hn : xs.length ≤ 1048576) (hc1 : xs.length ≤ c2) (hc2 : c2 ≤ 9223372036854775807) :
    Calls Try.prog 102 #[.slice A2 xs.length c2, .func (.func 62) #[.agg #[.slice A T.length c]] #[]] w fun e w' => e = .returned (.int .i64 (pf T xs (xs.length - 1))) ∧ Below w.heap.size w w' := by
  obtain ⟨b, o, rfl, _, hb2, hc⟩ := h2 0 (by omega)
  have hc0 : w.cell? ⟨b, o, none⟩ = some (.int .i64 (el xs 0)) := hc
  clear hc
  have hp0 : 0 < xs.length := by omega
  by_cases h1 : c2 = 1
  · have hl : xs.length = 1 := by omega
    have e0 : pf T xs (xs.length - 1) = el xs 0 := by rw [hl]; rfl
    have HE := hide e0
    have hlz : xs.length - 1 < 1 := by omega
    clear e0 hl
    go_enter Try.func102, Try.ntmps102
    go_wp2
    go_loopg [14, 5] 1 (fun g i v wr => i = .int .i64 0 ∧ v = .int .i64 (el xs 0) ∧ w = wr)
    case atStart => exact ⟨rfl, rfl, rfl⟩
    case round =>
      obtain ⟨rfl, rfl, rfl⟩ := hrel
      go_wp2
      go_ret
      exact ⟨ret_int HE.out.symm, Below.refl _ _⟩
  · go_enter Try.func102, Try.ntmps102
    go_wp2
    go_loopg [14, 5] xs.length (fun g i v wr => ∃ p : Nat, p + 1 ≤ xs.length ∧ g = xs.length - p ∧ i = .int .i64 p ∧ v = .int .i64 (pf T xs p) ∧ Below w.heap.size w wr)
    case atStart => exact ⟨0, hn0, rfl, rfl, rfl, Below.refl _ _⟩
    case round =>
      obtain ⟨p, hp, rfl, rfl, rfl, hb⟩ := hrel
      by_cases hlt : p < xs.length - 1
      · obtain ⟨b', o', e, _, _, hc'⟩ := h2 (p + 1) (by omega)
        obtain ⟨rfl, rfl⟩ : b = b' ∧ o = o' := by simpa using e
        have g0 : wr.cell? ⟨b, o + 1 + p, none⟩ = some (.int .i64 (el xs (p + 1))) := by
          rw [hb.cell (p := ⟨b, o + 1 + p, none⟩) (by show b < _; omega), show o + 1 + p = o + (p + 1) from by omega]; exact hc'
        obtain ⟨v0, v1⟩ := pf_in k hx p (by omega)
        obtain ⟨u0, u1⟩ := hx (p + 1) (by omega)
        have hmr := h.below hb hh
        clear hc' e
        go_wp2_with fail
        go_at_call 62
        refine (product_any _ _ _ _ _ _ _ _ hmr (Nat.le_trans hh hb.size) k v0 v1 u0 u1).mono ?_
        rintro e w1 ⟨rfl, b1⟩
        go_wp2
        go_roundg (xs.length - (p + 1))
        case measure => go_light; omega
        case rel => go_light; exact ⟨p + 1, by omega, rfl, by go_num, rfl, hb.trans (b1.mono hb.size)⟩
      · have e0 : pf T xs (xs.length - 1) = pf T xs p := by rw [show xs.length - 1 = p from by omega]
        have HE := hide e0
        clear e0
        go_wp2
        go_ret
        exact ⟨ret_int HE.out.symm, hb⟩

set_option maxHeartbeats 2000000 in
theorem sProductOf_any (A A2 : Option Addr) (c c2 lo hi lo2 hi2 : Nat) (T : List (List Int)) (xs : List Int) (w : World) (h : Mat w lo hi A T) (hS : Small T) (h2 : Row w lo2 hi2 A2 xs) (hn : xs.length ≤ 1048576) :
    Calls Try.prog 103 #[.slice A T.length c, .slice A2 xs.length c2] w fun e w' => e = .returned (.int .i64 (prodT T xs)) ∧ QD w w' := by
  have hlT := hS.len
  cases hk : okT T
  · go_enter Try.func103, Try.ntmps103
    go_wp2_with (go_at_call 16; refine (sTableOk_any _ _ _ _ _ _ h hS).mono ?_; rintro e w' ⟨rfl, rfl⟩; rw [hk])
    go_ret
    exact ⟨ret_int (prodT_not (.inl hk)).symm, QD.refl _⟩
  · have k := okT_iff.1 hk
    have k9 := k.hi
    have k1 := k.lo
    by_cases h0 : xs.length = 0
    · have H0 := hide h0
      have hz : ((xs.length : Int) == 0) = true := by simp [h0]
      clear h0
      go_enter Try.func103, Try.ntmps103
      go_wp2_with (go_at_call 16; refine (sTableOk_any _ _ _ _ _ _ h hS).mono ?_; rintro e w' ⟨rfl, rfl⟩; rw [hk])
      go_ret
      exact ⟨ret_int (prodT_not (.inr (.inl H0.out))).symm, QD.refl _⟩
    · have hz : ((xs.length : Int) == 0) = false := beq_eq_false_iff_ne.2 (by omega)
      have hp0 : 0 < xs.length := by omega
      go_enter Try.func103, Try.ntmps103
      go_wp2_with (go_at_call 16; refine (sTableOk_any _ _ _ _ _ _ h hS).mono ?_; rintro e w' ⟨rfl, rfl⟩; rw [hk])
      go_loopg [5] xs.length (fun g i wr => ∃ p : Nat, p ≤ xs.length ∧ g = xs.length - p ∧ i = .int .i64 p ∧ w = wr ∧ Hid (∀ j, j < p → 0 ≤ el xs j ∧ el xs j < T.length))
      case atStart => exact ⟨0, Nat.zero_le _, rfl, rfl, rfl, fun _ hj => absurd hj (Nat.not_lt_zero _)⟩
      case round =>
        obtain ⟨p, hp, rfl, rfl, rfl, hH⟩ := hrel
        by_cases hlt : p < xs.length
        · obtain ⟨b, o, rfl, _, _, hc⟩ := h2 p hlt
          by_cases hv : 0 ≤ el xs p ∧ el xs p < T.length
          · obtain ⟨hv0, hv1⟩ := hv
            have hb : (decide (0 ≤ el xs p) && decide (el xs p ≤ (T.length : Int) - 1)) = true := by simp; omega
            go_wp2_with (go_at_call 59; refine (l1In_any _ _ _ _).mono ?_; rintro e w' ⟨rfl, rfl⟩; rw [hb])
            go_roundg (xs.length - (p + 1))
            case measure => go_light; omega
            case rel => go_light; exact ⟨p + 1, by omega, rfl, by go_num, rfl, fun j hj => by
              by_cases e : j = p
              · subst e; exact ⟨hv0, hv1⟩
              · exact hH j (by omega)⟩
          · have hb : (decide (0 ≤ el xs p) && decide (el xs p ≤ (T.length : Int) - 1)) = false := by simp; omega
            go_wp2_with (go_at_call 59; refine (l1In_any _ _ _ _).mono ?_; rintro e w' ⟨rfl, rfl⟩; rw [hb])
            go_ret
            exact ⟨ret_int (prodT_not (.inr (.inr (okRow_false hlt (by omega))))).symm, QD.refl _⟩
        · obtain rfl : p = xs.length := by omega
          have hr := okRow_iff.2 hH.out
          have HR := hide hr
          have hx := hH.out
          clear hr
          obtain ⟨b, o, rfl, _, _, hc⟩ := h2 0 hp0
          have hc0 : w.cell? ⟨b, o, none⟩ = some (.int .i64 (el xs 0)) := hc
          obtain ⟨b2, o2, rfl, _, _, hcell⟩ := h.head k
          clear hc
          go_wp2
          go_loopg [7, 6] xs.length (fun g i v wr => ∃ p : Nat, p + 1 ≤ xs.length ∧ g = xs.length - p ∧ i = .int .i64 ((p : Int) + 1) ∧ v = .int .i64 (pf T xs p) ∧ QD w wr)
          case atStart => exact ⟨0, hp0, rfl, rfl, rfl, QD.refl _⟩
          case round =>
            obtain ⟨p, hp, rfl, rfl, rfl, hq⟩ := hrel
            by_cases hlt2 : p + 1 < xs.length
            · have hcw : ∀ a, wr.cell? a = w.cell? a := fun a => by simp [World.cell?, hq.heap]
              obtain ⟨b', o', e, _, _, hc'⟩ := h2 (p + 1) hlt2
              obtain ⟨rfl, rfl⟩ : b = b' ∧ o = o' := by simpa using e
              obtain ⟨v0, v1⟩ := pf_in k hx p (by omega)
              obtain ⟨u0, u1⟩ := hx (p + 1) (by omega)
              obtain ⟨bx, ox, cx, hcx, _, _, hvx⟩ := hcell _ v0 v1
              have v2 := hvx _ u0 u1
              rw [← hcw] at hcx hc' v2
              clear hcw hcell hvx e
              have i0 : (0 : Int) ≤ (p : Int) + 1 := by omega
              have i1 : (p : Int) + 1 < (xs.length : Int) := by omega
              have i2 : ((p : Int) + 1).toNat = p + 1 := by omega
              go_wp2
              go_quiet (fail)
              go_wp2
              go_roundg (xs.length - (p + 1))
              case measure => go_light; omega
              case rel => go_light; exact ⟨p + 1, by omega, rfl, by go_num, rfl, hq.drewN _⟩
            · have e0 : pf T xs (xs.length - 1) = pf T xs p := by rw [show xs.length - 1 = p from by omega]
              have HE := hide e0
              clear e0
              go_wp2
              go_ret
              exact ⟨ret_int (by rw [prodT_ok hk h0 HR.out, HE.out]), hq⟩
end Go.Proofs.Ythllbekoidogpaa
