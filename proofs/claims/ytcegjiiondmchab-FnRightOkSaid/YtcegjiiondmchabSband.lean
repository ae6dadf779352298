
/- Bands and their sides, zeros and ones: the specification's. -/
import Derived.Test.YtcegjiiondmchabSgrp
import Derived.Test.YtcegjiiondmchabTab
import Derived.Test.YtcegjiiondmchabBandP
import Derived.Test.YtcegjiiondmchabPureX
import Derived.Test.YtcegjiiondmchabIband
namespace Go.Proofs.Ytcegjiiondmchab
open Go.RowKit
set_option linter.unusedVariables false


set_option maxRecDepth 20000 in
theorem either_half {T : List (List Int)} (h : ∀ i j, i < T.length → j < i → rEither T i j = true) : allRR T.length (rEither T) = true := allRR_iff.2 fun a b ha hb => by
  rcases Nat.lt_trichotomy a b with hl | rfl | hl
  · have := h b a hb hl
    unfold rEither at this ⊢
    rw [beq_iff_eq] at this ⊢
    exact this.symm
  · unfold rEither; exact beq_self_eq_true _
  · exact h a b ha hl

set_option maxRecDepth 20000 in
set_option maxHeartbeats 2000000 in
theorem sBandOk_any (A : Option Addr) (c lo hi : Nat) (T : List (List Int)) (w : World) (h : Mat w lo hi A T) (hS : Small T) :
    Calls Try.prog 17 #[.slice A T.length c] w fun e w' => e = .returned (.bool (bandT T)) ∧ QD w w' := by
  have hlT := hS.len
  cases hg : grpT T
  · by_cases h0 : T.length = 0
    · have hz : ¬ (0 : Int) < (T.length : Int) := by omega
      clear h0
      go_enter Try.func17, Try.ntmps17
      go_wp2
      go_loopg [3] 1 (fun g i wr => i = .int .i64 0 ∧ w = wr)
      case atStart => exact ⟨rfl, rfl⟩
      case round =>
        obtain ⟨rfl, rfl⟩ := hrel
        go_wp2_with (go_at_call 47; refine (sGroupedOk_any _ _ _ _ _ _ h hS).mono ?_; rw [hg]; rintro e w1 ⟨rfl, q1⟩)
        go_ret
        exact ⟨ret_bool (bandT_grp hg).symm, q1⟩
    · have hz : (0 : Int) < (T.length : Int) := by omega
      clear h0
      go_enter Try.func17, Try.ntmps17
      go_wp2
      go_loopg [3] 1 (fun g i wr => i = .int .i64 0 ∧ w = wr)
      case atStart => exact ⟨rfl, rfl⟩
      case round =>
        obtain ⟨rfl, rfl⟩ := hrel
        go_wp2_with fail
        refine (sGroupedOk_any _ _ _ _ _ _ h hS).mono ?_
        rw [hg]
        rintro e w1 ⟨rfl, q1⟩
        go_wp2_with fail
        refine (sGroupedOk_any _ _ _ _ _ _ (h.quiet q1) hS).mono ?_
        rw [hg]
        rintro e w2 ⟨rfl, q2⟩
        go_wp2
        go_ret
        exact ⟨ret_bool (bandT_grp hg).symm, q1.trans q2⟩
  · have k := (grpT_iff.1 hg).tab
    have HE := hide (show bandT T = allRR T.length (rOwn T) from by unfold bandT; rw [hg]; rfl)
    obtain ⟨bb, oo, rfl, _, _, hcell⟩ := h.head k
    go_enter Try.func17, Try.ntmps17
    go_wp2
    go_loopg [3] T.length (fun g i wr => ∃ a : Nat, a ≤ T.length ∧ Hid (g = T.length - a) ∧ i = .int .i64 a ∧ QD w wr ∧ Hid (∀ j, j < a → allR T.length (rOwn T) j = true))
    case atStart => exact ⟨0, Nat.zero_le _, rfl, rfl, QD.refl _, fun _ hj => absurd hj (Nat.not_lt_zero _)⟩
    case round =>
      obtain ⟨a, ha, hgk, rfl, hq, hH⟩ := hrel
      by_cases hlt : a < T.length
      · go_wp2_with fail
        refine (sGroupedOk_any _ _ _ _ _ _ (h.quiet hq) hS).mono ?_
        rw [hg]
        rintro e w1 ⟨rfl, q1⟩
        have hq1 := hq.trans q1
        have hcw : ∀ a, w1.cell? a = w.cell? a := fun a => by simp [World.cell?, hq1.heap]
        obtain ⟨bx, ox, cx, hcx, _, _, hvx⟩ := hcell (a : Nat) (by omega) (by omega)
        have v2 := hvx (a : Nat) (by omega) (by omega)
        rw [← hcw] at hcx v2
        rw [Int.toNat_natCast] at hcx v2
        clear hcw hcell hvx
        cases hr : (mul T (a : Int) (a : Int) == (a : Int))
        · have hne : (mul T (a : Int) (a : Int) != (a : Int)) = true := by rw [bne, hr]; rfl
          go_wp2
          go_ret
          exact ⟨ret_bool (by rw [HE.out, allRR_at hlt (allR_false hlt (by unfold rOwn; exact hr))]), hq1⟩
        · have hne : (mul T (a : Int) (a : Int) != (a : Int)) = false := by rw [bne, hr]; rfl
          go_wp2
          go_roundg (T.length - (a + 1))
          case measure => go_light; have := hgk.out; omega
          case rel => go_light; exact ⟨a + 1, by omega, rfl, by go_num, hq1, fun j hj => by
            by_cases e : j = a
            · subst e; exact allR_iff.2 fun b _ => by unfold rOwn; exact hr
            · exact hH j (by omega)⟩
      · obtain rfl : T.length = a := by omega
        go_wp2_with (go_at_call 47; refine (sGroupedOk_any _ _ _ _ _ _ (h.quiet hq) hS).mono ?_; rw [hg]; rintro e w1 ⟨rfl, q1⟩)
        go_ret
        exact ⟨ret_bool (by rw [HE.out, allRR_of hH.out]), hq.trans q1⟩

set_option maxRecDepth 20000 in
set_option maxHeartbeats 4000000 in
theorem sFirstOk_any (A : Option Addr) (c lo hi : Nat) (T : List (List Int)) (w : World) (h : Mat w lo hi A T) (hS : Small T) :
    Calls Try.prog 25 #[.slice A T.length c] w fun e w' => e = .returned (.bool (firstT T)) ∧ QD w w' := by
  have hlT := hS.len
  cases hg : bandT T
  · go_enter Try.func25, Try.ntmps25
    go_wp2_with (go_at_call 17; refine (sBandOk_any _ _ _ _ _ _ h hS).mono ?_; rw [hg]; rintro e w1 ⟨rfl, q1⟩)
    go_ret
    exact ⟨ret_bool (by unfold firstT; rw [hg]; rfl), q1⟩
  · have k := (bandT_iff.1 hg).g.tab
    have k9 := k.hi
    have HE := hide (show firstT T = allRR T.length (rFirst T) from by unfold firstT; rw [hg]; rfl)
    obtain ⟨bb, oo, rfl, _, _, hcell⟩ := h.head k
    go_enter Try.func25, Try.ntmps25
    go_wp2_with fail
    refine (sBandOk_any _ _ _ _ _ _ h hS).mono ?_
    rw [hg]
    rintro e w1 ⟨rfl, q1⟩
    go_wp2
    go_loopg [3] T.length (fun g i wr => ∃ a : Nat, a ≤ T.length ∧ Hid (g = T.length - a) ∧ i = .int .i64 a ∧ QD w wr ∧ Hid (∀ i j, i < a → j < T.length → rFirst T i j = true))
    case atStart => exact ⟨0, Nat.zero_le _, rfl, rfl, q1, fun _ _ hj => absurd hj (Nat.not_lt_zero _)⟩
    case round =>
      clear q1
      obtain ⟨a, ha, hgk, rfl, hq, hH⟩ := hrel
      by_cases hlt : a < T.length
      · go_wp2
        go_loopg [4] T.length (fun g i wr => ∃ b : Nat, b ≤ T.length ∧ Hid (g = T.length - b) ∧ i = .int .i64 b ∧ QD w wr ∧ Hid (∀ j, j < b → rFirst T a j = true))
        case atStart => exact ⟨0, Nat.zero_le _, rfl, rfl, hq, fun _ hj => absurd hj (Nat.not_lt_zero _)⟩
        case round =>
          clear hq
          obtain ⟨b, hb, hgk2, rfl, hq, hH2⟩ := hrel
          by_cases hbt : b < T.length
          · have hcw : ∀ a, wr.cell? a = w.cell? a := fun a => by simp [World.cell?, hq.heap]
            obtain ⟨p0, p1⟩ := k.mul (x := (a : Nat)) (y := (b : Nat)) (by omega) (by omega) (by omega) (by omega)
            obtain ⟨bx1, ox1, cx1, hcx1, _, _, hvx1⟩ := hcell (a : Nat) (by omega) (by omega)
            have v1 := hvx1 (b : Nat) (by omega) (by omega)
            rw [← hcw] at hcx1 v1
            rw [Int.toNat_natCast] at hcx1 v1
            clear hvx1
            clear hcw hcell
            cases hr : (mul T (a : Int) (b : Int) == (a : Int))
            · have hne : (mul T (a : Int) (b : Int) != (a : Int)) = true := by rw [bne, hr]; rfl
              skip
              go_wp2
              go_ret
              exact ⟨ret_bool (by rw [HE.out, allRR_false hlt hbt (by unfold rFirst; exact hr)]), hq⟩
            · have hne : (mul T (a : Int) (b : Int) != (a : Int)) = false := by rw [bne, hr]; rfl
              skip
              go_wp2
              go_roundg (T.length - (b + 1))
              case measure => go_light; have := hgk2.out; omega
              case rel => go_light; exact ⟨b + 1, by omega, rfl, by go_num, hq, fun j hj => by
                by_cases e : j = b
                · subst e; unfold rFirst; exact hr
                · exact hH2 j (by omega)⟩
          · obtain rfl : T.length = b := by omega
            go_wp2
            go_roundg (T.length - (a + 1))
            case measure => go_light; have := hgk.out; omega
            case rel => go_light; exact ⟨a + 1, by omega, rfl, by go_num, hq, fun i j hi hj => by
              by_cases e : i = a
              · subst e; exact hH2 j hj
              · exact hH i j (by omega) hj⟩
      · obtain rfl : T.length = a := by omega
        go_wp2
        go_ret
        exact ⟨ret_bool (by rw [HE.out, allRR_iff.2 fun i j hi hj => hH.out i j hi hj]), hq⟩

set_option maxRecDepth 20000 in
set_option maxHeartbeats 4000000 in
theorem sLeftOk_any (A : Option Addr) (c lo hi : Nat) (T : List (List Int)) (w : World) (h : Mat w lo hi A T) (hS : Small T) :
    Calls Try.prog 29 #[.slice A T.length c] w fun e w' => e = .returned (.bool (leftT T)) ∧ QD w w' := by
  have hlT := hS.len
  cases hg : bandT T
  · go_enter Try.func29, Try.ntmps29
    go_wp2_with (go_at_call 17; refine (sBandOk_any _ _ _ _ _ _ h hS).mono ?_; rw [hg]; rintro e w1 ⟨rfl, q1⟩)
    go_ret
    exact ⟨ret_bool (by unfold leftT; rw [hg]; rfl), q1⟩
  · have k := (bandT_iff.1 hg).g.tab
    have k9 := k.hi
    have HE := hide (show leftT T = allRR T.length (rLeft T) from by unfold leftT; rw [hg]; rfl)
    obtain ⟨bb, oo, rfl, _, _, hcell⟩ := h.head k
    go_enter Try.func29, Try.ntmps29
    go_wp2_with fail
    refine (sBandOk_any _ _ _ _ _ _ h hS).mono ?_
    rw [hg]
    rintro e w1 ⟨rfl, q1⟩
    go_wp2
    go_loopg [3] T.length (fun g i wr => ∃ a : Nat, a ≤ T.length ∧ Hid (g = T.length - a) ∧ i = .int .i64 a ∧ QD w wr ∧ Hid (∀ i j, i < a → j < T.length → rLeft T i j = true))
    case atStart => exact ⟨0, Nat.zero_le _, rfl, rfl, q1, fun _ _ hj => absurd hj (Nat.not_lt_zero _)⟩
    case round =>
      clear q1
      obtain ⟨a, ha, hgk, rfl, hq, hH⟩ := hrel
      by_cases hlt : a < T.length
      · go_wp2
        go_loopg [4] T.length (fun g i wr => ∃ b : Nat, b ≤ T.length ∧ Hid (g = T.length - b) ∧ i = .int .i64 b ∧ QD w wr ∧ Hid (∀ j, j < b → rLeft T a j = true))
        case atStart => exact ⟨0, Nat.zero_le _, rfl, rfl, hq, fun _ hj => absurd hj (Nat.not_lt_zero _)⟩
        case round =>
          clear hq
          obtain ⟨b, hb, hgk2, rfl, hq, hH2⟩ := hrel
          by_cases hbt : b < T.length
          · have hcw : ∀ a, wr.cell? a = w.cell? a := fun a => by simp [World.cell?, hq.heap]
            obtain ⟨p0, p1⟩ := k.mul (x := (a : Nat)) (y := (b : Nat)) (by omega) (by omega) (by omega) (by omega)
            obtain ⟨bx1, ox1, cx1, hcx1, _, _, hvx1⟩ := hcell (a : Nat) (by omega) (by omega)
            have v1 := hvx1 (b : Nat) (by omega) (by omega)
            rw [← hcw] at hcx1 v1
            rw [Int.toNat_natCast] at hcx1 v1
            obtain ⟨bx2, ox2, cx2, hcx2, _, _, hvx2⟩ := hcell (mul T (a : Nat) (b : Nat)) (by omega) (by omega)
            have v2 := hvx2 (a : Nat) (by omega) (by omega)
            rw [← hcw] at hcx2 v2
            rw [Int.toNat_natCast] at v2
            clear hvx1 hvx2
            clear hcw hcell
            cases hr : (mul T (mul T (a : Int) (b : Int)) (a : Int) == mul T (a : Int) (b : Int))
            · have hne : (mul T (mul T (a : Int) (b : Int)) (a : Int) != mul T (a : Int) (b : Int)) = true := by rw [bne, hr]; rfl
              go_wp2; go_quiet (fail)
              go_wp2
              go_ret
              exact ⟨ret_bool (by rw [HE.out, allRR_false hlt hbt (by unfold rLeft; exact hr)]), hq.drewN _⟩
            · have hne : (mul T (mul T (a : Int) (b : Int)) (a : Int) != mul T (a : Int) (b : Int)) = false := by rw [bne, hr]; rfl
              go_wp2; go_quiet (fail)
              go_wp2
              go_roundg (T.length - (b + 1))
              case measure => go_light; have := hgk2.out; omega
              case rel => go_light; exact ⟨b + 1, by omega, rfl, by go_num, hq.drewN _, fun j hj => by
                by_cases e : j = b
                · subst e; unfold rLeft; exact hr
                · exact hH2 j (by omega)⟩
          · obtain rfl : T.length = b := by omega
            go_wp2
            go_roundg (T.length - (a + 1))
            case measure => go_light; have := hgk.out; omega
            case rel => go_light; exact ⟨a + 1, by omega, rfl, by go_num, hq, fun i j hi hj => by
              by_cases e : i = a
              · subst e; exact hH2 j hj
              · exact hH i j (by omega) hj⟩
      · obtain rfl : T.length = a := by omega
        go_wp2
        go_ret
        exact ⟨ret_bool (by rw [HE.out, allRR_iff.2 fun i j hi hj => hH.out i j hi hj]), hq⟩

set_option maxHeartbeats 1000000 in
theorem sRightOk_any (A : Option Addr) (c lo hi : Nat) (T : List (List Int)) (w : World) (h : Mat w lo hi A T) (hh : hi ≤ w.heap.size) (hS : Small T) :
    Calls Try.prog 32 #[.slice A T.length c] w fun e w' => e = .returned (.bool (rightT T)) ∧ Below w.heap.size w w' := by
  go_enter Try.func32, Try.ntmps32
  go_wp2_with fail
  refine (sTurnedOf_any A c lo hi T w h hh hS).mono ?_
  rintro e w1 ⟨A1, c1, rfl, b1, o1⟩
  go_wp2_with fail
  refine (sLeftOk_any A1 c1 _ _ (turnT T) w1 o1 small_turnT).mono ?_
  rintro e w2 ⟨rfl, q2⟩
  go_wp2
  go_ret
  exact ⟨rfl, b1.trans (q2.below _)⟩
end Go.Proofs.Ytcegjiiondmchab
