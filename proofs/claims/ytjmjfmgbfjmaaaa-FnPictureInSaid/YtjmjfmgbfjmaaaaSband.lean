
/- Bands and their sides, zeros and ones: the specification's. -/
import Derived.Test.YtjmjfmgbfjmaaaaSgrp
import Derived.Test.YtjmjfmgbfjmaaaaTab
import Derived.Test.YtjmjfmgbfjmaaaaBandP
import Derived.Test.YtjmjfmgbfjmaaaaPureX
import Derived.Test.YtjmjfmgbfjmaaaaIband
namespace Go.Proofs.Ytjmjfmgbfjmaaaa
open Go.RowKit
set_option linter.unusedVariables false


set_option maxRecDepth 20000 in
theorem either_half {T : List (List Int)} (h : ∀ i j, i < T.length → j < i → rEither T i j = true) : allRR T.length (rEither T) = true := allRR_iff.2 fun a b ha hb => by
  rcases Nat.lt_trichotomy a b with hl | rfl | hl
  · have := h b a hb hl
    unfold rEither at this ⊢
    rw [beq_iff_eq] at this ⊢
    exact this.symm
  · unfold rEither; exact beq_self_eq_true _
  · exact h a b ha hl

set_option maxRecDepth 20000 in
set_option maxHeartbeats 2000000 in
theorem sBandOk_any (A : Option Addr) (c lo hi : Nat) (T : List (List Int)) (w : World) (h : Mat w lo hi A T) (hS : Small T) :
    Calls Try.prog 98 #[.slice A T.length c] w fun e w' => e = .returned (.bool (bandT T)) ∧ QD w w' := by
  have hlT := hS.len
  cases hg : grpT T
  · by_cases h0 : T.length = 0
    · have hz : ¬ (0 : Int) < (T.length : Int) := by omega
      clear h0
      go_enter Try.func98, Try.ntmps98
      go_wp2
      go_loopg [3] 1 (fun g i wr => i = .int .i64 0 ∧ w = wr)
      case atStart => exact ⟨rfl, rfl⟩
      case round =>
        obtain ⟨rfl, rfl⟩ := hrel
        go_wp2_with (go_at_call 120; refine (sGroupedOk_any _ _ _ _ _ _ h hS).mono ?_; rw [hg]; rintro e w1 ⟨rfl, q1⟩)
        go_ret
        exact ⟨ret_bool (bandT_grp hg).symm, q1⟩
    · have hz : (0 : Int) < (T.length : Int) := by omega
      clear h0
      go_enter Try.func98, Try.ntmps98
      go_wp2
      go_loopg [3] 1 (fun g i wr => i = .int .i64 0 ∧ w = wr)
      case atStart => exact ⟨rfl, rfl⟩
      case round =>
        obtain ⟨rfl, rfl⟩ := hrel
        go_wp2_with fail
        refine (sGroupedOk_any _ _ _ _ _ _ h hS).mono ?_
        rw [hg]
        rintro e w1 ⟨rfl, q1⟩
        go_wp2_with fail
        refine (sGroupedOk_any _ _ _ _ _ _ (h.quiet q1) hS).mono ?_
        rw [hg]
        rintro e w2 ⟨rfl, q2⟩
        go_wp2
        go_ret
        exact ⟨ret_bool (bandT_grp hg).symm, q1.trans q2⟩
  · have k := (grpT_iff.1 hg).tab
    have HE := hide (show bandT T = allRR T.length (rOwn T) from by unfold bandT; rw [hg]; rfl)
    obtain ⟨bb, oo, rfl, _, _, hcell⟩ := h.head k
    go_enter Try.func98, Try.ntmps98
    go_wp2
    go_loopg [3] T.length (fun g i wr => ∃ a : Nat, a ≤ T.length ∧ Hid (g = T.length - a) ∧ i = .int .i64 a ∧ QD w wr ∧ Hid (∀ j, j < a → allR T.length (rOwn T) j = true))
    case atStart => exact ⟨0, Nat.zero_le _, rfl, rfl, QD.refl _, fun _ hj => absurd hj (Nat.not_lt_zero _)⟩
    case round =>
      obtain ⟨a, ha, hgk, rfl, hq, hH⟩ := hrel
      by_cases hlt : a < T.length
      · go_wp2_with fail
        refine (sGroupedOk_any _ _ _ _ _ _ (h.quiet hq) hS).mono ?_
        rw [hg]
        rintro e w1 ⟨rfl, q1⟩
        have hq1 := hq.trans q1
        have hcw : ∀ a, w1.cell? a = w.cell? a := fun a => by simp [World.cell?, hq1.heap]
        obtain ⟨bx, ox, cx, hcx, _, _, hvx⟩ := hcell (a : Nat) (by omega) (by omega)
        have v2 := hvx (a : Nat) (by omega) (by omega)
        rw [← hcw] at hcx v2
        rw [Int.toNat_natCast] at hcx v2
        clear hcw hcell hvx
        cases hr : (mul T (a : Int) (a : Int) == (a : Int))
        · have hne : (mul T (a : Int) (a : Int) != (a : Int)) = true := by rw [bne, hr]; rfl
          go_wp2
          go_ret
          exact ⟨ret_bool (by rw [HE.out, allRR_at hlt (allR_false hlt (by unfold rOwn; exact hr))]), hq1⟩
        · have hne : (mul T (a : Int) (a : Int) != (a : Int)) = false := by rw [bne, hr]; rfl
          go_wp2
          go_roundg (T.length - (a + 1))
          case measure => go_light; have := hgk.out; omega
          case rel => go_light; exact ⟨a + 1, by omega, rfl, by go_num, hq1, fun j hj => by
            by_cases e : j = a
            · subst e; exact allR_iff.2 fun b _ => by unfold rOwn; exact hr
            · exact hH j (by omega)⟩
      · obtain rfl : T.length = a := by omega
        go_wp2_with (go_at_call 120; refine (sGroupedOk_any _ _ _ _ _ _ (h.quiet hq) hS).mono ?_; rw [hg]; rintro e w1 ⟨rfl, q1⟩)
        go_ret
        exact ⟨ret_bool (by rw [HE.out, allRR_of hH.out]), hq.trans q1⟩

end Go.Proofs.Ytjmjfmgbfjmaaaa
