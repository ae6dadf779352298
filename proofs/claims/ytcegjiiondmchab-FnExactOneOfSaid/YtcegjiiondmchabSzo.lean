
/- Zeros and ones: the specification's. -/
import Derived.Test.YtcegjiiondmchabSgrp
import Derived.Test.YtcegjiiondmchabTab
import Derived.Test.YtcegjiiondmchabBandP
import Derived.Test.YtcegjiiondmchabIband
namespace Go.Proofs.Ytcegjiiondmchab
open Go.RowKit
set_option linter.unusedVariables false


set_option maxRecDepth 20000 in
set_option maxHeartbeats 4000000 in
theorem sZeroOf_any (A : Option Addr) (c lo hi : Nat) (T : List (List Int)) (w : World) (h : Mat w lo hi A T) (hS : Small T) :
    Calls Try.prog 36 #[.slice A T.length c] w fun e w' => e = .returned (.tuple #[.int .i64 (zeroT T), .bool (okI (zeroT T))]) ∧ QD w w' := by
  have hlT := hS.len
  cases hk : okT T
  · have HE := hide (show zeroT T = -1 from by unfold zeroT; rw [hk]; rfl)
    by_cases h0 : T.length = 0
    · have hz : ¬ (0 : Int) < (T.length : Int) := by omega
      clear h0
      go_enter Try.func36, Try.ntmps36
      go_wp2
      go_loopg [4] 1 (fun g i wr => i = .int .i64 0 ∧ w = wr)
      case atStart => exact ⟨rfl, rfl⟩
      case round =>
        obtain ⟨rfl, rfl⟩ := hrel
        go_wp2
        go_ret2
        rw [HE.out, okI_not]
        exact ⟨rfl, QD.refl _⟩
    · have hz : (0 : Int) < (T.length : Int) := by omega
      clear h0
      go_enter Try.func36, Try.ntmps36
      go_wp2
      go_loopg [4] 1 (fun g i wr => i = .int .i64 0 ∧ w = wr)
      case atStart => exact ⟨rfl, rfl⟩
      case round =>
        obtain ⟨rfl, rfl⟩ := hrel
        go_wp2_with (go_at_call 59; refine (sTableOk_any _ _ _ _ _ _ h hS).mono ?_; rintro e w' ⟨rfl, rfl⟩; rw [hk])
        go_ret2
        rw [HE.out, okI_not]
        exact ⟨rfl, QD.refl _⟩
  · have k := okT_iff.1 hk
    have k9 := k.hi
    have HE := hide (show zeroT T = firstK T.length (rZero T) from by unfold zeroT; rw [hk, if_pos rfl])
    obtain ⟨bb, oo, rfl, _, _, hcell⟩ := h.head k
    go_enter Try.func36, Try.ntmps36
    go_wp2
    go_loopg [4] T.length (fun g i wr => ∃ a : Nat, a ≤ T.length ∧ Hid (g = T.length - a) ∧ i = .int .i64 a ∧ w = wr ∧ Hid (∀ j, j < a → allR T.length (rZero T) j = false))
    case atStart => exact ⟨0, Nat.zero_le _, rfl, rfl, rfl, fun _ hj => absurd hj (Nat.not_lt_zero _)⟩
    case round =>
      obtain ⟨a, ha, hgk, rfl, rfl, hH⟩ := hrel
      by_cases hlt : a < T.length
      · go_wp2_with (go_at_call 59; refine (sTableOk_any _ _ _ _ _ _ h hS).mono ?_; rintro e w' ⟨rfl, rfl⟩; rw [hk])
        go_loopg [6, 5] T.length (fun g i v wr => ∃ (b : Nat) (z : Bool), b ≤ T.length ∧ Hid (g = T.length - b) ∧ i = .int .i64 b ∧ v = .bool z ∧ w = wr ∧ Hid (z = true ↔ ∀ j, j < b → rZero T a j = true))
        case atStart => exact ⟨0, true, Nat.zero_le _, rfl, rfl, rfl, rfl, ⟨fun _ _ hj => absurd hj (Nat.not_lt_zero _), fun _ => rfl⟩⟩
        case round =>
          obtain ⟨b, z, hb, hgk2, rfl, rfl, rfl, hH2⟩ := hrel
          by_cases hbt : b < T.length
          · obtain ⟨bx1, ox1, cx1, hcx1, _, _, hvx1⟩ := hcell (a : Nat) (by omega) (by omega)
            have v1 := hvx1 (b : Nat) (by omega) (by omega)
            rw [Int.toNat_natCast] at hcx1 v1
            obtain ⟨bx2, ox2, cx2, hcx2, _, _, hvx2⟩ := hcell (b : Nat) (by omega) (by omega)
            have v2 := hvx2 (a : Nat) (by omega) (by omega)
            rw [Int.toNat_natCast] at hcx2 v2
            clear hcell hvx1 hvx2
            have step : ∀ y : Bool, y = (z && rZero T a b) → Hid (y = true ↔ ∀ j, j < b + 1 → rZero T a j = true) := fun y hy => by
              show _ ↔ _
              rw [hy, Bool.and_eq_true, hH2.out]
              exact ⟨fun hx j hj => by
                by_cases e : j = b
                · subst e; exact hx.2
                · exact hx.1 j (by omega), fun hx => ⟨fun j hj => hx j (by omega), hx b (by omega)⟩⟩
            have STEP := hide step
            clear step hH2
            cases z
            · go_wp2
              go_roundg (T.length - (b + 1))
              case measure => go_light; have := hgk2.out; omega
              case rel => go_light; exact ⟨b + 1, false, by omega, rfl, by go_num, rfl, rfl, STEP.out false rfl⟩
            · cases e1 : (mul T (a : Int) (b : Int) == (a : Int))
              · go_wp2
                go_roundg (T.length - (b + 1))
                case measure => go_light; have := hgk2.out; omega
                case rel => go_light; exact ⟨b + 1, false, by omega, rfl, by go_num, rfl, rfl, STEP.out false (by unfold rZero; rw [e1]; rfl)⟩
              · cases e2 : (mul T (b : Int) (a : Int) == (a : Int))
                · go_wp2
                  go_roundg (T.length - (b + 1))
                  case measure => go_light; have := hgk2.out; omega
                  case rel => go_light; exact ⟨b + 1, false, by omega, rfl, by go_num, rfl, rfl, STEP.out false (by unfold rZero; rw [e1, e2]; rfl)⟩
                · go_wp2
                  go_roundg (T.length - (b + 1))
                  case measure => go_light; have := hgk2.out; omega
                  case rel => go_light; exact ⟨b + 1, true, by omega, rfl, by go_num, rfl, rfl, STEP.out true (by unfold rZero; rw [e1, e2]; rfl)⟩
          · obtain rfl : T.length = b := by omega
            cases z
            · have HF := hide (show allR T.length (rZero T) a = false from by
                cases e : allR T.length (rZero T) a with
                | false => rfl
                | true => have := hH2.out.2 (allR_iff.1 e); cases this)
              go_wp2
              go_roundg (T.length - (a + 1))
              case measure => go_light; have := hgk.out; omega
              case rel => go_light; exact ⟨a + 1, by omega, rfl, by go_num, rfl, fun j hj => by
                by_cases e : j = a
                · subst e; exact HF.out
                · exact hH j (by omega)⟩
            · have HV := hide (firstK_some hlt (allR_iff.2 (hH2.out.1 rfl)) hH.out)
              go_wp2
              go_ret2
              rw [HE.out, HV.out, okI_nat]
              exact ⟨rfl, QD.refl _⟩
      · obtain rfl : T.length = a := by omega
        have HV := hide (firstK_none hH.out)
        go_wp2
        go_ret2
        rw [HE.out, HV.out, okI_not]
        exact ⟨rfl, QD.refl _⟩

set_option maxRecDepth 20000 in
set_option maxHeartbeats 4000000 in
theorem sOneOf_any (A : Option Addr) (c lo hi : Nat) (T : List (List Int)) (w : World) (h : Mat w lo hi A T) (hS : Small T) :
    Calls Try.prog 39 #[.slice A T.length c] w fun e w' => e = .returned (.tuple #[.int .i64 (oneT T), .bool (okI (oneT T))]) ∧ QD w w' := by
  have hlT := hS.len
  cases hk : okT T
  · have HE := hide (show oneT T = -1 from by unfold oneT; rw [hk]; rfl)
    by_cases h0 : T.length = 0
    · have hz : ¬ (0 : Int) < (T.length : Int) := by omega
      clear h0
      go_enter Try.func39, Try.ntmps39
      go_wp2
      go_loopg [4] 1 (fun g i wr => i = .int .i64 0 ∧ w = wr)
      case atStart => exact ⟨rfl, rfl⟩
      case round =>
        obtain ⟨rfl, rfl⟩ := hrel
        go_wp2
        go_ret2
        rw [HE.out, okI_not]
        exact ⟨rfl, QD.refl _⟩
    · have hz : (0 : Int) < (T.length : Int) := by omega
      clear h0
      go_enter Try.func39, Try.ntmps39
      go_wp2
      go_loopg [4] 1 (fun g i wr => i = .int .i64 0 ∧ w = wr)
      case atStart => exact ⟨rfl, rfl⟩
      case round =>
        obtain ⟨rfl, rfl⟩ := hrel
        go_wp2_with (go_at_call 59; refine (sTableOk_any _ _ _ _ _ _ h hS).mono ?_; rintro e w' ⟨rfl, rfl⟩; rw [hk])
        go_ret2
        rw [HE.out, okI_not]
        exact ⟨rfl, QD.refl _⟩
  · have k := okT_iff.1 hk
    have k9 := k.hi
    have HE := hide (show oneT T = firstK T.length (rOne T) from by unfold oneT; rw [hk, if_pos rfl])
    obtain ⟨bb, oo, rfl, _, _, hcell⟩ := h.head k
    go_enter Try.func39, Try.ntmps39
    go_wp2
    go_loopg [4] T.length (fun g i wr => ∃ a : Nat, a ≤ T.length ∧ Hid (g = T.length - a) ∧ i = .int .i64 a ∧ w = wr ∧ Hid (∀ j, j < a → allR T.length (rOne T) j = false))
    case atStart => exact ⟨0, Nat.zero_le _, rfl, rfl, rfl, fun _ hj => absurd hj (Nat.not_lt_zero _)⟩
    case round =>
      obtain ⟨a, ha, hgk, rfl, rfl, hH⟩ := hrel
      by_cases hlt : a < T.length
      · go_wp2_with (go_at_call 59; refine (sTableOk_any _ _ _ _ _ _ h hS).mono ?_; rintro e w' ⟨rfl, rfl⟩; rw [hk])
        go_loopg [6, 5] T.length (fun g i v wr => ∃ (b : Nat) (z : Bool), b ≤ T.length ∧ Hid (g = T.length - b) ∧ i = .int .i64 b ∧ v = .bool z ∧ w = wr ∧ Hid (z = true ↔ ∀ j, j < b → rOne T a j = true))
        case atStart => exact ⟨0, true, Nat.zero_le _, rfl, rfl, rfl, rfl, ⟨fun _ _ hj => absurd hj (Nat.not_lt_zero _), fun _ => rfl⟩⟩
        case round =>
          obtain ⟨b, z, hb, hgk2, rfl, rfl, rfl, hH2⟩ := hrel
          by_cases hbt : b < T.length
          · obtain ⟨bx1, ox1, cx1, hcx1, _, _, hvx1⟩ := hcell (a : Nat) (by omega) (by omega)
            have v1 := hvx1 (b : Nat) (by omega) (by omega)
            rw [Int.toNat_natCast] at hcx1 v1
            obtain ⟨bx2, ox2, cx2, hcx2, _, _, hvx2⟩ := hcell (b : Nat) (by omega) (by omega)
            have v2 := hvx2 (a : Nat) (by omega) (by omega)
            rw [Int.toNat_natCast] at hcx2 v2
            clear hcell hvx1 hvx2
            have step : ∀ y : Bool, y = (z && rOne T a b) → Hid (y = true ↔ ∀ j, j < b + 1 → rOne T a j = true) := fun y hy => by
              show _ ↔ _
              rw [hy, Bool.and_eq_true, hH2.out]
              exact ⟨fun hx j hj => by
                by_cases e : j = b
                · subst e; exact hx.2
                · exact hx.1 j (by omega), fun hx => ⟨fun j hj => hx j (by omega), hx b (by omega)⟩⟩
            have STEP := hide step
            clear step hH2
            cases z
            · go_wp2
              go_roundg (T.length - (b + 1))
              case measure => go_light; have := hgk2.out; omega
              case rel => go_light; exact ⟨b + 1, false, by omega, rfl, by go_num, rfl, rfl, STEP.out false rfl⟩
            · cases e1 : (mul T (a : Int) (b : Int) == (b : Int))
              · go_wp2
                go_roundg (T.length - (b + 1))
                case measure => go_light; have := hgk2.out; omega
                case rel => go_light; exact ⟨b + 1, false, by omega, rfl, by go_num, rfl, rfl, STEP.out false (by unfold rOne; rw [e1]; rfl)⟩
              · cases e2 : (mul T (b : Int) (a : Int) == (b : Int))
                · go_wp2
                  go_roundg (T.length - (b + 1))
                  case measure => go_light; have := hgk2.out; omega
                  case rel => go_light; exact ⟨b + 1, false, by omega, rfl, by go_num, rfl, rfl, STEP.out false (by unfold rOne; rw [e1, e2]; rfl)⟩
                · go_wp2
                  go_roundg (T.length - (b + 1))
                  case measure => go_light; have := hgk2.out; omega
                  case rel => go_light; exact ⟨b + 1, true, by omega, rfl, by go_num, rfl, rfl, STEP.out true (by unfold rOne; rw [e1, e2]; rfl)⟩
          · obtain rfl : T.length = b := by omega
            cases z
            · have HF := hide (show allR T.length (rOne T) a = false from by
                cases e : allR T.length (rOne T) a with
                | false => rfl
                | true => have := hH2.out.2 (allR_iff.1 e); cases this)
              go_wp2
              go_roundg (T.length - (a + 1))
              case measure => go_light; have := hgk.out; omega
              case rel => go_light; exact ⟨a + 1, by omega, rfl, by go_num, rfl, fun j hj => by
                by_cases e : j = a
                · subst e; exact HF.out
                · exact hH j (by omega)⟩
            · have HV := hide (firstK_some hlt (allR_iff.2 (hH2.out.1 rfl)) hH.out)
              go_wp2
              go_ret2
              rw [HE.out, HV.out, okI_nat]
              exact ⟨rfl, QD.refl _⟩
      · obtain rfl : T.length = a := by omega
        have HV := hide (firstK_none hH.out)
        go_wp2
        go_ret2
        rw [HE.out, HV.out, okI_not]
        exact ⟨rfl, QD.refl _⟩
end Go.Proofs.Ytcegjiiondmchab
