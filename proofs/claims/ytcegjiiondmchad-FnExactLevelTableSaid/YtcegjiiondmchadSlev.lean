
/- Levels of bands: the specification's. -/
import Derived.Test.YtcegjiiondmchadLevQ
import Derived.Test.YtcegjiiondmchadSrect
import Derived.Deep.RegionHeld3
namespace Go.Proofs.Ytcegjiiondmchad
open Go.RowKit
set_option linter.unusedVariables false


/-- The numbers of rows under way. -/
def numsL (T : List (List Int)) (k : Nat) : List Int := (List.range k).map fun a => ((num (inLev T) a : Nat) : Int)
theorem numsL_succ (T : List (List Int)) (k : Nat) : numsL T k ++ [((num (inLev T) k : Nat) : Int)] = numsL T (k + 1) := by simp [numsL, List.range_succ]
theorem len_numsL (T : List (List Int)) (k : Nat) : (numsL T k).length = k := by simp [numsL]
theorem el_numsL {T : List (List Int)} {k a : Nat} (h : a < k) : el (numsL T k) a = ((num (inLev T) a : Nat) : Int) := by simp [numsL, el, List.getD, h]
theorem inLev_at (T : List (List Int)) (a b : Nat) : inLev T a b = (mul T (mul T (a : Int) (b : Int)) (a : Int) == (a : Int) && mul T (mul T (b : Int) (a : Int)) (b : Int) == (b : Int)) := rfl

set_option maxRecDepth 20000 in
set_option maxHeartbeats 8000000 in
theorem sLevelsOf_any (A : Option Addr) (c lo hi : Nat) (T : List (List Int)) (w : World) (h : Mat w lo hi A T) (hh : hi ≤ w.heap.size) (hS : Small T) :
    Calls Try.prog 16 #[.slice A T.length c] w (NewRow w (levsL T)) := by
  have hlT := hS.len
  have b0 := (Below.refl w.heap.size w).alloc (Nat.le_refl _) (.cells #[] 3)
  have h' := h.below b0 hh
  cases hr : bandT T
  · have HF : Hid (∀ w', Below w.heap.size w w' → NewRow w (levsL T) (.returned (.slice (some ⟨w.heap.size, 0, none⟩) 0 0)) w') := fun w' hb => by
      rw [levsL_not hr]; exact ⟨_, 0, rfl, hb, Row.nil _ _ _ _, by simp, by omega⟩
    by_cases h0 : T.length = 0
    · have hz : ¬ (0 : Int) < (T.length : Int) := by omega
      clear h0
      go_enter Try.func16, Try.ntmps16
      go_wp2
      go_loopg [5, 3, 4] 1 (fun g i v x wr => i = .int .i64 0 ∧ v = .slice (some ⟨w.heap.size, 0, none⟩) 0 0 ∧ x = .int .i64 0 ∧ wr = w.alloc (.cells #[] 3))
      case atStart => exact ⟨rfl, rfl, rfl, rfl⟩
      case round =>
        obtain ⟨rfl, rfl, rfl, rfl⟩ := hrel
        go_wp2
        go_ret
        exact HF.out _ b0
    · have hz : (0 : Int) < (T.length : Int) := by omega
      clear h0
      go_enter Try.func16, Try.ntmps16
      go_wp2
      go_loopg [5, 3, 4] 1 (fun g i v x wr => i = .int .i64 0 ∧ v = .slice (some ⟨w.heap.size, 0, none⟩) 0 0 ∧ x = .int .i64 0 ∧ wr = w.alloc (.cells #[] 3))
      case atStart => exact ⟨rfl, rfl, rfl, rfl⟩
      case round =>
        obtain ⟨rfl, rfl, rfl, rfl⟩ := hrel
        go_wp2_with (go_at_call 47; refine (sBandOk_any _ _ _ _ _ _ h' hS).mono ?_; rw [hr]; rintro e w1 ⟨rfl, q1⟩)
        go_ret
        exact HF.out _ (b0.trans (q1.below _))
  · have k := band_tab hr
    have k9 := k.hi
    have E := band_eqvL hr
    have HE := hide (show levsL T = numsL T T.length from levsL_ok hr)
    obtain ⟨bb, oo, rfl, _, hbb, hcell⟩ := h.head k
    go_enter Try.func16, Try.ntmps16
    go_wp2
    go_loopg [5, 3, 4] T.length (fun g i v x wr => ∃ a : Nat, a ≤ T.length ∧ Hid (g = T.length - a) ∧ i = .int .i64 a ∧ ARow w.heap.size wr v (numsL T a) ∧ x = .int .i64 (ct (inLev T) a : Nat) ∧ Below w.heap.size w wr)
    case atStart => exact ⟨0, Nat.zero_le _, rfl, rfl, ARow.made (Nat.le_refl _), rfl, b0⟩
    case round =>
      clear b0 h'
      obtain ⟨a, ha, hgk, rfl, hR, rfl, hB⟩ := hrel
      by_cases hlt : a < T.length
      · go_wp2_with (go_at_call 47; refine (sBandOk_any _ _ _ _ _ _ (h.below hB hh) hS).mono ?_; rw [hr]; rintro e w1 ⟨rfl, q1⟩)
        have hB1 := hB.trans (q1.below w.heap.size)
        have hR1 : ARow w.heap.size w1 _ (numsL T a) := hR.below (q1.below _)
        obtain ⟨Ao, co, rfl, _, _, hRo⟩ := hR1.val
        rw [len_numsL] at hR1 ⊢
        clear hR hB
        have hca : ct (inLev T) a ≤ 9 := Nat.le_trans (ct_le (inLev T) a) (by omega)
        have hna : num (inLev T) a ≤ 9 := by
          have := E.num_lt hlt (show a < a + 1 by omega)
          have := ct_le (inLev T) (a + 1)
          omega
        go_loopg [7, 6] a (fun g i x wx => ∃ b : Nat, b ≤ a ∧ Hid (g = a - b) ∧ i = .int .i64 b ∧ w1 = wx ∧ ((x = .int .i64 (num (inLev T) a : Nat) ∧ Hid (∃ j, j < b ∧ inLev T a j = true)) ∨ (x = .int .i64 (ct (inLev T) a : Nat) ∧ Hid (∀ j, j < b → inLev T a j = false))))
        case atStart => exact ⟨0, Nat.zero_le _, rfl, rfl, rfl, .inr ⟨rfl, fun _ hj => absurd hj (Nat.not_lt_zero _)⟩⟩
        case round =>
          obtain ⟨b, hb, hgk2, rfl, rfl, hx⟩ := hrel
          by_cases hbt : b < a
          · have hcw : ∀ y z : Int, 0 ≤ y → y < T.length → 0 ≤ z → z < T.length → ∃ b2 o2 c2, w1.cell? ⟨bb, oo + y.toNat, none⟩ = some (.slice (some ⟨b2, o2, none⟩) T.length c2) ∧ w1.cell? ⟨b2, o2 + z.toNat, none⟩ = some (.int .i64 (mul T y z)) := fun y z y0 y1 z0 z1 => by
              obtain ⟨b2, o2, c2, e1, _, hb2, e2⟩ := hcell y y0 y1
              exact ⟨b2, o2, c2, (hB1.cell (p := ⟨bb, oo + y.toNat, none⟩) (by show bb < _; omega)).trans e1, (hB1.cell (p := ⟨b2, o2 + z.toNat, none⟩) (by show b2 < _; omega)).trans (e2 z z0 z1)⟩
            obtain ⟨p0, p1⟩ := k.mul (x := (a : Nat)) (y := (b : Nat)) (by omega) (by omega) (by omega) (by omega)
            obtain ⟨q0, q1_⟩ := k.mul (x := (b : Nat)) (y := (a : Nat)) (by omega) (by omega) (by omega) (by omega)
            obtain ⟨bx1, ox1, cx1, hcx1, v1⟩ := hcw (a : Nat) (b : Nat) (by omega) (by omega) (by omega) (by omega)
            obtain ⟨bx2, ox2, cx2, hcx2, v2⟩ := hcw (mul T (a : Nat) (b : Nat)) (a : Nat) (by omega) (by omega) (by omega) (by omega)
            obtain ⟨bx3, ox3, cx3, hcx3, v3⟩ := hcw (b : Nat) (a : Nat) (by omega) (by omega) (by omega) (by omega)
            obtain ⟨bx4, ox4, cx4, hcx4, v4⟩ := hcw (mul T (b : Nat) (a : Nat)) (b : Nat) (by omega) (by omega) (by omega) (by omega)
            rw [Int.toNat_natCast] at hcx1 v1 hcx3 v3 v2 v4
            obtain ⟨bo, go_, rfl, _, _, hco⟩ := hRo b (by rw [len_numsL]; exact hbt)
            rw [el_numsL hbt] at hco
            clear hcw
            cases hin : inLev T a b
            · have hx2 : ∀ x : Value, ((x = .int .i64 (num (inLev T) a : Nat) ∧ Hid (∃ j, j < b ∧ inLev T a j = true)) ∨ (x = .int .i64 (ct (inLev T) a : Nat) ∧ Hid (∀ j, j < b → inLev T a j = false))) → ((x = .int .i64 (num (inLev T) a : Nat) ∧ Hid (∃ j, j < b + 1 ∧ inLev T a j = true)) ∨ (x = .int .i64 (ct (inLev T) a : Nat) ∧ Hid (∀ j, j < b + 1 → inLev T a j = false))) := fun x hx => by
                rcases hx with ⟨hx, hj⟩ | ⟨hx, hj⟩
                · obtain ⟨j, h1, h2⟩ := hj.out
                  exact .inl ⟨hx, j, by omega, h2⟩
                · exact .inr ⟨hx, fun j h1 => by
                    by_cases e : j = b
                    · subst e; exact hin
                    · exact hj.out j (by omega)⟩
              have HX := hide (hx2 _ hx)
              clear hx hx2
              rw [inLev_at] at hin
              cases e1 : (mul T (mul T (a : Int) (b : Int)) (a : Int) == (a : Int))
              · clear hin
                go_wp2
                go_roundg (a - (b + 1))
                case measure => go_light; have := hgk2.out; omega
                case rel => go_light; exact ⟨b + 1, by omega, rfl, by go_num, rfl, HX.out⟩
              · have e2 : (mul T (mul T (b : Int) (a : Int)) (b : Int) == (b : Int)) = false := by rw [e1, Bool.true_and] at hin; exact hin
                clear hin
                go_wp2
                go_roundg (a - (b + 1))
                case measure => go_light; have := hgk2.out; omega
                case rel => go_light; exact ⟨b + 1, by omega, rfl, by go_num, rfl, HX.out⟩
            · have HN := hide (E.num_eq (by omega) (by omega) hin)
              have HI := hide hin
              rw [inLev_at, Bool.and_eq_true] at hin
              obtain ⟨e1, e2⟩ := hin
              clear hx
              go_wp2
              go_roundg (a - (b + 1))
              case measure => go_light; have := hgk2.out; omega
              case rel => go_light; exact ⟨b + 1, by omega, rfl, by go_num, rfl, .inl ⟨by rw [HN.out], b, by omega, HI.out⟩⟩
          · obtain rfl : a = b := by omega
            have hx1 : ∀ x : Value, ((x = .int .i64 (num (inLev T) a : Nat) ∧ Hid (∃ j, j < a ∧ inLev T a j = true)) ∨ (x = .int .i64 (ct (inLev T) a : Nat) ∧ Hid (∀ j, j < a → inLev T a j = false))) → x = .int .i64 (num (inLev T) a : Nat) := fun x hx => by
              rcases hx with ⟨hx, _⟩ | ⟨hx, hj⟩
              · exact hx
              · rw [hx, num_rp (rp_iff.2 hj.out)]
            have hx' := hx1 _ hx
            clear hx hx1
            subst hx'
            have HX := hide (show ct (inLev T) (a + 1) = if num (inLev T) a + 1 ≤ ct (inLev T) a then ct (inLev T) a else num (inLev T) a + 1 from by
              rw [← E.next hlt]
              split <;> omega)
            have hl : (numsL T a).length ≤ 1048576 := by rw [len_numsL]; omega
            have hs := hB1.size
            by_cases hm : num (inLev T) a + 1 ≤ ct (inLev T) a
            all_goals
              go_wp2_with (at_builtin; refine wp_app_int rfl (.tmp 61) (.tmp 63) rfl w.heap.size _ _ _ _ rfl rfl hR1 hl hs ?_; intro v2 w2 hown2 hg2)
              go_roundg (T.length - (a + 1))
              case measure => go_light; have := hgk.out; omega
              case rel => go_light; exact ⟨a + 1, by omega, rfl, by go_num, by rw [← numsL_succ]; exact hown2, congrArg (Value.int .i64) (by rw [HX.out]; simp [hm]), hB1.trans (hR1.belowOf hg2 (Nat.le_refl _) hs)⟩
      · obtain rfl : T.length = a := by omega
        obtain ⟨Ao, co, rfl, hc1, hc2, hRo⟩ := hR.val
        go_wp2
        go_ret
        rw [HE.out]
        exact ⟨Ao, co, rfl, hB, hRo, hc1, hc2⟩

set_option maxRecDepth 20000 in
set_option maxHeartbeats 4000000 in
theorem sCountLevels_any (A : Option Addr) (c lo hi : Nat) (T : List (List Int)) (w : World) (h : Mat w lo hi A T) (hh : hi ≤ w.heap.size) (hS : Small T) :
    Calls Try.prog 21 #[.slice A T.length c] w fun e w' => e = .returned (.int .i64 (countT T)) ∧ Below w.heap.size w w' := by
  have hlT := hS.len
  go_enter Try.func21, Try.ntmps21
  go_wp2_with fail
  refine (sLevelsOf_any _ _ _ _ T w h hh hS).mono ?_
  rintro e w1 ⟨A1, c1, rfl, B1, hR, _, _⟩
  cases hr : bandT T
  · have HR := hide (show countT T = -1 from by unfold countT; rw [hr]; rfl)
    rw [levsL_not hr]
    go_wp2
    go_loopg [5, 4] 1 (fun g i x wr => i = .int .i64 0 ∧ x = .int .i64 0 ∧ w1 = wr)
    case atStart => exact ⟨rfl, rfl, rfl⟩
    case round =>
      obtain ⟨rfl, rfl, rfl⟩ := hrel
      go_wp2
      go_ret
      rw [HR.out]
      exact ⟨rfl, B1⟩
  · have k := band_tab hr
    have k9 := k.hi
    have k1 := k.lo
    have E := band_eqvL hr
    have HR := hide (show countT T = ((ct (inLev T) T.length : Nat) : Int) from by unfold countT nL; rw [hr]; rfl)
    rw [len_levsL hr]
    go_wp2
    go_loopg [5, 4] T.length (fun g i x wr => ∃ a : Nat, a ≤ T.length ∧ Hid (g = T.length - a) ∧ i = .int .i64 a ∧ x = .int .i64 (ct (inLev T) a : Nat) ∧ w1 = wr)
    case atStart => exact ⟨0, Nat.zero_le _, rfl, rfl, rfl, rfl⟩
    case round =>
      obtain ⟨a, ha, hgk, rfl, rfl, rfl⟩ := hrel
      by_cases hlt : a < T.length
      · obtain ⟨bx, ox, rfl, _, _, hc2⟩ := hR a (by rw [len_levsL hr]; exact hlt)
        rw [el_levsL hr hlt] at hc2
        have n1 := E.num_lt hlt (show a < a + 1 by omega)
        have n3 := ct_le (inLev T) (a + 1)
        have n5 := ct_le (inLev T) a
        have hna : num (inLev T) a ≤ 9 := by omega
        have hca : ct (inLev T) a ≤ 9 := by omega
        clear n1 n3 n5
        have HX := hide (show ct (inLev T) (a + 1) = if num (inLev T) a + 1 ≤ ct (inLev T) a then ct (inLev T) a else num (inLev T) a + 1 from by
          rw [← E.next hlt]
          split <;> omega)
        by_cases hm : num (inLev T) a + 1 ≤ ct (inLev T) a
        all_goals
          go_wp2
          go_roundg (T.length - (a + 1))
          case measure => go_light; have := hgk.out; omega
          case rel => go_light; exact ⟨a + 1, by omega, rfl, by go_num, congrArg (Value.int .i64) (by rw [HX.out]; simp [hm]), rfl⟩
      · obtain rfl : T.length = a := by omega
        have hz : ¬ ((T.length : Int) = 0) := by omega
        go_wp2
        go_ret
        rw [HR.out]
        exact ⟨rfl, B1⟩
end Go.Proofs.Ytcegjiiondmchad
