
/- Rows and columns of rectangles: the specification's. -/
import Derived.Test.YtcegjiiondmchacSrect
import Derived.Deep.RegionHeld3
namespace Go.Proofs.Ytcegjiiondmchac
open Go.RowKit
set_option linter.unusedVariables false


/-- The numbers of rows under way. -/
def numsK (T : List (List Int)) (k : Nat) : List Int := (List.range k).map fun a => ((num (inRow T) a : Nat) : Int)
theorem numsK_succ (T : List (List Int)) (k : Nat) : numsK T k ++ [((num (inRow T) k : Nat) : Int)] = numsK T (k + 1) := by simp [numsK, List.range_succ]
theorem len_numsK (T : List (List Int)) (k : Nat) : (numsK T k).length = k := by simp [numsK]
theorem el_numsK {T : List (List Int)} {k a : Nat} (h : a < k) : el (numsK T k) a = ((num (inRow T) a : Nat) : Int) := by simp [numsK, el, List.getD, h]
theorem inRow_at (T : List (List Int)) (a b : Nat) : inRow T a b = (mul T (a : Int) (b : Int) == (b : Int) && mul T (b : Int) (a : Int) == (a : Int)) := rfl

theorem ct_le_ (r : Nat → Nat → Bool) : ∀ k, ct r k ≤ k
  | 0 => Nat.le_refl _
  | k + 1 => by
    have := ct_le_ r k
    simp only [ct]
    split <;> omega

set_option maxRecDepth 20000 in
set_option maxHeartbeats 8000000 in
theorem sRowsOf_any (A : Option Addr) (c lo hi : Nat) (T : List (List Int)) (w : World) (h : Mat w lo hi A T) (hh : hi ≤ w.heap.size) (hS : Small T) :
    Calls Try.prog 31 #[.slice A T.length c] w (NewRow w (rowsL T)) := by
  have hlT := hS.len
  have b0 := (Below.refl w.heap.size w).alloc (Nat.le_refl _) (.cells #[] 3)
  have h' := h.below b0 hh
  cases hr : rectT T
  · have HF : Hid (∀ w', Below w.heap.size w w' → NewRow w (rowsL T) (.returned (.slice (some ⟨w.heap.size, 0, none⟩) 0 0)) w') := fun w' hb => by
      rw [rowsL_not hr]; exact ⟨_, 0, rfl, hb, Row.nil _ _ _ _, by simp, by omega⟩
    by_cases h0 : T.length = 0
    · have hz : ¬ (0 : Int) < (T.length : Int) := by omega
      clear h0
      go_enter Try.func31, Try.ntmps31
      go_wp2
      go_loopg [5, 3, 4] 1 (fun g i v x wr => i = .int .i64 0 ∧ v = .slice (some ⟨w.heap.size, 0, none⟩) 0 0 ∧ x = .int .i64 0 ∧ wr = w.alloc (.cells #[] 3))
      case atStart => exact ⟨rfl, rfl, rfl, rfl⟩
      case round =>
        obtain ⟨rfl, rfl, rfl, rfl⟩ := hrel
        go_wp2
        go_ret
        exact HF.out _ b0
    · have hz : (0 : Int) < (T.length : Int) := by omega
      clear h0
      go_enter Try.func31, Try.ntmps31
      go_wp2
      go_loopg [5, 3, 4] 1 (fun g i v x wr => i = .int .i64 0 ∧ v = .slice (some ⟨w.heap.size, 0, none⟩) 0 0 ∧ x = .int .i64 0 ∧ wr = w.alloc (.cells #[] 3))
      case atStart => exact ⟨rfl, rfl, rfl, rfl⟩
      case round =>
        obtain ⟨rfl, rfl, rfl, rfl⟩ := hrel
        go_wp2_with (go_at_call 25; refine (sRectangularOk_any _ _ _ _ _ _ h' hS).mono ?_; rw [hr]; rintro e w1 ⟨rfl, q1⟩)
        go_ret
        exact HF.out _ (b0.trans (q1.below _))
  · have k := rect_tab hr
    have k9 := k.hi
    have E := rect_eqvR hr
    have HE := hide (show rowsL T = numsK T T.length from rowsL_ok hr)
    obtain ⟨bb, oo, rfl, _, hbb, hcell⟩ := h.head k
    go_enter Try.func31, Try.ntmps31
    go_wp2
    go_loopg [5, 3, 4] T.length (fun g i v x wr => ∃ a : Nat, a ≤ T.length ∧ Hid (g = T.length - a) ∧ i = .int .i64 a ∧ ARow w.heap.size wr v (numsK T a) ∧ x = .int .i64 (ct (inRow T) a : Nat) ∧ Below w.heap.size w wr)
    case atStart => exact ⟨0, Nat.zero_le _, rfl, rfl, ARow.made (Nat.le_refl _), rfl, b0⟩
    case round =>
      clear b0 h'
      obtain ⟨a, ha, hgk, rfl, hR, rfl, hB⟩ := hrel
      by_cases hlt : a < T.length
      · go_wp2_with (go_at_call 25; refine (sRectangularOk_any _ _ _ _ _ _ (h.below hB hh) hS).mono ?_; rw [hr]; rintro e w1 ⟨rfl, q1⟩)
        have hB1 := hB.trans (q1.below w.heap.size)
        have hR1 : ARow w.heap.size w1 _ (numsK T a) := hR.below (q1.below _)
        obtain ⟨Ao, co, rfl, _, _, hRo⟩ := hR1.val
        rw [len_numsK] at hR1 ⊢
        clear hR hB
        have hca : ct (inRow T) a ≤ 9 := Nat.le_trans (ct_le_ (inRow T) a) (by omega)
        have hna : num (inRow T) a ≤ 9 := by
          have := E.num_lt hlt (show a < a + 1 by omega)
          have := ct_le_ (inRow T) (a + 1)
          omega
        go_loopg [7, 6] a (fun g i x wx => ∃ b : Nat, b ≤ a ∧ Hid (g = a - b) ∧ i = .int .i64 b ∧ w1 = wx ∧ ((x = .int .i64 (num (inRow T) a : Nat) ∧ Hid (∃ j, j < b ∧ inRow T a j = true)) ∨ (x = .int .i64 (ct (inRow T) a : Nat) ∧ Hid (∀ j, j < b → inRow T a j = false))))
        case atStart => exact ⟨0, Nat.zero_le _, rfl, rfl, rfl, .inr ⟨rfl, fun _ hj => absurd hj (Nat.not_lt_zero _)⟩⟩
        case round =>
          obtain ⟨b, hb, hgk2, rfl, rfl, hx⟩ := hrel
          by_cases hbt : b < a
          · have hcw : ∀ y z : Int, 0 ≤ y → y < T.length → 0 ≤ z → z < T.length → ∃ b2 o2 c2, w1.cell? ⟨bb, oo + y.toNat, none⟩ = some (.slice (some ⟨b2, o2, none⟩) T.length c2) ∧ w1.cell? ⟨b2, o2 + z.toNat, none⟩ = some (.int .i64 (mul T y z)) := fun y z y0 y1 z0 z1 => by
              obtain ⟨b2, o2, c2, e1, _, hb2, e2⟩ := hcell y y0 y1
              exact ⟨b2, o2, c2, (hB1.cell (p := ⟨bb, oo + y.toNat, none⟩) (by show bb < _; omega)).trans e1, (hB1.cell (p := ⟨b2, o2 + z.toNat, none⟩) (by show b2 < _; omega)).trans (e2 z z0 z1)⟩
            obtain ⟨bx1, ox1, cx1, hcx1, v1⟩ := hcw (a : Nat) (b : Nat) (by omega) (by omega) (by omega) (by omega)
            obtain ⟨bx2, ox2, cx2, hcx2, v2⟩ := hcw (b : Nat) (a : Nat) (by omega) (by omega) (by omega) (by omega)
            rw [Int.toNat_natCast] at hcx1 v1 hcx2 v2
            obtain ⟨bo, go_, rfl, _, _, hco⟩ := hRo b (by rw [len_numsK]; exact hbt)
            rw [el_numsK hbt] at hco
            clear hcw
            cases hin : inRow T a b
            · have hx2 : ∀ x : Value, ((x = .int .i64 (num (inRow T) a : Nat) ∧ Hid (∃ j, j < b ∧ inRow T a j = true)) ∨ (x = .int .i64 (ct (inRow T) a : Nat) ∧ Hid (∀ j, j < b → inRow T a j = false))) → ((x = .int .i64 (num (inRow T) a : Nat) ∧ Hid (∃ j, j < b + 1 ∧ inRow T a j = true)) ∨ (x = .int .i64 (ct (inRow T) a : Nat) ∧ Hid (∀ j, j < b + 1 → inRow T a j = false))) := fun x hx => by
                rcases hx with ⟨hx, hj⟩ | ⟨hx, hj⟩
                · obtain ⟨j, h1, h2⟩ := hj.out
                  exact .inl ⟨hx, j, by omega, h2⟩
                · exact .inr ⟨hx, fun j h1 => by
                    by_cases e : j = b
                    · subst e; exact hin
                    · exact hj.out j (by omega)⟩
              have HX := hide (hx2 _ hx)
              clear hx hx2
              rw [inRow_at] at hin
              cases e1 : (mul T (a : Int) (b : Int) == (b : Int))
              · clear hin
                go_wp2
                go_roundg (a - (b + 1))
                case measure => go_light; have := hgk2.out; omega
                case rel => go_light; exact ⟨b + 1, by omega, rfl, by go_num, rfl, HX.out⟩
              · have e2 : (mul T (b : Int) (a : Int) == (a : Int)) = false := by rw [e1, Bool.true_and] at hin; exact hin
                clear hin
                go_wp2
                go_roundg (a - (b + 1))
                case measure => go_light; have := hgk2.out; omega
                case rel => go_light; exact ⟨b + 1, by omega, rfl, by go_num, rfl, HX.out⟩
            · have HN := hide (E.num_eq (by omega) (by omega) hin)
              have HI := hide hin
              rw [inRow_at, Bool.and_eq_true] at hin
              obtain ⟨e1, e2⟩ := hin
              clear hx
              go_wp2
              go_roundg (a - (b + 1))
              case measure => go_light; have := hgk2.out; omega
              case rel => go_light; exact ⟨b + 1, by omega, rfl, by go_num, rfl, .inl ⟨by rw [HN.out], b, by omega, HI.out⟩⟩
          · obtain rfl : a = b := by omega
            have hx1 : ∀ x : Value, ((x = .int .i64 (num (inRow T) a : Nat) ∧ Hid (∃ j, j < a ∧ inRow T a j = true)) ∨ (x = .int .i64 (ct (inRow T) a : Nat) ∧ Hid (∀ j, j < a → inRow T a j = false))) → x = .int .i64 (num (inRow T) a : Nat) := fun x hx => by
              rcases hx with ⟨hx, _⟩ | ⟨hx, hj⟩
              · exact hx
              · rw [hx, num_rp (rp_iff.2 hj.out)]
            have hx' := hx1 _ hx
            clear hx hx1
            subst hx'
            have HX := hide (show ct (inRow T) (a + 1) = if num (inRow T) a + 1 ≤ ct (inRow T) a then ct (inRow T) a else num (inRow T) a + 1 from by
              rw [← E.next hlt]
              split <;> omega)
            have hl : (numsK T a).length ≤ 1048576 := by rw [len_numsK]; omega
            have hs := hB1.size
            by_cases hm : num (inRow T) a + 1 ≤ ct (inRow T) a
            all_goals
              go_wp2_with (at_builtin; refine wp_app_int rfl (.tmp 49) (.tmp 51) rfl w.heap.size _ _ _ _ rfl rfl hR1 hl hs ?_; intro v2 w2 hown2 hg2)
              go_roundg (T.length - (a + 1))
              case measure => go_light; have := hgk.out; omega
              case rel => go_light; exact ⟨a + 1, by omega, rfl, by go_num, by rw [← numsK_succ]; exact hown2, congrArg (Value.int .i64) (by rw [HX.out]; simp [hm]), hB1.trans (hR1.belowOf hg2 (Nat.le_refl _) hs)⟩
      · obtain rfl : T.length = a := by omega
        obtain ⟨Ao, co, rfl, hc1, hc2, hRo⟩ := hR.val
        go_wp2
        go_ret
        rw [HE.out]
        exact ⟨Ao, co, rfl, hB, hRo, hc1, hc2⟩
end Go.Proofs.Ytcegjiiondmchac
