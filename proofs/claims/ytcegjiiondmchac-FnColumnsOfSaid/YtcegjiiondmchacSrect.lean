
/- Rectangles, their rows and columns: the specification's. -/
import Derived.Test.YtcegjiiondmchacRectP
import Derived.Test.YtcegjiiondmchacSband
import Derived.Test.YtcegjiiondmchacMadeS
import Derived.Test.YtcegjiiondmchacPureX
import Derived.Deep.RegionHeld3
namespace Go.Proofs.Ytcegjiiondmchac
open Go.RowKit
set_option linter.unusedVariables false


set_option maxRecDepth 20000 in
set_option maxHeartbeats 4000000 in
theorem sRectangularOk_any (A : Option Addr) (c lo hi : Nat) (T : List (List Int)) (w : World) (h : Mat w lo hi A T) (hS : Small T) :
    Calls Try.prog 25 #[.slice A T.length c] w fun e w' => e = .returned (.bool (rectT T)) ∧ QD w w' := by
  have hlT := hS.len
  cases hg : bandT T
  · go_enter Try.func25, Try.ntmps25
    go_wp2_with (go_at_call 59; refine (sBandOk_any _ _ _ _ _ _ h hS).mono ?_; rw [hg]; rintro e w1 ⟨rfl, q1⟩)
    go_ret
    exact ⟨ret_bool (by unfold rectT; rw [hg]; rfl), q1⟩
  · have k := (bandT_iff.1 hg).g.tab
    have k9 := k.hi
    have HE := hide (show rectT T = allRR T.length (rRect T) from by unfold rectT; rw [hg]; rfl)
    obtain ⟨bb, oo, rfl, _, _, hcell⟩ := h.head k
    go_enter Try.func25, Try.ntmps25
    go_wp2_with fail
    refine (sBandOk_any _ _ _ _ _ _ h hS).mono ?_
    rw [hg]
    rintro e w1 ⟨rfl, q1⟩
    go_wp2
    go_loopg [3] T.length (fun g i wr => ∃ a : Nat, a ≤ T.length ∧ Hid (g = T.length - a) ∧ i = .int .i64 a ∧ QD w wr ∧ Hid (∀ i j, i < a → j < T.length → rRect T i j = true))
    case atStart => exact ⟨0, Nat.zero_le _, rfl, rfl, q1, fun _ _ hj => absurd hj (Nat.not_lt_zero _)⟩
    case round =>
      clear q1
      obtain ⟨a, ha, hgk, rfl, hq, hH⟩ := hrel
      by_cases hlt : a < T.length
      · go_wp2
        go_loopg [4] T.length (fun g i wr => ∃ b : Nat, b ≤ T.length ∧ Hid (g = T.length - b) ∧ i = .int .i64 b ∧ QD w wr ∧ Hid (∀ j, j < b → rRect T a j = true))
        case atStart => exact ⟨0, Nat.zero_le _, rfl, rfl, hq, fun _ hj => absurd hj (Nat.not_lt_zero _)⟩
        case round =>
          clear hq
          obtain ⟨b, hb, hgk2, rfl, hq, hH2⟩ := hrel
          by_cases hbt : b < T.length
          · have hcw : ∀ a, wr.cell? a = w.cell? a := fun a => by simp [World.cell?, hq.heap]
            obtain ⟨p0, p1⟩ := k.mul (x := (a : Nat)) (y := (b : Nat)) (by omega) (by omega) (by omega) (by omega)
            obtain ⟨bx1, ox1, cx1, hcx1, _, _, hvx1⟩ := hcell (a : Nat) (by omega) (by omega)
            have v1 := hvx1 (b : Nat) (by omega) (by omega)
            rw [← hcw] at hcx1 v1
            rw [Int.toNat_natCast] at hcx1 v1
            obtain ⟨bx2, ox2, cx2, hcx2, _, _, hvx2⟩ := hcell (mul T (a : Nat) (b : Nat)) (by omega) (by omega)
            have v2 := hvx2 (a : Nat) (by omega) (by omega)
            rw [← hcw] at hcx2 v2
            rw [Int.toNat_natCast] at v2
            clear hvx1 hvx2
            clear hcw hcell
            cases hr : (mul T (mul T (a : Int) (b : Int)) (a : Int) == (a : Int))
            · have hne : (mul T (mul T (a : Int) (b : Int)) (a : Int) != (a : Int)) = true := by rw [bne, hr]; rfl
              skip
              go_wp2
              go_ret
              exact ⟨ret_bool (by rw [HE.out, allRR_false hlt hbt (by unfold rRect; exact hr)]), hq⟩
            · have hne : (mul T (mul T (a : Int) (b : Int)) (a : Int) != (a : Int)) = false := by rw [bne, hr]; rfl
              skip
              go_wp2
              go_roundg (T.length - (b + 1))
              case measure => go_light; have := hgk2.out; omega
              case rel => go_light; exact ⟨b + 1, by omega, rfl, by go_num, hq, fun j hj => by
                by_cases e : j = b
                · subst e; unfold rRect; exact hr
                · exact hH2 j (by omega)⟩
          · obtain rfl : T.length = b := by omega
            go_wp2
            go_roundg (T.length - (a + 1))
            case measure => go_light; have := hgk.out; omega
            case rel => go_light; exact ⟨a + 1, by omega, rfl, by go_num, hq, fun i j hi hj => by
              by_cases e : i = a
              · subst e; exact hH2 j hj
              · exact hH i j (by omega) hj⟩
      · obtain rfl : T.length = a := by omega
        go_wp2
        go_ret
        exact ⟨ret_bool (by rw [HE.out, allRR_iff.2 fun i j hi hj => hH.out i j hi hj]), hq⟩

/-- The table of a rectangle under way. -/
def rowE (C x k : Nat) : List Int := (List.range k).map fun y => rectM C x y
def rowsE (C N k : Nat) : List (List Int) := (List.range k).map fun x => rowE C x N
theorem rowE_succ (C x k : Nat) : rowE C x k ++ [rectM C x k] = rowE C x (k + 1) := by simp [rowE, List.range_succ]
theorem rowsE_succ (C N k : Nat) : rowsE C N k ++ [rowE C k N] = rowsE C N (k + 1) := by simp [rowsE, List.range_succ]
theorem len_rowE (C x k : Nat) : (rowE C x k).length = k := by simp [rowE]
theorem len_rowsE (C N k : Nat) : (rowsE C N k).length = k := by simp [rowsE]
theorem rect2_nil {w : World} {r c : Int} (h : canR r c = false) : NewTab2 w (rectOf r c) (canR r c) (.returned (.tuple #[.slice (some ⟨w.heap.size, 0, none⟩) 0 0, .bool false])) (w.alloc (.cells #[] 37)) := by
  rw [rectOf_not h, h]; exact ⟨_, 0, rfl, (Below.refl w.heap.size w).alloc (Nat.le_refl _) _, Mat.nil _ _ _ _⟩

set_option maxRecDepth 20000 in
set_option maxHeartbeats 4000000 in
theorem sRectangleOf_any (r c : Int) (w : World) : Calls Try.prog 17 #[.int .i64 r, .int .i64 c] w (NewTab2 w (rectOf r c) (canR r c)) := by
  have b0 := (Below.refl w.heap.size w).alloc (Nat.le_refl _) (.cells #[] 37)
  cases hr : (decide ((1 : Int) ≤ r) && decide (r ≤ 9))
  · have HF := hide (rect2_nil (w := w) (r := r) (c := c) (by unfold canR; rw [hr]; rfl))
    go_enter Try.func17, Try.ntmps17
    go_wp2_with (go_at_call 52; refine (l1In_any _ _ _ _).mono ?_; rw [hr]; rintro e w' ⟨rfl, rfl⟩)
    go_ret2
    exact HF.out
  cases hc : (decide ((1 : Int) ≤ c) && decide (c ≤ 9))
  · have HF := hide (rect2_nil (w := w) (r := r) (c := c) (by unfold canR; rw [hr, hc]; rfl))
    go_enter Try.func17, Try.ntmps17
    go_wp2_with fail
    refine (l1In_any r _ _ _).mono ?_
    rw [hr]
    rintro e w' ⟨rfl, rfl⟩
    go_wp2_with fail
    refine (l1In_any c _ _ _).mono ?_
    rw [hc]
    rintro e w' ⟨rfl, rfl⟩
    go_wp2
    go_ret2
    exact HF.out
  have hr' : 1 ≤ r ∧ r ≤ 9 := by simpa using hr
  have hc' : 1 ≤ c ∧ c ≤ 9 := by simpa using hc
  obtain ⟨m0, m1⟩ := mulB (by omega : (0 : Int) ≤ r) (by omega) (by omega : (0 : Int) ≤ c) (by omega)
  by_cases h9 : r * c ≤ 9
  · have hcan : canR r c = true := by unfold canR; rw [hr, hc]; simpa using h9
    obtain ⟨R, C, rfl, rfl, r1, r9, c1, c9, rc9⟩ := canR_iff.1 hcan
    have HE := hide (rectOf_ok hcan)
    have HC := hide hcan
    have hN : ((R * C : Nat) : Int) = (R : Int) * (C : Int) := by simp
    have hC0 : ¬ C = 0 := by omega
    clear hcan hr' hc'
    go_enter Try.func17, Try.ntmps17
    go_wp2_with fail
    refine (l1In_any (R : Int) _ _ _).mono ?_
    rw [hr]
    rintro e w' ⟨rfl, rfl⟩
    go_wp2_with fail
    refine (l1In_any (C : Int) _ _ _).mono ?_
    rw [hc]
    rintro e w' ⟨rfl, rfl⟩
    go_wp2
    have HN := hide hN
    obtain ⟨N, hNN⟩ : ∃ N, N = R * C := ⟨_, rfl⟩
    rw [← hNN] at hN rc9
    have HNN := hide hNN
    clear hNN
    go_loopg [7, 6] N (fun g i v wr => ∃ p : Nat, p ≤ N ∧ Hid (g = N - p) ∧ i = .int .i64 p ∧ ATab w.heap.size wr v (rowsE C N p) ∧ Below w.heap.size w wr)
    case atStart => exact ⟨0, Nat.zero_le _, rfl, rfl, ATab.made (Nat.le_refl _), b0⟩
    case round =>
      obtain ⟨p, hp, hgk, rfl, hA, hB⟩ := hrel
      clear b0
      by_cases hlt : p < N
      · obtain ⟨wo, rfl⟩ : ∃ wo : World, wo = wr := ⟨_, rfl⟩
        have hlti : (p : Int) < (R : Int) * (C : Int) := by omega
        go_wp2
        have hb1 := (Below.refl wo.heap.size wo).alloc (Nat.le_refl _) (.cells #[] 3)
        have hr0 := ARow.made (w := wo) (Nat.le_refl _)
        go_loopg [9, 8] N (fun g i u wi => ∃ q : Nat, q ≤ N ∧ Hid (g = N - q) ∧ i = .int .i64 q ∧ ARow wo.heap.size wi u (rowE C p q) ∧ Below wo.heap.size wo wi)
        case atStart => exact ⟨0, Nat.zero_le _, rfl, rfl, hr0, hb1⟩
        case round =>
          clear hb1 hr0
          obtain ⟨q, hq, hgk2, rfl, hR, hW⟩ := hrel
          have hwi : w.heap.size ≤ wo.heap.size := hB.size
          by_cases hqt : q < N
          · have hqti : (q : Int) < (R : Int) * (C : Int) := by omega
            have hl' : (rowE C p q).length ≤ 1048576 := by rw [len_rowE]; omega
            have hs := hW.size
            have d0 : 0 ≤ (q : Int) % (C : Int) := Int.emod_nonneg _ (by omega)
            have d1 : (q : Int) % (C : Int) < (C : Int) := Int.emod_lt_of_pos _ (by omega)
            have a0 : 0 ≤ (p : Int) / (C : Int) := Int.ediv_nonneg (by omega) (by omega)
            have a1 : (p : Int) / (C : Int) ≤ (p : Int) := Int.ediv_le_self _ (by omega)
            obtain ⟨y0, y1⟩ := mulB a0 (by omega) (by omega : (0 : Int) ≤ (C : Int)) (by omega)
            obtain ⟨qp1, qp2, qp3, qp4⟩ := wrapQ (p : Int) (C : Int) (by omega) (by omega) (by omega)
            obtain ⟨qq1, qq2, qq3, qq4⟩ := wrapQ (q : Int) (C : Int) (by omega) (by omega) (by omega)
            have HW := hide (show IntKind.i64.wrap (IntKind.i64.wrap ((p : Int) / (C : Int) * (C : Int)) + (q : Int) % (C : Int)) = rectM C p q from wrap2 y0 y1 d0 (by omega))
            go_wp2
            go_region_held3 (fun W => Below wo.heap.size wo W)
              (first
                | exact hW.drew
                | exact Below.alloc (by assumption) (Below.size (by assumption)) _
                | exact Below.trans hW (by assumption))
              (first
                | (refine step_app_drew (by rfl) (.tmp 41) (.tmp 51) (by rfl) wo.heap.size _ (rowE C p q) _ 1 (by rfl) (by rfl) hR hl' hs ?_
                   intro v1 w3 hown1 hg1
                   have hb1 : Below wo.heap.size wr w3 := ARow.belowOf hR hg1 (Nat.le_refl _) hs))
            go_wp2
            go_roundg (N - (q + 1))
            case measure => go_light; have := hgk2.out; omega
            case rel => go_light; exact ⟨q + 1, by omega, rfl, by go_num, by rw [← rowE_succ, ← HW.out]; exact hown1, hW.trans (hR.belowOf hg1 (Nat.le_refl _) hs)⟩
          · obtain rfl : N = q := by omega
            have hA2 := hA.below hW
            obtain ⟨Ar, cr, hAr, _, _, _⟩ := hR.val
            rw [len_rowE] at hAr
            subst hAr
            have hl' : (rowsE C N p).length ≤ 1048576 := by rw [len_rowsE]; omega
            have hs2 : w.heap.size ≤ wr.heap.size := Nat.le_trans hwi hW.size
            go_wp2_with (at_builtin; refine wp_app_row rfl (.tmp 53) (.tmp 55) rfl w.heap.size _ _ _ _ _ rfl rfl hA2 (hR.mono hwi) hl' hs2 ?_; intro v1 w3 hown1 hg1)
            go_roundg (N - (p + 1))
            case measure => go_light; have := hgk.out; omega
            case rel => go_light; exact ⟨p + 1, by omega, rfl, by go_num, by rw [← rowsE_succ]; exact hown1, (hB.trans (hW.mono hwi)).trans (hA2.belowOf hg1 (Nat.le_refl _) hs2)⟩
      · obtain rfl : N = p := by omega
        obtain ⟨A', c', hv, _, _, hM⟩ := hA.val
        rw [len_rowsE] at hv
        subst hv
        go_wp2
        go_ret2
        rw [HE.out, HC.out, ← HNN.out]
        exact ⟨A', c', ret2_slice (by rw [len_tabOf]), hB, hM⟩
  · have HF := hide (rect2_nil (w := w) (r := r) (c := c) (by unfold canR; rw [hr, hc]; simp; omega))
    go_enter Try.func17, Try.ntmps17
    go_wp2_with fail
    refine (l1In_any r _ _ _).mono ?_
    rw [hr]
    rintro e w' ⟨rfl, rfl⟩
    go_wp2_with fail
    refine (l1In_any c _ _ _).mono ?_
    rw [hc]
    rintro e w' ⟨rfl, rfl⟩
    go_wp2
    go_ret2
    exact HF.out
end Go.Proofs.Ytcegjiiondmchac
