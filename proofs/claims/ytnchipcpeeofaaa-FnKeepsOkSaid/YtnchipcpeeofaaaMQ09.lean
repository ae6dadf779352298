/-  -/
import Derived.Deep.RegionHeld3
import Derived.Test.YtnchipcpeeofaaaMQ05
import Derived.Test.YtnchipcpeeofaaaMQ04
import Derived.Test.YtnchipcpeeofaaaMQ08
import Derived.Test.YtnchipcpeeofaaaMQ03
namespace Go.Proofs.Ytnchipcpeeofaaa
open Go.RowKit
set_option linter.unusedVariables false


/-- The numbers of rows under way. -/
def numsL (T : List (List Int)) (k : Nat) : List Int := (List.range k).map fun a => ((num (inLev T) a : Nat) : Int)
theorem numsL_succ (T : List (List Int)) (k : Nat) : numsL T k ++ [((num (inLev T) k : Nat) : Int)] = numsL T (k + 1) := by simp [numsL, List.range_succ]
theorem len_numsL (T : List (List Int)) (k : Nat) : (numsL T k).length = k := by simp [numsL]
theorem el_numsL {T : List (List Int)} {k a : Nat} (h : a < k) : el (numsL T k) a = ((num (inLev T) a : Nat) : Int) := by simp [numsL, el, List.getD, h]
theorem inLev_at (T : List (List Int)) (a b : Nat) : inLev T a b = (mul T (mul T (a : Int) (b : Int)) (a : Int) == (a : Int) && mul T (mul T (b : Int) (a : Int)) (b : Int) == (b : Int)) := rfl

set_option maxRecDepth 20000 in
set_option maxHeartbeats 8000000 in
theorem sLevelsOf_any (A : Option Addr) (c lo hi : Nat) (T : List (List Int)) (w : World) (h : Mat w lo hi A T) (hh : hi ≤ w.heap.size) (hS : Small T) :
    Calls Try.prog 22 #[.slice A T.length c] w (NewRow w (levsL T)) := by
  have hlT := hS.len
  have b0 := (Below.refl w.heap.size w).alloc (Nat.le_refl _) (.cells #[] 3)
  have h' := h.below b0 hh
  cases hr : bandT T
  · have HF : Hid (∀ w', Below w.heap.size w w' → NewRow w (levsL T) (.returned (.slice (some ⟨w.heap.size, 0, none⟩) 0 0)) w') := fun w' hb => by
      rw [levsL_not hr]; exact ⟨_, 0, rfl, hb, Row.nil _ _ _ _, by simp, by omega⟩
    by_cases h0 : T.length = 0
    · have hz : ¬ (0 : Int) < (T.length : Int) := by omega
      clear h0
      go_enter Try.func22, Try.ntmps22
      go_wp2
      go_loopg [5, 3, 4] 1 (fun g i v x wr => i = .int .i64 0 ∧ v = .slice (some ⟨w.heap.size, 0, none⟩) 0 0 ∧ x = .int .i64 0 ∧ wr = w.alloc (.cells #[] 3))
      case atStart => exact ⟨rfl, rfl, rfl, rfl⟩
      case round =>
        obtain ⟨rfl, rfl, rfl, rfl⟩ := hrel
        go_wp2
        go_ret
        exact HF.out _ b0
    · have hz : (0 : Int) < (T.length : Int) := by omega
      clear h0
      go_enter Try.func22, Try.ntmps22
      go_wp2
      go_loopg [5, 3, 4] 1 (fun g i v x wr => i = .int .i64 0 ∧ v = .slice (some ⟨w.heap.size, 0, none⟩) 0 0 ∧ x = .int .i64 0 ∧ wr = w.alloc (.cells #[] 3))
      case atStart => exact ⟨rfl, rfl, rfl, rfl⟩
      case round =>
        obtain ⟨rfl, rfl, rfl, rfl⟩ := hrel
        go_wp2_with (go_at_call 21; refine (sBandOk_any _ _ _ _ _ _ h' hS).mono ?_; rw [hr]; rintro e w1 ⟨rfl, q1⟩)
        go_ret
        exact HF.out _ (b0.trans (q1.below _))
  · have k := band_tab hr
    have k9 := k.hi
    have E := band_eqvL hr
    have HE := hide (show levsL T = numsL T T.length from levsL_ok hr)
    obtain ⟨bb, oo, rfl, _, hbb, hcell⟩ := h.head k
    go_enter Try.func22, Try.ntmps22
    go_wp2
    go_loopg [5, 3, 4] T.length (fun g i v x wr => ∃ a : Nat, a ≤ T.length ∧ Hid (g = T.length - a) ∧ i = .int .i64 a ∧ ARow w.heap.size wr v (numsL T a) ∧ x = .int .i64 (ct (inLev T) a : Nat) ∧ Below w.heap.size w wr)
    case atStart => exact ⟨0, Nat.zero_le _, rfl, rfl, ARow.made (Nat.le_refl _), rfl, b0⟩
    case round =>
      clear b0 h'
      obtain ⟨a, ha, hgk, rfl, hR, rfl, hB⟩ := hrel
      by_cases hlt : a < T.length
      · go_wp2_with (go_at_call 21; refine (sBandOk_any _ _ _ _ _ _ (h.below hB hh) hS).mono ?_; rw [hr]; rintro e w1 ⟨rfl, q1⟩)
        have hB1 := hB.trans (q1.below w.heap.size)
        have hR1 : ARow w.heap.size w1 _ (numsL T a) := hR.below (q1.below _)
        obtain ⟨Ao, co, rfl, _, _, hRo⟩ := hR1.val
        rw [len_numsL] at hR1 ⊢
        clear hR hB
        have hca : ct (inLev T) a ≤ 9 := Nat.le_trans (ct_le (inLev T) a) (by omega)
        have hna : num (inLev T) a ≤ 9 := by
          have := E.num_lt hlt (show a < a + 1 by omega)
          have := ct_le (inLev T) (a + 1)
          omega
        go_loopg [7, 6] a (fun g i x wx => ∃ b : Nat, b ≤ a ∧ Hid (g = a - b) ∧ i = .int .i64 b ∧ w1 = wx ∧ ((x = .int .i64 (num (inLev T) a : Nat) ∧ Hid (∃ j, j < b ∧ inLev T a j = true)) ∨ (x = .int .i64 (ct (inLev T) a : Nat) ∧ Hid (∀ j, j < b → inLev T a j = false))))
        case atStart => exact ⟨0, Nat.zero_le _, rfl, rfl, rfl, .inr ⟨rfl, fun _ hj => absurd hj (Nat.not_lt_zero _)⟩⟩
        case round =>
          obtain ⟨b, hb, hgk2, rfl, rfl, hx⟩ := hrel
          by_cases hbt : b < a
          · have hcw : ∀ y z : Int, 0 ≤ y → y < T.length → 0 ≤ z → z < T.length → ∃ b2 o2 c2, w1.cell? ⟨bb, oo + y.toNat, none⟩ = some (.slice (some ⟨b2, o2, none⟩) T.length c2) ∧ w1.cell? ⟨b2, o2 + z.toNat, none⟩ = some (.int .i64 (mul T y z)) := fun y z y0 y1 z0 z1 => by
              obtain ⟨b2, o2, c2, e1, _, hb2, e2⟩ := hcell y y0 y1
              exact ⟨b2, o2, c2, (hB1.cell (p := ⟨bb, oo + y.toNat, none⟩) (by show bb < _; omega)).trans e1, (hB1.cell (p := ⟨b2, o2 + z.toNat, none⟩) (by show b2 < _; omega)).trans (e2 z z0 z1)⟩
            obtain ⟨p0, p1⟩ := k.mul (x := (a : Nat)) (y := (b : Nat)) (by omega) (by omega) (by omega) (by omega)
            obtain ⟨q0, q1_⟩ := k.mul (x := (b : Nat)) (y := (a : Nat)) (by omega) (by omega) (by omega) (by omega)
            obtain ⟨bx1, ox1, cx1, hcx1, v1⟩ := hcw (a : Nat) (b : Nat) (by omega) (by omega) (by omega) (by omega)
            obtain ⟨bx2, ox2, cx2, hcx2, v2⟩ := hcw (mul T (a : Nat) (b : Nat)) (a : Nat) (by omega) (by omega) (by omega) (by omega)
            obtain ⟨bx3, ox3, cx3, hcx3, v3⟩ := hcw (b : Nat) (a : Nat) (by omega) (by omega) (by omega) (by omega)
            obtain ⟨bx4, ox4, cx4, hcx4, v4⟩ := hcw (mul T (b : Nat) (a : Nat)) (b : Nat) (by omega) (by omega) (by omega) (by omega)
            rw [Int.toNat_natCast] at hcx1 v1 hcx3 v3 v2 v4
            obtain ⟨bo, go_, rfl, _, _, hco⟩ := hRo b (by rw [len_numsL]; exact hbt)
            rw [el_numsL hbt] at hco
            clear hcw
            cases hin : inLev T a b
            · have hx2 : ∀ x : Value, ((x = .int .i64 (num (inLev T) a : Nat) ∧ Hid (∃ j, j < b ∧ inLev T a j = true)) ∨ (x = .int .i64 (ct (inLev T) a : Nat) ∧ Hid (∀ j, j < b → inLev T a j = false))) → ((x = .int .i64 (num (inLev T) a : Nat) ∧ Hid (∃ j, j < b + 1 ∧ inLev T a j = true)) ∨ (x = .int .i64 (ct (inLev T) a : Nat) ∧ Hid (∀ j, j < b + 1 → inLev T a j = false))) := fun x hx => by
                rcases hx with ⟨hx, hj⟩ | ⟨hx, hj⟩
                · obtain ⟨j, h1, h2⟩ := hj.out
                  exact .inl ⟨hx, j, by omega, h2⟩
                · exact .inr ⟨hx, fun j h1 => by
                    by_cases e : j = b
                    · subst e; exact hin
                    · exact hj.out j (by omega)⟩
              have HX := hide (hx2 _ hx)
              clear hx hx2
              rw [inLev_at] at hin
              cases e1 : (mul T (mul T (a : Int) (b : Int)) (a : Int) == (a : Int))
              · clear hin
                go_wp2
                go_roundg (a - (b + 1))
                case measure => go_light; have := hgk2.out; omega
                case rel => go_light; exact ⟨b + 1, by omega, rfl, by go_num, rfl, HX.out⟩
              · have e2 : (mul T (mul T (b : Int) (a : Int)) (b : Int) == (b : Int)) = false := by rw [e1, Bool.true_and] at hin; exact hin
                clear hin
                go_wp2
                go_roundg (a - (b + 1))
                case measure => go_light; have := hgk2.out; omega
                case rel => go_light; exact ⟨b + 1, by omega, rfl, by go_num, rfl, HX.out⟩
            · have HN := hide (E.num_eq (by omega) (by omega) hin)
              have HI := hide hin
              rw [inLev_at, Bool.and_eq_true] at hin
              obtain ⟨e1, e2⟩ := hin
              clear hx
              go_wp2
              go_roundg (a - (b + 1))
              case measure => go_light; have := hgk2.out; omega
              case rel => go_light; exact ⟨b + 1, by omega, rfl, by go_num, rfl, .inl ⟨by rw [HN.out], b, by omega, HI.out⟩⟩
          · obtain rfl : a = b := by omega
            have hx1 : ∀ x : Value, ((x = .int .i64 (num (inLev T) a : Nat) ∧ Hid (∃ j, j < a ∧ inLev T a j = true)) ∨ (x = .int .i64 (ct (inLev T) a : Nat) ∧ Hid (∀ j, j < a → inLev T a j = false))) → x = .int .i64 (num (inLev T) a : Nat) := fun x hx => by
              rcases hx with ⟨hx, _⟩ | ⟨hx, hj⟩
              · exact hx
              · rw [hx, num_rp (rp_iff.2 hj.out)]
            have hx' := hx1 _ hx
            clear hx hx1
            subst hx'
            have HX := hide (show ct (inLev T) (a + 1) = if num (inLev T) a + 1 ≤ ct (inLev T) a then ct (inLev T) a else num (inLev T) a + 1 from by
              rw [← E.next hlt]
              split <;> omega)
            have hl : (numsL T a).length ≤ 1048576 := by rw [len_numsL]; omega
            have hs := hB1.size
            by_cases hm : num (inLev T) a + 1 ≤ ct (inLev T) a
            all_goals
              go_wp2_with (at_builtin; refine wp_app_int rfl (.tmp 61) (.tmp 63) rfl w.heap.size _ _ _ _ rfl rfl hR1 hl hs ?_; intro v2 w2 hown2 hg2)
              go_roundg (T.length - (a + 1))
              case measure => go_light; have := hgk.out; omega
              case rel => go_light; exact ⟨a + 1, by omega, rfl, by go_num, by rw [← numsL_succ]; exact hown2, congrArg (Value.int .i64) (by rw [HX.out]; simp [hm]), hB1.trans (hR1.belowOf hg2 (Nat.le_refl _) hs)⟩
      · obtain rfl : T.length = a := by omega
        obtain ⟨Ao, co, rfl, hc1, hc2, hRo⟩ := hR.val
        go_wp2
        go_ret
        rw [HE.out]
        exact ⟨Ao, co, rfl, hB, hRo, hc1, hc2⟩

end Go.Proofs.Ytnchipcpeeofaaa

namespace Go.Proofs.Ytnchipcpeeofaaa
open Go.RowKit
set_option linter.unusedVariables false
set_option linter.unusedSimpArgs false

/-- Powers, and digits, by names of their own. -/
def pw (m k : Nat) : Nat := m ^ k
def qt (m n k : Nat) : Nat := n / m ^ k
def dg (m n k : Nat) : Nat := n / m ^ k % m
theorem qt_zero (m n : Nat) : qt m n 0 = n := by unfold qt; simp
theorem pw_mul {m k n : Nat} (hm : m ≤ 4) (hk : k < n) (hn : n ≤ 4) : IntKind.i64.wrap (((pw m k : Nat) : Int) * (m : Int)) = ((pw m (k + 1) : Nat) : Int) := by
  have h1 : pw m k ≤ 256 := pow_le4 hm (by omega)
  have h2 : pw m (k + 1) = pw m k * m := by unfold pw; rw [Nat.pow_succ]
  have h3 : pw m k * m ≤ 256 * 4 := Nat.mul_le_mul h1 hm
  rw [h2, Int.natCast_mul]
  refine IntWalk.i64_in _ ?_
  rw [← Int.natCast_mul]
  exact ⟨by omega, by omega⟩
theorem qt_le (m n k : Nat) : qt m n k ≤ n := Nat.div_le_self _ _
theorem qt_step {m n k : Nat} (hm : 1 ≤ m) (hn : n ≤ 1000) : ((qt m n k : Nat) : Int).tdiv (m : Int) = ((qt m n (k + 1) : Nat) : Int) ∧ ((qt m n k : Nat) : Int).tmod (m : Int) = ((dg m n k : Nat) : Int) ∧
    IntKind.i64.wrap ((qt m n (k + 1) : Nat) : Int) = ((qt m n (k + 1) : Nat) : Int) := by
  have h0 := qt_le m n k
  have h1 := qt_le m n (k + 1)
  refine ⟨?_, ?_, IntWalk.i64_in _ ⟨by omega, by omega⟩⟩
  · rw [Int.tdiv_eq_ediv_of_nonneg (by omega), ← Int.natCast_ediv]
    unfold qt
    rw [Nat.div_div_eq_div_mul, Nat.pow_succ]
  · rw [Int.tmod_eq_emod_of_nonneg (by omega), ← Int.natCast_emod]
    rfl
theorem dig_next (m n k : Nat) : digL m k n ++ [((dg m n k : Nat) : Int)] = digL m (k + 1) n := digL_succ m k n

set_option maxRecDepth 20000 in
set_option maxHeartbeats 8000000 in
theorem sCountKeeping_any (A : Option Addr) (c lo hi : Nat) (T : List (List Int)) (B : Option Addr) (c2 lo2 hi2 : Nat) (U : List (List Int)) (w : World) (h : Mat w lo hi A T) (hh : hi ≤ w.heap.size) (hS : Small T) (h2 : Mat w lo2 hi2 B U) (hh2 : hi2 ≤ w.heap.size) (hS2 : Small U) :
    Calls Try.prog 33 #[.slice A T.length c, .slice B U.length c2] w fun e w' => e = .returned (.int .i64 (countK T U)) ∧ Below w.heap.size w w' := by
  have hlT := hS.len
  have hlU := hS2.len
  cases hc : canC T U
  · have HE := hide (countK_not hc)
    cases hkT : okT T
    · go_enter Try.func33, Try.ntmps33
      go_wp2_with fail
      refine (sTableOk_any _ _ _ _ _ _ h hS).mono ?_
      rw [hkT]
      rintro e w_ ⟨rfl, rfl⟩
      go_wp2
      go_ret
      exact ⟨ret_int HE.out.symm, Below.refl _ _⟩
    cases hkU : okT U
    · go_enter Try.func33, Try.ntmps33
      go_wp2_with fail
      refine (sTableOk_any _ _ _ _ _ _ h hS).mono ?_
      rw [hkT]
      rintro e w_ ⟨rfl, rfl⟩
      go_wp2_with fail
      refine (sTableOk_any _ _ _ _ _ _ h2 hS2).mono ?_
      rw [hkU]
      rintro e w_ ⟨rfl, rfl⟩
      go_wp2
      go_ret
      exact ⟨ret_int HE.out.symm, Below.refl _ _⟩
    by_cases g1 : T.length ≤ 4
    · have g2 : ¬ U.length ≤ 4 := fun g2 => by
        unfold canC at hc
        rw [hkT, hkU] at hc
        simp [g1, g2] at hc
      have i1 : ¬ (4 : Int) < (T.length : Int) := by omega
      have i2 : (4 : Int) < (U.length : Int) := by omega
      clear hc
      go_enter Try.func33, Try.ntmps33
      go_wp2_with fail
      refine (sTableOk_any _ _ _ _ _ _ h hS).mono ?_
      rw [hkT]
      rintro e w_ ⟨rfl, rfl⟩
      go_wp2_with fail
      refine (sTableOk_any _ _ _ _ _ _ h2 hS2).mono ?_
      rw [hkU]
      rintro e w_ ⟨rfl, rfl⟩
      go_wp2
      go_ret
      exact ⟨ret_int HE.out.symm, Below.refl _ _⟩
    · have i1 : (4 : Int) < (T.length : Int) := by omega
      clear hc
      go_enter Try.func33, Try.ntmps33
      go_wp2_with fail
      refine (sTableOk_any _ _ _ _ _ _ h hS).mono ?_
      rw [hkT]
      rintro e w_ ⟨rfl, rfl⟩
      go_wp2_with fail
      refine (sTableOk_any _ _ _ _ _ _ h2 hS2).mono ?_
      rw [hkU]
      rintro e w_ ⟨rfl, rfl⟩
      go_wp2
      go_ret
      exact ⟨ret_int HE.out.symm, Below.refl _ _⟩
  obtain ⟨kT, kU, l4, m4⟩ := canC_iff.1 hc
  have HE := hide (show countK T U = ((keepN T U (pw U.length T.length) : Nat) : Int) from countK_ok hc)
  have HT := hide (okT_iff.2 kT)
  have HU := hide (okT_iff.2 kU)
  have i1 : ¬ (4 : Int) < (T.length : Int) := by omega
  have i2 : ¬ (4 : Int) < (U.length : Int) := by omega
  have u1 := kU.lo
  have u2 : ¬ U.length = 0 := by omega
  have u3 : ¬ (U.length : Int) = 0 := by omega
  have u4 : ((U.length : Int) == 0) = false := beq_eq_false_iff_ne.2 u3
  clear hc kT kU
  go_enter Try.func33, Try.ntmps33
  go_wp2_with fail
  refine (sTableOk_any _ _ _ _ _ _ h hS).mono ?_
  rw [HT.out]
  rintro e w_ ⟨rfl, rfl⟩
  go_wp2_with fail
  refine (sTableOk_any _ _ _ _ _ _ h2 hS2).mono ?_
  rw [HU.out]
  rintro e w_ ⟨rfl, rfl⟩
  go_wp2
  go_loopg [6, 5] T.length (fun g i v wr => ∃ k : Nat, k ≤ T.length ∧ Hid (g = T.length - k) ∧ i = .int .i64 k ∧ v = .int .i64 (pw U.length k : Nat) ∧ w = wr)
  case atStart => exact ⟨0, Nat.zero_le _, rfl, rfl, rfl, rfl⟩
  case round =>
    obtain ⟨k, hk, hgk, rfl, rfl, rfl⟩ := hrel
    by_cases hlt : k < T.length
    · have hw := pw_mul m4 hlt l4
      go_wp2
      go_roundg (T.length - (k + 1))
      case measure => go_light; have := hgk.out; omega
      case rel => go_light; exact ⟨k + 1, hlt, rfl, by go_num, rfl, rfl⟩
    · obtain rfl : T.length = k := by omega
      have hpw : pw U.length T.length ≤ 256 := pow_le4 m4 l4
      obtain ⟨N, hN⟩ : ∃ N, N = pw U.length T.length := ⟨_, rfl⟩
      rw [← hN] at hpw ⊢
      rw [← hN] at HE
      clear hN
      go_wp2
      go_loopg [8, 7] N (fun g i v wr => ∃ n : Nat, n ≤ N ∧ Hid (g = N - n) ∧ i = .int .i64 n ∧ v = .int .i64 (keepN T U n : Nat) ∧ Below w.heap.size w wr)
      case atStart => exact ⟨0, Nat.zero_le _, rfl, rfl, rfl, Below.refl _ _⟩
      case round =>
        clear hgk hk
        obtain ⟨n, hn, hgk, rfl, rfl, hB⟩ := hrel
        have hkn := keepN_le (T := T) (U := U) n
        by_cases hnt : n < N
        · have sB := hB.size
          have hB2 := hB.alloc hB.size (.cells #[] 3)
          have hR0 : ARow w.heap.size (wr.alloc (.cells #[] 3)) (.slice (some ⟨wr.heap.size, 0, none⟩) 0 0) [] := ARow.made sB
          go_wp2
          go_loopg [9, 10, 11] T.length (fun g f l i wx => ∃ k : Nat, k ≤ T.length ∧ Hid (g = T.length - k) ∧ i = .int .i64 k ∧ l = .int .i64 (qt U.length n k : Nat) ∧ ARow w.heap.size wx f (digL U.length k n) ∧ Below w.heap.size w wx)
          case atStart => exact ⟨0, Nat.zero_le _, rfl, rfl, by rw [qt_zero], hR0, hB2⟩
          case round =>
            clear hR0 hB2 hB sB
            obtain ⟨k, hk, hgk2, rfl, rfl, hR, hB⟩ := hrel
            by_cases hkt : k < T.length
            · have hl : (digL U.length k n).length ≤ 1048576 := by rw [len_digL]; omega
              obtain ⟨s1, s2, s3⟩ := qt_step (m := U.length) (n := n) (k := k) u1 (by omega)
              have hs := hB.size
              obtain ⟨Af, cf, rfl, _, _, _⟩ := hR.val
              rw [len_digL] at hR ⊢
              go_wp2_with (at_builtin; refine wp_app_int rfl (.tmp 53) (.tmp 58) rfl w.heap.size _ _ _ 1 rfl rfl hR hl hs ?_; intro v2 w2 hown2 hg2)
              go_roundg (T.length - (k + 1))
              case measure => go_light; have := hgk2.out; omega
              case rel => go_light; exact ⟨k + 1, hkt, rfl, by go_num, rfl, by rw [← dig_next]; exact hown2, hB.trans (hR.belowOf hg2 (Nat.le_refl _) hs)⟩
            · obtain rfl : T.length = k := by omega
              obtain ⟨Af, cf, rfl, hc1, hc2, hRo⟩ := hR.val
              rw [len_digL] at hc1 ⊢
              have HRO := hide hRo
              have hm1 := h.below hB hh
              have hm2 := h2.below hB hh2
              have hs := hB.size
              have HS := hide (show keepN T U (n + 1) = keepN T U n + (if keepB T U (digL U.length T.length n) = true then 1 else 0) from rfl)
              clear hR hRo
              cases hkb : keepB T U (digL U.length T.length n)
              all_goals
                rw [hkb] at HS
                go_wp2_with fail
                refine (show Calls _ _ #[.slice A T.length c, .slice B U.length c2, .slice Af T.length cf] _ _ from (by have := sKeepsOk_any A c lo hi T B c2 lo2 hi2 U Af cf _ _ (digL U.length T.length n) _ hm1 hS hm2 hS2 HRO.out (by rw [len_digL]; omega); rw [len_digL] at this; exact this)).mono ?_
                rw [hkb]
                rintro e w2 ⟨rfl, q2⟩
                have hB2 := hB.trans (q2.below w.heap.size)
                go_wp2
                go_roundg (N - (n + 1))
                case measure => go_light; have := hgk.out; omega
                case rel => go_light; exact ⟨n + 1, hnt, rfl, by go_num, by rw [HS.out]; first | rfl | simp, hB2⟩
        · obtain rfl : N = n := by omega
          go_wp2
          go_ret
          exact ⟨ret_int HE.out.symm, hB⟩

end Go.Proofs.Ytnchipcpeeofaaa

namespace Go.Proofs.Ytnchipcpeeofaaa
open Go.RowKit
set_option linter.unusedVariables false
set_option linter.unusedSimpArgs false

def pushK (T : List (List Int)) (a k : Nat) : List Int := (List.range k).map fun b : Nat => mul T (mul T (a : Int) (b : Int)) (a : Int)
theorem pushK_succ (T : List (List Int)) (a k : Nat) : pushK T a k ++ [mul T (mul T (a : Int) (k : Int)) (a : Int)] = pushK T a (k + 1) := by simp [pushK, List.range_succ]
theorem len_pushK (T : List (List Int)) (a k : Nat) : (pushK T a k).length = k := by simp [pushK]

set_option maxRecDepth 20000 in
set_option maxHeartbeats 8000000 in
theorem sPushingOf_any (A : Option Addr) (c lo hi : Nat) (T : List (List Int)) (x : Int) (w : World) (h : Mat w lo hi A T) (hh : hi ≤ w.heap.size) (hS : Small T) :
    Calls Try.prog 38 #[.slice A T.length c, .int .i64 x] w (NewRow w (pushL T x)) := by
  have hlT := hS.len
  have b0 := (Below.refl w.heap.size w).alloc (Nat.le_refl _) (.cells #[] 3)
  have h' := h.below b0 hh
  cases hr : (bandT T && inT T x)
  · have HF : Hid (∀ w', Below w.heap.size w w' → NewRow w (pushL T x) (.returned (.slice (some ⟨w.heap.size, 0, none⟩) 0 0)) w') := fun w' hb => by
      rw [pushL_not hr]; exact ⟨_, 0, rfl, hb, Row.nil _ _ _ _, by simp, by omega⟩
    cases hb : bandT T
    · go_enter Try.func38, Try.ntmps38
      go_wp2_with fail
      refine (sBandOk_any _ _ _ _ _ _ h' hS).mono ?_
      rw [hb]
      rintro e w1 ⟨rfl, q1⟩
      go_wp2
      go_ret
      exact HF.out _ (b0.trans (q1.below _))
    · have hx : inT T x = false := by rw [hb, Bool.true_and] at hr; exact hr
      go_enter Try.func38, Try.ntmps38
      go_wp2_with fail
      refine (sBandOk_any _ _ _ _ _ _ h' hS).mono ?_
      rw [hb]
      rintro e w1 ⟨rfl, q1⟩
      go_wp2_with fail
      refine (l1In_any x _ _ _).mono ?_
      rw [show (decide (0 ≤ x) && decide (x ≤ (T.length : Int) - 1)) = false from hx]
      rintro e w' ⟨rfl, rfl⟩
      go_wp2
      go_ret
      exact HF.out _ (b0.trans (q1.below _))
  · obtain ⟨hb, a, rfl, ha⟩ := can1.1 hr
    have hx : inT T (a : Int) = true := inT_iff.2 ⟨a, rfl, ha⟩
    have k := band_tab hb
    have k9 := k.hi
    have HE := hide (show pushL T a = pushK T a T.length from pushL_ok hb ha)
    obtain ⟨bb, oo, rfl, _, hbb, hcell⟩ := h.head k
    clear hr
    go_enter Try.func38, Try.ntmps38
    go_wp2_with fail
    refine (sBandOk_any _ _ _ _ _ _ h' hS).mono ?_
    rw [hb]
    rintro e w1 ⟨rfl, q1⟩
    go_wp2_with fail
    refine (l1In_any (a : Int) _ _ _).mono ?_
    rw [show (decide ((0 : Int) ≤ (a : Int)) && decide ((a : Int) ≤ (T.length : Int) - 1)) = true from hx]
    rintro e w' ⟨rfl, rfl⟩
    have B1 := b0.trans (q1.below w.heap.size)
    have R1 : ARow w.heap.size w1 (.slice (some ⟨w.heap.size, 0, none⟩) 0 0) [] := (ARow.made (Nat.le_refl _)).below (q1.below _)
    clear b0 h' q1 hx hb
    go_wp2
    go_loopg [6, 5] T.length (fun g i v wr => ∃ b : Nat, b ≤ T.length ∧ Hid (g = T.length - b) ∧ i = .int .i64 b ∧ ARow w.heap.size wr v (pushK T a b) ∧ Below w.heap.size w wr)
    case atStart => exact ⟨0, Nat.zero_le _, rfl, rfl, R1, B1⟩
    case round =>
      clear R1 B1
      obtain ⟨b, hbl, hgk, rfl, hR, hB⟩ := hrel
      by_cases hlt : b < T.length
      · have hcw : ∀ y z : Int, 0 ≤ y → y < T.length → 0 ≤ z → z < T.length → ∃ b2 o2 c2, wr.cell? ⟨bb, oo + y.toNat, none⟩ = some (.slice (some ⟨b2, o2, none⟩) T.length c2) ∧ wr.cell? ⟨b2, o2 + z.toNat, none⟩ = some (.int .i64 (mul T y z)) := fun y z y0 y1 z0 z1 => by
          obtain ⟨b2, o2, c2, e1, _, hb2, e2⟩ := hcell y y0 y1
          exact ⟨b2, o2, c2, (hB.cell (p := ⟨bb, oo + y.toNat, none⟩) (by show bb < _; omega)).trans e1, (hB.cell (p := ⟨b2, o2 + z.toNat, none⟩) (by show b2 < _; omega)).trans (e2 z z0 z1)⟩
        obtain ⟨p, hp, p1⟩ := mul_nat k ha hlt
        obtain ⟨bx1, ox1, cx1, hcx1, v1⟩ := hcw (a : Nat) (b : Nat) (by omega) (by omega) (by omega) (by omega)
        obtain ⟨bx2, ox2, cx2, hcx2, v2⟩ := hcw (p : Nat) (a : Nat) (by omega) (by omega) (by omega) (by omega)
        have HN := hide (pushK_succ T a b)
        rw [hp] at v1 HN
        rw [Int.toNat_natCast] at hcx1 v1 hcx2 v2
        obtain ⟨z, hz⟩ : ∃ z, z = mul T (p : Int) (a : Int) := ⟨_, rfl⟩
        rw [← hz] at v2 HN
        have hl : (pushK T a b).length ≤ 1048576 := by rw [len_pushK]; omega
        have hs := hB.size
        obtain ⟨Af, cf, rfl, _, _, _⟩ := hR.val
        rw [len_pushK] at hR ⊢
        clear hcw hcell hz hp
        go_wp2_with (at_builtin; refine wp_app_int rfl (.tmp 26) (.tmp 40) rfl w.heap.size _ _ _ 1 rfl rfl hR hl hs ?_; intro v2' w2 hown2 hg2)
        go_roundg (T.length - (b + 1))
        case measure => go_light; have := hgk.out; omega
        case rel => go_light; exact ⟨b + 1, hlt, rfl, by go_num, by rw [← HN.out]; exact hown2, hB.trans (hR.belowOf hg2 (Nat.le_refl _) hs)⟩
      · obtain rfl : T.length = b := by omega
        obtain ⟨Ao, co, rfl, hc1, hc2, hRo⟩ := hR.val
        go_wp2
        go_ret
        rw [HE.out]
        exact ⟨Ao, co, rfl, hB, hRo, hc1, hc2⟩
end Go.Proofs.Ytnchipcpeeofaaa
