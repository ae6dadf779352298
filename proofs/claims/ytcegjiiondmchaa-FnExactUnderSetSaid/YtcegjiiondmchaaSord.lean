
/- Orders: the specification's. -/
import Derived.Test.YtcegjiiondmchaaSband
import Derived.Test.YtcegjiiondmchaaOrdP
import Derived.Test.YtcegjiiondmchaaHighS
import Derived.Test.YtcegjiiondmchaaMadeS
import Derived.Deep.RegionHeld3
namespace Go.Proofs.Ytcegjiiondmchaa
open Go.RowKit
set_option linter.unusedVariables false


set_option maxHeartbeats 2000000 in
theorem sBelowOk_any (A : Option Addr) (c lo hi : Nat) (T : List (List Int)) (x y : Int) (w : World) (h : Mat w lo hi A T) (hS : Small T) :
    Calls Try.prog 17 #[.slice A T.length c, .int .i64 x, .int .i64 y] w fun e w' => e = .returned (.bool (belowT T x y)) ∧ QD w w' := by
  have hlT := hS.len
  cases hb : bandT T
  · have HF := hide (belowT_not (T := T) (x := x) (y := y) (by rw [hb]; rfl))
    go_enter Try.func17, Try.ntmps17
    go_wp2_with fail
    refine (sBandOk_any _ _ _ _ T w h hS).mono ?_
    rw [hb]
    rintro e w1 ⟨rfl, q1⟩
    go_wp2
    go_ret
    exact ⟨ret_bool HF.out.symm, q1⟩
  cases hx : inT T x
  · have HF := hide (belowT_not (T := T) (x := x) (y := y) (by rw [hb, hx]; rfl))
    go_enter Try.func17, Try.ntmps17
    go_wp2_with fail
    refine (sBandOk_any _ _ _ _ T w h hS).mono ?_
    rw [hb]
    rintro e w1 ⟨rfl, q1⟩
    go_wp2_with fail
    refine (l1In_any x _ _ _).mono ?_
    rw [show (decide (0 ≤ x) && decide (x ≤ (T.length : Int) - 1)) = false from hx]
    rintro e w' ⟨rfl, rfl⟩
    go_wp2
    go_ret
    exact ⟨ret_bool HF.out.symm, q1⟩
  cases hy : inT T y
  · have HF := hide (belowT_not (T := T) (x := x) (y := y) (by rw [hb, hx, hy]; rfl))
    go_enter Try.func17, Try.ntmps17
    go_wp2_with fail
    refine (sBandOk_any _ _ _ _ T w h hS).mono ?_
    rw [hb]
    rintro e w1 ⟨rfl, q1⟩
    go_wp2_with fail
    refine (l1In_any x _ _ _).mono ?_
    rw [show (decide (0 ≤ x) && decide (x ≤ (T.length : Int) - 1)) = true from hx]
    rintro e w' ⟨rfl, rfl⟩
    go_wp2_with fail
    refine (l1In_any y _ _ _).mono ?_
    rw [show (decide (0 ≤ y) && decide (y ≤ (T.length : Int) - 1)) = false from hy]
    rintro e w' ⟨rfl, rfl⟩
    go_wp2
    go_ret
    exact ⟨ret_bool HF.out.symm, q1⟩
  obtain ⟨a, rfl, ha⟩ := inT_iff.1 hx
  obtain ⟨b, rfl, hb1⟩ := inT_iff.1 hy
  have HE := hide (belowT_of hb ha hb1)
  have k := band_tab hb
  have k9 := k.hi
  obtain ⟨bb, oo, rfl, _, _, hcell⟩ := h.head k
  obtain ⟨p, hp, p1⟩ := mul_nat k ha hb1
  have HE2 := hide (show blw T a b = (mul T (a : Int) (b : Int) == (a : Int) && mul T (b : Int) (a : Int) == (a : Int)) from rfl)
  clear hp p1
  cases e1 : (mul T (a : Int) (b : Int) == (a : Int))
  · rw [e1] at HE2
    go_enter Try.func17, Try.ntmps17
    go_wp2_with fail
    refine (sBandOk_any _ _ _ _ T w h hS).mono ?_
    rw [hb]
    rintro e w1 ⟨rfl, q1⟩
    go_wp2_with fail
    refine (l1In_any (a : Int) _ _ _).mono ?_
    rw [show (decide ((0 : Int) ≤ (a : Int)) && decide ((a : Int) ≤ (T.length : Int) - 1)) = true from hx]
    rintro e w' ⟨rfl, rfl⟩
    go_wp2_with fail
    refine (l1In_any (b : Int) _ _ _).mono ?_
    rw [show (decide ((0 : Int) ≤ (b : Int)) && decide ((b : Int) ≤ (T.length : Int) - 1)) = true from hy]
    rintro e w' ⟨rfl, rfl⟩
    have hcw : ∀ y z : Int, 0 ≤ y → y < T.length → 0 ≤ z → z < T.length → ∃ b2 o2 c2, w1.cell? ⟨bb, oo + y.toNat, none⟩ = some (.slice (some ⟨b2, o2, none⟩) T.length c2) ∧ w1.cell? ⟨b2, o2 + z.toNat, none⟩ = some (.int .i64 (mul T y z)) := fun y z y0 y1 z0 z1 => by
      obtain ⟨b2, o2, c2, e1, _, _, e2⟩ := hcell y y0 y1
      exact ⟨b2, o2, c2, (World.cell?_of_block (w := w) (by rw [q1.heap])).trans e1, (World.cell?_of_block (w := w) (by rw [q1.heap])).trans (e2 z z0 z1)⟩
    obtain ⟨bx1, ox1, cx1, hcx1, v1⟩ := hcw (a : Nat) (b : Nat) (by omega) (by omega) (by omega) (by omega)
    obtain ⟨bx2, ox2, cx2, hcx2, v2⟩ := hcw (b : Nat) (a : Nat) (by omega) (by omega) (by omega) (by omega)
    rw [Int.toNat_natCast] at hcx1 v1 hcx2 v2
    clear hcw hx hy
    go_wp2
    go_ret
    exact ⟨ret_bool (by rw [HE.out, HE2.out]; rfl), q1⟩
  · rw [e1] at HE2
    go_enter Try.func17, Try.ntmps17
    go_wp2_with fail
    refine (sBandOk_any _ _ _ _ T w h hS).mono ?_
    rw [hb]
    rintro e w1 ⟨rfl, q1⟩
    go_wp2_with fail
    refine (l1In_any (a : Int) _ _ _).mono ?_
    rw [show (decide ((0 : Int) ≤ (a : Int)) && decide ((a : Int) ≤ (T.length : Int) - 1)) = true from hx]
    rintro e w' ⟨rfl, rfl⟩
    go_wp2_with fail
    refine (l1In_any (b : Int) _ _ _).mono ?_
    rw [show (decide ((0 : Int) ≤ (b : Int)) && decide ((b : Int) ≤ (T.length : Int) - 1)) = true from hy]
    rintro e w' ⟨rfl, rfl⟩
    have hcw : ∀ y z : Int, 0 ≤ y → y < T.length → 0 ≤ z → z < T.length → ∃ b2 o2 c2, w1.cell? ⟨bb, oo + y.toNat, none⟩ = some (.slice (some ⟨b2, o2, none⟩) T.length c2) ∧ w1.cell? ⟨b2, o2 + z.toNat, none⟩ = some (.int .i64 (mul T y z)) := fun y z y0 y1 z0 z1 => by
      obtain ⟨b2, o2, c2, e1, _, _, e2⟩ := hcell y y0 y1
      exact ⟨b2, o2, c2, (World.cell?_of_block (w := w) (by rw [q1.heap])).trans e1, (World.cell?_of_block (w := w) (by rw [q1.heap])).trans (e2 z z0 z1)⟩
    obtain ⟨bx1, ox1, cx1, hcx1, v1⟩ := hcw (a : Nat) (b : Nat) (by omega) (by omega) (by omega) (by omega)
    obtain ⟨bx2, ox2, cx2, hcx2, v2⟩ := hcw (b : Nat) (a : Nat) (by omega) (by omega) (by omega) (by omega)
    rw [Int.toNat_natCast] at hcx1 v1 hcx2 v2
    clear hcw hx hy
    go_wp2
    go_ret
    exact ⟨ret_bool (by rw [HE.out, HE2.out]; rfl), q1⟩

set_option maxHeartbeats 2000000 in
theorem sWeakBelow_any (A : Option Addr) (c lo hi : Nat) (T : List (List Int)) (x y : Int) (w : World) (h : Mat w lo hi A T) (hS : Small T) :
    Calls Try.prog 22 #[.slice A T.length c, .int .i64 x, .int .i64 y] w fun e w' => e = .returned (.bool (weakT T x y)) ∧ QD w w' := by
  have hlT := hS.len
  cases hb : bandT T
  · have HF := hide (weakT_not (T := T) (x := x) (y := y) (by rw [hb]; rfl))
    go_enter Try.func22, Try.ntmps22
    go_wp2_with fail
    refine (sBandOk_any _ _ _ _ T w h hS).mono ?_
    rw [hb]
    rintro e w1 ⟨rfl, q1⟩
    go_wp2
    go_ret
    exact ⟨ret_bool HF.out.symm, q1⟩
  cases hx : inT T x
  · have HF := hide (weakT_not (T := T) (x := x) (y := y) (by rw [hb, hx]; rfl))
    go_enter Try.func22, Try.ntmps22
    go_wp2_with fail
    refine (sBandOk_any _ _ _ _ T w h hS).mono ?_
    rw [hb]
    rintro e w1 ⟨rfl, q1⟩
    go_wp2_with fail
    refine (l1In_any x _ _ _).mono ?_
    rw [show (decide (0 ≤ x) && decide (x ≤ (T.length : Int) - 1)) = false from hx]
    rintro e w' ⟨rfl, rfl⟩
    go_wp2
    go_ret
    exact ⟨ret_bool HF.out.symm, q1⟩
  cases hy : inT T y
  · have HF := hide (weakT_not (T := T) (x := x) (y := y) (by rw [hb, hx, hy]; rfl))
    go_enter Try.func22, Try.ntmps22
    go_wp2_with fail
    refine (sBandOk_any _ _ _ _ T w h hS).mono ?_
    rw [hb]
    rintro e w1 ⟨rfl, q1⟩
    go_wp2_with fail
    refine (l1In_any x _ _ _).mono ?_
    rw [show (decide (0 ≤ x) && decide (x ≤ (T.length : Int) - 1)) = true from hx]
    rintro e w' ⟨rfl, rfl⟩
    go_wp2_with fail
    refine (l1In_any y _ _ _).mono ?_
    rw [show (decide (0 ≤ y) && decide (y ≤ (T.length : Int) - 1)) = false from hy]
    rintro e w' ⟨rfl, rfl⟩
    go_wp2
    go_ret
    exact ⟨ret_bool HF.out.symm, q1⟩
  obtain ⟨a, rfl, ha⟩ := inT_iff.1 hx
  obtain ⟨b, rfl, hb1⟩ := inT_iff.1 hy
  have HE := hide (weakT_of hb ha hb1)
  have k := band_tab hb
  have k9 := k.hi
  obtain ⟨bb, oo, rfl, _, _, hcell⟩ := h.head k
  obtain ⟨p, hp, p1⟩ := mul_nat k ha hb1
  rw [hp] at HE
  go_enter Try.func22, Try.ntmps22
  go_wp2_with fail
  refine (sBandOk_any _ _ _ _ T w h hS).mono ?_
  rw [hb]
  rintro e w1 ⟨rfl, q1⟩
  go_wp2_with fail
  refine (l1In_any (a : Int) _ _ _).mono ?_
  rw [show (decide ((0 : Int) ≤ (a : Int)) && decide ((a : Int) ≤ (T.length : Int) - 1)) = true from hx]
  rintro e w' ⟨rfl, rfl⟩
  go_wp2_with fail
  refine (l1In_any (b : Int) _ _ _).mono ?_
  rw [show (decide ((0 : Int) ≤ (b : Int)) && decide ((b : Int) ≤ (T.length : Int) - 1)) = true from hy]
  rintro e w' ⟨rfl, rfl⟩
  have hcw : ∀ y z : Int, 0 ≤ y → y < T.length → 0 ≤ z → z < T.length → ∃ b2 o2 c2, w1.cell? ⟨bb, oo + y.toNat, none⟩ = some (.slice (some ⟨b2, o2, none⟩) T.length c2) ∧ w1.cell? ⟨b2, o2 + z.toNat, none⟩ = some (.int .i64 (mul T y z)) := fun y z y0 y1 z0 z1 => by
    obtain ⟨b2, o2, c2, e1, _, _, e2⟩ := hcell y y0 y1
    exact ⟨b2, o2, c2, (World.cell?_of_block (w := w) (by rw [q1.heap])).trans e1, (World.cell?_of_block (w := w) (by rw [q1.heap])).trans (e2 z z0 z1)⟩
  obtain ⟨bx1, ox1, cx1, hcx1, v1⟩ := hcw (a : Nat) (b : Nat) (by omega) (by omega) (by omega) (by omega)
  obtain ⟨bx2, ox2, cx2, hcx2, v2⟩ := hcw (p : Nat) (a : Nat) (by omega) (by omega) (by omega) (by omega)
  rw [hp] at v1
  rw [Int.toNat_natCast] at hcx1 v1 hcx2 v2
  clear hcw hx hy
  go_wp2
  go_ret
  exact ⟨ret_bool HE.out.symm, q1⟩

set_option maxHeartbeats 2000000 in
theorem sPushedInto_any (A : Option Addr) (c lo hi : Nat) (T : List (List Int)) (x y : Int) (w : World) (h : Mat w lo hi A T) (hS : Small T) :
    Calls Try.prog 38 #[.slice A T.length c, .int .i64 x, .int .i64 y] w fun e w' => e = .returned (.int .i64 (pushT T x y)) ∧ QD w w' := by
  have hlT := hS.len
  cases hb : bandT T
  · have HF := hide (pushT_not (T := T) (x := x) (y := y) (by rw [hb]; rfl))
    go_enter Try.func38, Try.ntmps38
    go_wp2_with fail
    refine (sBandOk_any _ _ _ _ T w h hS).mono ?_
    rw [hb]
    rintro e w1 ⟨rfl, q1⟩
    go_wp2
    go_ret
    exact ⟨ret_int HF.out.symm, q1⟩
  cases hx : inT T x
  · have HF := hide (pushT_not (T := T) (x := x) (y := y) (by rw [hb, hx]; rfl))
    go_enter Try.func38, Try.ntmps38
    go_wp2_with fail
    refine (sBandOk_any _ _ _ _ T w h hS).mono ?_
    rw [hb]
    rintro e w1 ⟨rfl, q1⟩
    go_wp2_with fail
    refine (l1In_any x _ _ _).mono ?_
    rw [show (decide (0 ≤ x) && decide (x ≤ (T.length : Int) - 1)) = false from hx]
    rintro e w' ⟨rfl, rfl⟩
    go_wp2
    go_ret
    exact ⟨ret_int HF.out.symm, q1⟩
  cases hy : inT T y
  · have HF := hide (pushT_not (T := T) (x := x) (y := y) (by rw [hb, hx, hy]; rfl))
    go_enter Try.func38, Try.ntmps38
    go_wp2_with fail
    refine (sBandOk_any _ _ _ _ T w h hS).mono ?_
    rw [hb]
    rintro e w1 ⟨rfl, q1⟩
    go_wp2_with fail
    refine (l1In_any x _ _ _).mono ?_
    rw [show (decide (0 ≤ x) && decide (x ≤ (T.length : Int) - 1)) = true from hx]
    rintro e w' ⟨rfl, rfl⟩
    go_wp2_with fail
    refine (l1In_any y _ _ _).mono ?_
    rw [show (decide (0 ≤ y) && decide (y ≤ (T.length : Int) - 1)) = false from hy]
    rintro e w' ⟨rfl, rfl⟩
    go_wp2
    go_ret
    exact ⟨ret_int HF.out.symm, q1⟩
  obtain ⟨a, rfl, ha⟩ := inT_iff.1 hx
  obtain ⟨b, rfl, hb1⟩ := inT_iff.1 hy
  have HE := hide (pushT_of hb ha hb1)
  have k := band_tab hb
  have k9 := k.hi
  obtain ⟨bb, oo, rfl, _, _, hcell⟩ := h.head k
  obtain ⟨p, hp, p1⟩ := mul_nat k ha hb1
  rw [hp] at HE
  go_enter Try.func38, Try.ntmps38
  go_wp2_with fail
  refine (sBandOk_any _ _ _ _ T w h hS).mono ?_
  rw [hb]
  rintro e w1 ⟨rfl, q1⟩
  go_wp2_with fail
  refine (l1In_any (a : Int) _ _ _).mono ?_
  rw [show (decide ((0 : Int) ≤ (a : Int)) && decide ((a : Int) ≤ (T.length : Int) - 1)) = true from hx]
  rintro e w' ⟨rfl, rfl⟩
  go_wp2_with fail
  refine (l1In_any (b : Int) _ _ _).mono ?_
  rw [show (decide ((0 : Int) ≤ (b : Int)) && decide ((b : Int) ≤ (T.length : Int) - 1)) = true from hy]
  rintro e w' ⟨rfl, rfl⟩
  have hcw : ∀ y z : Int, 0 ≤ y → y < T.length → 0 ≤ z → z < T.length → ∃ b2 o2 c2, w1.cell? ⟨bb, oo + y.toNat, none⟩ = some (.slice (some ⟨b2, o2, none⟩) T.length c2) ∧ w1.cell? ⟨b2, o2 + z.toNat, none⟩ = some (.int .i64 (mul T y z)) := fun y z y0 y1 z0 z1 => by
    obtain ⟨b2, o2, c2, e1, _, _, e2⟩ := hcell y y0 y1
    exact ⟨b2, o2, c2, (World.cell?_of_block (w := w) (by rw [q1.heap])).trans e1, (World.cell?_of_block (w := w) (by rw [q1.heap])).trans (e2 z z0 z1)⟩
  obtain ⟨bx1, ox1, cx1, hcx1, v1⟩ := hcw (a : Nat) (b : Nat) (by omega) (by omega) (by omega) (by omega)
  obtain ⟨bx2, ox2, cx2, hcx2, v2⟩ := hcw (p : Nat) (a : Nat) (by omega) (by omega) (by omega) (by omega)
  rw [hp] at v1
  rw [Int.toNat_natCast] at hcx1 v1 hcx2 v2
  clear hcw hx hy
  go_wp2
  go_ret
  exact ⟨ret_int HE.out.symm, q1⟩

/-- What is under a thing, under way. -/
def undK (T : List (List Int)) (a k : Nat) : Nat := msk (fun b => blw T b a) k
theorem undK_no {T : List (List Int)} {a k : Nat} (h : blw T k a = false) : undK T a (k + 1) = undK T a k := by
  unfold undK
  simp [msk, h]
theorem undK_yes {T : List (List Int)} {a k : Nat} (h : blw T k a = true) : undK T a (k + 1) = undK T a k ||| 2 ^ k := by
  unfold undK
  rw [msk_or, if_pos h]
theorem undK_lt (T : List (List Int)) (a k : Nat) : undK T a k < 2 ^ k := msk_lt _ _

set_option maxRecDepth 20000 in
set_option maxHeartbeats 4000000 in
theorem sUnderSet_any (A : Option Addr) (c lo hi : Nat) (T : List (List Int)) (x : Int) (w : World) (h : Mat w lo hi A T) (hS : Small T) :
    Calls Try.prog 26 #[.slice A T.length c, .int .i64 x] w fun e w' => e = .returned (.int .i64 (underS T x)) ∧ QD w w' := by
  have hlT := hS.len
  cases hb : bandT T
  · have HF := hide (underS_not (T := T) (x := x) (by rw [hb]; rfl))
    go_enter Try.func26, Try.ntmps26
    go_wp2_with fail
    refine (sBandOk_any _ _ _ _ T w h hS).mono ?_
    rw [hb]
    rintro e w1 ⟨rfl, q1⟩
    go_wp2
    go_ret
    exact ⟨ret_int HF.out.symm, q1⟩
  cases hx : inT T x
  · have HF := hide (underS_not (T := T) (x := x) (by rw [hb, hx]; rfl))
    go_enter Try.func26, Try.ntmps26
    go_wp2_with fail
    refine (sBandOk_any _ _ _ _ T w h hS).mono ?_
    rw [hb]
    rintro e w1 ⟨rfl, q1⟩
    go_wp2_with fail
    refine (l1In_any x _ _ _).mono ?_
    rw [show (decide (0 ≤ x) && decide (x ≤ (T.length : Int) - 1)) = false from hx]
    rintro e w' ⟨rfl, rfl⟩
    go_wp2
    go_ret
    exact ⟨ret_int HF.out.symm, q1⟩
  obtain ⟨a, rfl, ha⟩ := inT_iff.1 hx
  have HE := hide (show underS T a = ((undK T a T.length : Nat) : Int) from underS_of hb ha)
  have k := band_tab hb
  have k9 := k.hi
  obtain ⟨bb, oo, rfl, _, _, hcell⟩ := h.head k
  go_enter Try.func26, Try.ntmps26
  go_wp2_with fail
  refine (sBandOk_any _ _ _ _ T w h hS).mono ?_
  rw [hb]
  rintro e w1 ⟨rfl, q1⟩
  go_wp2_with fail
  refine (l1In_any (a : Int) _ _ _).mono ?_
  rw [show (decide ((0 : Int) ≤ (a : Int)) && decide ((a : Int) ≤ (T.length : Int) - 1)) = true from hx]
  rintro e w' ⟨rfl, rfl⟩
  have hcw : ∀ y z : Int, 0 ≤ y → y < T.length → 0 ≤ z → z < T.length → ∃ b2 o2 c2, w1.cell? ⟨bb, oo + y.toNat, none⟩ = some (.slice (some ⟨b2, o2, none⟩) T.length c2) ∧ w1.cell? ⟨b2, o2 + z.toNat, none⟩ = some (.int .i64 (mul T y z)) := fun y z y0 y1 z0 z1 => by
    obtain ⟨b2, o2, c2, e1, _, _, e2⟩ := hcell y y0 y1
    exact ⟨b2, o2, c2, (World.cell?_of_block (w := w) (by rw [q1.heap])).trans e1, (World.cell?_of_block (w := w) (by rw [q1.heap])).trans (e2 z z0 z1)⟩
  have HCW := hide hcw
  clear hcw hx
  go_wp2
  go_loopg [6, 5] T.length (fun g i s wr => ∃ b : Nat, b ≤ T.length ∧ Hid (g = T.length - b) ∧ i = .int .i64 b ∧ s = .int .i64 (undK T a b : Nat) ∧ w1 = wr)
  case atStart => exact ⟨0, Nat.zero_le _, rfl, rfl, rfl, rfl⟩
  case round =>
    obtain ⟨b, hbt, hgk, rfl, rfl, rfl⟩ := hrel
    by_cases hlt : b < T.length
    · obtain ⟨bx1, ox1, cx1, hcx1, v1⟩ := HCW.out (b : Nat) (a : Nat) (by omega) (by omega) (by omega) (by omega)
      obtain ⟨bx2, ox2, cx2, hcx2, v2⟩ := HCW.out (a : Nat) (b : Nat) (by omega) (by omega) (by omega) (by omega)
      rw [Int.toNat_natCast] at hcx1 v1 hcx2 v2
      have hbl : blw T b a = (mul T (b : Int) (a : Int) == (b : Int) && mul T (a : Int) (b : Int) == (b : Int)) := rfl
      have hp9 := pow_le9 (show b ≤ 9 by omega)
      have hml := undK_lt T a b
      cases e1 : (mul T (b : Int) (a : Int) == (b : Int))
      · have HX := hide (undK_no (by rw [hbl, e1]; rfl))
        clear hbl
        go_wp2
        go_roundg (T.length - (b + 1))
        case measure => go_light; have := hgk.out; omega
        case rel => go_light; exact ⟨b + 1, by omega, rfl, by go_num, by rw [HX.out], rfl⟩
      · cases e2 : (mul T (a : Int) (b : Int) == (b : Int))
        · have HX := hide (undK_no (by rw [hbl, e1, e2]; rfl))
          clear hbl
          go_wp2
          go_roundg (T.length - (b + 1))
          case measure => go_light; have := hgk.out; omega
          case rel => go_light; exact ⟨b + 1, by omega, rfl, by go_num, by rw [HX.out], rfl⟩
        · have HX := hide (undK_yes (by rw [hbl, e1, e2]; rfl))
          have ha9 : b ≤ 9 := by omega
          obtain ⟨g1, g2⟩ := pow_int ha9
          have hm1 : undK T a b < 1024 := by omega
          have HOR := hide (or_pow hm1 ha9)
          clear hbl
          go_wp2
          go_roundg (T.length - (b + 1))
          case measure => go_light; have := hgk.out; omega
          case rel => go_light; exact ⟨b + 1, by omega, rfl, by go_num, by rw [HX.out, HOR.out], rfl⟩
    · obtain rfl : T.length = b := by omega
      go_wp2
      go_ret
      rw [HE.out]
      exact ⟨rfl, q1⟩

/-- Heights in a row of the call's own. -/
def RowH (w : World) (g n : Nat) (H : Nat → Nat) : Prop := w.rowIs g 3 n (fun i => .int .i64 (H i : Nat))
theorem RowH.put {w : World} {g n a v : Nat} {H : Nat → Nat} (h : RowH w g n H) : RowH (w.setCell ⟨g, a, none⟩ (.int .i64 (v : Nat))) g n (putN H a v) := (World.rowIs.set h a _).congr fun i _ => by
  unfold putN
  by_cases e : i = a
  · rw [if_pos e, if_pos e]
  · rw [if_neg e, if_neg e]
theorem RowH.cell {w : World} {g n a : Nat} {H : Nat → Nat} (h : RowH w g n H) (ha : a < n) : w.cell? ⟨g, a, none⟩ = some (.int .i64 (H a : Nat)) := World.rowIs.cell h ha
theorem RowH.frz {w : World} {g n : Nat} {H : Nat → Nat} (h : RowH w g n H) (a : Nat) : w.frozen? ⟨g, a, none⟩ = false := World.rowIs.frozen h a
theorem sbl_at (T : List (List Int)) (b a : Nat) : sbl T b a = ((b != a) && (mul T (b : Int) (a : Int) == (b : Int) && mul T (a : Int) (b : Int) == (b : Int))) := rfl

set_option maxRecDepth 20000 in
set_option maxHeartbeats 8000000 in
theorem sHighOf_any (A : Option Addr) (c lo hi : Nat) (T : List (List Int)) (w : World) (h : Mat w lo hi A T) (hh : hi ≤ w.heap.size) (hS : Small T) :
    Calls Try.prog 32 #[.slice A T.length c] w fun e w' => e = .returned (.int .i64 (highT T)) ∧ Below w.heap.size w w' := by
  have hlT := hS.len
  cases hb : bandT T
  · have HF := hide (highT_not hb)
    go_enter Try.func32, Try.ntmps32
    go_wp2_with fail
    refine (sBandOk_any _ _ _ _ T w h hS).mono ?_
    rw [hb]
    rintro e w1 ⟨rfl, q1⟩
    go_wp2
    go_ret
    exact ⟨ret_int HF.out.symm, q1.below _⟩
  have k := band_tab hb
  have k9 := k.hi
  have k1 := k.lo
  have HB := hide hb
  obtain ⟨bb, oo, rfl, _, hbb, hcell⟩ := h.head k
  have hmk := run_make_row' (P := Try.prog) 30 3 (.int .i64 0) 8 Try.underlying30 info_int rfl .i64 .i64 T.length (by omega) (by omega)
  go_enter Try.func32, Try.ntmps32
  go_wp2_with fail
  refine (sBandOk_any _ _ _ _ T w h hS).mono ?_
  rw [hb]
  rintro e w1 ⟨rfl, q1⟩
  clear hb
  have z1 : w.heap.size = w1.heap.size := by rw [q1.heap]
  have hcw : ∀ W, Below w1.heap.size w1 W → ∀ y z : Int, 0 ≤ y → y < T.length → 0 ≤ z → z < T.length → ∃ b2 o2 c2, W.cell? ⟨bb, oo + y.toNat, none⟩ = some (.slice (some ⟨b2, o2, none⟩) T.length c2) ∧ W.cell? ⟨b2, o2 + z.toNat, none⟩ = some (.int .i64 (mul T y z)) := fun W hW y z y0 y1 z0 z1' => by
    obtain ⟨b2, o2, c2, e1, _, hb2, e2⟩ := hcell y y0 y1
    exact ⟨b2, o2, c2, (hW.cell (p := ⟨bb, oo + y.toNat, none⟩) (by show bb < _; omega)).trans ((World.cell?_of_block (w := w) (by rw [q1.heap])).trans e1), (hW.cell (p := ⟨b2, o2 + z.toNat, none⟩) (by show b2 < _; omega)).trans ((World.cell?_of_block (w := w) (by rw [q1.heap])).trans (e2 z z0 z1'))⟩
  have HCW := hide hcw
  clear hcw hcell
  go_wp2
  clear hmk
  go_loopg [5, 3] T.length (fun g i x wr => ∃ (r best : Nat) (H : Nat → Nat), r ≤ T.length ∧ Hid (g = T.length - r) ∧ i = .int .i64 r ∧ x = .int .i64 best ∧ RowH wr w1.heap.size T.length H ∧ Hid (HR T r 0 H best) ∧ Below w1.heap.size w1 wr)
  case atStart => exact ⟨0, 1, fun _ => 0, Nat.zero_le _, rfl, rfl, rfl, (World.rowIs_made w1 _ T.length 3).congr (fun j _ => by simp), hr_start k1, (Below.refl _ _).alloc (Nat.le_refl _) _⟩
  case round =>
    obtain ⟨r, best, H, hr, hgk, rfl, rfl, hR, hHR, hB⟩ := hrel
    by_cases hlt : r < T.length
    · go_wp2
      go_loopg [6, 3] T.length (fun g i x wr => ∃ (a best : Nat) (H : Nat → Nat), a ≤ T.length ∧ Hid (g = T.length - a) ∧ i = .int .i64 a ∧ x = .int .i64 best ∧ RowH wr w1.heap.size T.length H ∧ Hid (HR T r a H best) ∧ Below w1.heap.size w1 wr)
      case atStart => exact ⟨0, best, H, Nat.zero_le _, rfl, rfl, rfl, hR, hHR, hB⟩
      case round =>
        clear hR hHR hB
        obtain ⟨a, best, H, ha, hgk2, rfl, rfl, hR, hHR, hB⟩ := hrel
        by_cases hla : a < T.length
        · have hle := hHR.out.le HB.out
          have hca := hR.cell hla
          have hfa := hR.frz a
          have hHa := hle.2 a hla
          have HM : Hid (∀ v : Nat, v = max (H a) 1 → HI T r a 0 (putN H a v) best) := fun v hv => by subst hv; exact hHR.out.enter hla
          have HPUT := hide (fun v => (hR.put (a := a) (v := v)))
          have HBV := hide (fun v => (hB.setCell (p := ⟨w1.heap.size, a, none⟩) (Nat.le_refl _) (.int .i64 (v : Nat))))
          clear hle hR hHR hB
          obtain ⟨v0, hv0, hv1⟩ : ∃ v : Nat, v = max (H a) 1 ∧ v ≤ 9 := ⟨_, rfl, by omega⟩
          have hmx : (if (1 : Int) > ((H a : Nat) : Int) then (1 : Int) else ((H a : Nat) : Int)) = (v0 : Int) := by split <;> omega
          have J1 := HM.out v0 hv0
          have J2 := HPUT.out v0
          have J3 := HBV.out v0
          clear HM HPUT HBV
          by_cases h1 : (1 : Int) > ((H a : Nat) : Int)
          all_goals
            have hv2 : (v0 : Int) = (if (1 : Int) > ((H a : Nat) : Int) then (1 : Int) else ((H a : Nat) : Int)) := hmx.symm
            simp only [h1, if_true, if_false] at hv2
            clear hmx hv0
            have HV2 := hide hv2
            rw [hv2] at J2 J3
            clear hv2
            go_wp2
            go_loopg [7] T.length (fun g i wr => ∃ (b : Nat) (H : Nat → Nat), b ≤ T.length ∧ Hid (g = T.length - b) ∧ i = .int .i64 b ∧ RowH wr w1.heap.size T.length H ∧ Hid (HI T r a b H best) ∧ Below w1.heap.size w1 wr)
            case atStart => exact ⟨0, _, Nat.zero_le _, rfl, rfl, J2, J1, J3⟩
            case round =>
              clear J1 J2 J3
              obtain ⟨b, H, hbt, hgk3, rfl, hR, hHI, hB⟩ := hrel
              by_cases hlb : b < T.length
              · have hle := hHI.out.le HB.out
                have hA9 := hle.2 a hla
                have hB9 := hle.2 b hlb
                clear hle
                have hca := hR.cell hla
                have hfa := hR.frz a
                have hcb := hR.cell hlb
                have hbl := sbl_at T b a
                obtain ⟨bx1, ox1, cx1, hcx1, v1⟩ := HCW.out _ hB (a : Nat) (b : Nat) (by omega) (by omega) (by omega) (by omega)
                obtain ⟨bx2, ox2, cx2, hcx2, v2⟩ := HCW.out _ hB (b : Nat) (a : Nat) (by omega) (by omega) (by omega) (by omega)
                rw [Int.toNat_natCast] at hcx1 v1 hcx2 v2
                by_cases hba : b = a
                · have HX := hide (hHI.out.skip (by rw [hbl, hba]; simp))
                  have hbi : (b : Int) = (a : Int) := by omega
                  clear hbl hca hcb hfa hba hcx1 v1 hcx2 v2
                  go_wp2
                  go_roundg (T.length - (b + 1))
                  case measure => go_light; have := hgk3.out; omega
                  case rel => go_light; exact ⟨b + 1, H, by omega, rfl, by go_num, hR, HX.out, hB⟩
                · have hbi : ¬ (b : Int) = (a : Int) := by omega
                  have hne : (b != a) = true := by simpa using hba
                  rw [hne, Bool.true_and] at hbl
                  clear hne
                  cases e1 : (mul T (a : Int) (b : Int) == (b : Int))
                  · have HX := hide (hHI.out.skip (by rw [hbl, e1, Bool.and_false]))
                    clear hbl hba
                    go_wp2
                    go_roundg (T.length - (b + 1))
                    case measure => go_light; have := hgk3.out; omega
                    case rel => go_light; exact ⟨b + 1, H, by omega, rfl, by go_num, hR, HX.out, hB⟩
                  · cases e2 : (mul T (b : Int) (a : Int) == (b : Int))
                    · have HX := hide (hHI.out.skip (by rw [hbl, e2, Bool.false_and]))
                      clear hbl hba
                      go_wp2
                      go_roundg (T.length - (b + 1))
                      case measure => go_light; have := hgk3.out; omega
                      case rel => go_light; exact ⟨b + 1, H, by omega, rfl, by go_num, hR, HX.out, hB⟩
                    · have HX : Hid (∀ v : Nat, v = max (H a) (H b + 1) → HI T r a (b + 1) (putN H a v) best) := fun v hv => by subst hv; exact hHI.out.step (by rw [hbl, e1, e2]; rfl) hla hlb
                      have HPUT := hide (fun (W : World) (hW : RowH W w1.heap.size T.length H) v => (hW.put (a := a) (v := v)))
                      clear hbl hba
                      by_cases h2 : ((H b : Nat) : Int) + 1 > ((H a : Nat) : Int)
                      · have X1 := HX.out (H b + 1) (by omega)
                        have X2 := hR.put (a := a) (v := H b + 1)
                        have X3 := hB.setCell (p := ⟨w1.heap.size, a, none⟩) (Nat.le_refl _) (.int .i64 ((H b + 1 : Nat) : Int))
                        rw [show ((H b + 1 : Nat) : Int) = ((H b : Nat) : Int) + 1 from by omega] at X2 X3
                        have Y1 := hide X1
                        have Y2 := hide X2
                        have Y3 := hide X3
                        clear X1 X2 X3 HX HPUT hHI hR
                        go_wp2
                        go_region
                        go_wp2
                        go_roundg (T.length - (b + 1))
                        case measure => go_light; have := hgk3.out; omega
                        case rel => go_light; exact ⟨b + 1, _, by omega, rfl, by go_num, Y2.out, Y1.out, Y3.out.drew⟩
                      · have X1 := HX.out (H a) (by omega)
                        have X2 := hR.put (a := a) (v := H a)
                        have X3 := hB.setCell (p := ⟨w1.heap.size, a, none⟩) (Nat.le_refl _) (.int .i64 ((H a : Nat) : Int))
                        have Y1 := hide X1
                        have Y2 := hide X2
                        have Y3 := hide X3
                        clear X1 X2 X3 HX HPUT hHI hR
                        go_wp2
                        go_region
                        go_wp2
                        go_roundg (T.length - (b + 1))
                        case measure => go_light; have := hgk3.out; omega
                        case rel => go_light; exact ⟨b + 1, _, by omega, rfl, by go_num, Y2.out, Y1.out, Y3.out.drew⟩
              · obtain rfl : T.length = b := by omega
                have hca := hR.cell hla
                have hle := hHI.out.le HB.out
                have hA9 := hle.2 a hla
                have hb9 := hle.1
                clear hle
                have HX := hide (hHI.out.leave hla)
                by_cases h2 : ((H a : Nat) : Int) > (best : Int)
                · have HM := hide (show max best (H a) = H a from by omega)
                  go_wp2
                  go_roundg (T.length - (a + 1))
                  case measure => go_light; have := hgk2.out; omega
                  case rel => go_light; exact ⟨a + 1, H a, H, by omega, rfl, by go_num, rfl, hR, HM.out ▸ HX.out, hB⟩
                · have HM := hide (show max best (H a) = best from by omega)
                  go_wp2
                  go_roundg (T.length - (a + 1))
                  case measure => go_light; have := hgk2.out; omega
                  case rel => go_light; exact ⟨a + 1, best, H, by omega, rfl, by go_num, rfl, hR, HM.out ▸ HX.out, hB⟩
        · obtain rfl : T.length = a := by omega
          go_wp2
          go_roundg (T.length - (r + 1))
          case measure => go_light; have := hgk.out; omega
          case rel => go_light; exact ⟨r + 1, best, H, by omega, rfl, by go_num, rfl, hR, hHR.out.round, hB⟩
    · obtain rfl : T.length = r := by omega
      have HE := hide (highT_of HB.out (hHR.out.isHi HB.out))
      go_wp2
      go_ret
      exact ⟨ret_int HE.out.symm, (q1.below _).trans (hB.mono (by omega))⟩
end Go.Proofs.Ytcegjiiondmchaa
