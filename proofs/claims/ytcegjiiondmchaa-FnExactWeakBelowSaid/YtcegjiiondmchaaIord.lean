
/- Orders: the program's. -/
import Derived.Test.YtcegjiiondmchaaIordB
import Derived.Test.YtcegjiiondmchaaIband
namespace Go.Proofs.Ytcegjiiondmchaa
open Go.RowKit
set_option linter.unusedVariables false


theorem row_new {W : World} {xs : List Int} (cs : Array Value) (hc : cs = (xs.map (Value.int .i64)).toArray) : Row (W.alloc (.cells cs 3)) W.heap.size (W.heap.size + 1) (some ⟨W.heap.size, 0, none⟩) xs := fun j hj => by
  subst hc
  exact ⟨W.heap.size, 0, rfl, Nat.le_refl _, Nat.lt_succ_self _, by simp [el, List.getD, hj]⟩
theorem okRow2 (T : List (List Int)) (x y : Int) : okRow T.length [x, y] = (inT T x && inT T y) := by
  have e : ∀ z : Int, (decide (0 ≤ z) && decide (z < (T.length : Int))) = inT T z := fun z => by
    unfold inT
    have : decide (z < (T.length : Int)) = decide (z ≤ (T.length : Int) - 1) := decide_eq_decide.2 (by omega)
    rw [this]
  unfold okRow
  simp only [List.all_cons, List.all_nil, Bool.and_true]
  rw [e x, e y]
theorem okRow1 (T : List (List Int)) (x : Int) : okRow T.length [x] = inT T x := by
  unfold okRow inT
  simp only [List.all_cons, List.all_nil, Bool.and_true]
  have : decide (x < (T.length : Int)) = decide (x ≤ (T.length : Int) - 1) := decide_eq_decide.2 (by omega)
  rw [this]

set_option maxHeartbeats 2000000 in
theorem thingsOfBand_any (A A2 : Option Addr) (c c2 lo hi lo2 hi2 : Nat) (T : List (List Int)) (xs : List Int) (w : World) (h : Mat w lo hi A T) (hh : hi ≤ w.heap.size) (hS : Small T) (h2 : Row w lo2 hi2 A2 xs) (hh2 : hi2 ≤ w.heap.size) (hn : xs.length ≤ 1048576) :
    Calls Try.prog 50 #[.slice A T.length c, .slice A2 xs.length c2] w fun e w' => e = .returned (.bool (bandT T && okRow T.length xs)) ∧ Below w.heap.size w w' := by
  have hl := hS.len
  cases hb : bandT T
  · go_enter Try.func50, Try.ntmps50
    go_wp2_with fail
    refine (iBandOk_any A c lo hi T w h hh hS).mono ?_
    rw [hb]
    rintro e w1 ⟨rfl, b1⟩
    go_wp2
    go_ret
    exact ⟨rfl, b1⟩
  · go_enter Try.func50, Try.ntmps50
    go_wp2_with fail
    refine (iBandOk_any A c lo hi T w h hh hS).mono ?_
    rw [hb]
    rintro e w1 ⟨rfl, b1⟩
    have h21 := h2.below b1 hh2
    go_wp2_with fail
    refine (allThings_any A2 c2 lo2 hi2 T.length xs _ h21 hn hl).mono ?_
    rintro e w2 ⟨rfl, rfl⟩
    go_wp2
    go_ret
    exact ⟨rfl, b1⟩

set_option maxRecDepth 20000 in
set_option maxHeartbeats 4000000 in
theorem iWeakBelow_any (A : Option Addr) (c lo hi : Nat) (T : List (List Int)) (x y : Int) (w : World) (h : Mat w lo hi A T) (hh : hi ≤ w.heap.size) (hS : Small T) :
    Calls Try.prog 21 #[.slice A T.length c, .int .i64 x, .int .i64 y] w fun e w' => e = .returned (.bool (weakT T x y)) ∧ Below w.heap.size w w' := by
  have b0 := (Below.refl w.heap.size w).alloc (Nat.le_refl _) (.cells #[.int .i64 x, .int .i64 y] 3)
  cases hcan : (bandT T && (inT T x && inT T y))
  · have HF := hide (weakT_not (T := T) hcan)
    go_enter Try.func21, Try.ntmps21
    go_wp2_with fail
    refine (thingsOfBand_any A (some ⟨w.heap.size, 0, none⟩) c 2 lo hi w.heap.size (w.heap.size + 1) T [x, y] _ (h.below b0 hh) (by simp; omega) hS (row_new (W := w) #[.int .i64 x, .int .i64 y] rfl) (by simp) (by simp)).mono ?_
    rw [okRow2, hcan]
    rintro e w1 ⟨rfl, b1⟩
    have B1 := b0.trans (b1.mono (by simp))
    go_wp2
    go_ret
    exact ⟨ret_bool HF.out.symm, B1⟩
  · obtain ⟨hb, a, b, rfl, rfl, ha, hb1⟩ := can2.1 hcan
    have HE := hide (weakT_of hb ha hb1)
    have k := band_tab hb
    have k9 := k.hi
    go_enter Try.func21, Try.ntmps21
    go_wp2_with fail
    refine (thingsOfBand_any A (some ⟨w.heap.size, 0, none⟩) c 2 lo hi w.heap.size (w.heap.size + 1) T [(a : Int), (b : Int)] _ (h.below b0 hh) (by simp; omega) hS (row_new (W := w) #[.int .i64 (a : Int), .int .i64 (b : Int)] rfl) (by simp) (by simp)).mono ?_
    rw [okRow2, hcan]
    rintro e w1 ⟨rfl, b1⟩
    have B1 := b0.trans (b1.mono (by simp))
    go_wp2_with fail
    refine (back_any A c lo hi T a b _ (h.below B1 hh) (Nat.le_trans hh B1.size) k ha hb1).mono ?_
    rintro e w2 ⟨rfl, b2⟩
    go_wp2
    go_ret
    exact ⟨ret_bool (by rw [HE.out]; rfl), B1.trans (b2.mono B1.size)⟩

set_option maxRecDepth 20000 in
set_option maxHeartbeats 4000000 in
theorem iPushedInto_any (A : Option Addr) (c lo hi : Nat) (T : List (List Int)) (x y : Int) (w : World) (h : Mat w lo hi A T) (hh : hi ≤ w.heap.size) (hS : Small T) :
    Calls Try.prog 37 #[.slice A T.length c, .int .i64 x, .int .i64 y] w fun e w' => e = .returned (.int .i64 (pushT T x y)) ∧ Below w.heap.size w w' := by
  have b0 := (Below.refl w.heap.size w).alloc (Nat.le_refl _) (.cells #[.int .i64 x, .int .i64 y] 3)
  cases hcan : (bandT T && (inT T x && inT T y))
  · have HF := hide (pushT_not (T := T) hcan)
    go_enter Try.func37, Try.ntmps37
    go_wp2_with fail
    refine (thingsOfBand_any A (some ⟨w.heap.size, 0, none⟩) c 2 lo hi w.heap.size (w.heap.size + 1) T [x, y] _ (h.below b0 hh) (by simp; omega) hS (row_new (W := w) #[.int .i64 x, .int .i64 y] rfl) (by simp) (by simp)).mono ?_
    rw [okRow2, hcan]
    rintro e w1 ⟨rfl, b1⟩
    have B1 := b0.trans (b1.mono (by simp))
    go_wp2
    go_ret
    exact ⟨ret_int HF.out.symm, B1⟩
  · obtain ⟨hb, a, b, rfl, rfl, ha, hb1⟩ := can2.1 hcan
    have HE := hide (pushT_of hb ha hb1)
    have k := band_tab hb
    have k9 := k.hi
    go_enter Try.func37, Try.ntmps37
    go_wp2_with fail
    refine (thingsOfBand_any A (some ⟨w.heap.size, 0, none⟩) c 2 lo hi w.heap.size (w.heap.size + 1) T [(a : Int), (b : Int)] _ (h.below b0 hh) (by simp; omega) hS (row_new (W := w) #[.int .i64 (a : Int), .int .i64 (b : Int)] rfl) (by simp) (by simp)).mono ?_
    rw [okRow2, hcan]
    rintro e w1 ⟨rfl, b1⟩
    have B1 := b0.trans (b1.mono (by simp))
    go_wp2_with fail
    refine (around_any A c lo hi T a b _ (h.below B1 hh) (Nat.le_trans hh B1.size) k ha hb1).mono ?_
    rintro e w2 ⟨rfl, b2⟩
    go_wp2
    go_ret
    exact ⟨ret_int HE.out.symm, B1.trans (b2.mono B1.size)⟩

set_option maxRecDepth 20000 in
set_option maxHeartbeats 4000000 in
theorem iBelowOk_any (A : Option Addr) (c lo hi : Nat) (T : List (List Int)) (x y : Int) (w : World) (h : Mat w lo hi A T) (hh : hi ≤ w.heap.size) (hS : Small T) :
    Calls Try.prog 16 #[.slice A T.length c, .int .i64 x, .int .i64 y] w fun e w' => e = .returned (.bool (belowT T x y)) ∧ Below w.heap.size w w' := by
  have b0 := (Below.refl w.heap.size w).alloc (Nat.le_refl _) (.cells #[.int .i64 x, .int .i64 y] 3)
  cases hcan : (bandT T && (inT T x && inT T y))
  · have HF := hide (belowT_not (T := T) hcan)
    go_enter Try.func16, Try.ntmps16
    go_wp2_with fail
    refine (thingsOfBand_any A (some ⟨w.heap.size, 0, none⟩) c 2 lo hi w.heap.size (w.heap.size + 1) T [x, y] _ (h.below b0 hh) (by simp; omega) hS (row_new (W := w) #[.int .i64 x, .int .i64 y] rfl) (by simp) (by simp)).mono ?_
    rw [okRow2, hcan]
    rintro e w1 ⟨rfl, b1⟩
    have B1 := b0.trans (b1.mono (by simp))
    go_wp2
    go_ret
    exact ⟨ret_bool HF.out.symm, B1⟩
  · obtain ⟨hb, a, b, rfl, rfl, ha, hb1⟩ := can2.1 hcan
    have HE := hide (belowT_of hb ha hb1)
    have k := band_tab hb
    have k9 := k.hi
    go_enter Try.func16, Try.ntmps16
    go_wp2_with fail
    refine (thingsOfBand_any A (some ⟨w.heap.size, 0, none⟩) c 2 lo hi w.heap.size (w.heap.size + 1) T [(a : Int), (b : Int)] _ (h.below b0 hh) (by simp; omega) hS (row_new (W := w) #[.int .i64 (a : Int), .int .i64 (b : Int)] rfl) (by simp) (by simp)).mono ?_
    rw [okRow2, hcan]
    rintro e w1 ⟨rfl, b1⟩
    have B1 := b0.trans (b1.mono (by simp))
    go_wp2_with fail
    refine (order_any A c lo hi T _ (h.below B1 hh) (Nat.le_trans hh B1.size) k).mono ?_
    rintro e w2 ⟨rfl, b2⟩
    have hUl : ordU T b < 1024 := by unfold ordU; rw [if_pos hb1]; have := under_lt (T := T) (x := b) k9; omega
    have HU := hide (show (ordU T b).testBit a = blw T a b from by
      rw [show ordU T b = undB T b from by unfold ordU; rw [if_pos hb1]]
      cases e : blw T a b with
      | true => exact undB_bit.2 ⟨ha, e⟩
      | false =>
        cases e2 : (undB T b).testBit a with
        | false => rfl
        | true => rw [(undB_bit.1 e2).2] at e; cases e)
    go_wp2_with fail
    refine (below_any (ordU T) a b _ (by omega) (by omega) (by omega)).mono ?_
    rintro e w3 ⟨rfl, b3⟩
    have B2 := B1.trans (b2.mono B1.size)
    go_wp2
    go_ret
    exact ⟨ret_bool (by rw [HE.out, HU.out]), B2.trans (b3.mono B2.size)⟩

theorem index_ord0 (U : Nat → Nat) (w : World) : (Instr.index 50 (.agg #[.int .i64 ((U 0 : Nat) : Int), .int .i64 ((U 1 : Nat) : Int), .int .i64 ((U 2 : Nat) : Int), .int .i64 ((U 3 : Nat) : Int), .int .i64 ((U 4 : Nat) : Int), .int .i64 ((U 5 : Nat) : Int), .int .i64 ((U 6 : Nat) : Int), .int .i64 ((U 7 : Nat) : Int), .int .i64 ((U 8 : Nat) : Int)]) (.int .i64 ((0 : Nat) : Int))).run Try.prog w = .ok (.int .i64 ((U 0 : Nat) : Int)) w := by kernel_rfl
theorem index_ord1 (U : Nat → Nat) (w : World) : (Instr.index 50 (.agg #[.int .i64 ((U 0 : Nat) : Int), .int .i64 ((U 1 : Nat) : Int), .int .i64 ((U 2 : Nat) : Int), .int .i64 ((U 3 : Nat) : Int), .int .i64 ((U 4 : Nat) : Int), .int .i64 ((U 5 : Nat) : Int), .int .i64 ((U 6 : Nat) : Int), .int .i64 ((U 7 : Nat) : Int), .int .i64 ((U 8 : Nat) : Int)]) (.int .i64 ((1 : Nat) : Int))).run Try.prog w = .ok (.int .i64 ((U 1 : Nat) : Int)) w := by kernel_rfl
theorem index_ord2 (U : Nat → Nat) (w : World) : (Instr.index 50 (.agg #[.int .i64 ((U 0 : Nat) : Int), .int .i64 ((U 1 : Nat) : Int), .int .i64 ((U 2 : Nat) : Int), .int .i64 ((U 3 : Nat) : Int), .int .i64 ((U 4 : Nat) : Int), .int .i64 ((U 5 : Nat) : Int), .int .i64 ((U 6 : Nat) : Int), .int .i64 ((U 7 : Nat) : Int), .int .i64 ((U 8 : Nat) : Int)]) (.int .i64 ((2 : Nat) : Int))).run Try.prog w = .ok (.int .i64 ((U 2 : Nat) : Int)) w := by kernel_rfl
theorem index_ord3 (U : Nat → Nat) (w : World) : (Instr.index 50 (.agg #[.int .i64 ((U 0 : Nat) : Int), .int .i64 ((U 1 : Nat) : Int), .int .i64 ((U 2 : Nat) : Int), .int .i64 ((U 3 : Nat) : Int), .int .i64 ((U 4 : Nat) : Int), .int .i64 ((U 5 : Nat) : Int), .int .i64 ((U 6 : Nat) : Int), .int .i64 ((U 7 : Nat) : Int), .int .i64 ((U 8 : Nat) : Int)]) (.int .i64 ((3 : Nat) : Int))).run Try.prog w = .ok (.int .i64 ((U 3 : Nat) : Int)) w := by kernel_rfl
theorem index_ord4 (U : Nat → Nat) (w : World) : (Instr.index 50 (.agg #[.int .i64 ((U 0 : Nat) : Int), .int .i64 ((U 1 : Nat) : Int), .int .i64 ((U 2 : Nat) : Int), .int .i64 ((U 3 : Nat) : Int), .int .i64 ((U 4 : Nat) : Int), .int .i64 ((U 5 : Nat) : Int), .int .i64 ((U 6 : Nat) : Int), .int .i64 ((U 7 : Nat) : Int), .int .i64 ((U 8 : Nat) : Int)]) (.int .i64 ((4 : Nat) : Int))).run Try.prog w = .ok (.int .i64 ((U 4 : Nat) : Int)) w := by kernel_rfl
theorem index_ord5 (U : Nat → Nat) (w : World) : (Instr.index 50 (.agg #[.int .i64 ((U 0 : Nat) : Int), .int .i64 ((U 1 : Nat) : Int), .int .i64 ((U 2 : Nat) : Int), .int .i64 ((U 3 : Nat) : Int), .int .i64 ((U 4 : Nat) : Int), .int .i64 ((U 5 : Nat) : Int), .int .i64 ((U 6 : Nat) : Int), .int .i64 ((U 7 : Nat) : Int), .int .i64 ((U 8 : Nat) : Int)]) (.int .i64 ((5 : Nat) : Int))).run Try.prog w = .ok (.int .i64 ((U 5 : Nat) : Int)) w := by kernel_rfl
theorem index_ord6 (U : Nat → Nat) (w : World) : (Instr.index 50 (.agg #[.int .i64 ((U 0 : Nat) : Int), .int .i64 ((U 1 : Nat) : Int), .int .i64 ((U 2 : Nat) : Int), .int .i64 ((U 3 : Nat) : Int), .int .i64 ((U 4 : Nat) : Int), .int .i64 ((U 5 : Nat) : Int), .int .i64 ((U 6 : Nat) : Int), .int .i64 ((U 7 : Nat) : Int), .int .i64 ((U 8 : Nat) : Int)]) (.int .i64 ((6 : Nat) : Int))).run Try.prog w = .ok (.int .i64 ((U 6 : Nat) : Int)) w := by kernel_rfl
theorem index_ord7 (U : Nat → Nat) (w : World) : (Instr.index 50 (.agg #[.int .i64 ((U 0 : Nat) : Int), .int .i64 ((U 1 : Nat) : Int), .int .i64 ((U 2 : Nat) : Int), .int .i64 ((U 3 : Nat) : Int), .int .i64 ((U 4 : Nat) : Int), .int .i64 ((U 5 : Nat) : Int), .int .i64 ((U 6 : Nat) : Int), .int .i64 ((U 7 : Nat) : Int), .int .i64 ((U 8 : Nat) : Int)]) (.int .i64 ((7 : Nat) : Int))).run Try.prog w = .ok (.int .i64 ((U 7 : Nat) : Int)) w := by kernel_rfl
theorem index_ord8 (U : Nat → Nat) (w : World) : (Instr.index 50 (.agg #[.int .i64 ((U 0 : Nat) : Int), .int .i64 ((U 1 : Nat) : Int), .int .i64 ((U 2 : Nat) : Int), .int .i64 ((U 3 : Nat) : Int), .int .i64 ((U 4 : Nat) : Int), .int .i64 ((U 5 : Nat) : Int), .int .i64 ((U 6 : Nat) : Int), .int .i64 ((U 7 : Nat) : Int), .int .i64 ((U 8 : Nat) : Int)]) (.int .i64 ((8 : Nat) : Int))).run Try.prog w = .ok (.int .i64 ((U 8 : Nat) : Int)) w := by kernel_rfl
theorem index_ord (U : Nat → Nat) (a : Nat) (ha : a < 9) (w : World) : (Instr.index 50 (.agg #[.int .i64 ((U 0 : Nat) : Int), .int .i64 ((U 1 : Nat) : Int), .int .i64 ((U 2 : Nat) : Int), .int .i64 ((U 3 : Nat) : Int), .int .i64 ((U 4 : Nat) : Int), .int .i64 ((U 5 : Nat) : Int), .int .i64 ((U 6 : Nat) : Int), .int .i64 ((U 7 : Nat) : Int), .int .i64 ((U 8 : Nat) : Int)]) (.int .i64 (a : Nat))).run Try.prog w = .ok (.int .i64 ((U a : Nat) : Int)) w := by
  have h : a = 0 ∨ a = 1 ∨ a = 2 ∨ a = 3 ∨ a = 4 ∨ a = 5 ∨ a = 6 ∨ a = 7 ∨ a = 8 := by omega
  rcases h with rfl | rfl | rfl | rfl | rfl | rfl | rfl | rfl | rfl
  · exact index_ord0 U w
  · exact index_ord1 U w
  · exact index_ord2 U w
  · exact index_ord3 U w
  · exact index_ord4 U w
  · exact index_ord5 U w
  · exact index_ord6 U w
  · exact index_ord7 U w
  · exact index_ord8 U w
set_option maxRecDepth 20000 in
set_option maxHeartbeats 4000000 in
theorem iUnderSet_any (A : Option Addr) (c lo hi : Nat) (T : List (List Int)) (x : Int) (w : World) (h : Mat w lo hi A T) (hh : hi ≤ w.heap.size) (hS : Small T) :
    Calls Try.prog 25 #[.slice A T.length c, .int .i64 x] w fun e w' => e = .returned (.int .i64 (underS T x)) ∧ Below w.heap.size w w' := by
  have b0 := (Below.refl w.heap.size w).alloc (Nat.le_refl _) (.cells #[.int .i64 x] 3)
  cases hcan : (bandT T && inT T x)
  · have HF := hide (underS_not (T := T) hcan)
    go_enter Try.func25, Try.ntmps25
    go_wp2_with fail
    refine (thingsOfBand_any A (some ⟨w.heap.size, 0, none⟩) c 1 lo hi w.heap.size (w.heap.size + 1) T [x] _ (h.below b0 hh) (by simp; omega) hS (row_new (W := w) #[.int .i64 x] rfl) (by simp) (by simp)).mono ?_
    rw [okRow1, hcan]
    rintro e w1 ⟨rfl, b1⟩
    have B1 := b0.trans (b1.mono (by simp))
    go_wp2
    go_ret
    exact ⟨ret_int HF.out.symm, B1⟩
  · obtain ⟨hb, a, rfl, ha⟩ := can1.1 hcan
    have HE := hide (underS_of hb ha)
    have k := band_tab hb
    have k9 := k.hi
    go_enter Try.func25, Try.ntmps25
    go_wp2_with fail
    refine (thingsOfBand_any A (some ⟨w.heap.size, 0, none⟩) c 1 lo hi w.heap.size (w.heap.size + 1) T [(a : Int)] _ (h.below b0 hh) (by simp; omega) hS (row_new (W := w) #[.int .i64 (a : Int)] rfl) (by simp) (by simp)).mono ?_
    rw [okRow1, hcan]
    rintro e w1 ⟨rfl, b1⟩
    have B1 := b0.trans (b1.mono (by simp))
    have HU := hide (show ordU T a = undB T a from by unfold ordU; rw [if_pos ha])
    have hix := index_ord (ordU T) a (by omega)
    go_wp2_with fail
    refine (order_any A c lo hi T _ (h.below B1 hh) (Nat.le_trans hh B1.size) k).mono ?_
    rintro e w2 ⟨rfl, b2⟩
    go_wp2
    go_ret
    exact ⟨ret_int (by rw [HE.out, HU.out]), B1.trans (b2.mono B1.size)⟩

set_option maxRecDepth 20000 in
set_option maxHeartbeats 4000000 in
theorem iHighOf_any (A : Option Addr) (c lo hi : Nat) (T : List (List Int)) (w : World) (h : Mat w lo hi A T) (hh : hi ≤ w.heap.size) (hS : Small T) :
    Calls Try.prog 31 #[.slice A T.length c] w fun e w' => e = .returned (.int .i64 (highT T)) ∧ Below w.heap.size w w' := by
  cases hb : bandT T
  · have HF := hide (highT_not hb)
    go_enter Try.func31, Try.ntmps31
    go_wp2_with fail
    refine (iBandOk_any A c lo hi T w h hh hS).mono ?_
    rw [hb]
    rintro e w1 ⟨rfl, b1⟩
    go_wp2
    go_ret
    exact ⟨ret_int HF.out.symm, b1⟩
  · have HB := hide hb
    have k := band_tab hb
    have k9 := k.hi
    go_enter Try.func31, Try.ntmps31
    go_wp2_with fail
    refine (iBandOk_any A c lo hi T w h hh hS).mono ?_
    rw [hb]
    rintro e w1 ⟨rfl, b1⟩
    clear hb
    go_wp2_with fail
    refine (order_any A c lo hi T _ (h.below b1 hh) (Nat.le_trans hh b1.size) k).mono ?_
    rintro e w2 ⟨rfl, b2⟩
    have B2 := b1.trans (b2.mono b1.size)
    have z2 := B2.size
    have hO := ord_new w2 (ordU T)
    have B3 := B2.alloc z2 (.cells #[.int .i64 ((ordU T 0 : Nat) : Int), .int .i64 ((ordU T 1 : Nat) : Int), .int .i64 ((ordU T 2 : Nat) : Int), .int .i64 ((ordU T 3 : Nat) : Int), .int .i64 ((ordU T 4 : Nat) : Int), .int .i64 ((ordU T 5 : Nat) : Int), .int .i64 ((ordU T 6 : Nat) : Int), .int .i64 ((ordU T 7 : Nat) : Int), .int .i64 ((ordU T 8 : Nat) : Int)] 50)
    clear b1 b2
    go_wp2
    go_loopg [14, 4] T.length (fun g i v wr => ∃ j q : Nat, j ≤ T.length ∧ Hid (g = T.length - j) ∧ i = .int .i64 j ∧ v = .int .i64 (q : Nat) ∧ q ≤ 9 ∧ Hid (MostA T j q) ∧ OrdC wr w2.heap.size (ordU T) ∧ Below w.heap.size w wr)
    case atStart => exact ⟨0, 0, Nat.zero_le _, rfl, rfl, rfl, Nat.zero_le _, mostA_start, hO, B3⟩
    case round =>
      clear hO B3
      obtain ⟨j, q, hj, hgk, rfl, rfl, hq9, hQ, hOw, hW⟩ := hrel
      have hWs := hW.size
      by_cases hlt : j < T.length
      · have HN := hide (hQ.out.step hlt)
        have hx9 := htA_le HB.out hlt
        have hu0 := hOw.cell (i := 0) (by omega)
        have hu1 := hOw.cell (i := 1) (by omega)
        have hu2 := hOw.cell (i := 2) (by omega)
        have hu3 := hOw.cell (i := 3) (by omega)
        have hu4 := hOw.cell (i := 4) (by omega)
        have hu5 := hOw.cell (i := 5) (by omega)
        have hu6 := hOw.cell (i := 6) (by omega)
        have hu7 := hOw.cell (i := 7) (by omega)
        have hu8 := hOw.cell (i := 8) (by omega)
        have HIH := hide (fun w => highUpTo_any T HB.out (htA T j) j w (Nat.le_refl _) hlt)
        generalize htA T j = y at *
        have hmx : max (q : Int) (y : Int) = ((max q y : Nat) : Int) := by omega
        go_wp2_with fail
        refine (HIH.out _).mono ?_
        rintro e w3 ⟨rfl, b3⟩
        clear hmx
        by_cases hqy : q < y
        · have HX2 := hide (show max q y = y by omega)
          go_wp2
          go_roundg (T.length - (j + 1))
          case measure => go_light; have := hgk.out; omega
          case rel => go_light; exact ⟨j + 1, y, by omega, rfl, by go_num, rfl, by omega, HX2.out ▸ HN.out, hOw.call b3, hW.trans (b3.mono hWs)⟩
        · have HX2 := hide (show max q y = q by omega)
          go_wp2
          go_roundg (T.length - (j + 1))
          case measure => go_light; have := hgk.out; omega
          case rel => go_light; exact ⟨j + 1, q, by omega, rfl, by go_num, rfl, by omega, HX2.out ▸ HN.out, hOw.call b3, hW.trans (b3.mono hWs)⟩
      · obtain rfl : T.length = j := by omega
        have HE := hide (highT_of HB.out (hQ.out.isHi HB.out))
        go_wp2
        go_ret
        exact ⟨ret_int HE.out.symm, hW⟩
end Go.Proofs.Ytcegjiiondmchaa
