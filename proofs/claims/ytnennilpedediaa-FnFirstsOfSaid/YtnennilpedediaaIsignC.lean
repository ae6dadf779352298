
/- Tables of signs of the landed code. -/
import Derived.Test.YtnennilpedediaaIsignA
import Derived.Test.YtnennilpedediaaPureX
import Derived.Shelf.Abstract
namespace Go.Proofs.Ytnennilpedediaa
open Go.RowKit
set_option linter.unusedVariables false
set_option linter.unusedSimpArgs false

/-- How many rows of so many signs there are. -/
theorem pow3 (m : Nat) : (3 : Int) ^ m = ((3 ^ m : Nat) : Int) := by simp
theorem pow3_le {k m : Nat} (h : k ≤ m) (hm : m ≤ 2) : 1 ≤ 3 ^ k ∧ 3 ^ k ≤ 9 := by
  obtain rfl | rfl | rfl : k = 0 ∨ k = 1 ∨ k = 2 := by omega
  all_goals decide
set_option maxHeartbeats 1000000 in
theorem countRows_any (m : Nat) (w : World) (hm : m ≤ 2) :
    Calls Try.prog 38 #[.int .i64 m] w fun e w' => e = .returned (.int .i64 ((3 ^ m : Nat) : Int)) ∧ w = w' := by
  go_enter Try.func38, Try.ntmps38
  go_wp2
  go_loopg [5, 3] m (fun g i v wr => ∃ k : Nat, k ≤ m ∧ Hid (g = m - k) ∧ i = .int .i64 k ∧ v = .int .i64 ((3 ^ k : Nat) : Int) ∧ w = wr)
  case atStart => exact ⟨0, Nat.zero_le _, rfl, rfl, rfl, rfl⟩
  case round =>
    obtain ⟨k, hk, hg, rfl, rfl, rfl⟩ := hrel
    obtain ⟨q1, q2⟩ := pow3_le hk hm
    have HS := hide (show 3 ^ (k + 1) = 3 ^ k * 3 from rfl)
    by_cases hlt : k < m
    · have hki : (k : Int) < (m : Int) := by omega
      generalize 3 ^ k = P at *
      go_wp2
      go_roundg (m - (k + 1))
      case measure => go_light; have := hg.out; omega
      case rel => go_light; exact ⟨k + 1, hlt, rfl, by go_num, by rw [HS.out]; simp, rfl⟩
    · obtain rfl : m = k := by omega
      go_wp2
      go_ret
      exact ⟨rfl, rfl⟩

theorem tmod3 (x : Nat) : (x : Int).tmod 3 = ((x % 3 : Nat) : Int) := by
  rw [Int.tmod_eq_emod_of_nonneg (by omega)]
  omega
theorem tdiv3 (x : Nat) : (x : Int).tdiv 3 = ((x / 3 : Nat) : Int) := by
  rw [Int.tdiv_eq_ediv_of_nonneg (by omega)]
  omega
/-- The digits of a number of so many signs, from the place p on. -/
def dtP (a m p i : Nat) : Nat := if p ≤ i ∧ i < m then a / 3 ^ (m - 1 - i) % 3 else 0
/-- The digits of a number. -/
def dtU (a m i : Nat) : Nat := dtP a m 0 i
theorem dtP_start (a m i : Nat) : dtP a m m i = 0 := by unfold dtP; rw [if_neg (by omega)]
theorem dtP_put {a m p : Nat} (h : p < m) (i : Nat) : put6 (dtP a m (p + 1)) p (a / 3 ^ (m - 1 - p) % 3) i = dtP a m p i := by
  unfold put6 dtP
  by_cases e : i = p
  · subst e; rw [if_pos rfl, if_pos (by omega)]
  · rw [if_neg e]
    have : (p + 1 ≤ i ∧ i < m) ↔ (p ≤ i ∧ i < m) := by omega
    simp only [this]
set_option maxRecDepth 20000 in
set_option maxHeartbeats 4000000 in
theorem signsAt_any (a m : Nat) (w : World) (ha : a < 9) (h1 : 1 ≤ m) (hm : m ≤ 2) :
    Calls Try.prog 40 #[.int .i64 a, .int .i64 m] w fun e w' => e = .returned (.agg #[.int .i64 ((dtU a m 0 : Nat) : Int), .int .i64 ((dtU a m 1 : Nat) : Int), .int .i64 ((dtU a m 2 : Nat) : Int), .int .i64 ((dtU a m 3 : Nat) : Int), .int .i64 ((dtU a m 4 : Nat) : Int), .int .i64 ((dtU a m 5 : Nat) : Int)]) ∧ Below w.heap.size w w' := by
  go_enter Try.func40, Try.ntmps40
  go_wp2
  go_loopg [6, 0] m (fun g i v wr => ∃ q : Nat, q ≤ m ∧ Hid (g = m - q) ∧ i = .int .i64 ((m - q : Nat) - 1 : Int) ∧ v = .int .i64 ((a / 3 ^ q : Nat) : Int) ∧ SgC wr (w.heap.size + 1) (dtP a m (m - q)) ∧ SgC wr w.heap.size (fun _ => 0) ∧ Below w.heap.size w wr)
  case atStart =>
    have r0 := sg_zero w
    have b0 := (Below.refl w.heap.size w).alloc (Nat.le_refl _) (.cells #[.int .i64 0, .int .i64 0, .int .i64 0, .int .i64 0, .int .i64 0, .int .i64 0] 51)
    have s0 : (w.alloc (.cells #[.int .i64 0, .int .i64 0, .int .i64 0, .int .i64 0, .int .i64 0, .int .i64 0] 51)).heap.size = w.heap.size + 1 := by simp
    generalize w.alloc (.cells #[.int .i64 0, .int .i64 0, .int .i64 0, .int .i64 0, .int .i64 0, .int .i64 0] 51) = w0 at r0 b0 s0 ⊢
    have r1 := sg_zero w0
    rw [s0] at r1
    refine ⟨0, Nat.zero_le _, rfl, by go_num, by simp, SgC.congr r1 fun i _ => ?_, World.rowIs.alloc r0 _, b0.alloc (by omega) _⟩
    rw [Nat.sub_zero, dtP_start]
  case round =>
    obtain ⟨q, hq, hg, rfl, rfl, hF, hZ, hB⟩ := hrel
    by_cases hlt : q < m
    · obtain ⟨p, hp⟩ : ∃ p, p = m - q - 1 := ⟨_, rfl⟩
      have hp6 : p < 6 := by omega
      have hpi : (p : Int) < 6 := by omega
      have e1 : (((m - q : Nat) : Int) - 1) = (p : Int) := by omega
      have hF' : SgC wr (w.heap.size + 1) (dtP a m (p + 1)) := by rw [show p + 1 = m - q by omega]; exact hF
      have hca := hF'.cell hp6
      have hfa := hF'.frozen p
      have e2 : m - 1 - p = q := by omega
      have hv : (((a / 3 ^ q : Nat) : Int)).tmod 3 = ((a / 3 ^ q % 3 : Nat) : Int) := tmod3 _
      have hv2 : (((a / 3 ^ q : Nat) : Int)).tdiv 3 = ((a / 3 ^ (q + 1) : Nat) : Int) := by
        rw [show a / 3 ^ (q + 1) = a / 3 ^ q / 3 from by rw [Nat.pow_succ, Nat.div_div_eq_div_mul]]
        exact tdiv3 _
      have hx : a / 3 ^ q ≤ 9 := Nat.le_trans (Nat.div_le_self _ _) (by omega)
      have hx1 : a / 3 ^ q % 3 < 3 := Nat.mod_lt _ (by omega)
      have hx2 : a / 3 ^ (q + 1) ≤ 9 := Nat.le_trans (Nat.div_le_self _ _) (by omega)
      have Y1 := hide (show SgC (wr.setCell ⟨w.heap.size + 1, p, none⟩ (.int .i64 ((a / 3 ^ q % 3 : Nat) : Int))) (w.heap.size + 1) (dtP a m (m - (q + 1))) from by
        rw [show m - (q + 1) = p by omega]
        exact (hF'.put p _).congr fun i _ => by have := dtP_put (a := a) (show p < m by omega) i; rw [e2] at this; exact this)
      have Y2 := hide (hZ.other (b := w.heap.size + 1) (k := p) (v := .int .i64 ((a / 3 ^ q % 3 : Nat) : Int)) (by omega))
      have Y3 := hide (hB.setCell (p := ⟨w.heap.size + 1, p, none⟩) (by show w.heap.size ≤ w.heap.size + 1; omega) (.int .i64 ((a / 3 ^ q % 3 : Nat) : Int)))
      have HE := hide (show ((p : Int) - 1) = (((m - (q + 1) : Nat) : Int) - 1) by omega)
      rw [e1]
      clear hF hF' hZ hB e1 e2 hp
      obtain ⟨x2, hxe⟩ : ∃ x, x = a / 3 ^ (q + 1) := ⟨_, rfl⟩
      rw [← hxe] at hv2 hx2
      have HX := hide hxe
      clear hxe
      generalize a / 3 ^ q % 3 = x1 at *
      generalize a / 3 ^ q = x0 at *
      go_wp2
      go_roundg (m - (q + 1))
      case measure => go_light; have := hg.out; omega
      case rel => go_light; exact ⟨q + 1, hlt, rfl, congrArg (Value.int .i64) HE.out, by rw [HX.out], Y1.out, Y2.out, Y3.out⟩
    · obtain rfl : m = q := by omega
      replace hF : SgC wr (w.heap.size + 1) (dtU a m) := by rw [Nat.sub_self] at hF; exact hF
      have hc0 := World.rowIs.cell hF (i := 0) (by omega)
      have hz0 := World.rowIs.cell hZ (i := 0) (by omega)
      have hf0 : wr.frozen? ⟨w.heap.size, 0, none⟩ = false := World.rowIs.frozen hZ 0
      have hc1 := World.rowIs.cell hF (i := 1) (by omega)
      have hz1 := World.rowIs.cell hZ (i := 1) (by omega)
      have hf1 : wr.frozen? ⟨w.heap.size, 1, none⟩ = false := World.rowIs.frozen hZ 1
      have hc2 := World.rowIs.cell hF (i := 2) (by omega)
      have hz2 := World.rowIs.cell hZ (i := 2) (by omega)
      have hf2 : wr.frozen? ⟨w.heap.size, 2, none⟩ = false := World.rowIs.frozen hZ 2
      have hc3 := World.rowIs.cell hF (i := 3) (by omega)
      have hz3 := World.rowIs.cell hZ (i := 3) (by omega)
      have hf3 : wr.frozen? ⟨w.heap.size, 3, none⟩ = false := World.rowIs.frozen hZ 3
      have hc4 := World.rowIs.cell hF (i := 4) (by omega)
      have hz4 := World.rowIs.cell hZ (i := 4) (by omega)
      have hf4 : wr.frozen? ⟨w.heap.size, 4, none⟩ = false := World.rowIs.frozen hZ 4
      have hc5 := World.rowIs.cell hF (i := 5) (by omega)
      have hz5 := World.rowIs.cell hZ (i := 5) (by omega)
      have hf5 : wr.frozen? ⟨w.heap.size, 5, none⟩ = false := World.rowIs.frozen hZ 5
      have hR := ((((((hZ.put 0 (dtU a m 0)).put 1 (dtU a m 1)).put 2 (dtU a m 2)).put 3 (dtU a m 3)).put 4 (dtU a m 4)).put 5 (dtU a m 5)).congr (V := dtU a m) fun i hi => by
        match i, hi with
        | 0, _ | 1, _ | 2, _ | 3, _ | 4, _ | 5, _ => rfl
      have hB9 := ((((((hB.setCell (p := ⟨w.heap.size, 0, none⟩) (by show w.heap.size ≤ w.heap.size; omega) (.int .i64 ((dtU a m 0 : Nat) : Int))).setCell (p := ⟨w.heap.size, 1, none⟩) (by show w.heap.size ≤ w.heap.size; omega) (.int .i64 ((dtU a m 1 : Nat) : Int))).setCell (p := ⟨w.heap.size, 2, none⟩) (by show w.heap.size ≤ w.heap.size; omega) (.int .i64 ((dtU a m 2 : Nat) : Int))).setCell (p := ⟨w.heap.size, 3, none⟩) (by show w.heap.size ≤ w.heap.size; omega) (.int .i64 ((dtU a m 3 : Nat) : Int))).setCell (p := ⟨w.heap.size, 4, none⟩) (by show w.heap.size ≤ w.heap.size; omega) (.int .i64 ((dtU a m 4 : Nat) : Int))).setCell (p := ⟨w.heap.size, 5, none⟩) (by show w.heap.size ≤ w.heap.size; omega) (.int .i64 ((dtU a m 5 : Nat) : Int)))
      replace hB9 := hide hB9
      replace hR := hide hR
      clear hF hZ hB
      have hneg : ¬ ((((m - m : Nat) : Int) - 1) ≥ 0) := by omega
      go_wp2
      exact bodyPost_ret (res_sg rfl _ _ _ _ hR.out rfl) rfl ⟨rfl, hB9.out⟩

/-- The number of the first k signs. -/
def nmU (U : Nat → Nat) : Nat → Nat
  | 0 => 0
  | k + 1 => nmU U k * 3 + U k
theorem nmU_le {U : Nat → Nat} (h : ∀ i, U i < 3) {k m : Nat} (hk : k ≤ m) (hm : m ≤ 2) : nmU U k < 9 := by
  have h0 := h 0
  have h1 := h 1
  obtain rfl | rfl | rfl : k = 0 ∨ k = 1 ∨ k = 2 := by omega
  all_goals simp only [nmU]
  all_goals omega
set_option maxRecDepth 20000 in
set_option maxHeartbeats 4000000 in
theorem number_any (U : Nat → Nat) (m : Nat) (w : World) (hU : ∀ i, U i < 3) (h1 : 1 ≤ m) (hm : m ≤ 2) :
    Calls Try.prog 42 #[.agg #[.int .i64 ((U 0 : Nat) : Int), .int .i64 ((U 1 : Nat) : Int), .int .i64 ((U 2 : Nat) : Int), .int .i64 ((U 3 : Nat) : Int), .int .i64 ((U 4 : Nat) : Int), .int .i64 ((U 5 : Nat) : Int)], .int .i64 m] w fun e w' => e = .returned (.int .i64 ((nmU U m : Nat) : Int)) ∧ Below w.heap.size w w' := by
  have h6i : (m : Int) ≤ 6 := by omega
  have hm0 : (0 : Int) ≤ (m : Int) := by omega
  go_enter Try.func42, Try.ntmps42
  go_wp2
  go_loopg [11, 5] m (fun g i v wr => ∃ k : Nat, k ≤ m ∧ Hid (g = m - k) ∧ i = .int .i64 k ∧ v = .int .i64 ((nmU U k : Nat) : Int) ∧ SgC wr w.heap.size U ∧ Below w.heap.size w wr)
  case atStart => exact ⟨0, Nat.zero_le _, rfl, rfl, rfl, sg_new w U, (Below.refl _ w).alloc (Nat.le_refl _) _⟩
  case round =>
    obtain ⟨k, hk, hg, rfl, rfl, hF, hB⟩ := hrel
    have hn9 := nmU_le hU hk hm
    have HS := hide (show nmU U (k + 1) = nmU U k * 3 + U k from rfl)
    by_cases hlt : k < m
    · have hca := hF.cell (show k < 6 by omega)
      have hfa := hF.frozen k
      have hu := hU k
      generalize nmU U k = P at *
      go_wp2
      go_roundg (m - (k + 1))
      case measure => go_light; have := hg.out; omega
      case rel => go_light; exact ⟨k + 1, hlt, rfl, by go_num, by rw [HS.out]; simp, hF, hB⟩
    · obtain rfl : m = k := by omega
      go_wp2
      go_ret
      exact ⟨rfl, hB⟩

theorem dtU_lt (a m i : Nat) : dtU a m i < 3 := by
  unfold dtU dtP
  split
  · exact Nat.mod_lt _ (by omega)
  · omega
theorem thD_lt {U V : Nat → Nat} (hU : ∀ i, U i < 3) (hV : ∀ i, V i < 3) (i : Nat) : thD U V i < 3 := by
  unfold thD
  split
  · exact hV i
  · exact hU i
theorem sign_val {a b m : Nat} (h1 : 1 ≤ m) (hm : m ≤ 2) (ha : a < 3 ^ m) (hb : b < 3 ^ m) : nmU (thD (dtU a m) (dtU b m)) m = sgE a b := by
  obtain rfl | rfl : m = 1 ∨ m = 2 := by omega
  · have hh : ∀ a b : Fin 3, nmU (thD (dtU a 1) (dtU b 1)) 1 = sgE a b := by decide +kernel
    exact hh ⟨a, ha⟩ ⟨b, hb⟩
  · have hh : ∀ a b : Fin 9, nmU (thD (dtU a 2) (dtU b 2)) 2 = sgE a b := by decide +kernel
    exact hh ⟨a, ha⟩ ⟨b, hb⟩
set_option maxRecDepth 20000 in
set_option maxHeartbeats 4000000 in
theorem signTable1_any (g m a b : Nat) (w : World) (hc : w.cell? ⟨g, 0, none⟩ = some (.int .i64 m)) (h1 : 1 ≤ m) (hm : m ≤ 2) (ha : a < 3 ^ m) (hb : b < 3 ^ m) :
    Calls Try.prog 39 #[.int .i64 a, .int .i64 b, .pointer (some ⟨g, 0, none⟩)] w fun e w' => e = .returned (.int .i64 ((sgE a b : Nat) : Int)) ∧ Below w.heap.size w w' := by
  have p9 := (pow3_le (Nat.le_refl m) hm).2
  have lg := World.block_lt_of_cell? _ _ hc
  have HV := hide (sign_val h1 hm ha hb)
  have HU := hide (fun i => thD_lt (U := dtU a m) (V := dtU b m) (dtU_lt a m) (dtU_lt b m) i)
  have MK := hide (fun (W : World) (hW' : Below w.heap.size w W) => (⟨(hW'.cell (p := ⟨g, 0, none⟩) lg).trans hc, hW'⟩ : W.cell? ⟨g, 0, none⟩ = some (.int .i64 (m : Nat)) ∧ Below w.heap.size w W))
  have HA := hide (fun w => signsAt_any a m w (by omega) h1 hm)
  have HB := hide (fun w => signsAt_any b m w (by omega) h1 hm)
  clear ha hb p9
  generalize dtU a m = U at HV HU HA
  generalize dtU b m = V at HV HU HB
  generalize sgE a b = R at HV ⊢
  go_enter Try.func39, Try.ntmps39
  go_wp2_with fail
  go_region_held3 (fun W => W.cell? ⟨g, 0, none⟩ = some (.int .i64 (m : Nat)) ∧ Below w.heap.size w W)
    (first
      | exact MK.out _ ((Below.refl _ _).drew)
      | (go_split_ands
         exact MK.out _ (Below.trans (by assumption) (Below.mono (by assumption) (Below.size (by assumption))))))
    (first
      | (go_at_call 40
         with_reducible refine (HA.out _).mono ?_
         rintro e wj ⟨rfl, hbj⟩)
      | (go_at_call 40
         with_reducible refine (HB.out _).mono ?_
         rintro e wj ⟨rfl, hbj⟩)
      | (go_at_call 41
         with_reducible refine (then_any U V _).mono ?_
         rintro e wj ⟨rfl, hbj⟩)
      | (go_at_call 42
         with_reducible refine (number_any (thD U V) m _ HU.out h1 hm).mono ?_
         rw [HV.out]
         rintro e wj ⟨rfl, hbj⟩))
  rename_i hHeld
  obtain ⟨_, hB1⟩ := hHeld
  go_wp2
  go_ret
  exact ⟨rfl, hB1⟩
theorem sgT_tab {m : Nat} (h1 : 1 ≤ m) (hm : m ≤ 2) : sgT (m : Int) = tabOf (3 ^ m) fun a b => ((sgE a b : Nat) : Int) := by
  obtain rfl | rfl : m = 1 ∨ m = 2 := by omega
  · rfl
  · rfl
set_option maxHeartbeats 2000000 in
theorem iSignTable_any (m : Int) (w : World) : Calls Try.prog 10 #[.int .i64 m] w (OwnTab w (sgT m)) := by
  obtain ⟨w1, hw1⟩ : ∃ w1, w1 = w.alloc (.cells #[.int .i64 m] 3) := ⟨_, rfl⟩
  have b1 : Below w.heap.size w w1 := by rw [hw1]; exact (Below.refl _ w).alloc (Nat.le_refl _) _
  have e1 : w1.heap[w.heap.size]? = some (.cells #[.int .i64 m] 3) := by rw [hw1]; exact heap_alloc_new w _
  have hs1 := b1.size
  have hc1 : w1.cell? ⟨w.heap.size, 0, none⟩ = some (.int .i64 m) := by rw [cell_of_row w1 w.heap.size 0 _ _ _ e1]; rfl
  have HW1 := hide hw1
  clear hw1
  cases hc : (decide (1 ≤ m) && decide (m ≤ 2))
  · have hf := hide (sgT_not hc)
    by_cases h1 : m < 1
    · clear hc
      go_enter Try.func10, Try.ntmps10
      go_wp2
      go_ret
      rw [hf.out]
      exact ⟨none, 0, rfl, (Below.refl _ w).alloc (Nat.le_refl _) _, OMat.nil _ _ _ _⟩
    · have h8 : m > 2 := by
        rw [Bool.and_eq_false_iff, decide_eq_false_iff_not, decide_eq_false_iff_not] at hc
        omega
      clear hc
      go_enter Try.func10, Try.ntmps10
      go_wp2
      go_ret
      rw [hf.out]
      exact ⟨none, 0, rfl, (Below.refl _ w).alloc (Nat.le_refl _) _, OMat.nil _ _ _ _⟩
  · have h12 : 1 ≤ m ∧ m ≤ 2 := by simpa using hc
    obtain ⟨n, rfl⟩ : ∃ n : Nat, m = n := ⟨m.toNat, by omega⟩
    have hn1 : 1 ≤ n := by omega
    have hn2 : n ≤ 2 := by omega
    have h1 : ¬ ((n : Int) < 1) := by omega
    have h3 : ¬ ((n : Int) > 2) := by omega
    have HT := hide (sgT_tab hn1 hn2)
    have p9 := (pow3_le (Nat.le_refl n) hn2).2
    have HCF := hide (enters_of Try.func39 (by kernel_rfl) rfl)
    have hmf : ∀ (fn : Fn) (first cap : Array Value) (w : World), (Instr.makeFunc fn first cap).run Try.prog w = .ok (.func fn first cap) w := fun _ _ _ _ => rfl
    clear hc h12
    go_enter Try.func10, Try.ntmps10
    go_wp2_with fail
    rw [← HW1.out]
    refine (countRows_any n _ hn2).mono ?_
    rintro e w2 ⟨rfl, rfl⟩
    go_wp2_with fail
    refine (filledRows_any 39 #[.pointer (some ⟨w.heap.size, 0, none⟩)] (3 ^ n) (fun a b => ((sgE a b : Nat) : Int)) w1 p9 HCF.out (fun wr a b ha hbb hbl => ?_)).mono ?_
    · exact signTable1_any _ n a b wr ((hbl.cell (p := ⟨w.heap.size, 0, none⟩) (World.block_lt_of_cell? _ _ hc1)).trans hc1) hn1 hn2 ha hbb
    · rintro e w3 ⟨rfl, b3, o3⟩
      go_wp2
      go_ret
      rw [HT.out]
      exact ⟨some ⟨w1.heap.size, 0, none⟩, 3 ^ n, ret_slice (by rw [len_tabOf]), b1.trans (b3.mono hs1), o3.mono hs1 (Nat.le_refl _)⟩
end Go.Proofs.Ytnennilpedediaa
