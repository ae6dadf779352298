
/- Rows of signs as arrays of six numbers: the landed code's. -/
import Derived.Test.YtnennilpedediaaSignQ
import Derived.Test.YtnennilpedediaaProd
import Derived.Deep.RegionHeld3
import Derived.BigQuiet
namespace Go.Proofs.Ytnennilpedediaa
open Go.RowKit
set_option linter.unusedVariables false
set_option linter.unusedSimpArgs false

/-- A row that is changed at one place. -/
def put6 (U : Nat → Nat) (a v i : Nat) : Nat := if i = a then v else U i
/-- The cells of an array of six signs. -/
def SgC (w : World) (g : Nat) (U : Nat → Nat) : Prop := w.rowIs g 51 6 (fun i => .int .i64 ((U i : Nat) : Int))
theorem SgC.cell {w : World} {g : Nat} {U : Nat → Nat} (h : SgC w g U) {i : Nat} (hi : i < 6) : w.cell? ⟨g, i, none⟩ = some (.int .i64 ((U i : Nat) : Int)) := World.rowIs.cell h hi
theorem SgC.frozen {w : World} {g : Nat} {U : Nat → Nat} (h : SgC w g U) (i : Nat) : w.frozen? ⟨g, i, none⟩ = false := World.rowIs.frozen h i
theorem SgC.lt {w : World} {g : Nat} {U : Nat → Nat} (h : SgC w g U) : g < w.heap.size := World.rowIs.lt h
theorem SgC.below {w w' : World} {g B : Nat} {U : Nat → Nat} (h : SgC w g U) (hb : Below B w w') (hB : g < B) : SgC w' g U := World.rowIs.of_block h (hb.block g (by omega))
theorem SgC.call {w w' : World} {g : Nat} {U : Nat → Nat} (h : SgC w g U) (hb : Below w.heap.size w w') : SgC w' g U := h.below hb h.lt
theorem SgC.congr {w : World} {g : Nat} {U V : Nat → Nat} (h : SgC w g U) (e : ∀ i, i < 6 → U i = V i) : SgC w g V := World.rowIs.congr h fun i hi => by rw [e i hi]
theorem SgC.put {w : World} {g : Nat} {U : Nat → Nat} (h : SgC w g U) (a v : Nat) : SgC (w.setCell ⟨g, a, none⟩ (.int .i64 ((v : Nat) : Int))) g (put6 U a v) := (World.rowIs.set h a _).congr fun i _ => by
  unfold put6
  by_cases e : i = a
  · rw [if_pos e, if_pos e]
  · rw [if_neg e, if_neg e]
theorem SgC.other {w : World} {g b k : Nat} {v : Value} {U : Nat → Nat} (h : SgC w g U) (hn : g ≠ b) : SgC (w.setCell ⟨b, k, none⟩ v) g U := World.rowIs.setOther h (a := ⟨b, k, none⟩) hn v
theorem sg_new (w : World) (U : Nat → Nat) : SgC (w.alloc (.cells #[.int .i64 ((U 0 : Nat) : Int), .int .i64 ((U 1 : Nat) : Int), .int .i64 ((U 2 : Nat) : Int), .int .i64 ((U 3 : Nat) : Int), .int .i64 ((U 4 : Nat) : Int), .int .i64 ((U 5 : Nat) : Int)] 51)) w.heap.size U :=
  World.rowIs_alloc w _ 51 _ fun i hi => by
    match i, hi with
    | 0, _ | 1, _ | 2, _ | 3, _ | 4, _ | 5, _ => rfl
theorem sg_zero (w : World) : SgC (w.alloc (.cells #[.int .i64 0, .int .i64 0, .int .i64 0, .int .i64 0, .int .i64 0, .int .i64 0] 51)) w.heap.size (fun _ => 0) :=
  World.rowIs_alloc w _ 51 _ fun i hi => by
    match i, hi with
    | 0, _ | 1, _ | 2, _ | 3, _ | 4, _ | 5, _ => rfl

theorem results_of_cell6 {fn : Func} {p : Tmp} {ty : TypeId} (h : fn.results = #[.cell p ty]) (tmps : Array Value) (P : Program) (w : World) :
    (results fn tmps).run P w = ((asAddr (tmps.getD p undef)).run P w).andThen fun a w₁ => (loadVar ty a).run P w₁ := by
  simp only [results, h]
  simp [Sem.run_bind, Result.andThen]
set_option maxHeartbeats 1000000 in
theorem res_sg {fn : Func} {p : Tmp} (hf : fn.results = #[.cell p 51]) (tmps : Array Value) (g : Nat) (U : Nat → Nat) (W : World) (hR : SgC W g U) (h0 : tmps.getD p undef = .pointer (some ⟨g, 0, none⟩)) :
    (results fn tmps).run Try.prog W = .ok (.agg #[.int .i64 ((U 0 : Nat) : Int), .int .i64 ((U 1 : Nat) : Int), .int .i64 ((U 2 : Nat) : Int), .int .i64 ((U 3 : Nat) : Int), .int .i64 ((U 4 : Nat) : Int), .int .i64 ((U 5 : Nat) : Int)]) W := by
  have c0 := hR.cell (i := 0) (by omega)
  have c1 := hR.cell (i := 1) (by omega)
  have c2 := hR.cell (i := 2) (by omega)
  have c3 := hR.cell (i := 3) (by omega)
  have c4 := hR.cell (i := 4) (by omega)
  have c5 := hR.cell (i := 5) (by omega)
  rw [results_of_cell6 hf]
  simp [asAddr, Result.andThen, h0, go_sem, c0, c1, c2, c3, c4, c5]
set_option maxHeartbeats 1000000 in
theorem idx_six (U : Nat → Nat) (k : Nat) (hk : k < 6) (w : World) : (Instr.index 51 (.agg #[.int .i64 ((U 0 : Nat) : Int), .int .i64 ((U 1 : Nat) : Int), .int .i64 ((U 2 : Nat) : Int), .int .i64 ((U 3 : Nat) : Int), .int .i64 ((U 4 : Nat) : Int), .int .i64 ((U 5 : Nat) : Int)]) (.int .i64 k)).run Try.prog w = .ok (.int .i64 ((U k : Nat) : Int)) w := by
  have hu := Try.underlying51
  obtain rfl | rfl | rfl | rfl | rfl | rfl : k = 0 ∨ k = 1 ∨ k = 2 ∨ k = 3 ∨ k = 4 ∨ k = 5 := by omega
  all_goals simp [Instr.index, run_underlying hu, asIntOf, go_sem]

/-- The first k places of two rows, one behind the other. -/
def thU (U V : Nat → Nat) (k i : Nat) : Nat := if i < k then (if U i = 0 then V i else U i) else U i
def thD (U V : Nat → Nat) (i : Nat) : Nat := if U i = 0 then V i else U i
theorem thU_zero (U V : Nat → Nat) (i : Nat) : thU U V 0 i = U i := by simp [thU]
theorem thU_at (U V : Nat → Nat) (k : Nat) : thU U V k k = U k := by simp [thU]
theorem thU_keep {U V : Nat → Nat} {k : Nat} (h : ¬ U k = 0) (i : Nat) : thU U V k i = thU U V (k + 1) i := by
  unfold thU
  by_cases e : i = k
  · subst e; simp [h]
  · have : i < k + 1 ↔ i < k := by omega
    simp only [this]
theorem thU_put {U V : Nat → Nat} {k : Nat} (h : U k = 0) (i : Nat) : put6 (thU U V k) k (V k) i = thU U V (k + 1) i := by
  unfold thU put6
  by_cases e : i = k
  · subst e; simp [h]
  · have : i < k + 1 ↔ i < k := by omega
    simp only [this, if_neg e]
theorem thU_done {U V : Nat → Nat} (i : Nat) (hi : i < 6) : thU U V 6 i = thD U V i := by simp [thU, thD, hi]

set_option maxRecDepth 20000 in
set_option maxHeartbeats 4000000 in
theorem then_any (U V : Nat → Nat) (w : World) :
    Calls Try.prog 41 #[.agg #[.int .i64 ((U 0 : Nat) : Int), .int .i64 ((U 1 : Nat) : Int), .int .i64 ((U 2 : Nat) : Int), .int .i64 ((U 3 : Nat) : Int), .int .i64 ((U 4 : Nat) : Int), .int .i64 ((U 5 : Nat) : Int)], .agg #[.int .i64 ((V 0 : Nat) : Int), .int .i64 ((V 1 : Nat) : Int), .int .i64 ((V 2 : Nat) : Int), .int .i64 ((V 3 : Nat) : Int), .int .i64 ((V 4 : Nat) : Int), .int .i64 ((V 5 : Nat) : Int)]] w fun e w' => e = .returned (.agg #[.int .i64 ((thD U V 0 : Nat) : Int), .int .i64 ((thD U V 1 : Nat) : Int), .int .i64 ((thD U V 2 : Nat) : Int), .int .i64 ((thD U V 3 : Nat) : Int), .int .i64 ((thD U V 4 : Nat) : Int), .int .i64 ((thD U V 5 : Nat) : Int)]) ∧ Below w.heap.size w w' := by
  go_enter Try.func41, Try.ntmps41
  go_wp2
  go_loopg [8] 6 (fun g c wr => ∃ k : Nat, k ≤ 6 ∧ Hid (g = 6 - k) ∧ c = .int .i64 k ∧ SgC wr w.heap.size (thU U V k) ∧ SgC wr (w.heap.size + 1) V ∧ SgC wr (w.heap.size + 2) (fun _ => 0) ∧ Below w.heap.size w wr)
  case atStart =>
    have b1 := (Below.refl w.heap.size w).alloc (Nat.le_refl _) (.cells #[.int .i64 ((U 0 : Nat) : Int), .int .i64 ((U 1 : Nat) : Int), .int .i64 ((U 2 : Nat) : Int), .int .i64 ((U 3 : Nat) : Int), .int .i64 ((U 4 : Nat) : Int), .int .i64 ((U 5 : Nat) : Int)] 51)
    have r1 := sg_new w U
    have s1 : (w.alloc (.cells #[.int .i64 ((U 0 : Nat) : Int), .int .i64 ((U 1 : Nat) : Int), .int .i64 ((U 2 : Nat) : Int), .int .i64 ((U 3 : Nat) : Int), .int .i64 ((U 4 : Nat) : Int), .int .i64 ((U 5 : Nat) : Int)] 51)).heap.size = w.heap.size + 1 := by simp
    generalize w.alloc (.cells #[.int .i64 ((U 0 : Nat) : Int), .int .i64 ((U 1 : Nat) : Int), .int .i64 ((U 2 : Nat) : Int), .int .i64 ((U 3 : Nat) : Int), .int .i64 ((U 4 : Nat) : Int), .int .i64 ((U 5 : Nat) : Int)] 51) = w1 at *
    have b2 := b1.alloc (by omega) (.cells #[.int .i64 ((V 0 : Nat) : Int), .int .i64 ((V 1 : Nat) : Int), .int .i64 ((V 2 : Nat) : Int), .int .i64 ((V 3 : Nat) : Int), .int .i64 ((V 4 : Nat) : Int), .int .i64 ((V 5 : Nat) : Int)] 51)
    have r2 := sg_new w1 V
    have q2 := World.rowIs.alloc r1 (.cells #[.int .i64 ((V 0 : Nat) : Int), .int .i64 ((V 1 : Nat) : Int), .int .i64 ((V 2 : Nat) : Int), .int .i64 ((V 3 : Nat) : Int), .int .i64 ((V 4 : Nat) : Int), .int .i64 ((V 5 : Nat) : Int)] 51)
    have s2 : (w1.alloc (.cells #[.int .i64 ((V 0 : Nat) : Int), .int .i64 ((V 1 : Nat) : Int), .int .i64 ((V 2 : Nat) : Int), .int .i64 ((V 3 : Nat) : Int), .int .i64 ((V 4 : Nat) : Int), .int .i64 ((V 5 : Nat) : Int)] 51)).heap.size = w.heap.size + 2 := by simp; omega
    generalize w1.alloc (.cells #[.int .i64 ((V 0 : Nat) : Int), .int .i64 ((V 1 : Nat) : Int), .int .i64 ((V 2 : Nat) : Int), .int .i64 ((V 3 : Nat) : Int), .int .i64 ((V 4 : Nat) : Int), .int .i64 ((V 5 : Nat) : Int)] 51) = w2 at *
    rw [s1] at r2
    have r3 := sg_zero w2
    rw [s2] at r3
    exact ⟨0, by omega, rfl, rfl, SgC.congr (World.rowIs.alloc q2 _) fun i _ => (thU_zero U V i).symm, World.rowIs.alloc r2 _, r3, b2.alloc (by omega) _⟩
  case round =>
    obtain ⟨k, hk, hg, rfl, hF, hV, hZ, hB⟩ := hrel
    by_cases hlt : k < 6
    · have hB0 := hB.size
      have hki : (k : Int) < 6 := by omega
      by_cases he : U k = 0
      · have hix : ∀ w, (Instr.index 51 (.agg #[.int .i64 ((U 0 : Nat) : Int), .int .i64 ((U 1 : Nat) : Int), .int .i64 ((U 2 : Nat) : Int), .int .i64 ((U 3 : Nat) : Int), .int .i64 ((U 4 : Nat) : Int), .int .i64 ((U 5 : Nat) : Int)]) (.int .i64 k)).run Try.prog w = .ok (.int .i64 0) w := fun w => (idx_six U k hlt w).trans (by rw [he]; rfl)
        have hca : wr.cell? ⟨w.heap.size + 1, k, none⟩ = some (.int .i64 ((V k : Nat) : Int)) := hV.cell hlt
        have hcb : wr.cell? ⟨w.heap.size, k, none⟩ = some (.int .i64 ((thU U V k k : Nat) : Int)) := hF.cell hlt
        have hfb := hF.frozen k
        have Y1 := hide ((hF.put k (V k)).congr fun i _ => thU_put he i)
        have Y2 := hide (hV.other (b := w.heap.size) (k := k) (v := .int .i64 ((V k : Nat) : Int)) (by omega))
        have Y3 := hide (hZ.other (b := w.heap.size) (k := k) (v := .int .i64 ((V k : Nat) : Int)) (by omega))
        have Y4 := hide (hB.setCell (p := ⟨w.heap.size, k, none⟩) (by show w.heap.size ≤ w.heap.size; omega) (.int .i64 ((V k : Nat) : Int)))
        clear hF hV hZ hB he
        go_wp2
        go_roundg (6 - (k + 1))
        case measure => go_light; have := hg.out; omega
        case rel => go_light; exact ⟨k + 1, by omega, rfl, by go_num, Y1.out, Y2.out, Y3.out, Y4.out⟩
      · have heb : ((((U k : Nat) : Int)) == 0) = false := beq_eq_false_iff_ne.2 (by omega)
        have hix : ∀ w, (Instr.index 51 (.agg #[.int .i64 ((U 0 : Nat) : Int), .int .i64 ((U 1 : Nat) : Int), .int .i64 ((U 2 : Nat) : Int), .int .i64 ((U 3 : Nat) : Int), .int .i64 ((U 4 : Nat) : Int), .int .i64 ((U 5 : Nat) : Int)]) (.int .i64 k)).run Try.prog w = .ok (.int .i64 ((U k : Nat) : Int)) w := fun w => idx_six U k hlt w
        have Y1 := hide (hF.congr fun i _ => thU_keep he i)
        clear hF he
        go_wp2
        go_roundg (6 - (k + 1))
        case measure => go_light; have := hg.out; omega
        case rel => go_light; exact ⟨k + 1, by omega, rfl, by go_num, Y1.out, hV, hZ, hB⟩
    · obtain rfl : k = 6 := by omega
      replace hF : SgC wr w.heap.size (thD U V) := hF.congr fun i hi => thU_done i hi
      have hc0 := World.rowIs.cell hF (i := 0) (by omega)
      have hz0 := World.rowIs.cell hZ (i := 0) (by omega)
      have hf0 : wr.frozen? ⟨w.heap.size + 2, 0, none⟩ = false := World.rowIs.frozen hZ 0
      have hc1 := World.rowIs.cell hF (i := 1) (by omega)
      have hz1 := World.rowIs.cell hZ (i := 1) (by omega)
      have hf1 : wr.frozen? ⟨w.heap.size + 2, 1, none⟩ = false := World.rowIs.frozen hZ 1
      have hc2 := World.rowIs.cell hF (i := 2) (by omega)
      have hz2 := World.rowIs.cell hZ (i := 2) (by omega)
      have hf2 : wr.frozen? ⟨w.heap.size + 2, 2, none⟩ = false := World.rowIs.frozen hZ 2
      have hc3 := World.rowIs.cell hF (i := 3) (by omega)
      have hz3 := World.rowIs.cell hZ (i := 3) (by omega)
      have hf3 : wr.frozen? ⟨w.heap.size + 2, 3, none⟩ = false := World.rowIs.frozen hZ 3
      have hc4 := World.rowIs.cell hF (i := 4) (by omega)
      have hz4 := World.rowIs.cell hZ (i := 4) (by omega)
      have hf4 : wr.frozen? ⟨w.heap.size + 2, 4, none⟩ = false := World.rowIs.frozen hZ 4
      have hc5 := World.rowIs.cell hF (i := 5) (by omega)
      have hz5 := World.rowIs.cell hZ (i := 5) (by omega)
      have hf5 : wr.frozen? ⟨w.heap.size + 2, 5, none⟩ = false := World.rowIs.frozen hZ 5
      have hR := ((((((hZ.put 0 (thD U V 0)).put 1 (thD U V 1)).put 2 (thD U V 2)).put 3 (thD U V 3)).put 4 (thD U V 4)).put 5 (thD U V 5)).congr (V := thD U V) fun i hi => by
        match i, hi with
        | 0, _ | 1, _ | 2, _ | 3, _ | 4, _ | 5, _ => rfl
      have hB9 := ((((((hB.setCell (p := ⟨w.heap.size + 2, 0, none⟩) (by show w.heap.size ≤ w.heap.size + 2; omega) (.int .i64 ((thD U V 0 : Nat) : Int))).setCell (p := ⟨w.heap.size + 2, 1, none⟩) (by show w.heap.size ≤ w.heap.size + 2; omega) (.int .i64 ((thD U V 1 : Nat) : Int))).setCell (p := ⟨w.heap.size + 2, 2, none⟩) (by show w.heap.size ≤ w.heap.size + 2; omega) (.int .i64 ((thD U V 2 : Nat) : Int))).setCell (p := ⟨w.heap.size + 2, 3, none⟩) (by show w.heap.size ≤ w.heap.size + 2; omega) (.int .i64 ((thD U V 3 : Nat) : Int))).setCell (p := ⟨w.heap.size + 2, 4, none⟩) (by show w.heap.size ≤ w.heap.size + 2; omega) (.int .i64 ((thD U V 4 : Nat) : Int))).setCell (p := ⟨w.heap.size + 2, 5, none⟩) (by show w.heap.size ≤ w.heap.size + 2; omega) (.int .i64 ((thD U V 5 : Nat) : Int)))
      replace hB9 := hide hB9
      replace hR := hide hR
      clear hF hZ hB
      go_wp2
      exact bodyPost_ret (res_sg rfl _ _ _ _ hR.out rfl) rfl ⟨rfl, hB9.out⟩
end Go.Proofs.Ytnennilpedediaa
