
/- Where letters come first: the landed code's array of three places. -/
import Derived.Test.YtjpdfkmlcjkcmaaIwordA
namespace Go.Proofs.Ytjpdfkmlcjkcmaa
open Go.RowKit Go.Lib
set_option linter.unusedVariables false
set_option linter.unusedSimpArgs false

theorem pl3_set0 {W : World} {g t : Nat} {x y z : Int} (h : W.rowIs g t 3 (pl3 x y z)) (v : Int) : (W.setCell ⟨g, 0, none⟩ (.int .i64 v)).rowIs g t 3 (pl3 v y z) :=
  World.rowIs.congr (World.rowIs.set h 0 (.int .i64 v)) fun i hi => by
    match i, hi with
    | 0, _ | 1, _ | 2, _ => rfl
theorem pl3_set1 {W : World} {g t : Nat} {x y z : Int} (h : W.rowIs g t 3 (pl3 x y z)) (v : Int) : (W.setCell ⟨g, 1, none⟩ (.int .i64 v)).rowIs g t 3 (pl3 x v z) :=
  World.rowIs.congr (World.rowIs.set h 1 (.int .i64 v)) fun i hi => by
    match i, hi with
    | 0, _ | 1, _ | 2, _ => rfl
theorem pl3_set2 {W : World} {g t : Nat} {x y z : Int} (h : W.rowIs g t 3 (pl3 x y z)) (v : Int) : (W.setCell ⟨g, 2, none⟩ (.int .i64 v)).rowIs g t 3 (pl3 x y v) :=
  World.rowIs.congr (World.rowIs.set h 2 (.int .i64 v)) fun i hi => by
    match i, hi with
    | 0, _ | 1, _ | 2, _ => rfl
theorem pl3_new (w : World) (t : TypeId) (x y z : Int) : (w.alloc (.cells #[.int .i64 x, .int .i64 y, .int .i64 z] t)).rowIs w.heap.size t 3 (pl3 x y z) :=
  World.rowIs_alloc w #[.int .i64 x, .int .i64 y, .int .i64 z] t _ fun i hi => by
    match i, hi with
    | 0, _ | 1, _ | 2, _ => rfl
theorem iter_kept {W : World} {g j : Nat} {s : ByteArray} {p : Nat} {i : Nat} {v : Value} (h : W.heap[g]? = some (.stringIter s p)) (hj : g ≠ j) : (W.setCell ⟨j, i, none⟩ v).heap[g]? = some (.stringIter s p) :=
  (Below.heap_setCell _ _ _ _ (by show g ≠ j; omega)).trans h

set_option maxRecDepth 20000 in
set_option maxHeartbeats 4000000 in
theorem places_any (u : List UInt8) (w : World) (hw : okW u = true) :
    Calls Try.prog 44 #[.string (bs u)] w fun e w' => ∃ x y z : Int, (FP u u.length 97 x ∧ FP u u.length 98 y ∧ FP u u.length 99 z) ∧ e = .returned (.agg #[.int .i64 x, .int .i64 y, .int .i64 z]) ∧ Below w.heap.size w w' := by
  have hsz := size_bs u
  have hok := hide (okW_iff.1 hw)
  have hln : u.length ≤ 24 := hok.out.2.2
  clear hw
  go_enter Try.func44, Try.ntmps44
  go_wp2
  go_loopg [] u.length (fun g wr => ∃ (k : Nat) (x y z : Int), k ≤ u.length ∧ Hid (g = u.length - k) ∧ Hid (FP u k 97 x ∧ FP u k 98 y ∧ FP u k 99 z) ∧ wr.rowIs (w.heap.size + 1) 48 3 (pl3 x y z) ∧ wr.rowIs w.heap.size 48 3 (pl3 0 0 0) ∧ wr.heap[w.heap.size + 2]? = some (.stringIter (bs u) k) ∧ Below w.heap.size w wr)
  case atStart =>
    have r0 := pl3_new w 48 0 0 0
    have b0 := (Below.refl w.heap.size w).alloc (Nat.le_refl _) (.cells #[.int .i64 0, .int .i64 0, .int .i64 0] 48)
    have s0 : (w.alloc (.cells #[.int .i64 0, .int .i64 0, .int .i64 0] 48)).heap.size = w.heap.size + 1 := by simp
    generalize w.alloc (.cells #[.int .i64 0, .int .i64 0, .int .i64 0] 48) = w0 at r0 b0 s0 ⊢
    have r1 := pl3_new w0 48 (-1) (-1) (-1)
    have b1 := b0.alloc (by omega) (.cells #[.int .i64 (-1), .int .i64 (-1), .int .i64 (-1)] 48)
    have r0' := World.rowIs.alloc r0 (.cells #[.int .i64 (-1), .int .i64 (-1), .int .i64 (-1)] 48)
    have s1 : (w0.alloc (.cells #[.int .i64 (-1), .int .i64 (-1), .int .i64 (-1)] 48)).heap.size = w.heap.size + 2 := by simp; omega
    rw [s0] at r1
    generalize w0.alloc (.cells #[.int .i64 (-1), .int .i64 (-1), .int .i64 (-1)] 48) = w1 at r0' r1 b1 s1 ⊢
    refine ⟨0, -1, -1, -1, Nat.zero_le _, rfl, ⟨FP.zero, FP.zero, FP.zero⟩, World.rowIs.alloc r1 _, World.rowIs.alloc r0' _, ?_, b1.alloc (by omega) _⟩
    rw [← s1]
    exact World.iter_heap _ _ _
  case round =>
    obtain ⟨k, x, y, z, hk, hg, hF, hR, hZ, hI, hB⟩ := hrel
    by_cases hlt : k < u.length
    · have hp : k < (bs u).size := by omega
      have hc1 := hok.out.1 _ (lt_mem hlt)
      have hst := step_one hlt hc1
      have hnx : ∀ ty, (Instr.next (.pointer (some ⟨w.heap.size + 2, 0, none⟩)) true ty).run Try.prog wr = .ok (.tuple #[.bool true, .int .i64 k, .int .i32 (((lt u k).toNat : Nat) : Int)]) (wr.iterAt (w.heap.size + 2) (bs u) (k + 1)) := fun ty => by
        rw [Lib.run_next_any_at wr (w.heap.size + 2) (bs u) k ty hI hp, hst]
      have hI1 := Lib.iterAt_heap wr (w.heap.size + 2) (bs u) k (k + 1) hI
      have hR1 := World.rowIs.of_block hR (Lib.iterAt_other wr (w.heap.size + 2) (w.heap.size + 1) (bs u) (k + 1) (by omega))
      have hZ1 := World.rowIs.of_block hZ (Lib.iterAt_other wr (w.heap.size + 2) w.heap.size (bs u) (k + 1) (by omega))
      have hB1 := Lib.below_iterAt hB (show w.heap.size ≤ w.heap.size + 2 by omega) (bs u) (k + 1)
      generalize wr.iterAt (w.heap.size + 2) (bs u) (k + 1) = W at hnx hI1 hR1 hZ1 hB1
      clear hst hR hZ hI hB
      obtain ⟨c, hc⟩ : ∃ c, c = lt u k := ⟨_, rfl⟩
      have HL := hide hlt
      have HC := hide hc
      rw [← hc] at hnx hc1
      clear hc
      rcases okC_iff.1 hc1 with rfl | rfl | rfl
      · have hc0 : W.cell? ⟨w.heap.size + 1, 0, none⟩ = some (.int .i64 x) := World.rowIs.cell hR1 (i := 0) (by omega)
        have hf0 : W.frozen? ⟨w.heap.size + 1, 0, none⟩ = false := World.rowIs.frozen hR1 0
        by_cases he : x = -1
        · have HFP := hide (show FP u (k + 1) 97 k ∧ FP u (k + 1) 98 y ∧ FP u (k + 1) 99 z from ⟨(he ▸ hF.out.1).fresh HC.out.symm, hF.out.2.1.old HL.out (.inl (by rw [← HC.out]; decide)), hF.out.2.2.old HL.out (.inl (by rw [← HC.out]; decide))⟩)
          have Y1 := hide (pl3_set0 hR1 (k : Int))
          have Y2 := hide (World.rowIs.setOther hZ1 (a := ⟨w.heap.size + 1, 0, none⟩) (by show w.heap.size ≠ w.heap.size + 1; omega) (.int .i64 (k : Int)))
          have Y3 := hide (iter_kept (j := w.heap.size + 1) (i := 0) (v := .int .i64 (k : Int)) hI1 (by omega))
          have Y4 := hide (hB1.setCell (p := ⟨w.heap.size + 1, 0, none⟩) (by show w.heap.size ≤ w.heap.size + 1; omega) (.int .i64 (k : Int)))
          subst he
          clear hR1 hZ1 hI1 hB1
          go_wp2_with fail
          refine (num_any 97 W (by decide)).mono ?_
          rintro e w1 ⟨rfl, rfl⟩
          go_wp2
          go_roundg (u.length - (k + 1))
          case measure => go_light; have := hg.out; omega
          case rel => go_light; exact ⟨k + 1, (k : Int), y, z, HL.out, rfl, HFP.out, Y1.out, Y2.out, Y3.out, Y4.out⟩
        · have HFP := hide (show FP u (k + 1) 97 x ∧ FP u (k + 1) 98 y ∧ FP u (k + 1) 99 z from ⟨hF.out.1.old HL.out (.inr he), hF.out.2.1.old HL.out (.inl (by rw [← HC.out]; decide)), hF.out.2.2.old HL.out (.inl (by rw [← HC.out]; decide))⟩)
          have hq : (x == (-1 : Int)) = false := beq_eq_false_iff_ne.2 he
          clear he
          go_wp2_with fail
          refine (num_any 97 W (by decide)).mono ?_
          rintro e w1 ⟨rfl, rfl⟩
          go_wp2
          go_roundg (u.length - (k + 1))
          case measure => go_light; have := hg.out; omega
          case rel => go_light; exact ⟨k + 1, x, y, z, HL.out, rfl, HFP.out, hR1, hZ1, hI1, hB1⟩
      · have hc0 : W.cell? ⟨w.heap.size + 1, 1, none⟩ = some (.int .i64 y) := World.rowIs.cell hR1 (i := 1) (by omega)
        have hf0 : W.frozen? ⟨w.heap.size + 1, 1, none⟩ = false := World.rowIs.frozen hR1 1
        by_cases he : y = -1
        · have HFP := hide (show FP u (k + 1) 97 x ∧ FP u (k + 1) 98 k ∧ FP u (k + 1) 99 z from ⟨hF.out.1.old HL.out (.inl (by rw [← HC.out]; decide)), (he ▸ hF.out.2.1).fresh HC.out.symm, hF.out.2.2.old HL.out (.inl (by rw [← HC.out]; decide))⟩)
          have Y1 := hide (pl3_set1 hR1 (k : Int))
          have Y2 := hide (World.rowIs.setOther hZ1 (a := ⟨w.heap.size + 1, 1, none⟩) (by show w.heap.size ≠ w.heap.size + 1; omega) (.int .i64 (k : Int)))
          have Y3 := hide (iter_kept (j := w.heap.size + 1) (i := 1) (v := .int .i64 (k : Int)) hI1 (by omega))
          have Y4 := hide (hB1.setCell (p := ⟨w.heap.size + 1, 1, none⟩) (by show w.heap.size ≤ w.heap.size + 1; omega) (.int .i64 (k : Int)))
          subst he
          clear hR1 hZ1 hI1 hB1
          go_wp2_with fail
          refine (num_any 98 W (by decide)).mono ?_
          rintro e w1 ⟨rfl, rfl⟩
          go_wp2
          go_roundg (u.length - (k + 1))
          case measure => go_light; have := hg.out; omega
          case rel => go_light; exact ⟨k + 1, x, (k : Int), z, HL.out, rfl, HFP.out, Y1.out, Y2.out, Y3.out, Y4.out⟩
        · have HFP := hide (show FP u (k + 1) 97 x ∧ FP u (k + 1) 98 y ∧ FP u (k + 1) 99 z from ⟨hF.out.1.old HL.out (.inl (by rw [← HC.out]; decide)), hF.out.2.1.old HL.out (.inr he), hF.out.2.2.old HL.out (.inl (by rw [← HC.out]; decide))⟩)
          have hq : (y == (-1 : Int)) = false := beq_eq_false_iff_ne.2 he
          clear he
          go_wp2_with fail
          refine (num_any 98 W (by decide)).mono ?_
          rintro e w1 ⟨rfl, rfl⟩
          go_wp2
          go_roundg (u.length - (k + 1))
          case measure => go_light; have := hg.out; omega
          case rel => go_light; exact ⟨k + 1, x, y, z, HL.out, rfl, HFP.out, hR1, hZ1, hI1, hB1⟩
      · have hc0 : W.cell? ⟨w.heap.size + 1, 2, none⟩ = some (.int .i64 z) := World.rowIs.cell hR1 (i := 2) (by omega)
        have hf0 : W.frozen? ⟨w.heap.size + 1, 2, none⟩ = false := World.rowIs.frozen hR1 2
        by_cases he : z = -1
        · have HFP := hide (show FP u (k + 1) 97 x ∧ FP u (k + 1) 98 y ∧ FP u (k + 1) 99 k from ⟨hF.out.1.old HL.out (.inl (by rw [← HC.out]; decide)), hF.out.2.1.old HL.out (.inl (by rw [← HC.out]; decide)), (he ▸ hF.out.2.2).fresh HC.out.symm⟩)
          have Y1 := hide (pl3_set2 hR1 (k : Int))
          have Y2 := hide (World.rowIs.setOther hZ1 (a := ⟨w.heap.size + 1, 2, none⟩) (by show w.heap.size ≠ w.heap.size + 1; omega) (.int .i64 (k : Int)))
          have Y3 := hide (iter_kept (j := w.heap.size + 1) (i := 2) (v := .int .i64 (k : Int)) hI1 (by omega))
          have Y4 := hide (hB1.setCell (p := ⟨w.heap.size + 1, 2, none⟩) (by show w.heap.size ≤ w.heap.size + 1; omega) (.int .i64 (k : Int)))
          subst he
          clear hR1 hZ1 hI1 hB1
          go_wp2_with fail
          refine (num_any 99 W (by decide)).mono ?_
          rintro e w1 ⟨rfl, rfl⟩
          go_wp2
          go_roundg (u.length - (k + 1))
          case measure => go_light; have := hg.out; omega
          case rel => go_light; exact ⟨k + 1, x, y, (k : Int), HL.out, rfl, HFP.out, Y1.out, Y2.out, Y3.out, Y4.out⟩
        · have HFP := hide (show FP u (k + 1) 97 x ∧ FP u (k + 1) 98 y ∧ FP u (k + 1) 99 z from ⟨hF.out.1.old HL.out (.inl (by rw [← HC.out]; decide)), hF.out.2.1.old HL.out (.inl (by rw [← HC.out]; decide)), hF.out.2.2.old HL.out (.inr he)⟩)
          have hq : (z == (-1 : Int)) = false := beq_eq_false_iff_ne.2 he
          clear he
          go_wp2_with fail
          refine (num_any 99 W (by decide)).mono ?_
          rintro e w1 ⟨rfl, rfl⟩
          go_wp2
          go_roundg (u.length - (k + 1))
          case measure => go_light; have := hg.out; omega
          case rel => go_light; exact ⟨k + 1, x, y, z, HL.out, rfl, HFP.out, hR1, hZ1, hI1, hB1⟩
    · obtain rfl : u.length = k := by omega
      have hnx : ∀ ty, (Instr.next (.pointer (some ⟨w.heap.size + 2, 0, none⟩)) true ty).run Try.prog wr = .ok (.tuple #[.bool false]) wr := fun ty => Lib.run_next_end_at wr (w.heap.size + 2) (bs u) u.length ty hI (by omega)
      have a0 : wr.cell? ⟨w.heap.size + 1, 0, none⟩ = some (.int .i64 x) := World.rowIs.cell hR (i := 0) (by omega)
      have a1 : wr.cell? ⟨w.heap.size + 1, 1, none⟩ = some (.int .i64 y) := World.rowIs.cell hR (i := 1) (by omega)
      have a2 : wr.cell? ⟨w.heap.size + 1, 2, none⟩ = some (.int .i64 z) := World.rowIs.cell hR (i := 2) (by omega)
      have z0 : wr.cell? ⟨w.heap.size, 0, none⟩ = some (.int .i64 0) := World.rowIs.cell hZ (i := 0) (by omega)
      have z1 : wr.cell? ⟨w.heap.size, 1, none⟩ = some (.int .i64 0) := World.rowIs.cell hZ (i := 1) (by omega)
      have z2 : wr.cell? ⟨w.heap.size, 2, none⟩ = some (.int .i64 0) := World.rowIs.cell hZ (i := 2) (by omega)
      have f0 : wr.frozen? ⟨w.heap.size, 0, none⟩ = false := World.rowIs.frozen hZ 0
      have f1 : wr.frozen? ⟨w.heap.size, 1, none⟩ = false := World.rowIs.frozen hZ 1
      have f2 : wr.frozen? ⟨w.heap.size, 2, none⟩ = false := World.rowIs.frozen hZ 2
      have hRR := pl3_set2 (pl3_set1 (pl3_set0 hZ x) y) z
      have d0 := World.rowIs.cell hRR (i := 0) (by omega)
      have d1 := World.rowIs.cell hRR (i := 1) (by omega)
      have d2 := World.rowIs.cell hRR (i := 2) (by omega)
      have hBB := ((hB.setCell (p := ⟨w.heap.size, 0, none⟩) (Nat.le_refl _) (.int .i64 x)).setCell (p := ⟨w.heap.size, 1, none⟩) (Nat.le_refl _) (.int .i64 y)).setCell (p := ⟨w.heap.size, 2, none⟩) (Nat.le_refl _) (.int .i64 z)
      have D := hide (And.intro d0 (And.intro d1 d2))
      clear hRR hR hZ hI hB d0 d1 d2
      go_wp2
      exact bodyPost_ret (res_places _ _ x y z _ D.out.1 D.out.2.1 D.out.2.2 rfl) rfl ⟨x, y, z, hF.out, rfl, hBB⟩
end Go.Proofs.Ytjpdfkmlcjkcmaa
