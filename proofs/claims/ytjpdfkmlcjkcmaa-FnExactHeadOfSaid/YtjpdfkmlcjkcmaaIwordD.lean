
/- A copy of a text: the library's strings.Clone, as the landed code calls it. -/
import Derived.Test.YtjpdfkmlcjkcmaaIwordC
namespace Go.Proofs.Ytjpdfkmlcjkcmaa
open Go.RowKit Go.Lib
set_option linter.unusedVariables false
set_option linter.unusedSimpArgs false

theorem info_u8 : (Try.prog.info? 5).map (fun i => (i.zero, i.size, i.bytes)) = some (some (Value.int .u8 0), 1, 1) := by kernel_rfl
set_option maxRecDepth 100000 in
set_option maxHeartbeats 4000000 in
theorem copied_any (s : ByteArray) (w : World) (hlim : s.size ≤ 1048576) :
    Calls Try.prog 64 #[.string s] w fun e w' => e = .returned (.string s) ∧ Below w.heap.size w w' := by
  by_cases h0 : s.size = 0
  · obtain rfl : s = ⟨#[]⟩ := ByteArray.ext (Array.eq_empty_of_size_eq_zero h0)
    go_enter Try.func64, Try.ntmps64
    go_wp2
    go_ret
    exact ⟨rfl, Below.refl _ _⟩
  · have hne : s.data.toList ≠ [] := fun e => h0 (by rw [Lib.size_eq, e]; rfl)
    obtain ⟨i0, hi, hz0, hz1, hz2⟩ := info_parts info_u8
    have hinfo : (Try.prog.info? 5).map (·.size) = some 1 := by rw [hi]; simp [hz1]
    have hco : Try.prog.cellsOf 5 = 1 := by simp [Program.cellsOf, hi, hz1]
    obtain ⟨M, hM⟩ : ∃ M, M = madeCells (Value.int .u8 0).cells (((s.size : Nat) : Int).toNat * i0.size) := ⟨_, rfl⟩
    have hMs : M.size = s.size := by rw [hM, size_madeCells, hz1]; simp
    have hmk : ∀ W : World, (Instr.makeSlice 22 (.int .i64 (s.size : Int)) (.int .i64 (s.size : Int))).run Try.prog W = .ok (.slice (some ⟨W.heap.size, 0, none⟩) s.size s.size) (W.alloc (.cells M 5)) := fun W => by
      have h := run_make (P := Try.prog) W 22 5 i0 (.int .u8 0) Try.underlying22 hi hz0 .i64 .i64 (s.size : Int) (s.size : Int) (by omega) (by omega) (by rw [hz2]; omega) (by omega)
      rw [← hM] at h
      simpa using h
    clear hM
    have hcp := Lib.run_copy_row_string (P := Try.prog) (w.alloc (.cells M 5)) 22 9 3 5 w.heap.size 0 s.size s.size s M 5 Try.underlying22 hinfo (heap_alloc_new w _) (Nat.le_refl _) (by omega)
    obtain ⟨Y, hY⟩ : ∃ Y, Y = (M.toList.take 0 ++ Lib.byteCells s.data.toList ++ M.toList.drop (0 + s.size)).toArray := ⟨_, rfl⟩
    rw [← hY] at hcp
    have hYl : Y.toList = Lib.byteCells s.data.toList := by
      rw [hY, List.toList_toArray, List.take_zero, List.nil_append, List.drop_of_length_le (by rw [Array.length_toList]; omega), List.append_nil]
    have hYs : Y.size = s.size := by rw [← Array.length_toList, hYl, Lib.byteCells_length, ← Lib.size_eq]
    have hgY : ((w.alloc (.cells M 5)).setRow w.heap.size Y).heap[w.heap.size]? = some (.cells Y 5 (0, 0)) := setRow_heap _ _ M _ 5 (0, 0) (heap_alloc_new w _)
    have hUS := Lib.run_unsafeString_row (P := Try.prog) ((w.alloc (.cells M 5)).setRow w.heap.size Y) 72 3 9 5 Try.underlying72 hco w.heap.size Y.size (by unfold World.shape?; rw [hgY]) s.data.toList hne (by rw [← Lib.size_eq]; omega) (by rw [← Lib.size_eq]; omega)
      (fun j x hx => Lib.cells_of_row hgY Y.size j _ (by rw [List.take_of_length_le (by rw [Array.length_toList]; exact Nat.le_refl _), hYl]; simp [Lib.byteCells, hx]))
    rw [← Lib.size_eq] at hUS
    clear hY
    go_enter Try.func64, Try.ntmps64
    go_wp2
    go_ret
    have hb1 : Below w.heap.size w (w.alloc (.cells M 5)) := (Below.refl _ w).alloc (Nat.le_refl _) _
    have hb2 : Below w.heap.size (w.alloc (.cells M 5)) ((w.alloc (.cells M 5)).setRow w.heap.size Y) := ⟨rfl, rfl, rfl, by simp, fun k hk => setRow_other _ _ _ _ (by omega)⟩
    exact ⟨rfl, Lib.below_freeze (hb1.trans hb2) (p := ⟨w.heap.size, 0, none⟩) (Nat.le_refl _) _⟩

set_option maxHeartbeats 1000000 in
theorem clone_any (u : List UInt8) (w : World) (hn : u.length ≤ 1048576) :
    Calls Try.prog 48 #[.string (bs u)] w fun e w' => e = .returned (.string (bs u)) ∧ Below w.heap.size w w' := by
  have hs : (bs u).size ≤ 1048576 := by rw [size_bs]; exact hn
  go_enter Try.func48, Try.ntmps48
  go_wp2_with fail
  refine (copied_any (bs u) _ hs).mono ?_
  rintro e w' ⟨rfl, b1⟩
  go_wp2
  go_ret
  exact ⟨rfl, b1⟩

set_option maxRecDepth 20000 in
set_option maxHeartbeats 2000000 in
theorem last_any (x y z : Int) (w : World) :
    Calls Try.prog 47 #[.agg #[.int .i64 x, .int .i64 y, .int .i64 z]] w fun e w' => e = .returned (.int .i64 (max3 x y z)) ∧ Below w.heap.size w w' := by
  have hB := (Below.refl w.heap.size w).alloc (Nat.le_refl _) (.cells #[.int .i64 x, .int .i64 y, .int .i64 z] 48)
  have hR := pl3_new w 48 x y z
  have a0 := World.rowIs.cell hR (i := 0) (by omega)
  have a1 := World.rowIs.cell hR (i := 1) (by omega)
  have a2 := World.rowIs.cell hR (i := 2) (by omega)
  rw [pl3_0] at a0
  rw [pl3_1] at a1
  rw [pl3_2] at a2
  clear hR
  go_enter Try.func47, Try.ntmps47
  go_wp2_with fail
  generalize w.alloc (.cells #[.int .i64 x, .int .i64 y, .int .i64 z] 48) = W at hB a0 a1 a2 ⊢
  go_wp2_with fail
  refine (max3_any x y z _ _ W a0 a1 a2).mono ?_
  rintro e w' ⟨rfl, rfl⟩
  go_wp2
  go_ret
  exact ⟨rfl, hB⟩

set_option maxRecDepth 20000 in
set_option maxHeartbeats 4000000 in
theorem iHeadOf_any (u : List UInt8) (w : World) (hn : u.length ≤ 1048576) :
    Calls Try.prog 24 #[.string (bs u)] w fun e w' => e = .returned (.tuple #[.string (bs (hdW u)), .string (bs (hlW u)), .bool (okW u)]) ∧ Below w.heap.size w w' := by
  have hsz := size_bs u
  cases hw : okW u
  · have HE := hide (hdW_not hw)
    have HL := hide (hlW_not hw)
    go_enter Try.func24, Try.ntmps24
    go_wp2_with fail
    refine (iWordOk_any u _ hn).mono ?_
    rw [hw]
    rintro e w' ⟨rfl, b1⟩
    go_wp2
    refine bodyPost_ret (results_tmp3 rfl _ _ _) rfl ?_
    rw [HE.out, HL.out]
    exact ⟨rfl, b1⟩
  · have HE := hide (hdW_ok hw)
    have HL := hide (hlW_ok hw)
    have HW := hide hw
    go_enter Try.func24, Try.ntmps24
    go_wp2_with fail
    refine (iWordOk_any u _ hn).mono ?_
    rw [hw]
    rintro e w1 ⟨rfl, b1⟩
    clear hw
    go_wp2_with fail
    refine (places_any u _ HW.out).mono ?_
    rintro e w2 ⟨x, y, z, ⟨hx, hy, hz⟩, rfl, b2⟩
    obtain ⟨a, ha, hlt, hH⟩ := max3_hd HW.out hx hy hz
    have HD := hide hH.eq
    clear hx hy hz hH
    go_wp2_with fail
    refine (last_any x y z _).mono ?_
    rw [ha]
    rintro e w3 ⟨rfl, b3⟩
    clear ha
    have B3 := hide ((b1.trans (b2.mono b1.size)).trans (b3.mono (b1.trans (b2.mono b1.size)).size))
    clear b1 b2 b3
    have hx1 := fun w => slice_to Try.underlying9 u (a : Int) a rfl (by omega) w
    have hx2 := fun w => slice_one Try.underlying9 u (a : Int) ((a : Int) + 1) a rfl rfl (by omega) w
    have i3 : IntKind.i64.wrap ((a : Int) + 1) = (a : Int) + 1 := IntWalk.i64_in _ ⟨by omega, by omega⟩
    have l1 : (u.take a).length ≤ 1048576 := by rw [List.length_take]; omega
    have l2 : [lt u a].length ≤ 1048576 := by simp
    go_wp2_with fail
    go_region_held3 (fun W => Below w3.heap.size w3 W)
      (first
        | exact (Below.refl _ _).drew
        | exact Below.trans (by assumption) (Below.mono (by assumption) (Below.size (by assumption))))
      (first
        | (go_at_call 48
           first
             | (refine (clone_any (u.take a) _ l1).mono ?_
                rintro e wa ⟨rfl, hba⟩)
             | (refine (clone_any [lt u a] _ l2).mono ?_
                rintro e wb ⟨rfl, hbb⟩)))
    go_wp2
    refine bodyPost_ret (results_tmp3 rfl _ _ _) rfl ?_
    rw [HE.out, HL.out, HD.out.1, HD.out.2]
    exact ⟨rfl, B3.out.trans (Below.mono (by assumption) B3.out.size)⟩
end Go.Proofs.Ytjpdfkmlcjkcmaa
