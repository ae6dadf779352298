/-  -/
import Derived.Test.YthllbekoidogpaaAlw06
import Derived.Lib.Walk
import Derived.Lib.BufferWrite
import Derived.Lib.UnsafeStr
import Derived.Lib.Strings
import Derived.Laws.MakeOwn
import Derived.Laws.Cover4
import Derived.Laws.IdiomStrings
import Derived.Shelf.RegionOpenPlain
import Derived.Test.YthllbekoidogpaaAlw04
namespace Go.Proofs.Ythllbekoidogpaa
open Go.RowKit Go.Lib
set_option linter.unusedVariables false
set_option linter.unusedSimpArgs false

theorem at3_0 (x y z : Int) (w : World) : (Instr.index 108 (.agg #[.int .i64 x, .int .i64 y, .int .i64 z]) (.int .i64 0)).run Try.prog w = .ok (.int .i64 x) w := by kernel_rfl
theorem at3_1 (x y z : Int) (w : World) : (Instr.index 108 (.agg #[.int .i64 x, .int .i64 y, .int .i64 z]) (.int .i64 1)).run Try.prog w = .ok (.int .i64 y) w := by kernel_rfl
theorem at3_2 (x y z : Int) (w : World) : (Instr.index 108 (.agg #[.int .i64 x, .int .i64 y, .int .i64 z]) (.int .i64 2)).run Try.prog w = .ok (.int .i64 z) w := by kernel_rfl
/-- The letters under way. -/
def letsP (x y z : Int) (k : Nat) : Nat := (if 1 ≤ k ∧ x ≠ -1 then 1 else 0) ||| (if 2 ≤ k ∧ y ≠ -1 then 2 else 0) ||| (if 3 ≤ k ∧ z ≠ -1 then 4 else 0)
theorem letsP_3 (x y z : Int) : letsP x y z 3 = letsN x y z := by
  unfold letsP letsN
  by_cases h1 : x = -1 <;> by_cases h2 : y = -1 <;> by_cases h3 : z = -1 <;> simp [h1, h2, h3]
theorem letsP_0 (x y z : Int) : letsP x y z 0 = 0 := by simp [letsP]
theorem letsP_lt (x y z : Int) (k : Nat) : letsP x y z k < 2 ^ 31 := by
  unfold letsP
  refine Nat.or_lt_two_pow (Nat.or_lt_two_pow ?_ ?_) ?_ <;> split <;> decide
theorem letsP_a {x : Int} (y z : Int) (h : x = -1) : letsP x y z 0 = letsP x y z 1 := by simp [letsP, h]
theorem letsP_b {y : Int} (x z : Int) (h : y = -1) : letsP x y z 1 = letsP x y z 2 := by simp [letsP, h]
theorem letsP_c {z : Int} (x y : Int) (h : z = -1) : letsP x y z 2 = letsP x y z 3 := by simp [letsP, h]
theorem letsP_A {x : Int} (y z : Int) (h : x ≠ -1) : letsP x y z 0 ||| 1 = letsP x y z 1 := by simp [letsP, h]
theorem letsP_B {y : Int} (x z : Int) (h : y ≠ -1) : letsP x y z 1 ||| 2 = letsP x y z 2 := by simp [letsP, h]
theorem letsP_C {z : Int} (x y : Int) (h : z ≠ -1) : letsP x y z 2 ||| 4 = letsP x y z 3 := by simp [letsP, h]

set_option maxRecDepth 20000 in
set_option maxHeartbeats 4000000 in
theorem letters_any (x y z : Int) (w : World) :
    Calls Try.prog 120 #[.agg #[.int .i64 x, .int .i64 y, .int .i64 z]] w fun e w' => e = .returned (.int .i64 ((letsN x y z : Nat) : Int)) ∧ Below w.heap.size w w' := by
  have hB := (Below.refl w.heap.size w).alloc (Nat.le_refl _) (.cells #[.int .i64 x, .int .i64 y, .int .i64 z] 108)
  have hR := pl3_new w 108 x y z
  have a0 := World.rowIs.cell hR (i := 0) (by omega)
  have a1 := World.rowIs.cell hR (i := 1) (by omega)
  have a2 := World.rowIs.cell hR (i := 2) (by omega)
  rw [pl3_0] at a0
  rw [pl3_1] at a1
  rw [pl3_2] at a2
  clear hR
  have i0 := at3_0 x y z
  have i1 := at3_1 x y z
  have i2 := at3_2 x y z
  go_enter Try.func120, Try.ntmps120
  go_wp2_with fail
  generalize w.alloc (.cells #[.int .i64 x, .int .i64 y, .int .i64 z] 108) = W at hB a0 a1 a2 ⊢
  go_wp2
  go_loopg [7, 3] 3 (fun g i s wr => ∃ k : Nat, k ≤ 3 ∧ Hid (g = 3 - k) ∧ i = .int .i64 k ∧ s = .int .i64 ((letsP x y z k : Nat) : Int) ∧ W = wr)
  case atStart => exact ⟨0, Nat.zero_le _, rfl, rfl, by rw [letsP_0]; rfl, rfl⟩
  case round =>
    obtain ⟨k, hk, hg, rfl, rfl, rfl⟩ := hrel
    obtain rfl | rfl | rfl | rfl : k = 0 ∨ k = 1 ∨ k = 2 ∨ k = 3 := by omega
    · have hl := letsP_lt x y z 0
      by_cases he : x = -1
      · have HN := hide (letsP_a y z he)
        have hq : (x != (-1 : Int)) = false := by rw [he]; rfl
        have hq1 : (x == (-1 : Int)) = true := by rw [he]; rfl
        clear he
        go_wp2
        go_roundg (3 - 1)
        case measure => go_light; have := hg.out; omega
        case rel => go_light; exact ⟨1, by omega, rfl, rfl, by rw [HN.out], rfl⟩
      · have HN := hide (letsP_A y z he)
        have hor : bits .or .i64 ((letsP x y z 0 : Nat) : Int) 1 = ((letsP x y z 0 ||| 1 : Nat) : Int) := bits_or31 hl (by decide)
        have hq1 : (x == (-1 : Int)) = false := beq_eq_false_iff_ne.2 he
        have hq : (x != (-1 : Int)) = true := by rw [bne, hq1]; rfl
        clear he
        go_wp2
        go_roundg (3 - 1)
        case measure => go_light; have := hg.out; omega
        case rel => go_light; exact ⟨1, by omega, rfl, rfl, by rw [← HN.out], rfl⟩
    · have hl := letsP_lt x y z 1
      by_cases he : y = -1
      · have HN := hide (letsP_b x z he)
        have hq : (y != (-1 : Int)) = false := by rw [he]; rfl
        have hq1 : (y == (-1 : Int)) = true := by rw [he]; rfl
        clear he
        go_wp2
        go_roundg (3 - 2)
        case measure => go_light; have := hg.out; omega
        case rel => go_light; exact ⟨2, by omega, rfl, rfl, by rw [HN.out], rfl⟩
      · have HN := hide (letsP_B x z he)
        have hor : bits .or .i64 ((letsP x y z 1 : Nat) : Int) 2 = ((letsP x y z 1 ||| 2 : Nat) : Int) := bits_or31 hl (by decide)
        have hq1 : (y == (-1 : Int)) = false := beq_eq_false_iff_ne.2 he
        have hq : (y != (-1 : Int)) = true := by rw [bne, hq1]; rfl
        clear he
        go_wp2
        go_roundg (3 - 2)
        case measure => go_light; have := hg.out; omega
        case rel => go_light; exact ⟨2, by omega, rfl, rfl, by rw [← HN.out], rfl⟩
    · have hl := letsP_lt x y z 2
      by_cases he : z = -1
      · have HN := hide (letsP_c x y he)
        have hq : (z != (-1 : Int)) = false := by rw [he]; rfl
        have hq1 : (z == (-1 : Int)) = true := by rw [he]; rfl
        clear he
        go_wp2
        go_roundg (3 - 3)
        case measure => go_light; have := hg.out; omega
        case rel => go_light; exact ⟨3, by omega, rfl, rfl, by rw [HN.out], rfl⟩
      · have HN := hide (letsP_C x y he)
        have hor : bits .or .i64 ((letsP x y z 2 : Nat) : Int) 4 = ((letsP x y z 2 ||| 4 : Nat) : Int) := bits_or31 hl (by decide)
        have hq1 : (z == (-1 : Int)) = false := beq_eq_false_iff_ne.2 he
        have hq : (z != (-1 : Int)) = true := by rw [bne, hq1]; rfl
        clear he
        go_wp2
        go_roundg (3 - 3)
        case measure => go_light; have := hg.out; omega
        case rel => go_light; exact ⟨3, by omega, rfl, rfl, by rw [← HN.out], rfl⟩
    · have HN := hide (letsP_3 x y z)
      go_wp2
      go_ret
      rw [HN.out]
      exact ⟨rfl, hB⟩

set_option maxRecDepth 20000 in
set_option maxHeartbeats 4000000 in
theorem max3_any (x y z : Int) (g c : Nat) (W : World) (a0 : W.cell? ⟨g, 0, none⟩ = some (.int .i64 x)) (a1 : W.cell? ⟨g, 1, none⟩ = some (.int .i64 y)) (a2 : W.cell? ⟨g, 2, none⟩ = some (.int .i64 z)) :
    Calls Try.prog 123 #[.slice (some ⟨g, 0, none⟩) 3 c] W fun e w' => e = .returned (.int .i64 (max3 x y z)) ∧ W = w' := by
  obtain ⟨m2, h2⟩ : ∃ m, m = max x y := ⟨_, rfl⟩
  have e3 : max3 x y z = max m2 z := by rw [h2]; rfl
  rw [e3]
  have H2 := hide h2
  clear h2 e3
  go_enter Try.func123, Try.ntmps123
  go_wp2
  go_loopg [4, 3] 3 (fun g i m wr => ∃ k : Nat, 1 ≤ k ∧ k ≤ 3 ∧ Hid (g = 4 - k) ∧ i = .int .i64 k ∧ m = .int .i64 (if k = 1 then x else if k = 2 then m2 else max m2 z) ∧ W = wr)
  case atStart => exact ⟨1, Nat.le_refl _, by omega, rfl, rfl, rfl, rfl⟩
  case round =>
    obtain ⟨k, hk1, hk, hg, rfl, rfl, rfl⟩ := hrel
    obtain rfl | rfl | rfl : k = 1 ∨ k = 2 ∨ k = 3 := by omega
    · simp only [if_true]
      go_wp2
      go_roundg 2
      case measure => go_light; have := hg.out; omega
      case rel => go_light; exact ⟨2, by omega, by omega, rfl, rfl, by rw [H2.out]; simp, rfl⟩
    · simp only [show ¬ (2 : Nat) = 1 from by decide, if_true, if_false]
      go_wp2
      go_roundg 1
      case measure => go_light; have := hg.out; omega
      case rel => go_light; exact ⟨3, by omega, by omega, rfl, rfl, by simp, rfl⟩
    · simp only [show ¬ (3 : Nat) = 1 from by decide, show ¬ (3 : Nat) = 2 from by decide, if_false]
      go_wp2
      go_ret
      exact ⟨rfl, rfl⟩
end Go.Proofs.Ythllbekoidogpaa

namespace Go.Proofs.Ythllbekoidogpaa
open Go.RowKit Go.Lib
set_option linter.unusedVariables false
set_option linter.unusedSimpArgs false

theorem info_u8 : (Try.prog.info? 5).map (fun i => (i.zero, i.size, i.bytes)) = some (some (Value.int .u8 0), 1, 1) := by kernel_rfl
theorem one_u8 : (Try.prog.info? 5).map (·.size) = some 1 := by
  obtain ⟨i, hi, hh⟩ := Option.map_eq_some_iff.1 info_u8
  simp only [Prod.mk.injEq] at hh
  rw [hi]
  exact congrArg some hh.2.1
theorem cells_u8 : Try.prog.cellsOf 5 = 1 := by
  obtain ⟨i, hi, hh⟩ := Option.map_eq_some_iff.1 one_u8
  unfold Program.cellsOf
  rw [hi]
  exact hh

/-- A text's bytes as a row of memory. -/
def byteRow (s : ByteArray) : Array Value := (Lib.byteCells s.data.toList).toArray
theorem size_byteRow (s : ByteArray) : (byteRow s).size = s.size := by unfold byteRow; rw [List.size_toArray, Lib.byteCells_length, ← Lib.size_eq]
/-- The world with a new row of zeros behind it, as long as the text. -/
def zeroed (w : World) (s : ByteArray) : World := w.alloc (.cells (madeCells #[Value.int .u8 0] s.size) 5)
/-- .. and with the text's bytes in it. -/
def inked (w : World) (s : ByteArray) : World := (zeroed w s).setRow w.heap.size (byteRow s)

theorem zeroed_at (w : World) (s : ByteArray) : (zeroed w s).heap[w.heap.size]? = some (.cells (madeCells #[Value.int .u8 0] s.size) 5 (0, 0)) := heap_alloc_new w _
theorem inked_at (w : World) (s : ByteArray) : (inked w s).heap[w.heap.size]? = some (.cells (byteRow s) 5 (0, 0)) := setRow_heap _ _ _ _ _ _ (zeroed_at w s)
theorem inked_below (w : World) (s : ByteArray) : Below w.heap.size w (inked w s) :=
  ((Below.refl _ w).alloc (Nat.le_refl _) _).trans ⟨rfl, rfl, rfl, by simp [inked, zeroed], fun k hk => setRow_other _ _ _ _ (by omega)⟩

theorem zeroed_run (w : World) (s : ByteArray) (hl : s.size ≤ 1048576) :
    (Instr.makeSlice 22 (.int .i64 (s.size : Int)) (.int .i64 (s.size : Int))).run Try.prog w = .ok (.slice (some ⟨w.heap.size, 0, none⟩) s.size s.size) (zeroed w s) :=
  run_make_row' 22 5 (.int .u8 0) 1 Try.underlying22 info_u8 rfl .i64 .i64 s.size (by omega) (by omega) w
theorem inked_run (w : World) (s : ByteArray) :
    (Builtin.copy_ #[22, 9] 3 #[.slice (some ⟨w.heap.size, 0, none⟩) s.size s.size, .string s]).run Try.prog (zeroed w s) = .ok (goInt s.size) (inked w s) := by
  have hz : (madeCells #[Value.int .u8 0] s.size).size = s.size := by simp [size_madeCells]
  have h := Lib.run_copy_row_string (P := Try.prog) (zeroed w s) 22 9 3 5 w.heap.size 0 s.size s.size s _ 5 Try.underlying22 one_u8 (zeroed_at w s) (Nat.le_refl _) (by omega)
  rw [h]
  unfold inked byteRow
  rw [List.take_zero, List.nil_append, List.drop_of_length_le (by simp [hz]), List.append_nil]
theorem read_run (w : World) (s : ByteArray) (h0 : s.size ≠ 0) (hl : s.size ≤ 1048576) :
    (Builtin.unsafeString_ #[112, 3] 9 #[.pointer (some ⟨w.heap.size, 0, none⟩), .int .i64 (s.size : Int)]).run Try.prog (inked w s) = .ok (.string s) ((inked w s).freeze ⟨w.heap.size, 0, none⟩ s.size) := by
  have hlen : s.data.toList.length = s.size := (Lib.size_eq s).symm
  have hrow : ∀ j x, s.data.toList[j]? = some x → (inked w s).cell? ((⟨w.heap.size, 0, none⟩ : Addr).add j) = some (.int .u8 x.toNat) := fun j x hx =>
    Lib.cells_of_row (inked_at w s) s.size j _ (by
      unfold byteRow
      rw [List.take_of_length_le (by rw [List.toList_toArray, Lib.byteCells_length, hlen]; exact Nat.le_refl _), List.toList_toArray]
      simp [Lib.byteCells, hx])
  have h := Lib.run_unsafeString_row (P := Try.prog) (inked w s) 112 3 9 5 Try.underlying112 cells_u8 w.heap.size (byteRow s).size (by unfold World.shape?; rw [inked_at]) s.data.toList
    (fun e => h0 (by rw [← hlen, e]; rfl)) (by rw [size_byteRow, hlen]; exact Nat.le_refl _) (by omega) hrow
  rwa [hlen] at h

set_option maxRecDepth 100000 in
set_option maxHeartbeats 4000000 in
theorem copied_any (s : ByteArray) (w : World) (hlim : s.size ≤ 1048576) :
    Calls Try.prog 124 #[.string s] w fun e w' => e = .returned (.string s) ∧ Below w.heap.size w w' := by
  by_cases h0 : s.size = 0
  · obtain rfl : s = ⟨#[]⟩ := ByteArray.ext (Array.eq_empty_of_size_eq_zero h0)
    go_enter Try.func124, Try.ntmps124
    go_wp2
    go_ret
    exact ⟨rfl, Below.refl _ _⟩
  · have hB := hide (Lib.below_freeze (inked_below w s) (p := ⟨w.heap.size, 0, none⟩) (Nat.le_refl _) s.size)
    have r1 := fun w => zeroed_run w s hlim
    have r2 := inked_run w s
    have r3 := read_run w s h0 hlim
    have hZ : (zeroed w s).heap.size = w.heap.size + 1 := by simp [zeroed]
    have hI : (inked w s).heap.size = w.heap.size + 1 := by simp [inked, hZ]
    go_enter Try.func124, Try.ntmps124
    go_wp2
    go_ret
    exact ⟨rfl, hB.out⟩
set_option maxHeartbeats 1000000 in
theorem clone_any (u : List UInt8) (w : World) (hn : u.length ≤ 1048576) :
    Calls Try.prog 122 #[.string (bs u)] w fun e w' => e = .returned (.string (bs u)) ∧ Below w.heap.size w w' := by
  have hs : (bs u).size ≤ 1048576 := by rw [size_bs]; exact hn
  go_enter Try.func122, Try.ntmps122
  go_wp2_with fail
  refine (copied_any (bs u) _ hs).mono ?_
  rintro e w' ⟨rfl, b1⟩
  go_wp2
  go_ret
  exact ⟨rfl, b1⟩

set_option maxRecDepth 20000 in
set_option maxHeartbeats 2000000 in
theorem last_any (x y z : Int) (w : World) :
    Calls Try.prog 121 #[.agg #[.int .i64 x, .int .i64 y, .int .i64 z]] w fun e w' => e = .returned (.int .i64 (max3 x y z)) ∧ Below w.heap.size w w' := by
  have hB := (Below.refl w.heap.size w).alloc (Nat.le_refl _) (.cells #[.int .i64 x, .int .i64 y, .int .i64 z] 108)
  have hR := pl3_new w 108 x y z
  have a0 := World.rowIs.cell hR (i := 0) (by omega)
  have a1 := World.rowIs.cell hR (i := 1) (by omega)
  have a2 := World.rowIs.cell hR (i := 2) (by omega)
  rw [pl3_0] at a0
  rw [pl3_1] at a1
  rw [pl3_2] at a2
  clear hR
  go_enter Try.func121, Try.ntmps121
  go_wp2_with fail
  generalize w.alloc (.cells #[.int .i64 x, .int .i64 y, .int .i64 z] 108) = W at hB a0 a1 a2 ⊢
  go_wp2_with fail
  refine (max3_any x y z _ _ W a0 a1 a2).mono ?_
  rintro e w' ⟨rfl, rfl⟩
  go_wp2
  go_ret
  exact ⟨rfl, hB⟩

set_option maxRecDepth 20000 in
set_option maxHeartbeats 4000000 in
theorem iHeadOf_any (u : List UInt8) (w : World) (hn : u.length ≤ 1048576) :
    Calls Try.prog 117 #[.string (bs u)] w fun e w' => e = .returned (.tuple #[.string (bs (hdW u)), .string (bs (hlW u)), .bool (okW u)]) ∧ Below w.heap.size w w' := by
  have hsz := size_bs u
  cases hw : okW u
  · have HE := hide (hdW_not hw)
    have HL := hide (hlW_not hw)
    go_enter Try.func117, Try.ntmps117
    go_wp2_with fail
    refine (iWordOk_any u _ hn).mono ?_
    rw [hw]
    rintro e w' ⟨rfl, b1⟩
    go_wp2
    refine bodyPost_ret (results_tmp3 rfl _ _ _) rfl ?_
    rw [HE.out, HL.out]
    exact ⟨rfl, b1⟩
  · have HE := hide (hdW_ok hw)
    have HL := hide (hlW_ok hw)
    have HW := hide hw
    go_enter Try.func117, Try.ntmps117
    go_wp2_with fail
    refine (iWordOk_any u _ hn).mono ?_
    rw [hw]
    rintro e w1 ⟨rfl, b1⟩
    clear hw
    go_wp2_with fail
    refine (places_any u _ HW.out).mono ?_
    rintro e w2 ⟨x, y, z, ⟨hx, hy, hz⟩, rfl, b2⟩
    obtain ⟨a, ha, hlt, hH⟩ := max3_hd HW.out hx hy hz
    have HD := hide hH.eq
    clear hx hy hz hH
    go_wp2_with fail
    refine (last_any x y z _).mono ?_
    rw [ha]
    rintro e w3 ⟨rfl, b3⟩
    clear ha
    have B3 := hide ((b1.trans (b2.mono b1.size)).trans (b3.mono (b1.trans (b2.mono b1.size)).size))
    clear b1 b2 b3
    have hx1 := fun w => slice_to Try.underlying9 u (a : Int) a rfl (by omega) w
    have hx2 := fun w => slice_one Try.underlying9 u (a : Int) ((a : Int) + 1) a rfl rfl (by omega) w
    have i3 : IntKind.i64.wrap ((a : Int) + 1) = (a : Int) + 1 := IntWalk.i64_in _ ⟨by omega, by omega⟩
    have l1 : (u.take a).length ≤ 1048576 := by rw [List.length_take]; omega
    have l2 : [lt u a].length ≤ 1048576 := by simp
    go_wp2_with fail
    go_region_held3 (fun W => Below w3.heap.size w3 W)
      (first
        | exact (Below.refl _ _).drew
        | exact Below.trans (by assumption) (Below.mono (by assumption) (Below.size (by assumption))))
      (first
        | (go_at_call 122
           first
             | (refine (clone_any (u.take a) _ l1).mono ?_
                rintro e wa ⟨rfl, hba⟩)
             | (refine (clone_any [lt u a] _ l2).mono ?_
                rintro e wb ⟨rfl, hbb⟩)))
    go_wp2
    refine bodyPost_ret (results_tmp3 rfl _ _ _) rfl ?_
    rw [HE.out, HL.out, HD.out.1, HD.out.2]
    exact ⟨rfl, B3.out.trans (Below.mono (by assumption) B3.out.size)⟩
end Go.Proofs.Ythllbekoidogpaa

namespace Go.Proofs.Ythllbekoidogpaa
open Go.RowKit Go.Lib Go.Shelf
set_option linter.unusedVariables false
set_option linter.unusedSimpArgs false

/-- A rune as memory holds it. -/
abbrev rn (z : Int) : Value := .int .i32 z
/-- A word's letters as numbers. -/
def nums (u : List UInt8) : List Int := u.map fun c => ((c.toNat : Nat) : Int)
theorem len_nums (u : List UInt8) : (nums u).length = u.length := by simp [nums]
theorem runes_from {u : List UInt8} (h : ∀ j, j < u.length → okC (lt u j) = true) : ∀ (b i : Nat) (acc : Array Value), i ≤ u.length → u.length ≤ i + b → Conv.runesFrom (bs u) b i acc = acc ++ ((nums (u.drop i)).map rn).toArray
  | 0, i, acc, hi, hb => by
    have : u.drop i = [] := by rw [List.drop_eq_nil_iff]; omega
    rw [this]
    simp [Conv.runesFrom, nums]
  | b + 1, i, acc, hi, hb => by
    by_cases hlt : i < u.length
    · have e : lt u i = u[i] := by simp [lt, hlt]
      have hd : u.drop i = lt u i :: u.drop (i + 1) := by rw [e, List.drop_eq_getElem_cons hlt]
      have hs : i < (bs u).size := by rw [size_bs]; exact hlt
      have := runes_from h b (i + 1) (acc.push (.int .i32 (Int.ofNat (lt u i).toNat))) (by omega) (by omega)
      unfold Conv.runesFrom
      rw [if_pos hs, step_one hlt (h i hlt)]
      refine Eq.trans this ?_
      rw [hd]
      simp [nums, rn]
    · have : u.drop i = [] := by rw [List.drop_eq_nil_iff]; omega
      have hs : ¬ i < (bs u).size := by rw [size_bs]; exact hlt
      unfold Conv.runesFrom
      rw [if_neg hs, this]
      simp [nums]
theorem runes_of {u : List UInt8} (h : ∀ j, j < u.length → okC (lt u j) = true) : Conv.runesFrom (bs u) (bs u).size 0 #[] = ((nums u).map rn).toArray := by
  rw [runes_from h _ 0 #[] (Nat.zero_le _) (by rw [size_bs]; omega)]
  simp
theorem encode_ok {c : UInt8} (h : okC c = true) : Utf8.encode ((c.toNat : Nat) : Int) = bs [c] := by
  rcases okC_iff.1 h with rfl | rfl | rfl <;> kernel_rfl
theorem fold_ok : ∀ (v s : List UInt8), (∀ c, c ∈ v → okC c = true) → (nums v).foldl (fun r n => r ++ Utf8.encode n) (bs s) = bs (s ++ v)
  | [], s, _ => by simp [nums]
  | c :: v, s, h => by
    have hc := encode_ok (h c (by simp))
    have := fold_ok v (s ++ [c]) (fun d hd => h d (by simp [hd]))
    unfold nums at this ⊢
    rw [List.map_cons, List.foldl_cons, hc, app_bs, this]
    simp
theorem bytes_ok {v : List UInt8} (h : ∀ c, c ∈ v → okC c = true) : runesBytes (nums v) = bs v := by
  unfold runesBytes
  exact fold_ok v [] h

/-- Where the letter at k comes from when i letters from each end have changed places, of n letters. -/
def turnAt (n i k : Nat) : Nat := if k < n ∧ (k < i ∨ n ≤ k + i) then n - 1 - k else k
theorem turnAt_none (n k : Nat) : turnAt n 0 k = k := by unfold turnAt; split <;> omega
theorem turnAt_low {n i : Nat} (h : 2 * i + 1 < n) : turnAt n i i = i := by unfold turnAt; split <;> omega
theorem turnAt_high {n i : Nat} (h : 2 * i + 1 < n) : turnAt n i (n - 1 - i) = n - 1 - i := by unfold turnAt; split <;> omega
theorem turnAt_next {n i k : Nat} (h : 2 * i + 1 < n) : turnAt n (i + 1) k = if k = n - 1 - i then i else if k = i then n - 1 - i else turnAt n i k := by
  unfold turnAt
  by_cases h1 : k = n - 1 - i
  · rw [if_pos h1, if_pos (by omega)]; omega
  · rw [if_neg h1]
    by_cases h2 : k = i
    · rw [if_pos h2, if_pos (by omega)]; omega
    · rw [if_neg h2]
      by_cases h3 : k < n ∧ (k < i ∨ n ≤ k + i)
      · rw [if_pos h3, if_pos (by omega)]
      · rw [if_neg h3, if_neg (by omega)]
theorem turnAt_end {n i k : Nat} (h : n ≤ 2 * i + 1) (hk : k < n) : turnAt n i k = n - 1 - k := by
  unfold turnAt
  by_cases h3 : k < n ∧ (k < i ∨ n ≤ k + i)
  · rw [if_pos h3]
  · rw [if_neg h3]; omega

/-- A row of runes whose first n have changed places i times. -/
def Turning (W : World) (g : Nat) (t : TypeId) (m n i : Nat) (f : Nat → Int) : Prop := W.rowIs g t m fun k => rn (f (turnAt n i k))
theorem Turning.cell {W : World} {g m n i k : Nat} {t : TypeId} {f : Nat → Int} (h : Turning W g t m n i f) (hk : k < m) : W.cell? ⟨g, k, none⟩ = some (rn (f (turnAt n i k))) := World.rowIs.cell h hk
theorem Turning.swap {W : World} {g m n i : Nat} {t : TypeId} {f : Nat → Int} (h : Turning W g t m n i f) (hi : 2 * i + 1 < n) :
    Turning ((W.setCell ⟨g, i, none⟩ (rn (f (n - 1 - i)))).setCell ⟨g, n - 1 - i, none⟩ (rn (f i))) g t m n (i + 1) f :=
  ((World.rowIs.set h i _).set (n - 1 - i) _).congr fun k _ => by
    rw [turnAt_next hi]
    by_cases h1 : k = n - 1 - i
    · rw [if_pos h1, if_pos h1]
    · rw [if_neg h1, if_neg h1]
      by_cases h2 : k = i
      · rw [if_pos h2, if_pos h2]
      · rw [if_neg h2, if_neg h2]

set_option maxHeartbeats 1600000 in
set_option maxRecDepth 1000000 in
theorem turned_any (g m n cap : Nat) (t : TypeId) (f : Nat → Int) (w : World) (hR : Turning w g t m n 0 f) (hm : n ≤ m) (hn : n ≤ 1048576) :
    Calls Try.prog 63 #[.slice (some ⟨g, 0, none⟩) n cap] w fun e w' => e = .returned (.tuple #[]) ∧ Only g (g + 1) w w' ∧ ∃ i, n ≤ 2 * i + 1 ∧ Turning w' g t m n i f := by
  have mixed : Try.prog.follows .mixedOrders = true := by kernel_rfl
  go_enter Try.func63, Try.ntmps63
  go_wp2
  go_loopg [2, 3] n (fun b s2 s3 wr => ∃ i : Nat, i ≤ n ∧ Hid (b = n - i) ∧ s2 = .int .i64 i ∧ s3 = .int .i64 ((n : Int) - 1 - i) ∧ Turning wr g t m n i f ∧ Only g (g + 1) w wr)
  case atStart => exact ⟨0, Nat.zero_le _, rfl, rfl, by congr 1; omega, hR, Only.refl _ _ _⟩
  case round =>
    obtain ⟨i, hi, hb, rfl, rfl, hT, hO⟩ := hrel
    by_cases hlt : 2 * i + 1 < n
    · have hc1 : wr.cell? ⟨g, i, none⟩ = some (rn (f i)) := by rw [hT.cell (by omega), turnAt_low hlt]
      have hc2 : wr.cell? ⟨g, n - 1 - i, none⟩ = some (rn (f (n - 1 - i))) := by rw [hT.cell (by omega), turnAt_high hlt]
      have hf1 := World.rowIs.frozen hT i
      have hf2 := World.rowIs.frozen hT (n - 1 - i)
      have hS := hT.swap hlt
      have hO2 := (((hO.drewN 1).setCell (p := ⟨g, i, none⟩) (Nat.le_refl _) (Nat.lt_succ_self _) (rn (f (n - 1 - i)))).setCell (p := ⟨g, n - 1 - i, none⟩) (Nat.le_refl _) (Nat.lt_succ_self _) (rn (f i)))
      have hz : ((n : Int) - 1 - i) = ((n - 1 - i : Nat) : Int) := by omega
      rw [hz]
      have HN := hide (show n - 1 - i + i + 1 = n by omega)
      have hjn : n - 1 - i < n := by omega
      have hij : i < n - 1 - i := by omega
      clear hT hO hR hz
      generalize n - 1 - i = j at *
      have HS := hide hS
      have HO := hide hO2
      clear hS hO2
      go_wp2_with fail
      go_region_o
      go_wp2
      go_roundg (n - (i + 1))
      case measure => have := hb.out; omega
      case rel => exact ⟨i + 1, by omega, rfl, by simp, by have := HN.out; congr 1; omega, HS.out, HO.out⟩
    · go_wp2
      go_end0
      exact ⟨rfl, hO, i, by omega, hT⟩
/-- What a word's conversion to runes lays: its numbers, and zeros behind them. -/
theorem turning_new (w : World) (xs : List Int) (n : Nat) (t : TypeId) : Turning (w.alloc (.cells ((xs.map rn).toArray ++ Array.replicate n (.int .i32 0)) t)) w.heap.size t (xs.length + n) xs.length 0 (fun k => xs.getD k 0) := by
  have h := World.rowIs_alloc w ((xs.map rn).toArray ++ Array.replicate n (.int .i32 0)) t (fun k => rn (xs.getD (turnAt xs.length 0 k) 0)) (fun k hk => by
    rw [turnAt_none]
    by_cases hlt : k < xs.length
    · rw [Array.getElem?_append_left (by simpa using hlt)]
      simp [List.getD, hlt]
    · have hs : k < xs.length + n := by simpa using hk
      rw [Array.getElem?_append_right (by simpa using hlt)]
      simp [List.getD, hlt, show k - xs.length < n by omega])
  have e : ((xs.map rn).toArray ++ Array.replicate n (Value.int .i32 0)).size = xs.length + n := by simp
  rw [e] at h
  exact h
/-- When all have changed places, the row holds the numbers of the word turned round. -/
theorem turned_cell {W : World} {g m i : Nat} {t : TypeId} {xs : List Int} (h : Turning W g t m xs.length i (fun k => xs.getD k 0)) (hm : xs.length ≤ m) (hi : xs.length ≤ 2 * i + 1) (j : Nat) (hj : j < xs.reverse.length) :
    W.cell? (Addr.add ⟨g, 0, none⟩ j) = some (.int .i32 (xs.reverse.getD j 0)) := by
  have hj2 : j < xs.length := by simpa using hj
  have e : (Addr.add ⟨g, 0, none⟩ j) = ⟨g, j, none⟩ := by simp [Addr.add]; omega
  rw [e, h.cell (by omega), turnAt_end hi hj2]
  have : xs.reverse.getD j 0 = xs.getD (xs.length - 1 - j) 0 := by
    simp [List.getD, List.getElem?_reverse hj2]
  rw [this]

set_option maxRecDepth 20000 in
set_option maxHeartbeats 4000000 in
theorem iRoundOf_any (u : List UInt8) (w : World) (hn : u.length ≤ 1048576) :
    Calls Try.prog 25 #[.string (bs u)] w fun e w' => e = .returned (.string (bs (rndW u))) ∧ Below w.heap.size w w' := by
  have hsz := size_bs u
  cases hw : okW u
  · have HE := hide (rndW_not hw)
    go_enter Try.func25, Try.ntmps25
    go_wp2_with fail
    refine (iWordOk_any u _ hn).mono ?_
    rw [hw]
    rintro e w' ⟨rfl, b1⟩
    go_wp2
    go_ret
    rw [HE.out]
    exact ⟨rfl, b1⟩
  · have HE := hide (rndW_ok hw)
    have HW := hide hw
    go_enter Try.func25, Try.ntmps25
    go_wp2_with fail
    refine (iWordOk_any u _ hn).mono ?_
    rw [hw]
    rintro e w1 ⟨rfl, b1⟩
    clear hw
    have hr := runes_of (u := u) fun j hj => okW_ok HW.out hj
    have hz : (Conv.runesFrom (bs u) (bs u).size 0 #[]).size = u.length := by rw [hr]; simp [len_nums]
    have hcv : (convert 9 64 (.string (bs u))).run Try.prog w1 = _ := run_runes_of_string w1 9 64 21 (bs u) Try.underlying9 Try.underlying64 Try.underlying21 (by omega)
    rw [hz, hr] at hcv
    obtain ⟨cp, hcp⟩ : ∃ c, c = grownCap w1 u.length 0 21 := ⟨_, rfl⟩
    rw [← hcp] at hcv
    have hl : (nums u).length = u.length := len_nums u
    have hT := turning_new w1.drew (nums u) (cp - u.length) 21
    have hB := (Below.refl w1.heap.size w1).drew.alloc (Nat.le_refl w1.heap.size) (.cells (((nums u).map rn).toArray ++ Array.replicate (cp - u.length) (.int .i32 0)) 21)
    obtain ⟨W, hW⟩ : ∃ W, W = w1.drew.alloc (.cells (((nums u).map rn).toArray ++ Array.replicate (cp - u.length) (.int .i32 0)) 21) := ⟨_, rfl⟩
    rw [← hW] at hcv hT hB
    clear hW hcp hr hz
    go_wp2_with fail
    refine (show Calls _ _ #[.slice (some ⟨w1.heap.size, 0, none⟩) u.length cp] W _ from (by have := turned_any w1.heap.size _ _ cp _ _ W hT (by omega) (by omega); rw [hl] at this; exact this)).mono ?_
    rintro e w2 ⟨rfl, hO, i, hi, hT2⟩
    have hB2 : Below w1.heap.size W w2 := hO.below (Nat.le_refl _) hB.size
    have hst : (convert 64 9 (.slice (some ⟨w1.heap.size, 0, none⟩) u.length cp)).run Try.prog w2 = .ok (.string (bs u.reverse)) w2 := by
      rw [← hl] at hi hT2
      rw [run_convert_runes w2 64 9 21 ⟨w1.heap.size, 0, none⟩ u.length cp (nums u).reverse (by simp [hl]) Try.underlying64 Try.underlying21 Try.underlying9 (fun j hj => turned_cell hT2 (by omega) hi j hj)]
      have e1 : (nums u).reverse.take u.length = nums u.reverse := by
        rw [List.take_of_length_le (by simp [hl])]
        simp [nums]
      rw [e1, bytes_ok fun c hc => (okW_iff.1 HW.out).1 c (by simpa using hc)]
    clear hT hT2 hcv hO hi
    go_wp2
    go_ret
    rw [HE.out]
    exact ⟨rfl, b1.trans ((hB.trans hB2).mono b1.size)⟩

set_option maxHeartbeats 2000000 in
theorem iTailOf_any (u : List UInt8) (w : World) (hn : u.length ≤ 1048576) :
    Calls Try.prog 118 #[.string (bs u)] w fun e w' => e = .returned (.tuple #[.string (bs (llW u)), .string (bs (tlW u)), .bool (okW u)]) ∧ Below w.heap.size w w' := by
  cases hw : okW u
  · have HE := hide (llW_not hw)
    have HL := hide (tlW_not hw)
    go_enter Try.func118, Try.ntmps118
    go_wp2_with fail
    refine (iRoundOf_any u _ hn).mono ?_
    rw [rndW_not hw]
    rintro e w1 ⟨rfl, b1⟩
    go_wp2_with fail
    refine (iHeadOf_any [] _ (by simp)).mono ?_
    rw [show okW [] = false from rfl, hdW_not rfl, hlW_not rfl]
    rintro e w2 ⟨rfl, b2⟩
    go_wp2_with fail
    refine (iRoundOf_any [] _ (by simp)).mono ?_
    rw [rndW_not rfl]
    rintro e w3 ⟨rfl, b3⟩
    go_wp2
    refine bodyPost_ret (results_tmp3 rfl _ _ _) rfl ?_
    rw [HE.out, HL.out]
    have b12 := b1.trans (b2.mono b1.size)
    exact ⟨rfl, b12.trans (b3.mono b12.size)⟩
  · have HE := hide (llW_ok hw)
    have HL := hide (tlW_ok hw)
    have HT := hide (rnd_hd hw)
    have hr : okW u.reverse = true := by rw [okW_rev]; exact hw
    have hl : (hd u.reverse).length ≤ 1048576 := by have := hd_lt (okW_ne hr); rw [List.length_reverse] at this; omega
    go_enter Try.func118, Try.ntmps118
    go_wp2_with fail
    refine (iRoundOf_any u _ hn).mono ?_
    rw [rndW_ok hw]
    rintro e w1 ⟨rfl, b1⟩
    go_wp2_with fail
    refine (iHeadOf_any u.reverse _ (by rw [List.length_reverse]; exact hn)).mono ?_
    rw [hr, hdW_ok hr, hlW_ok hr]
    rintro e w2 ⟨rfl, b2⟩
    clear hw hr
    go_wp2_with fail
    refine (iRoundOf_any (hd u.reverse) _ hl).mono ?_
    rw [HT.out]
    rintro e w3 ⟨rfl, b3⟩
    go_wp2
    refine bodyPost_ret (results_tmp3 rfl _ _ _) rfl ?_
    rw [HE.out, HL.out]
    have b12 := b1.trans (b2.mono b1.size)
    exact ⟨rfl, b12.trans (b3.mono b12.size)⟩
end Go.Proofs.Ythllbekoidogpaa

namespace Go.Proofs.Ythllbekoidogpaa
open Go.RowKit Go.Lib
set_option linter.unusedVariables false
set_option linter.unusedSimpArgs false

theorem arow_iterAt {W : World} {base g : Nat} {s : ByteArray} {p : Nat} {v : Value} {xs : List Int} (h : ARow base W v xs) (hI : W.heap[g]? = some (.stringIter s p)) (p' : Nat) : ARow base (W.iterAt g s p') v xs := by
  obtain ⟨h1, h2⟩ := h
  refine ⟨h1, h2.imp id ?_⟩
  rintro ⟨b, cap, cur, hv, hg, hh, r⟩
  refine ⟨b, cap, cur, hv, hg, (Lib.iterAt_other W g b s p' (fun e => ?_)).trans hh, r⟩
  rw [e, hI] at hh
  cases hh

set_option maxRecDepth 20000 in
set_option maxHeartbeats 4000000 in
theorem valued_any (A : Option Addr) (c lo hi p q : Nat) (T : List (List Int)) (u : List UInt8) (x y z : Int) (w : World) (h : Mat w lo hi A T) (hh : hi ≤ w.heap.size) (k : IsT T) (hw : okW u = true) (hx : inT T x = true) (hy : inT T y = true) (hz : inT T z = true)
    (p0 : w.cell? ⟨p, 0, none⟩ = some (.int .i64 x)) (p1 : w.cell? ⟨p, 1, none⟩ = some (.int .i64 y)) (p2 : w.cell? ⟨p, 2, none⟩ = some (.int .i64 z)) (hq : w.cell? ⟨q, 0, none⟩ = some (.slice A T.length c)) :
    Calls Try.prog 100 #[.string (bs u), .pointer (some ⟨p, 0, none⟩), .pointer (some ⟨q, 0, none⟩)] w fun e w' => e = .returned (.int .i64 (prodT T (u.map (ltf x y z)))) ∧ Below w.heap.size w w' := by
  have hsz := size_bs u
  have hok := hide (okW_iff.1 hw)
  have hln : u.length ≤ 24 := hok.out.2.2
  have hl1 : 1 ≤ u.length := hok.out.2.1
  have lp := World.block_lt_of_cell? _ _ p0
  have lq := World.block_lt_of_cell? _ _ hq
  have hfin : ∀ b, 0 ≤ ltf x y z b ∧ ltf x y z b < T.length := fun b => by
    have e : ∀ {v : Int}, inT T v = true → 0 ≤ v ∧ v < T.length := fun hv => by
      obtain ⟨a, rfl, ha⟩ := inT_iff.1 hv
      omega
    unfold ltf
    split
    · exact e hx
    · split
      · exact e hy
      · exact e hz
  have hall : ∀ j, j < (u.map (ltf x y z)).length → 0 ≤ el (u.map (ltf x y z)) j ∧ el (u.map (ltf x y z)) j < T.length := fun j hj => by
    have hj2 : j < u.length := by simpa using hj
    have : el (u.map (ltf x y z)) j = ltf x y z u[j] := by simp [el, hj2]
    rw [this]
    exact hfin _
  have HALL := hide hall
  have HPR := hide (prodT_ok (T := T) (xs := u.map (ltf x y z)) (okT_iff.2 k) (by rw [List.length_map]; omega) (okRow_iff.2 hall))
  clear hw hfin hx hy hz hall
  go_enter Try.func100, Try.ntmps100
  go_wp2
  go_loopg [5] u.length (fun g v wr => ∃ j : Nat, j ≤ u.length ∧ Hid (g = u.length - j) ∧ ARow (w.heap.size + 1) wr v (vrow (ltf x y z) u j) ∧ wr.heap[w.heap.size]? = some (.stringIter (bs u) j) ∧ Below w.heap.size w wr)
  case atStart => exact ⟨0, Nat.zero_le _, rfl, ARow.nil_ _ _, World.iter_heap _ _ _, (Below.refl _ w).alloc (Nat.le_refl _) _⟩
  case round =>
    obtain ⟨j, hj, hg, hR, hI, hB⟩ := hrel
    by_cases hlt : j < u.length
    · have hp : j < (bs u).size := by omega
      have hc1 := hok.out.1 _ (lt_mem hlt)
      have hst := step_one hlt hc1
      have hnx : ∀ ty, (Instr.next (.pointer (some ⟨w.heap.size, 0, none⟩)) true ty).run Try.prog wr = .ok (.tuple #[.bool true, .int .i64 j, .int .i32 (((lt u j).toNat : Nat) : Int)]) (wr.iterAt w.heap.size (bs u) (j + 1)) := fun ty => by
        rw [Lib.run_next_any_at wr w.heap.size (bs u) j ty hI hp, hst]
      have hI1 := Lib.iterAt_heap wr w.heap.size (bs u) j (j + 1) hI
      have hR1 := arow_iterAt hR hI (j + 1)
      have hB1 := Lib.below_iterAt hB (Nat.le_refl _) (bs u) (j + 1)
      have hs1 : w.heap.size + 1 ≤ (wr.iterAt w.heap.size (bs u) (j + 1)).heap.size := (Array.getElem?_eq_some_iff.1 hI1).1
      generalize wr.iterAt w.heap.size (bs u) (j + 1) = W at hnx hI1 hR1 hB1 hs1
      clear hst hR hI hB
      obtain ⟨cc, hc⟩ : ∃ cc, cc = lt u j := ⟨_, rfl⟩
      have HC := hide (congrArg (ltf x y z) hc)
      have HM := hide (vrow_succ (f := ltf x y z) hlt)
      rw [← hc] at hnx hc1
      clear hc
      have hl : (vrow (ltf x y z) u j).length ≤ 1048576 := by rw [len_vrow hj]; omega
      obtain ⟨Ar, cr, rfl, -, -, -⟩ := hR1.val
      rw [len_vrow hj] at hR1 ⊢
      have q0 := (hB1.cell (p := ⟨p, 0, none⟩) lp).trans p0
      have q1 := (hB1.cell (p := ⟨p, 1, none⟩) lp).trans p1
      have q2 := (hB1.cell (p := ⟨p, 2, none⟩) lp).trans p2
      clear p0 p1 p2
      rcases okC_iff.1 hc1 with rfl | rfl | rfl
      · have HF := hide (show ltf x y z 97 = x from rfl)
        go_wp2_with fail
        refine (num_any 97 W (by decide)).mono ?_
        rintro e w1 ⟨rfl, rfl⟩
        go_wp2_with (at_builtin; refine wp_app_int rfl (.tmp 13) (.tmp 18) rfl (w.heap.size + 1) _ _ _ 1 rfl rfl hR1 hl hs1 ?_; intro v2 w2 hown2 hg2)
        have hb2 := hR1.belowOf hg2 (Nat.le_refl _) hs1
        go_roundg (u.length - (j + 1))
        case measure => go_light; have := hg.out; omega
        case rel => go_light; exact ⟨j + 1, hlt, rfl, by rw [← HM.out, ← HC.out, HF.out]; exact hown2, (hb2.block w.heap.size (by omega)).trans hI1, hB1.trans (hb2.mono (by omega))⟩
      · have HF := hide (show ltf x y z 98 = y from rfl)
        go_wp2_with fail
        refine (num_any 98 W (by decide)).mono ?_
        rintro e w1 ⟨rfl, rfl⟩
        go_wp2_with (at_builtin; refine wp_app_int rfl (.tmp 13) (.tmp 18) rfl (w.heap.size + 1) _ _ _ 1 rfl rfl hR1 hl hs1 ?_; intro v2 w2 hown2 hg2)
        have hb2 := hR1.belowOf hg2 (Nat.le_refl _) hs1
        go_roundg (u.length - (j + 1))
        case measure => go_light; have := hg.out; omega
        case rel => go_light; exact ⟨j + 1, hlt, rfl, by rw [← HM.out, ← HC.out, HF.out]; exact hown2, (hb2.block w.heap.size (by omega)).trans hI1, hB1.trans (hb2.mono (by omega))⟩
      · have HF := hide (show ltf x y z 99 = z from rfl)
        go_wp2_with fail
        refine (num_any 99 W (by decide)).mono ?_
        rintro e w1 ⟨rfl, rfl⟩
        go_wp2_with (at_builtin; refine wp_app_int rfl (.tmp 13) (.tmp 18) rfl (w.heap.size + 1) _ _ _ 1 rfl rfl hR1 hl hs1 ?_; intro v2 w2 hown2 hg2)
        have hb2 := hR1.belowOf hg2 (Nat.le_refl _) hs1
        go_roundg (u.length - (j + 1))
        case measure => go_light; have := hg.out; omega
        case rel => go_light; exact ⟨j + 1, hlt, rfl, by rw [← HM.out, ← HC.out, HF.out]; exact hown2, (hb2.block w.heap.size (by omega)).trans hI1, hB1.trans (hb2.mono (by omega))⟩
    · obtain rfl : u.length = j := by omega
      have hnx : ∀ ty, (Instr.next (.pointer (some ⟨w.heap.size, 0, none⟩)) true ty).run Try.prog wr = .ok (.tuple #[.bool false]) wr := fun ty => Lib.run_next_end_at wr w.heap.size (bs u) u.length ty hI (by omega)
      have hl : (vrow (ltf x y z) u u.length).length = u.length := len_vrow (Nat.le_refl _)
      obtain ⟨Ar, cr, rfl, hc1, hc2, hRo⟩ := hR.val
      rw [hl] at hc1 ⊢
      rw [vrow_all] at hRo
      have hqq := (hB.cell (p := ⟨q, 0, none⟩) lq).trans hq
      have hm := h.below hB hh
      have hs := hB.size
      clear hR hI p0 p1 p2 hq h
      go_wp2_with fail
      refine (show Calls _ _ #[.slice Ar u.length cr, .func (.func 62) #[.agg #[.slice A T.length c]] #[]] wr _ from (by have := folded_any A Ar c cr lo hi _ _ T (u.map (ltf x y z)) wr hm (Nat.le_trans hh hs) k hRo (Nat.le_refl _) HALL.out (by rw [List.length_map]; omega) (by rw [List.length_map]; omega) (by rw [List.length_map]; exact hc1) hc2; rw [List.length_map] at this; exact this)).mono ?_
      rintro e w1 ⟨rfl, b1⟩
      go_wp2
      go_ret
      exact ⟨ret_int (by rw [HPR.out, List.length_map]), hB.trans (b1.mono hs)⟩

set_option maxRecDepth 20000 in
set_option maxHeartbeats 2000000 in
theorem valuing_any (A : Option Addr) (c n : Nat) (x y z : Int) (w : World) :
    Calls Try.prog 81 #[.agg #[.slice A n c], .agg #[.int .i64 x, .int .i64 y, .int .i64 z]] w fun e w' => ∃ p q : Nat, e = .returned (.func (.func 100) #[] #[.pointer (some ⟨p, 0, none⟩), .pointer (some ⟨q, 0, none⟩)]) ∧ Below w.heap.size w w' ∧
      w'.cell? ⟨p, 0, none⟩ = some (.int .i64 x) ∧ w'.cell? ⟨p, 1, none⟩ = some (.int .i64 y) ∧ w'.cell? ⟨p, 2, none⟩ = some (.int .i64 z) ∧ w'.cell? ⟨q, 0, none⟩ = some (.slice A n c) := by
  have b0 := (Below.refl w.heap.size w).alloc (Nat.le_refl _) (.cells #[.slice A n c] 61)
  have q0 : (w.alloc (.cells #[.slice A n c] 61)).cell? ⟨w.heap.size, 0, none⟩ = some (.slice A n c) := by simp
  have z0 : (w.alloc (.cells #[.slice A n c] 61)).heap.size = w.heap.size + 1 := by simp
  go_enter Try.func81, Try.ntmps81
  go_wp2
  go_ret
  generalize w.alloc (.cells #[.slice A n c] 61) = w0 at b0 q0 z0 ⊢
  have b1 := (Below.refl w0.heap.size w0).alloc (Nat.le_refl _) (.cells #[.int .i64 x, .int .i64 y, .int .i64 z] 84)
  have hR := pl3_new w0 84 x y z
  have q1 := (b1.cell (p := ⟨w.heap.size, 0, none⟩) (by show w.heap.size < _; omega)).trans q0
  rw [z0] at hR
  exact ⟨w.heap.size + 1, w.heap.size, rfl, b0.trans (b1.mono (by omega)), World.rowIs.cell hR (i := 0) (by omega), World.rowIs.cell hR (i := 1) (by omega), World.rowIs.cell hR (i := 2) (by omega), q1⟩

end Go.Proofs.Ythllbekoidogpaa

namespace Go.Proofs.Ythllbekoidogpaa
open Go.RowKit
set_option linter.unusedVariables false

set_option maxHeartbeats 2000000 in
theorem iLettersIn_any (u : List UInt8) (w : World) (hn : u.length ≤ 1048576) :
    Calls Try.prog 107 #[.string (bs u)] w fun e w' => e = .returned (.int .i64 (letN u)) ∧ Below w.heap.size w w' := by
  cases hw : okW u
  · have HE := hide (letN_not hw)
    go_enter Try.func107, Try.ntmps107
    go_wp2_with fail
    refine (iWordOk_any u _ hn).mono ?_
    rw [hw]
    rintro e w' ⟨rfl, b1⟩
    go_wp2
    go_ret
    exact ⟨ret_int HE.out.symm, b1⟩
  · have HE := hide (letN_ok hw)
    have HW := hide hw
    go_enter Try.func107, Try.ntmps107
    go_wp2_with fail
    refine (iWordOk_any u _ hn).mono ?_
    rw [hw]
    rintro e w1 ⟨rfl, b1⟩
    clear hw
    go_wp2_with fail
    refine (places_any u _ HW.out).mono ?_
    rintro e w2 ⟨x, y, z, ⟨hx, hy, hz⟩, rfl, b2⟩
    have HL := hide (letsN_ltr hx hy hz)
    clear hx hy hz
    go_wp2_with fail
    refine (letters_any x y z _).mono ?_
    rw [HL.out]
    rintro e w3 ⟨rfl, b3⟩
    go_wp2
    go_ret
    have b12 := b1.trans (b2.mono b1.size)
    exact ⟨ret_int HE.out.symm, b12.trans (b3.mono b12.size)⟩
end Go.Proofs.Ythllbekoidogpaa
