
/- What the array of three places tells: which letters there are, and the last place; a copy of a text: the landed code's, and the library's that it calls. -/
import Derived.Test.YtjpdfkmlcjkcmaaIwordB
import Derived.Lib.Walk
import Derived.Lib.BufferWrite
import Derived.Lib.UnsafeStr
import Derived.Lib.Strings
import Derived.Laws.MakeOwn
namespace Go.Proofs.Ytjpdfkmlcjkcmaa
open Go.RowKit Go.Lib
set_option linter.unusedVariables false
set_option linter.unusedSimpArgs false

theorem at3_0 (x y z : Int) (w : World) : (Instr.index 48 (.agg #[.int .i64 x, .int .i64 y, .int .i64 z]) (.int .i64 0)).run Try.prog w = .ok (.int .i64 x) w := by kernel_rfl
theorem at3_1 (x y z : Int) (w : World) : (Instr.index 48 (.agg #[.int .i64 x, .int .i64 y, .int .i64 z]) (.int .i64 1)).run Try.prog w = .ok (.int .i64 y) w := by kernel_rfl
theorem at3_2 (x y z : Int) (w : World) : (Instr.index 48 (.agg #[.int .i64 x, .int .i64 y, .int .i64 z]) (.int .i64 2)).run Try.prog w = .ok (.int .i64 z) w := by kernel_rfl
/-- The letters under way. -/
def letsP (x y z : Int) (k : Nat) : Nat := (if 1 ≤ k ∧ x ≠ -1 then 1 else 0) ||| (if 2 ≤ k ∧ y ≠ -1 then 2 else 0) ||| (if 3 ≤ k ∧ z ≠ -1 then 4 else 0)
theorem letsP_3 (x y z : Int) : letsP x y z 3 = letsN x y z := by
  unfold letsP letsN
  by_cases h1 : x = -1 <;> by_cases h2 : y = -1 <;> by_cases h3 : z = -1 <;> simp [h1, h2, h3]
theorem letsP_0 (x y z : Int) : letsP x y z 0 = 0 := by simp [letsP]
theorem letsP_lt (x y z : Int) (k : Nat) : letsP x y z k < 2 ^ 31 := by
  unfold letsP
  refine Nat.or_lt_two_pow (Nat.or_lt_two_pow ?_ ?_) ?_ <;> split <;> decide
theorem letsP_a {x : Int} (y z : Int) (h : x = -1) : letsP x y z 0 = letsP x y z 1 := by simp [letsP, h]
theorem letsP_b {y : Int} (x z : Int) (h : y = -1) : letsP x y z 1 = letsP x y z 2 := by simp [letsP, h]
theorem letsP_c {z : Int} (x y : Int) (h : z = -1) : letsP x y z 2 = letsP x y z 3 := by simp [letsP, h]
theorem letsP_A {x : Int} (y z : Int) (h : x ≠ -1) : letsP x y z 0 ||| 1 = letsP x y z 1 := by simp [letsP, h]
theorem letsP_B {y : Int} (x z : Int) (h : y ≠ -1) : letsP x y z 1 ||| 2 = letsP x y z 2 := by simp [letsP, h]
theorem letsP_C {z : Int} (x y : Int) (h : z ≠ -1) : letsP x y z 2 ||| 4 = letsP x y z 3 := by simp [letsP, h]

set_option maxRecDepth 20000 in
set_option maxHeartbeats 4000000 in
theorem letters_any (x y z : Int) (w : World) :
    Calls Try.prog 45 #[.agg #[.int .i64 x, .int .i64 y, .int .i64 z]] w fun e w' => e = .returned (.int .i64 ((letsN x y z : Nat) : Int)) ∧ Below w.heap.size w w' := by
  have hB := (Below.refl w.heap.size w).alloc (Nat.le_refl _) (.cells #[.int .i64 x, .int .i64 y, .int .i64 z] 48)
  have hR := pl3_new w 48 x y z
  have a0 := World.rowIs.cell hR (i := 0) (by omega)
  have a1 := World.rowIs.cell hR (i := 1) (by omega)
  have a2 := World.rowIs.cell hR (i := 2) (by omega)
  rw [pl3_0] at a0
  rw [pl3_1] at a1
  rw [pl3_2] at a2
  clear hR
  have i0 := at3_0 x y z
  have i1 := at3_1 x y z
  have i2 := at3_2 x y z
  go_enter Try.func45, Try.ntmps45
  go_wp2_with fail
  generalize w.alloc (.cells #[.int .i64 x, .int .i64 y, .int .i64 z] 48) = W at hB a0 a1 a2 ⊢
  go_wp2
  go_loopg [7, 3] 3 (fun g i s wr => ∃ k : Nat, k ≤ 3 ∧ Hid (g = 3 - k) ∧ i = .int .i64 k ∧ s = .int .i64 ((letsP x y z k : Nat) : Int) ∧ W = wr)
  case atStart => exact ⟨0, Nat.zero_le _, rfl, rfl, by rw [letsP_0]; rfl, rfl⟩
  case round =>
    obtain ⟨k, hk, hg, rfl, rfl, rfl⟩ := hrel
    obtain rfl | rfl | rfl | rfl : k = 0 ∨ k = 1 ∨ k = 2 ∨ k = 3 := by omega
    · have hl := letsP_lt x y z 0
      by_cases he : x = -1
      · have HN := hide (letsP_a y z he)
        have hq : (x != (-1 : Int)) = false := by rw [he]; rfl
        have hq1 : (x == (-1 : Int)) = true := by rw [he]; rfl
        clear he
        go_wp2
        go_roundg (3 - 1)
        case measure => go_light; have := hg.out; omega
        case rel => go_light; exact ⟨1, by omega, rfl, rfl, by rw [HN.out], rfl⟩
      · have HN := hide (letsP_A y z he)
        have hor : bits .or .i64 ((letsP x y z 0 : Nat) : Int) 1 = ((letsP x y z 0 ||| 1 : Nat) : Int) := bits_or31 hl (by decide)
        have hq1 : (x == (-1 : Int)) = false := beq_eq_false_iff_ne.2 he
        have hq : (x != (-1 : Int)) = true := by rw [bne, hq1]; rfl
        clear he
        go_wp2
        go_roundg (3 - 1)
        case measure => go_light; have := hg.out; omega
        case rel => go_light; exact ⟨1, by omega, rfl, rfl, by rw [← HN.out], rfl⟩
    · have hl := letsP_lt x y z 1
      by_cases he : y = -1
      · have HN := hide (letsP_b x z he)
        have hq : (y != (-1 : Int)) = false := by rw [he]; rfl
        have hq1 : (y == (-1 : Int)) = true := by rw [he]; rfl
        clear he
        go_wp2
        go_roundg (3 - 2)
        case measure => go_light; have := hg.out; omega
        case rel => go_light; exact ⟨2, by omega, rfl, rfl, by rw [HN.out], rfl⟩
      · have HN := hide (letsP_B x z he)
        have hor : bits .or .i64 ((letsP x y z 1 : Nat) : Int) 2 = ((letsP x y z 1 ||| 2 : Nat) : Int) := bits_or31 hl (by decide)
        have hq1 : (y == (-1 : Int)) = false := beq_eq_false_iff_ne.2 he
        have hq : (y != (-1 : Int)) = true := by rw [bne, hq1]; rfl
        clear he
        go_wp2
        go_roundg (3 - 2)
        case measure => go_light; have := hg.out; omega
        case rel => go_light; exact ⟨2, by omega, rfl, rfl, by rw [← HN.out], rfl⟩
    · have hl := letsP_lt x y z 2
      by_cases he : z = -1
      · have HN := hide (letsP_c x y he)
        have hq : (z != (-1 : Int)) = false := by rw [he]; rfl
        have hq1 : (z == (-1 : Int)) = true := by rw [he]; rfl
        clear he
        go_wp2
        go_roundg (3 - 3)
        case measure => go_light; have := hg.out; omega
        case rel => go_light; exact ⟨3, by omega, rfl, rfl, by rw [HN.out], rfl⟩
      · have HN := hide (letsP_C x y he)
        have hor : bits .or .i64 ((letsP x y z 2 : Nat) : Int) 4 = ((letsP x y z 2 ||| 4 : Nat) : Int) := bits_or31 hl (by decide)
        have hq1 : (z == (-1 : Int)) = false := beq_eq_false_iff_ne.2 he
        have hq : (z != (-1 : Int)) = true := by rw [bne, hq1]; rfl
        clear he
        go_wp2
        go_roundg (3 - 3)
        case measure => go_light; have := hg.out; omega
        case rel => go_light; exact ⟨3, by omega, rfl, rfl, by rw [← HN.out], rfl⟩
    · have HN := hide (letsP_3 x y z)
      go_wp2
      go_ret
      rw [HN.out]
      exact ⟨rfl, hB⟩

set_option maxRecDepth 20000 in
set_option maxHeartbeats 4000000 in
theorem max3_any (x y z : Int) (g c : Nat) (W : World) (a0 : W.cell? ⟨g, 0, none⟩ = some (.int .i64 x)) (a1 : W.cell? ⟨g, 1, none⟩ = some (.int .i64 y)) (a2 : W.cell? ⟨g, 2, none⟩ = some (.int .i64 z)) :
    Calls Try.prog 63 #[.slice (some ⟨g, 0, none⟩) 3 c] W fun e w' => e = .returned (.int .i64 (max3 x y z)) ∧ W = w' := by
  obtain ⟨m2, h2⟩ : ∃ m, m = max x y := ⟨_, rfl⟩
  have e3 : max3 x y z = max m2 z := by rw [h2]; rfl
  rw [e3]
  have H2 := hide h2
  clear h2 e3
  go_enter Try.func63, Try.ntmps63
  go_wp2
  go_loopg [4, 3] 3 (fun g i m wr => ∃ k : Nat, 1 ≤ k ∧ k ≤ 3 ∧ Hid (g = 4 - k) ∧ i = .int .i64 k ∧ m = .int .i64 (if k = 1 then x else if k = 2 then m2 else max m2 z) ∧ W = wr)
  case atStart => exact ⟨1, Nat.le_refl _, by omega, rfl, rfl, rfl, rfl⟩
  case round =>
    obtain ⟨k, hk1, hk, hg, rfl, rfl, rfl⟩ := hrel
    obtain rfl | rfl | rfl : k = 1 ∨ k = 2 ∨ k = 3 := by omega
    · simp only [if_true]
      go_wp2
      go_roundg 2
      case measure => go_light; have := hg.out; omega
      case rel => go_light; exact ⟨2, by omega, by omega, rfl, rfl, by rw [H2.out]; simp, rfl⟩
    · simp only [show ¬ (2 : Nat) = 1 from by decide, if_true, if_false]
      go_wp2
      go_roundg 1
      case measure => go_light; have := hg.out; omega
      case rel => go_light; exact ⟨3, by omega, by omega, rfl, rfl, by simp, rfl⟩
    · simp only [show ¬ (3 : Nat) = 1 from by decide, show ¬ (3 : Nat) = 2 from by decide, if_false]
      go_wp2
      go_ret
      exact ⟨rfl, rfl⟩
end Go.Proofs.Ytjpdfkmlcjkcmaa
