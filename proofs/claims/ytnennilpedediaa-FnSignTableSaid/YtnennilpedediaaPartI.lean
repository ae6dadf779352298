/-  -/
import Derived.Test.YtnennilpedediaaPartP
import Derived.Test.YtnennilpedediaaMadeS
import Derived.Test.YtnennilpedediaaFill
import Derived.Test.YtnennilpedediaaPureX
import Derived.Deep.RegionHeld3
namespace Go.Proofs.Ytnennilpedediaa
open Go.RowKit
set_option linter.unusedVariables false


theorem and_low {s z : Nat} (hs : s < 1024) (hz : z ≤ 9) : bits .and .i64 (s : Int) ((2 : Int) ^ z - 1) = ((s % 2 ^ z : Nat) : Int) := by
  have h := pow_le9 hz
  have e : (2 : Int) ^ z - 1 = ((2 ^ z - 1 : Nat) : Int) := by
    rw [Int.natCast_sub h.1]; simp
  rw [e, (bits_i64 hs (by omega)).1, Nat.and_two_pow_sub_one_eq_mod]

/-- How many bits, summed side by side. -/
def p1 (u : Int) : Int := IntKind.u64.wrap (bits .and .u64 (u / 2) 6148914691236517205 + bits .and .u64 u 6148914691236517205)
def p2 (a : Int) : Int := IntKind.u64.wrap (bits .and .u64 (a / 4) 3689348814741910323 + bits .and .u64 a 3689348814741910323)
def p3 (a : Int) : Int := bits .and .u64 (a / 16 + a) 1085102592571150095
def p4 (a : Int) : Int := a + a / 256
def p5 (a : Int) : Int := a + a / 65536
def p6 (a : Int) : Int := a + a / 4294967296
def small_ (a : Int) : Bool := decide (0 ≤ a) && decide (a ≤ 100000)
theorem pc_all : ∀ u : Fin 512, (small_ (p1 (u.val : Nat)) && small_ (p2 (p1 (u.val : Nat))) && small_ (p3 (p2 (p1 (u.val : Nat)))) && small_ (p4 (p3 (p2 (p1 (u.val : Nat))))) && small_ (p5 (p4 (p3 (p2 (p1 (u.val : Nat)))))) && small_ (p6 (p5 (p4 (p3 (p2 (p1 (u.val : Nat)))))))
    && decide (bits .and .i64 (p6 (p5 (p4 (p3 (p2 (p1 (u.val : Nat))))))) 127 = ((cnt u.val 9 : Nat) : Int))) = true := by decide +kernel
theorem pc_steps (u : Nat) (hu : u < 512) : ∃ a1 a2 a3 a4 a5 a6 : Int, p1 u = a1 ∧ p2 a1 = a2 ∧ p3 a2 = a3 ∧ p4 a3 = a4 ∧ p5 a4 = a5 ∧ p6 a5 = a6 ∧ bits .and .i64 a6 127 = ((cnt u 9 : Nat) : Int) ∧
    (0 ≤ a1 ∧ a1 ≤ 100000) ∧ (0 ≤ a2 ∧ a2 ≤ 100000) ∧ (0 ≤ a3 ∧ a3 ≤ 100000) ∧ (0 ≤ a4 ∧ a4 ≤ 100000) ∧ (0 ≤ a5 ∧ a5 ≤ 100000) ∧ (0 ≤ a6 ∧ a6 ≤ 100000) := by
  have h := pc_all ⟨u, hu⟩
  simp only [Bool.and_eq_true, decide_eq_true_iff, small_] at h
  obtain ⟨⟨⟨⟨⟨⟨h1, h2⟩, h3⟩, h4⟩, h5⟩, h6⟩, h7⟩ := h
  exact ⟨_, _, _, _, _, _, rfl, rfl, rfl, rfl, rfl, rfl, h7, h1, h2, h3, h4, h5, h6⟩

end Go.Proofs.Ytnennilpedediaa

namespace Go.Proofs.Ytnennilpedediaa
open Go.RowKit
set_option linter.unusedVariables false


theorem two_cells (w : World) (u v : Value) (t1 t2 : TypeId) : (((w.alloc (.cells #[u] t1)).alloc (.cells #[v] t2)).cell? ⟨w.heap.size, 0, none⟩ = some u) ∧ (((w.alloc (.cells #[u] t1)).alloc (.cells #[v] t2)).cell? ⟨w.heap.size + 1, 0, none⟩ = some v) := by
  have e := heap_alloc_new w (.cells #[u] t1)
  have e1 := (Below.heap_alloc (w.alloc (.cells #[u] t1)) (.cells #[v] t2) w.heap.size (by simp)).trans e
  have e2 := heap_alloc_new (w.alloc (.cells #[u] t1)) (.cells #[v] t2)
  have hs : (w.alloc (.cells #[u] t1)).heap.size = w.heap.size + 1 := by simp
  rw [hs] at e2
  exact ⟨by rw [cell_of_row _ _ _ _ _ _ e1]; rfl, by rw [cell_of_row _ _ _ _ _ _ e2]; rfl⟩

end Go.Proofs.Ytnennilpedediaa
