/- The place of a thing in a set: how many things of it are below. -/
import Derived.Test.YteoekfebhmeiiaaPartP
import Derived.Test.YteoekfebhmeiiaaSet
namespace Go.Proofs.Yteoekfebhmeiiaa
open Go.RowKit
set_option linter.unusedVariables false


theorem and_low {s z : Nat} (hs : s < 1024) (hz : z ≤ 9) : bits .and .i64 (s : Int) ((2 : Int) ^ z - 1) = ((s % 2 ^ z : Nat) : Int) := by
  have h := pow_le9 hz
  have e : (2 : Int) ^ z - 1 = ((2 ^ z - 1 : Nat) : Int) := by
    rw [Int.natCast_sub h.1]; simp
  rw [e, (bits_i64 hs (by omega)).1, Nat.and_two_pow_sub_one_eq_mod]

/-- How many bits, summed side by side. -/
def p1 (u : Int) : Int := IntKind.u64.wrap (bits .and .u64 (u / 2) 6148914691236517205 + bits .and .u64 u 6148914691236517205)
def p2 (a : Int) : Int := IntKind.u64.wrap (bits .and .u64 (a / 4) 3689348814741910323 + bits .and .u64 a 3689348814741910323)
def p3 (a : Int) : Int := bits .and .u64 (a / 16 + a) 1085102592571150095
def p4 (a : Int) : Int := a + a / 256
def p5 (a : Int) : Int := a + a / 65536
def p6 (a : Int) : Int := a + a / 4294967296
def small_ (a : Int) : Bool := decide (0 ≤ a) && decide (a ≤ 100000)
theorem pc_all : ∀ u : Fin 512, (small_ (p1 (u.val : Nat)) && small_ (p2 (p1 (u.val : Nat))) && small_ (p3 (p2 (p1 (u.val : Nat)))) && small_ (p4 (p3 (p2 (p1 (u.val : Nat))))) && small_ (p5 (p4 (p3 (p2 (p1 (u.val : Nat)))))) && small_ (p6 (p5 (p4 (p3 (p2 (p1 (u.val : Nat)))))))
    && decide (bits .and .i64 (p6 (p5 (p4 (p3 (p2 (p1 (u.val : Nat))))))) 127 = ((cnt u.val 9 : Nat) : Int))) = true := by decide +kernel
theorem pc_steps (u : Nat) (hu : u < 512) : ∃ a1 a2 a3 a4 a5 a6 : Int, p1 u = a1 ∧ p2 a1 = a2 ∧ p3 a2 = a3 ∧ p4 a3 = a4 ∧ p5 a4 = a5 ∧ p6 a5 = a6 ∧ bits .and .i64 a6 127 = ((cnt u 9 : Nat) : Int) ∧
    (0 ≤ a1 ∧ a1 ≤ 100000) ∧ (0 ≤ a2 ∧ a2 ≤ 100000) ∧ (0 ≤ a3 ∧ a3 ≤ 100000) ∧ (0 ≤ a4 ∧ a4 ≤ 100000) ∧ (0 ≤ a5 ∧ a5 ≤ 100000) ∧ (0 ≤ a6 ∧ a6 ≤ 100000) := by
  have h := pc_all ⟨u, hu⟩
  simp only [Bool.and_eq_true, decide_eq_true_iff, small_] at h
  obtain ⟨⟨⟨⟨⟨⟨h1, h2⟩, h3⟩, h4⟩, h5⟩, h6⟩, h7⟩ := h
  exact ⟨_, _, _, _, _, _, rfl, rfl, rfl, rfl, rfl, rfl, h7, h1, h2, h3, h4, h5, h6⟩

set_option maxHeartbeats 1000000 in
theorem ones64_any (u : Nat) (w : World) (hu : u < 512) :
    Calls Try.prog 95 #[.int .u64 u] w fun e w' => e = .returned (.int .i64 (cnt u 9 : Nat)) ∧ w = w' := by
  obtain ⟨a1, a2, a3, a4, a5, a6, e1, e2, e3, e4, e5, e6, e7, ⟨l1, u1⟩, ⟨l2, u2⟩, ⟨l3, u3⟩, ⟨l4, u4⟩, ⟨l5, u5⟩, l6, u6⟩ := pc_steps u hu
  simp only [p1, p2, p3, p4, p5, p6] at e1 e2 e3 e4 e5 e6
  go_enter Try.func95, Try.ntmps95
  go_wp2
  go_ret
  exact ⟨rfl, rfl⟩

set_option maxHeartbeats 1000000 in
theorem ones_any (u : Nat) (w : World) (hu : u < 512) :
    Calls Try.prog 89 #[.int .u64 u] w fun e w' => e = .returned (.int .i64 (cnt u 9 : Nat)) ∧ w = w' := by
  go_enter Try.func89, Try.ntmps89
  go_wp2_with (go_at_call 95; refine (ones64_any u _ hu).mono ?_; rintro e w' ⟨rfl, rfl⟩)
  go_ret
  exact ⟨rfl, rfl⟩

set_option maxHeartbeats 1000000 in
theorem placeIn_any (s z : Nat) (w : World) (hs : s < 512) (hz : z ≤ 9) :
    Calls Try.prog 68 #[.int .i64 s, .int .i64 z] w fun e w' => e = .returned (.int .i64 (cnt s z : Nat)) ∧ w = w' := by
  obtain ⟨h1, h2⟩ := pow_int hz
  have hand := and_low (by omega : s < 1024) hz
  have hlt : s % 2 ^ z < 512 := Nat.lt_of_le_of_lt (Nat.mod_le _ _) hs
  obtain ⟨m, hm⟩ : ∃ m, m = s % 2 ^ z := ⟨_, rfl⟩
  rw [← hm] at hand hlt
  have HC := hide (show cnt m 9 = cnt s z from by rw [hm, cnt_mod, Nat.min_eq_right hz])
  clear hm
  go_enter Try.func68, Try.ntmps68
  go_wp2_with (go_at_call 89; refine (ones_any m _ hlt).mono ?_; rintro e w' ⟨rfl, rfl⟩)
  go_ret
  exact ⟨ret_int (by rw [HC.out]), rfl⟩
end Go.Proofs.Yteoekfebhmeiiaa
