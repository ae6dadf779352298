
/- The reader from which the drawn arguments come: what it holds, and what one pick does. -/
import Derived.Test.YthllbekoidogpaaFill
namespace Go.Proofs.Ythllbekoidogpaa
open Go.RowKit
set_option linter.unusedVariables false


theorem xor_nat (a b : Nat) (ha : a < 4611686018427387904) (hb : b < 4611686018427387904) : bits .xor .i64 (a : Int) (b : Int) = ((a ^^^ b : Nat) : Int) := by
  have ha' : a % 2 ^ 64 = a := Nat.mod_eq_of_lt (by omega)
  have hb' : b % 2 ^ 64 = b := Nat.mod_eq_of_lt (by omega)
  have h : a ^^^ b < 2 ^ 62 := Nat.xor_lt_two_pow (by omega) (by omega)
  have e : IntKind.i64.bits = 64 := rfl
  simp only [bits, BitVec.ofInt_natCast, BitVec.toNat_xor, BitVec.toNat_ofNat, e, ha', hb']
  exact IntWalk.i64_in _ (by omega)
theorem xor_nonneg {x y : Int} (hx0 : 0 ≤ x) (hx1 : x < 4611686018427387904) (hy0 : 0 ≤ y) (hy1 : y < 4611686018427387904) : 0 ≤ bits .xor .i64 x y := by
  have := xor_nat x.toNat y.toNat (by omega) (by omega)
  rw [Int.toNat_of_nonneg hx0, Int.toNat_of_nonneg hy0] at this
  rw [this]; exact Int.natCast_nonneg _

/-- Bytes that came in, below block B. -/
def Bytes (w : World) (B : Nat) (A : Option Addr) (n : Nat) : Prop :=
  ∀ j, j < n → ∃ b o z, A = some ⟨b, o, none⟩ ∧ b < B ∧ w.cell? ⟨b, o + j, none⟩ = some (.int .u8 z) ∧ 0 ≤ z ∧ z ≤ 255
/-- The reader in block g, after P picks. -/
structure Rd (w : World) (B g P : Nat) (A : Option Addr) (n c : Nat) : Prop where
  heap : w.heap[g]? = some (.cells #[.slice A n c, .int .i64 (P : Nat)] 80 (0, 0))
  low : B ≤ g
  len : n ≤ 2000
  bytes : Bytes w B A n
theorem Rd.lt {w : World} {B g P n c : Nat} {A : Option Addr} (h : Rd w B g P A n c) : g < w.heap.size := (Array.getElem?_eq_some_iff.1 h.heap).1
theorem Rd.c0 {w : World} {B g P n c : Nat} {A : Option Addr} (h : Rd w B g P A n c) : w.cell? ⟨g, 0, none⟩ = some (.slice A n c) := by simp [World.cell?, h.heap]
theorem Rd.c1 {w : World} {B g P n c : Nat} {A : Option Addr} (h : Rd w B g P A n c) : w.cell? ⟨g, 1, none⟩ = some (.int .i64 (P : Nat)) := by simp [World.cell?, h.heap]
theorem Rd.f1 {w : World} {B g P n c : Nat} {A : Option Addr} (h : Rd w B g P A n c) : w.frozen? ⟨g, 1, none⟩ = false := by simp [World.frozen?, h.heap]
theorem Rd.next {w : World} {B g P n c : Nat} {A : Option Addr} (h : Rd w B g P A n c) : Rd (w.setCell ⟨g, 1, none⟩ (.int .i64 ((P : Int) + 1))) B g (P + 1) A n c := by
  refine ⟨?_, h.low, h.len, fun j hj => ?_⟩
  · simp [World.setCell, Array.getElem?_modify, h.heap]
  · obtain ⟨b, o, z, e, hb, hc, hz⟩ := h.bytes j hj
    exact ⟨b, o, z, e, hb, (World.cell?_of_block (w := w) (Below.heap_setCell _ _ _ _ (by show b ≠ g; have := h.low; omega))).trans hc, hz⟩
theorem Rd.below {w w' : World} {B g P n c : Nat} {A : Option Addr} (h : Rd w B g P A n c) (hb : Below w.heap.size w w') : Rd w' B g P A n c :=
  ⟨(hb.block g h.lt).trans h.heap, h.low, h.len, fun j hj => by
    obtain ⟨b, o, z, e, hlt, hc, hz⟩ := h.bytes j hj
    exact ⟨b, o, z, e, hlt, (hb.cell (p := ⟨b, o + j, none⟩) (by show b < _; have := h.low; have := h.lt; omega)).trans hc, hz⟩⟩
theorem Rd.drewN {w : World} {B g P n c : Nat} {A : Option Addr} (h : Rd w B g P A n c) (k : Nat) : Rd (w.drewN k) B g P A n c := ⟨h.heap, h.low, h.len, h.bytes⟩

/-- What a pick of m gives: a number below m (0 for m < 1), and only the reader has turned. -/
def Picked (w : World) (B g P : Nat) (A : Option Addr) (n c : Nat) (m : Int) (e : Ending) (w' : World) : Prop :=
  ∃ v : Int, e = .returned (.int .i64 v) ∧ 0 ≤ v ∧ (v < m ∨ v = 0) ∧ Rd w' B g (P + 1) A n c ∧ Only g (g + 1) w w' ∧ w'.heap.size = w.heap.size

set_option maxHeartbeats 4000000 in
theorem pick_any (B g P : Nat) (A : Option Addr) (n c : Nat) (m : Int) (w : World) (h : Rd w B g P A n c) (hP : P ≤ 100000) (hm0 : -100000 ≤ m) (hm : m ≤ 100000) :
    Calls Try.prog 55 #[.pointer (some ⟨g, 0, none⟩), .int .i64 m] w (Picked w B g P A n c m) := by
  have c0 := h.c0
  have c1 := h.c1
  have f1 := h.f1
  have hN := h.next
  have hO : Only g (g + 1) w (w.setCell ⟨g, 1, none⟩ (.int .i64 ((P : Int) + 1))) := Only.setCell (p := ⟨g, 1, none⟩) (Only.refl _ _ _) (Nat.le_refl _) (by show g < g + 1; omega) _
  have hsz : (w.setCell ⟨g, 1, none⟩ (.int .i64 ((P : Int) + 1))).heap.size = w.heap.size := by simp [World.setCell]
  have HZ := hide hsz
  clear hsz
  have n0 := hN.c0
  have n1 := hN.c1
  have n1' : (w.setCell ⟨g, 1, none⟩ (.int .i64 ((P : Int) + 1))).cell? ⟨g, 1, none⟩ = some (.int .i64 ((P : Int) + 1)) := by simpa using n1
  clear n1
  have hl := h.len
  by_cases hm1 : m < 1
  · go_enter Try.func55, Try.ntmps55
    go_wp2
    go_ret
    exact ⟨0, rfl, by omega, .inr rfl, hN, hO, HZ.out⟩
  by_cases hn0 : n = 0
  · subst hn0
    go_enter Try.func55, Try.ntmps55
    go_wp2
    go_ret
    exact ⟨0, rfl, by omega, .inr rfl, hN, hO, HZ.out⟩
  have hz : ((n : Int) == 0) = false := beq_eq_false_iff_ne.2 (by omega)
  by_cases hlt : P < n
  · obtain ⟨b, o, z, rfl, hb, hc, hz0, hz1⟩ := hN.bytes P hlt
    go_enter Try.func55, Try.ntmps55
    go_wp2
    go_ret
    exact ⟨z % m, rfl, Int.emod_nonneg _ (by omega), .inl (Int.emod_lt_of_pos _ (by omega)), hN, hO, HZ.out⟩
  · have hn1 : 1 ≤ n := by omega
    have d0 : 0 ≤ (P : Int) / (n : Int) := Int.ediv_nonneg (by omega) (by omega)
    have d1 : (P : Int) / (n : Int) ≤ 100000 := Int.le_trans (Int.ediv_le_self _ (by omega)) (by omega)
    have x0 : 0 ≤ (P : Int) % (n : Int) := Int.emod_nonneg _ (by omega)
    have x1 : (P : Int) % (n : Int) < (n : Int) := Int.emod_lt_of_pos _ (by omega)
    have y0 : 0 ≤ ((P : Int) * 7 + 3) % (n : Int) := Int.emod_nonneg _ (by omega)
    have y1 : ((P : Int) * 7 + 3) % (n : Int) < (n : Int) := Int.emod_lt_of_pos _ (by omega)
    obtain ⟨b, o, z1, rfl, hb, hc1, hz10, hz11⟩ := hN.bytes ((P : Int) % (n : Int)).toNat (by omega)
    obtain ⟨b', o', z2, e2, _, hc2, hz20, hz21⟩ := hN.bytes (((P : Int) * 7 + 3) % (n : Int)).toNat (by omega)
    obtain ⟨rfl, rfl⟩ : b = b' ∧ o = o' := by simpa using e2
    clear e2
    have hc1' := hc1
    have hc2' := hc2
    rw [show ((P : Int) % (n : Int)).toNat = P % n from by omega] at hc1'
    rw [show (((P : Int) * 7 + 3) % (n : Int)).toNat = (P * 7 + 3) % n from by
      rw [show ((P : Int) * 7 + 3) % (n : Int) = (((P * 7 + 3) % n : Nat) : Int) from by simp]; exact Int.toNat_natCast _] at hc2'
    go_enter Try.func55, Try.ntmps55
    go_wp2
    go_quiet (fail)
    obtain ⟨X, hX⟩ : ∃ X : Int, X = z1 * 131 + z2 * 1117 + (P : Int) * 29 + (P : Int) / (n : Int) * 53 := ⟨_, rfl⟩
    have hX0 : 0 ≤ X := by omega
    have hX1 : X ≤ 10000000 := by omega
    rw [← hX]
    have hv : 0 ≤ bits .xor .i64 X (X / 64) := xor_nonneg hX0 (by omega) (by omega) (by omega)
    clear hX
    go_wp2
    go_ret
    exact ⟨_, rfl, Int.emod_nonneg _ (by omega), .inl (Int.emod_lt_of_pos _ (by omega)), hN.drewN _, hO.drewN _, HZ.out⟩
end Go.Proofs.Ythllbekoidogpaa
