
/- Sets of things as numbers: bits, and which things a set has. -/
import Derived.Test.YteoekfebhmeiiaaApp
import Derived.Test.YteoekfebhmeiiaaGrp
namespace Go.Proofs.Yteoekfebhmeiiaa
open Go.RowKit
set_option linter.unusedVariables false


theorem bits_i64 {a b : Nat} (ha : a < 1024) (hb : b < 1024) : bits .and .i64 (a : Int) (b : Int) = ((a &&& b : Nat) : Int) ∧ bits .or .i64 (a : Int) (b : Int) = ((a ||| b : Nat) : Int) :=
  bits_nat .i64 10 (by decide) (fun n h0 h1 => IntWalk.i64_in _ ⟨by omega, by omega⟩) a b ha hb
theorem pow_le9 {p : Nat} (hp : p ≤ 9) : 1 ≤ 2 ^ p ∧ 2 ^ p ≤ 512 := ⟨Nat.one_le_two_pow, by have : 2 ^ p ≤ 2 ^ 9 := Nat.pow_le_pow_right (by omega) hp; omega⟩
theorem pow_int {p : Nat} (hp : p ≤ 9) : (1 : Int) ≤ (2 : Int) ^ p ∧ (2 : Int) ^ p ≤ 512 := by
  have h := pow_le9 hp
  have e : (2 : Int) ^ p = ((2 ^ p : Nat) : Int) := by simp
  rw [e]; omega
theorem and_two (s p : Nat) : s &&& 2 ^ p = if s.testBit p = true then 2 ^ p else 0 := by
  apply Nat.eq_of_testBit_eq
  intro i
  rw [Nat.testBit_and, Nat.testBit_two_pow]
  by_cases e : p = i
  · subst e
    cases h : s.testBit p <;> simp
  · have e2 : ((if s.testBit p = true then 2 ^ p else 0) : Nat).testBit i = false := by
      split
      · rw [Nat.testBit_two_pow]; simp [e]
      · simp
    rw [e2]; simp [e]
theorem and_pow {s p : Nat} (hs : s < 1024) (hp : p ≤ 9) : bits .and .i64 (s : Int) ((2 : Int) ^ p) = if s.testBit p = true then (2 : Int) ^ p else 0 := by
  have h := pow_le9 hp
  have e : (2 : Int) ^ p = ((2 ^ p : Nat) : Int) := by simp
  rw [e, (bits_i64 hs (by omega)).1, and_two]
  cases s.testBit p <;> simp
theorem or_pow {s p : Nat} (hs : s < 1024) (hp : p ≤ 9) : bits .or .i64 (s : Int) ((2 : Int) ^ p) = ((s ||| 2 ^ p : Nat) : Int) := by
  have h := pow_le9 hp
  have e : (2 : Int) ^ p = ((2 ^ p : Nat) : Int) := by simp
  rw [e, (bits_i64 hs (by omega)).2]

/-- The things of a set, below k. -/
def thk (s k : Nat) : List Int := List.map (fun p : Nat => (p : Int)) ((List.range k).filter fun p => s.testBit p)
theorem thk_succ (s k : Nat) : thk s (k + 1) = thk s k ++ (if s.testBit k = true then [(k : Int)] else []) := by
  unfold thk
  rw [List.range_succ, List.filter_append, List.map_append]
  by_cases h : s.testBit k = true <;> simp [h]
theorem len_thk (s k : Nat) : (thk s k).length ≤ k := by
  unfold thk
  rw [List.length_map]
  have := List.length_filter_le (fun p => s.testBit p) (List.range k)
  simpa using this

set_option maxHeartbeats 1000000 in
theorem setOk_any (s : Int) (n : Nat) (w : World) (hn : n ≤ 9) :
    Calls Try.prog 61 #[.int .i64 s, .int .i64 n] w fun e w' => e = .returned (.bool (decide (0 ≤ s) && decide (s < 2 ^ n))) ∧ w = w' := by
  obtain ⟨h1, h2⟩ := pow_int hn
  by_cases h0 : 0 ≤ s
  · go_enter Try.func61, Try.ntmps61
    go_wp2
    go_ret
    exact ⟨ret_bool (by simp [h0]), rfl⟩
  · go_enter Try.func61, Try.ntmps61
    go_wp2
    go_ret
    exact ⟨ret_bool (by have : decide (0 ≤ s) = false := by simpa using h0
                        rw [this]; rfl), rfl⟩

/-- A call that returns a new row. -/
def NewRow (w : World) (xs : List Int) (e : Ending) (w' : World) : Prop := ∃ A c, e = .returned (.slice A xs.length c) ∧ Below w.heap.size w w' ∧ Row w' w.heap.size w'.heap.size A xs ∧ xs.length ≤ c ∧ c ≤ 9223372036854775807
set_option maxHeartbeats 1000000 in
theorem thingsIn_any (s : Nat) (w : World) (hs : s < 1024) : Calls Try.prog 65 #[.int .i64 s] w (NewRow w (thk s 9)) := by
  go_enter Try.func65, Try.ntmps65
  go_wp2
  go_loopg [5, 3] 9 (fun g i v wr => ∃ p : Nat, p ≤ 9 ∧ Hid (g = 9 - p) ∧ i = .int .i64 p ∧ ARow w.heap.size wr v (thk s p) ∧ Below w.heap.size w wr)
  case atStart => exact ⟨0, Nat.zero_le _, rfl, rfl, ARow.nil_ _ _, Below.refl _ _⟩
  case round =>
    obtain ⟨p, hp, hgk, rfl, hA, hB⟩ := hrel
    by_cases hlt : p < 9
    · have hpi : (p : Int) < 9 := by omega
      obtain ⟨h1, h2⟩ := pow_int hp
      have hl := len_thk s p
      have hl' : (thk s p).length ≤ 1048576 := by omega
      have hand := and_pow hs hp
      have hsz := hB.size
      cases hb : s.testBit p
      · rw [hb] at hand
        have hand2 : bits .and .i64 (s : Int) ((2 : Int) ^ p) = 0 := by simpa using hand
        have HS := hide (thk_succ s p)
        clear hand
        go_wp2
        go_roundg (9 - (p + 1))
        case measure => go_light; have := hgk.out; omega
        case rel => go_light; exact ⟨p + 1, by omega, rfl, by go_num, by rw [HS.out, hb]; simpa using hA, hB⟩
      · rw [hb] at hand
        have hand2 : bits .and .i64 (s : Int) ((2 : Int) ^ p) = (2 : Int) ^ p := by simpa using hand
        have hne : ((2 : Int) ^ p == 0) = false := beq_eq_false_iff_ne.2 (by omega)
        have hne2 : ((2 : Int) ^ p != 0) = true := by rw [bne, hne]; rfl
        have HS := hide (thk_succ s p)
        clear hand
        go_wp2_with (at_builtin; refine wp_app_int rfl (.tmp 13) (.tmp 15) rfl w.heap.size _ _ _ _ rfl rfl hA hl' hsz ?_; intro v1 w1 hown1 hg1)
        go_roundg (9 - (p + 1))
        case measure => go_light; have := hgk.out; omega
        case rel => go_light; exact ⟨p + 1, by omega, rfl, by go_num, by rw [HS.out, hb]; simpa using hown1, hB.trans (hA.belowOf hg1 (Nat.le_refl _) hsz)⟩
    · obtain rfl : 9 = p := by omega
      obtain ⟨A', c', rfl, h1, h2, hR⟩ := hA.val
      go_wp2
      go_ret
      exact ⟨A', c', rfl, hB, hR, h1, h2⟩
end Go.Proofs.Yteoekfebhmeiiaa
