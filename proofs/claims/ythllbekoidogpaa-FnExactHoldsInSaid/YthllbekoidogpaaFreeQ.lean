
/- The words of parts are all different, and their table is a band: plain mathematics, by looking at all of them. -/
import Derived.Test.YthllbekoidogpaaFreeP
import Derived.Test.YthllbekoidogpaaLevQ
import Derived.Test.YthllbekoidogpaaMadeS
namespace Go.Proofs.Ythllbekoidogpaa
set_option linter.unusedVariables false

theorem full_all : ∀ n : Fin 8, 1 ≤ (n : Nat) → ((fullF 3 n).all (fun u => okW u && (decide (made u = u) && (decide (ltr u = n) && decide (u.length ≤ 10)))) && (decide (fullF 3 n).Nodup && decide (((fullF 3 n).length : Int) = cntF ((pc n : Nat) : Int)))) = true := by decide +kernel
theorem all_all : ∀ m : Fin 4, 1 ≤ (m : Nat) → ((allC (2 ^ (m : Nat) - 1)).all (fun u => okW u && (decide (made u = u) && decide (u.length ≤ 10))) && (decide (allC (2 ^ (m : Nat) - 1)).Nodup && decide ((allC (2 ^ (m : Nat) - 1)).length = el [0, 1, 6, 159] m))) = true := by decide +kernel
/-- Words in order, each made of its parts, no two the same. -/
structure Listed (L : List (List UInt8)) : Prop where
  ok : ∀ k, k < L.length → okW (sl L k) = true
  made_ : ∀ k, k < L.length → made (sl L k) = sl L k
  short : ∀ k, k < L.length → (sl L k).length ≤ 10
  up : ∀ k, k + 1 < L.length → lsB (sl L k) (sl L (k + 1)) = true
theorem full_listed {n : Nat} (h1 : 1 ≤ n) (h7 : n ≤ 7) : Listed (fullL n) ∧ (∀ k, k < (fullL n).length → letN (sl (fullL n) k) = (n : Int)) ∧ 1 ≤ (fullL n).length ∧ ((fullL n).length : Int) = cntF ((pc n : Nat) : Int) := by
  have h := full_all ⟨n, by omega⟩ h1
  simp only [Bool.and_eq_true, List.all_eq_true, decide_eq_true_iff] at h
  obtain ⟨h2, h3, h4⟩ := h
  rw [fullL_ok h1 h7]
  have hm : ∀ k, k < (srt (fullF 3 n)).length → sl (srt (fullF 3 n)) k ∈ fullF 3 n := fun k hk => srt_mem.1 (sl_mem hk)
  refine ⟨⟨fun k hk => (h2 _ (hm k hk)).1, fun k hk => (h2 _ (hm k hk)).2.1, fun k hk => (h2 _ (hm k hk)).2.2.2, fun k hk => srt_strict h3 (by rw [len_srt] at hk; exact hk)⟩, fun k hk => ?_, by rw [len_srt]; exact full_ne h1 h7, by rw [len_srt]; exact h4⟩
  rw [letN_ok (h2 _ (hm k hk)).1, (h2 _ (hm k hk)).2.2.1]
theorem all_listed {m : Nat} (h1 : 1 ≤ m) (h3 : m ≤ 3) : Listed (allW m) ∧ ((allW m).length : Int) = el [0, 1, 6, 159] m ∧ 1 ≤ (allW m).length := by
  have h := all_all ⟨m, by omega⟩ h1
  simp only [Bool.and_eq_true, List.all_eq_true, decide_eq_true_iff] at h
  obtain ⟨h2, h4, h5⟩ := h
  rw [allW_ok h1 h3]
  have hm : ∀ k, k < (srt (allC (2 ^ m - 1))).length → sl (srt (allC (2 ^ m - 1))) k ∈ allC (2 ^ m - 1) := fun k hk => srt_mem.1 (sl_mem hk)
  refine ⟨⟨fun k hk => (h2 _ (hm k hk)).1, fun k hk => (h2 _ (hm k hk)).2.1, fun k hk => (h2 _ (hm k hk)).2.2, fun k hk => srt_strict h4 (by rw [len_srt] at hk; exact hk)⟩, by rw [len_srt]; exact h5, ?_⟩
  rw [len_srt]
  obtain rfl | rfl | rfl : m = 1 ∨ m = 2 ∨ m = 3 := by omega
  · have hg : (1 : Int) ≤ el [0, 1, 6, 159] 1 := by decide
    rw [← h5] at hg
    omega
  · have hg : (1 : Int) ≤ el [0, 1, 6, 159] 2 := by decide
    rw [← h5] at hg
    omega
  · have hg : (1 : Int) ≤ el [0, 1, 6, 159] 3 := by decide
    rw [← h5] at hg
    omega
/-- The table of the words of two letters. -/
def f2L : List (List Int) := [[0, 1, 2, 1, 1, 2], [2, 1, 2, 1, 1, 2], [2, 1, 2, 1, 1, 2], [5, 4, 5, 3, 4, 5], [5, 4, 5, 4, 4, 5], [5, 4, 5, 4, 4, 5]]
theorem freeT_one : freeT 1 = [[0]] := by decide +kernel
theorem freeT_two : freeT 2 = f2L := by decide +kernel
theorem f2_tab : IsT f2L := okT_iff.1 (by decide +kernel)
theorem f1_tab : IsT [[0]] := okT_iff.1 (by decide +kernel)
theorem f2_band : bandT f2L = true := by
  refine bandT_iff.2 ⟨grpT_iff.1 (grpT_all f2_tab fun x hx y hy z hz => ?_), fun x x0 x1 => ?_⟩
  · have h : ∀ x y z : Fin 6, assoc f2L (x : Nat) (y : Nat) (z : Nat) = true := by decide +kernel
    exact h ⟨x, hx⟩ ⟨y, hy⟩ ⟨z, hz⟩
  · have h : ∀ x : Fin 6, mul f2L ((x : Nat) : Int) ((x : Nat) : Int) = ((x : Nat) : Int) := by decide +kernel
    obtain ⟨n, rfl⟩ : ∃ n : Nat, x = n := ⟨x.toNat, by omega⟩
    exact h ⟨n, by have : f2L.length = 6 := rfl; omega⟩
theorem f1_band : bandT [[0]] = true := by
  refine bandT_iff.2 ⟨grpT_iff.1 (grpT_all f1_tab fun x hx y hy z hz => ?_), fun x x0 x1 => ?_⟩
  · have h : ∀ x y z : Fin 1, assoc [[0]] (x : Nat) (y : Nat) (z : Nat) = true := by decide +kernel
    exact h ⟨x, hx⟩ ⟨y, hy⟩ ⟨z, hz⟩
  · have h : ∀ x : Fin 1, mul [[0]] ((x : Nat) : Int) ((x : Nat) : Int) = ((x : Nat) : Int) := by decide +kernel
    obtain ⟨n, rfl⟩ : ∃ n : Nat, x = n := ⟨x.toNat, by omega⟩
    exact h ⟨n, by have : ([[0]] : List (List Int)).length = 1 := rfl; omega⟩
theorem f2_count : countT f2L = 3 := by
  unfold countT
  rw [if_pos f2_band]
  have h : nL f2L = 3 := by decide +kernel
  rw [h]; rfl
theorem f1_count : countT [[0]] = 1 := by
  unfold countT
  rw [if_pos f1_band]
  have h : nL [[0]] = 1 := by decide +kernel
  rw [h]; rfl
theorem bit_small {s n i : Nat} (h : s < 2 ^ n) (hb : s.testBit i = true) : i < n := by
  apply Nat.lt_of_not_le
  intro hn
  rw [Nat.testBit_lt_two_pow (Nat.lt_of_lt_of_le h (Nat.pow_le_pow_right (n := 2) (by omega) hn))] at hb
  cases hb
theorem f2_made : madeT f2L 9 = 63 := by
  refine madeT_of (s := 9) (m := 63) (okT_iff.2 f2_tab) (by decide) ⟨by decide, fun x hx => ?_, fun a b ha hb => ?_, fun q hq hs x hx => ?_⟩
  · have h : ∀ x : Fin 6, (9 : Nat).testBit x = true → (63 : Nat).testBit x = true := by decide
    exact h ⟨x, bit_small (n := 6) (by decide) hx⟩ hx
  · have h : ∀ a b : Fin 6, (63 : Nat).testBit (mul f2L ((a : Nat) : Int) ((b : Nat) : Int)).toNat = true := by decide +kernel
    exact h ⟨a, bit_small (n := 6) (by decide) ha⟩ ⟨b, bit_small (n := 6) (by decide) hb⟩
  · have q0 := hs 0 (by decide)
    have q3 := hs 3 (by decide)
    have q1 : q.testBit 1 = true := hq 0 3 q0 q3
    have q5 : q.testBit 5 = true := hq 3 0 q3 q0
    have q4 : q.testBit 4 = true := hq 5 3 q5 q3
    have q2 : q.testBit 2 = true := hq 1 0 q1 q0
    have h6 : x < 6 := bit_small (n := 6) (by decide) hx
    obtain rfl | rfl | rfl | rfl | rfl | rfl : x = 0 ∨ x = 1 ∨ x = 2 ∨ x = 3 ∨ x = 4 ∨ x = 5 := by omega
    all_goals assumption
theorem f1_made : madeT [[0]] 1 = 1 := by
  refine madeT_of (s := 1) (m := 1) (okT_iff.2 f1_tab) (by decide) ⟨by decide, fun x hx => hx, fun a b ha hb => ?_, fun q hq hs x hx => hs x hx⟩
  have h : ∀ a b : Fin 1, (1 : Nat).testBit (mul [[0]] ((a : Nat) : Int) ((b : Nat) : Int)).toNat = true := by decide +kernel
  exact h ⟨a, bit_small (n := 1) (by decide) ha⟩ ⟨b, bit_small (n := 1) (by decide) hb⟩
end Go.Proofs.Ythllbekoidogpaa
