/-  -/
import Derived.Shelf.SlGeneric
import Derived.Shelf.SortG.AssemblysIn
import Derived.Sort.EveryDepth
import Derived.Sort.OwnSorted
import Derived.Test.YtjmjfmgbfjmaaaaFreeP
import Derived.Test.YtjmjfmgbfjmaaaaMadeS
namespace Go.Proofs.Ytjmjfmgbfjmaaaa
open Go.RowKit Go.Shelf
set_option linter.unusedVariables false

def sortRen : Go.Shelf.Ren := ⟨fun | 54 => 83 | 64 => 104 | 65 => 103 | 78 => 130 | 79 => 131 | 80 => 121 | 81 => 122 | 82 => 123 | 83 => 124 | 84 => 125 | 85 => 126 | 61 => 127 | 86 => 128 | 87 => 129 | 93 => 143 | 89 => 144 | 90 => 145 | 94 => 146 | 95 => 147 | 69 => 148 | 97 => 149 | n => n, fun | 25 => 24 | 26 => 9 | 3 => 3 | 51 => 96 | 0 => 0 | 67 => 115 | 69 => 117 | 4 => 4 | 61 => 108 | 60 => 107 | 44 => 112 | 5 => 5 | 9 => 9 | 75 => 121 | 79 => 125 | 83 => 128 | 84 => 129 | n => n, fun | n => n⟩

theorem sortLays : Go.Proofs.SlLaysN.n54 Try.prog sortRen := {
  mixed := by kernel_rfl
  f54 := ⟨Try.f83.name, by decide, Try.func83.trans (congrArg some (by kernel_rfl))⟩
  f61 := ⟨Try.f127.name, by decide, Try.func127.trans (congrArg some (by kernel_rfl))⟩
  f64 := Try.func104.trans (congrArg some (by kernel_rfl))
  f65 := ⟨Try.f103.name, by decide, Try.func103.trans (congrArg some (by kernel_rfl))⟩
  f69 := ⟨Try.f148.name, by decide, Try.func148.trans (congrArg some (by kernel_rfl))⟩
  f78 := Try.func130.trans (congrArg some (by kernel_rfl))
  f79 := Try.func131.trans (congrArg some (by kernel_rfl))
  f80 := ⟨Try.f121.name, by decide, Try.func121.trans (congrArg some (by kernel_rfl))⟩
  f81 := ⟨Try.f122.name, by decide, Try.func122.trans (congrArg some (by kernel_rfl))⟩
  f82 := ⟨Try.f123.name, by decide, Try.func123.trans (congrArg some (by kernel_rfl))⟩
  f83 := ⟨Try.f124.name, by decide, Try.func124.trans (congrArg some (by kernel_rfl))⟩
  f84 := ⟨Try.f125.name, by decide, Try.func125.trans (congrArg some (by kernel_rfl))⟩
  f85 := ⟨Try.f126.name, by decide, Try.func126.trans (congrArg some (by kernel_rfl))⟩
  f86 := ⟨Try.f128.name, by decide, Try.func128.trans (congrArg some (by kernel_rfl))⟩
  f87 := ⟨Try.f129.name, by decide, Try.func129.trans (congrArg some (by kernel_rfl))⟩
  f89 := Try.func144.trans (congrArg some (by kernel_rfl))
  f90 := Try.func145.trans (congrArg some (by kernel_rfl))
  f93 := ⟨Try.f143.name, by decide, Try.func143.trans (congrArg some (by kernel_rfl))⟩
  f94 := ⟨Try.f146.name, by decide, Try.func146.trans (congrArg some (by kernel_rfl))⟩
  f95 := ⟨Try.f147.name, by decide, Try.func147.trans (congrArg some (by kernel_rfl))⟩
  f97 := ⟨Try.f149.name, by decide, Try.func149.trans (congrArg some (by kernel_rfl))⟩
  t0 := Try.underlying0
  a0 := Try.isAgg0
  z0 := Try.sizeOf0
  v0 := Try.zeroValue0
  t3 := Try.underlying3
  a3 := Try.isAgg3
  z3 := Try.sizeOf3
  v3 := Try.zeroValue3
  t4 := Try.underlying4
  a4 := Try.isAgg4
  z4 := Try.sizeOf4
  v4 := Try.zeroValue4
  t5 := Try.underlying5
  a5 := Try.isAgg5
  z5 := Try.sizeOf5
  v5 := Try.zeroValue5
  t9 := Try.underlying9
  a9 := Try.isAgg9
  z9 := Try.sizeOf9
  v9 := Try.zeroValue9
  t25 := Try.underlying24
  a25 := Try.isAgg24
  z25 := Try.sizeOf24
  v25 := Try.zeroValue24
  t26 := Try.underlying9
  a26 := Try.isAgg9
  z26 := Try.sizeOf9
  v26 := Try.zeroValue9
  t44 := Try.underlying112
  a44 := Try.isAgg112
  z44 := Try.sizeOf112
  v44 := Try.zeroValue112
  t51 := Try.underlying96
  a51 := Try.isAgg96
  z51 := Try.sizeOf96
  v51 := Try.zeroValue96
  t60 := Try.underlying107
  a60 := Try.isAgg107
  z60 := Try.sizeOf107
  v60 := Try.zeroValue107
  t61 := Try.underlying108
  a61 := Try.isAgg108
  z61 := Try.sizeOf108
  v61 := Try.zeroValue108
  t67 := Try.underlying115
  a67 := Try.isAgg115
  z67 := Try.sizeOf115
  v67 := Try.zeroValue115
  t69 := Try.underlying117
  a69 := Try.isAgg117
  z69 := Try.sizeOf117
  v69 := Try.zeroValue117
  t75 := Try.underlying121
  a75 := Try.isAgg121
  z75 := Try.sizeOf121
  v75 := Try.zeroValue121
  t79 := Try.underlying125
  a79 := Try.isAgg125
  z79 := Try.sizeOf125
  v79 := Try.zeroValue125
  t83 := Try.underlying128
  a83 := Try.isAgg128
  z83 := Try.sizeOf128
  v83 := Try.zeroValue128
  t84 := Try.underlying129
  a84 := Try.isAgg129
  z84 := Try.sizeOf129
  v84 := Try.zeroValue129 }

theorem leB_iff (u v : List UInt8) : decide (u ≤ v) = !lsB v u := by
  unfold lsB
  rw [bytesLess_eq, ← decide_not]
  exact decide_eq_decide.2 List.not_lt.symm
theorem mergeSort_srt (L : List (List UInt8)) : L.mergeSort (fun x y => decide (x ≤ y)) = srt L := by
  refine srt_unique (List.mergeSort_perm _ _) fun i i' h1 h2 => ?_
  have hp := List.pairwise_mergeSort (le := fun x y : List UInt8 => decide (x ≤ y)) (fun a b c h1 h2 => by
    simp only [decide_eq_true_iff] at *
    exact List.le_trans h1 h2) (fun a b => by
    simp only [Bool.or_eq_true, decide_eq_true_iff]
    exact List.le_total a b) L
  have hq := List.pairwise_iff_getElem.1 hp i i' (by omega) h2 h1
  rw [leB_iff] at hq
  rw [sl_at h2, sl_at (by omega)]
  simpa using hq
/-- slices.Sort at a row of the call's own that is not empty. -/
theorem iSort_any {base : Nat} {w : World} {L : List (List UInt8)} {A : Option Addr} {c : Nat} (h : AStr base w (.slice A L.length c) L) (hne : 0 < L.length) (hn : L.length ≤ 1048576) (hb : base ≤ w.heap.size) :
    Calls Try.prog 83 #[.slice A L.length c] w fun e w' => e = .returned (.tuple #[]) ∧ AStr base w' (.slice A L.length c) (srt L) ∧ Below base w w' := by
  rcases h.2 with ⟨h0, h1⟩ | ⟨g, cap, cur, he, hg, hh, hc, hm, hz, ht⟩
  · omega
  · simp only [Value.slice.injEq] at he
    obtain ⟨rfl, _, rfl⟩ := he
    have hH : Go.Sort.Holds Go.Proofs.encStr w g 0 L.toArray := holds_of_block hh (by simpa [bs, Go.Proofs.encStr] using ht)
    refine (calls_of_every_depth fun D => AnySG.slices_Sort_string_in sortLays D g 0 c L w hH (Array.getElem?_eq_some_iff.1 hh).1 (by omega)).mono ?_
    rintro e w' ⟨rfl, n, os, rfl⟩
    rw [mergeSort_srt]
    refine ⟨rfl, ?_, (Below.refl base w).grown (grownBy_sorted _) hb (fun k e => by cases e; exact hg)⟩
    have := ownsRow_sorted (n := n) (os := os) (ts := srt L) (len_srt L) hg hh hc hm hz
    unfold AStr
    rw [len_srt]
    exact this
end Go.Proofs.Ytjmjfmgbfjmaaaa

namespace Go.Proofs.Ytjmjfmgbfjmaaaa
open Go.RowKit
set_option linter.unusedVariables false

/-- The numbers of the letters of a set. -/
def numN (s : Nat) : List Nat := (List.range 3).filter fun i => s.testBit i
/-- Each letter with each word of the other ones. -/
def lwF (g : Nat → List (List UInt8)) (s : Nat) : List (List UInt8 × List UInt8) := (numN s).flatMap fun i => (g (s - 2 ^ i)).map fun u => ([lx i], u)
/-- A head with its letter, a letter with its tail. -/
def glue (p q : List UInt8 × List UInt8) : List UInt8 := p.2 ++ p.1 ++ q.1 ++ q.2
/-- The full words, as they come. -/
def fwF : Nat → Nat → List (List UInt8)
  | 0, _ => []
  | f + 1, s => if (numN s).length = 1 then [[lx ((numN s).headD 0)]] else (lwF (fwF f) s).flatMap fun p => (lwF (fwF f) s).map (glue p)
/-- .. of the sets below k + 1. -/
def allF : Nat → List (List UInt8)
  | 0 => []
  | k + 1 => allF k ++ fwF 3 (k + 1)
theorem thk_num {s : Nat} (h : s < 8) : thk s 9 = (numN s).map fun i : Nat => (i : Int) := by
  have hh : ∀ s : Fin 8, thk s 9 = (numN s).map fun i : Nat => (i : Int) := by decide +kernel
  exact hh ⟨s, h⟩
theorem num_lt {s i : Nat} (h : i ∈ numN s) : i < 3 ∧ s.testBit i = true := by
  unfold numN at h
  rw [List.mem_filter, List.mem_range] at h
  exact h
theorem num_some {s : Nat} (h1 : 1 ≤ s) (h : s < 8) : 0 < (numN s).length := by
  have hh : ∀ s : Fin 8, 1 ≤ (s : Nat) → 0 < (numN s).length := by decide
  exact hh ⟨s, h⟩ h1
theorem num_other {s i : Nat} (h : s < 8) (hi : i ∈ numN s) (hn : (numN s).length ≠ 1) : 1 ≤ s - 2 ^ i ∧ s - 2 ^ i < 8 ∧ (numN (s - 2 ^ i)).length + 1 = (numN s).length := by
  have hh : ∀ (s : Fin 8) (i : Fin 3), (i : Nat) ∈ numN s → (numN s).length ≠ 1 → 1 ≤ (s : Nat) - 2 ^ (i : Nat) ∧ (s : Nat) - 2 ^ (i : Nat) < 8 ∧ (numN ((s : Nat) - 2 ^ (i : Nat))).length + 1 = (numN s).length := by decide
  exact hh ⟨s, h⟩ ⟨i, (num_lt hi).1⟩ hi hn
theorem num_le {s : Nat} (h : s < 8) : (numN s).length ≤ 3 := by
  have hh : ∀ s : Fin 8, (numN s).length ≤ 3 := by decide
  exact hh ⟨s, h⟩
theorem srt_congr {L M : List (List UInt8)} (h : L.Perm M) : srt L = srt M := srt_unique ((srt_perm L).trans h) (by rw [len_srt]; exact srt_sorted L)
theorem fw_perm {s : Nat} (h1 : 1 ≤ s) (h : s < 8) : (fwF 3 s).Perm (fullF 3 s) := by
  have hh : ∀ s : Fin 8, 1 ≤ (s : Nat) → (fwF 3 s).isPerm (fullF 3 s) = true := by decide +kernel
  exact List.isPerm_iff.1 (hh ⟨s, h⟩ h1)
theorem all_perm : ∀ k, k < 8 → (allF k).Perm (allC k)
  | 0, _ => List.Perm.refl _
  | k + 1, h => (all_perm k (by omega)).append (fw_perm (by omega) h)
theorem srt_fw {s : Nat} (h1 : 1 ≤ s) (h : s < 8) : srt (fwF 3 s) = fullL (s : Int) := by
  rw [fullL_ok h1 (by omega)]
  exact srt_congr (fw_perm h1 h)
theorem srt_all {m : Nat} (h1 : 1 ≤ m) (h : m ≤ 3) : srt (allF (2 ^ m - 1)) = allW (m : Int) := by
  rw [allW_ok h1 h]
  refine srt_congr (all_perm _ ?_)
  have : 2 ^ m ≤ 2 ^ 3 := Nat.pow_le_pow_right (by omega) h
  omega
theorem fw_len {s : Nat} (h1 : 1 ≤ s) (h : s < 8) : 0 < (fwF 3 s).length ∧ (fwF 3 s).length ≤ 144 := by
  rw [(fw_perm h1 h).length_eq]
  exact ⟨full_ne h1 (by omega), full_len (by omega)⟩
theorem all_len {k : Nat} (h1 : 1 ≤ k) (h : k < 8) : 0 < (allF k).length ∧ (allF k).length ≤ 159 := by
  refine ⟨?_, by rw [(all_perm k h).length_eq]; exact len_allC k h⟩
  obtain ⟨j, rfl⟩ : ∃ j, k = j + 1 := ⟨k - 1, by omega⟩
  have := (fw_len (s := j + 1) (by omega) h).1
  simp only [allF, List.length_append]
  omega
theorem fw_short {f : Nat} (hf : f < 4) {s : Nat} (h : s < 8) : ∀ u, u ∈ fwF f s → u.length ≤ 10 := by
  have hh : ∀ (f : Fin 4) (s : Fin 8), ((fwF f s).all fun u => decide (u.length ≤ 10)) = true := by decide +kernel
  intro u hu
  have := List.all_eq_true.1 (hh ⟨f, hf⟩ ⟨s, h⟩) u hu
  simpa using this
theorem andNot_bit {s i : Nat} (hs : s < 8) (hi : i < 3) (hb : s.testBit i = true) : bits .andNot .i64 (s : Int) ((2 ^ i : Nat) : Int) = ((s - 2 ^ i : Nat) : Int) := by
  have hh : ∀ (s : Fin 8) (i : Fin 3), (s : Nat).testBit i = true → bits .andNot .i64 ((s : Nat) : Int) ((2 ^ (i : Nat) : Nat) : Int) = (((s : Nat) - 2 ^ (i : Nat) : Nat) : Int) := by decide +kernel
  exact hh ⟨s, hs⟩ ⟨i, hi⟩ hb

set_option maxHeartbeats 1000000 in
theorem letterAt_any (i : Nat) (w : World) (h : i < 3) : Calls Try.prog 85 #[.int .i64 i] w fun e w' => e = .returned (.string (bs [lx i])) ∧ w' = w := by
  obtain rfl | rfl | rfl : i = 0 ∨ i = 1 ∨ i = 2 := by omega
  all_goals
    go_enter Try.func85, Try.ntmps85
    go_wp2
    go_ret
    exact ⟨by first | rfl | (congr 2), rfl⟩
set_option maxHeartbeats 1000000 in
theorem without_any (s i : Nat) (w : World) (hs : s < 8) (h : i < 3) (hb : s.testBit i = true) : Calls Try.prog 105 #[.int .i64 s, .int .i64 i] w fun e w' => e = .returned (.int .i64 (s - 2 ^ i : Nat)) ∧ w' = w := by
  have hand := andNot_bit hs h hb
  obtain ⟨z, hz⟩ : ∃ z, z = s - 2 ^ i := ⟨_, rfl⟩
  rw [← hz] at hand ⊢
  clear hz hb
  obtain rfl | rfl | rfl : i = 0 ∨ i = 1 ∨ i = 2 := by omega
  all_goals
    go_enter Try.func105, Try.ntmps105
    go_wp2
    go_ret
    exact ⟨ret_int hand, rfl⟩
end Go.Proofs.Ytjmjfmgbfjmaaaa
