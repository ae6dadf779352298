
/- All rows of different letters are listed in order, and each is its own firsts: by looking at all of them. -/
import Derived.Test.YtnennilpedediaaSafirst
namespace Go.Proofs.Ytnennilpedediaa
set_option linter.unusedVariables false

structure ListedF (L : List (List UInt8)) : Prop where
  ok : ∀ k, k < L.length → okW (sl L k) = true
  made_ : ∀ k, k < L.length → fsW (sl L k) = sl L k
  short : ∀ k, k < L.length → (sl L k).length ≤ 24
  up : ∀ k, k + 1 < L.length → lsB (sl L k) (sl L (k + 1)) = true
theorem afs_listed {m : Nat} (h1 : 1 ≤ m) (h3 : m ≤ 3) : ListedF (afW m) ∧ ((afW m).length : Int) = el [0, 1, 4, 15] m ∧ 1 ≤ (afW m).length := by
  have h := afW_all ⟨m, by omega⟩ h1
  simp only [Bool.and_eq_true, List.all_eq_true, decide_eq_true_iff, List.mem_range] at h
  obtain ⟨h2, h4, h5⟩ := h
  have e : afW (m : Int) = afA m m := by
    unfold afW
    rw [show (decide ((1 : Int) ≤ (m : Int)) && decide ((m : Int) ≤ 3)) = true from by simp; omega]
    rfl
  rw [e]
  refine ⟨⟨fun k hk => (h2 _ (sl_mem hk)).1, fun k hk => (h2 _ (sl_mem hk)).2, fun k hk => (okW_iff.1 (h2 _ (sl_mem hk)).1).2.2, fun k hk => h5 k (by omega)⟩, h4, ?_⟩
  obtain rfl | rfl | rfl : m = 1 ∨ m = 2 ∨ m = 3 := by omega
  · have hg : (1 : Int) ≤ el [0, 1, 4, 15] 1 := by decide
    rw [← h4] at hg
    omega
  · have hg : (1 : Int) ≤ el [0, 1, 4, 15] 2 := by decide
    rw [← h4] at hg
    omega
  · have hg : (1 : Int) ≤ el [0, 1, 4, 15] 3 := by decide
    rw [← h4] at hg
    omega
end Go.Proofs.Ytnennilpedediaa
