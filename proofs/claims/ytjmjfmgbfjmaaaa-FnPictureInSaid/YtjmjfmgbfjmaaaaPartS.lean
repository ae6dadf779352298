
/- The table of a part: the specification's. -/
import Derived.Test.YtjmjfmgbfjmaaaaPartP
import Derived.Test.YtjmjfmgbfjmaaaaMadeS
import Derived.Test.YtjmjfmgbfjmaaaaFill
import Derived.Test.YtjmjfmgbfjmaaaaPureX
import Derived.Maps.AppendAt
import Derived.Deep.RegionHeld3
namespace Go.Proofs.Ytjmjfmgbfjmaaaa
open Go.RowKit
set_option linter.unusedVariables false


/-- 'row = append(row, q)', and where the row then lies. -/
theorem wp_app_int_at {ops : Array Oper} {rest : List Oper} {o : Oper} {a : Act} {Q : Exit → Act → World → Prop} {w : World} (hgd : o.guard = none) (s x : Operand)
    (ho : o.op = .call { callee := .builtin .append, args := #[s, x], argTypes := #[32, 32] }) (base : Nat) (v : Value) (xs : List Int) (q : Int) (c : Nat) (hs : a.eval s = v) (hx : a.eval x = .slice (some ⟨w.heap.size, 0, none⟩) 1 c)
    (hown : ARow base w v xs) (hn : xs.length ≤ 1048576) (hb : base ≤ w.heap.size)
    (h : ∀ v' w', ARow base w' v' (xs ++ [q]) → w.grownBy w' v.ownBlock → (v'.ownBlock = v.ownBlock ∨ v'.ownBlock = some (w.heap.size + 1)) → wpList Try.prog ops Q rest (a.put o.dst v') w') : wpList Try.prog ops Q (o :: rest) a (w.alloc (.cells #[.int .i64 q] 3)) := by
  obtain ⟨i0, hi0, hz0, hz1, hz2⟩ := info_parts info_int
  refine wpList_append_own_at _ hgd s x 32 ho base 3 i0 (.int .i64 0) 1 8 Try.underlying32 hi0 hz0 hz1 hz2 rfl (by decide) v _ _ hs (hown.alloc _) ⟨w.heap.size, 0, none⟩ 1 c [.int .i64 q] hx rfl
    (World.news_of_block (cs := #[.int .i64 q]) (t := 3) (fr := (0, 0)) (heap_alloc_new _ _)) (by simp [Value.oneCell']) (by rw [maxLen_is]; omega) (by omega) (by simp; omega) ?_
  intro v' w' h1 h2 _ h4
  have e : (w.alloc (.cells #[.int .i64 q] 3)).heap.size = w.heap.size + 1 := by simp
  rw [e] at h4
  exact h v' w' (by unfold ARow; simpa using h1) (grown_alloc _ h2) h4

/-- The places of things, below k. -/
def atL (s k : Nat) : List Int := (List.range k).map fun j => ((cnt s j : Nat) : Int)
theorem len_atL (s k : Nat) : (atL s k).length = k := by simp [atL]
theorem atL_succ (s k : Nat) : atL s k ++ [((cnt s k : Nat) : Int)] = atL s (k + 1) := by simp [atL, List.range_succ]
theorem el_atL {s k j : Nat} (h : j < k) : el (atL s k) j = ((cnt s j : Nat) : Int) := by simp [atL, el, List.getD, h]
theorem thk_ge {s n : Nat} (h : s < 2 ^ n) : ∀ j, thk s (n + j) = thk s n
  | 0 => rfl
  | j + 1 => by
    have e : s.testBit (n + j) = false := by
      cases e : s.testBit (n + j) with
      | false => rfl
      | true => have := bit_lt h e; omega
    rw [← Nat.add_assoc, thk_succ, thk_ge h j, e]; simp
theorem thk_9 {s n : Nat} (h : s < 2 ^ n) (hn : n ≤ 9) : thk s 9 = thk s n := by
  have := thk_ge h (9 - n)
  rwa [show n + (9 - n) = 9 from by omega] at this

theorem ATab.keepRow {base base' : Nat} {w w1 : World} {v u : Value} {T : List (List Int)} {xs : List Int} (h : ATab base w v T) (hr : ARow base' w u xs) (hg : w.grownBy w1 v.ownBlock) : ARow base' w1 u xs := by
  obtain ⟨vs, h1, _⟩ := h
  exact World.ownsRow.kept hr hg (own_ne hr h1 (by decide))

/-- Both rows under way, in blocks of their own. -/
structure Both (base : Nat) (wr : World) (s k : Nat) (v6 v7 : Value) : Prop where
  a : ARow base wr v6 (atL s k)
  l : ARow base wr v7 (thk s k)
  ne : v6.ownBlock ≠ v7.ownBlock
theorem own_lt {base : Nat} {w : World} {v : Value} {xs : List Int} (h : ARow base w v xs) {k : Nat} (e : v.ownBlock = some k) : k < w.heap.size := (h.lt k e).2
theorem Both.at_ {base s k : Nat} {wr w1 : World} {v6 v7 v1 : Value} (h : Both base wr s k v6 v7) (h1 : ARow base w1 v1 (atL s k ++ [((cnt s k : Nat) : Int)])) (hg : wr.grownBy w1 v6.ownBlock) (ho : v1.ownBlock = v6.ownBlock ∨ v1.ownBlock = some (wr.heap.size + 1)) :
    ARow base w1 v1 (atL s (k + 1)) ∧ ARow base w1 v7 (thk s k) ∧ v1.ownBlock ≠ v7.ownBlock := by
  refine ⟨by rw [← atL_succ]; exact h1, World.ownsRow.kept h.l hg (.inr fun e => h.ne e.symm), fun e => ?_⟩
  rcases ho with ho | ho
  · exact h.ne (ho.symm.trans e)
  · have := own_lt h.l (e.symm.trans ho); omega
theorem Both.list_ {base s k : Nat} {wr w1 : World} {v6 v7 v1 : Value} (ha : ARow base wr v6 (atL s (k + 1))) (hl : ARow base wr v7 (thk s k)) (hne : v6.ownBlock ≠ v7.ownBlock) (hb : s.testBit k = true) (h1 : ARow base w1 v1 (thk s k ++ [(k : Int)])) (hg : wr.grownBy w1 v7.ownBlock) (ho : v1.ownBlock = v7.ownBlock ∨ v1.ownBlock = some (wr.heap.size + 1)) :
    Both base w1 s (k + 1) v6 v1 := by
  refine ⟨World.ownsRow.kept ha hg (.inr hne), by rw [thk_succ, hb]; exact h1, fun e => ?_⟩
  rcases ho with ho | ho
  · exact hne (e.trans ho)
  · have := own_lt ha (e.trans ho); omega
theorem Both.skip {base s k : Nat} {wr : World} {v6 v7 : Value} (ha : ARow base wr v6 (atL s (k + 1))) (hl : ARow base wr v7 (thk s k)) (hne : v6.ownBlock ≠ v7.ownBlock) (hb : s.testBit k = false) : Both base wr s (k + 1) v6 v7 :=
  ⟨ha, by rw [thk_succ, hb]; simpa using hl, hne⟩
/-- The specification's table under way. -/
def rowQ (T : List (List Int)) (s x k : Nat) : List Int := (List.range k).map fun y => partM T s x y
def rowsQ (T : List (List Int)) (s L k : Nat) : List (List Int) := (List.range k).map fun x => rowQ T s x L
theorem rowQ_succ (T : List (List Int)) (s x k : Nat) : rowQ T s x k ++ [partM T s x k] = rowQ T s x (k + 1) := by simp [rowQ, List.range_succ]
theorem rowsQ_succ (T : List (List Int)) (s L k : Nat) : rowsQ T s L k ++ [rowQ T s k L] = rowsQ T s L (k + 1) := by simp [rowsQ, List.range_succ]
theorem len_rowQ (T : List (List Int)) (s x k : Nat) : (rowQ T s x k).length = k := by simp [rowQ]
theorem len_rowsQ (T : List (List Int)) (s L k : Nat) : (rowsQ T s L k).length = k := by simp [rowsQ]

end Go.Proofs.Ytjmjfmgbfjmaaaa
