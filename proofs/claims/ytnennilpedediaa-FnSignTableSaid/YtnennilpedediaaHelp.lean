
/- The laws' own helpers: how large a table is, copies of rows and tables, and whether two are equal: each said as plain facts on lists. -/
import Derived.Test.YtnennilpedediaaMem
import Derived.Test.YtnennilpedediaaProg
import Derived.Deep.LoopGhost
import Derived.Deep.QuietTactic
import Derived.BigQuiet
import Derived.Deep.Light
namespace Go.Proofs.Ytnennilpedediaa
open Go.RowKit
set_option linter.unusedVariables false

theorem info_int : (Try.prog.info? 3).map (fun i => (i.zero, i.size, i.bytes)) = some (some (.int .i64 0), 1, 8) := by kernel_rfl
theorem info_row : (Try.prog.info? 42).map (fun i => (i.zero, i.size, i.bytes)) = some (some (.slice none 0 0), 1, 24) := by kernel_rfl

/-- What is left when n places are taken. -/
def takeN (n : Nat) (l : Int) : Int := if l - n < 0 then -1 else l - n
def szRows : List (List Int) → Int → Int
  | [], l => l
  | r :: T, l => if takeN r.length l < 0 then -1 else szRows T (takeN r.length l)
def szT (T : List (List Int)) (l : Int) : Int := if l - T.length < 0 then -1 else szRows T (l - T.length)

theorem getD_drop (T : List (List Int)) (k : Nat) (hk : k < T.length) : T.drop k = rw_ T k :: T.drop (k + 1) := by
  rw [List.drop_eq_getElem_cons hk]; simp [rw_, List.getD, hk]

/-- A row under copy: k of its numbers are there. -/
structure Copy (t : TypeId) (w wr : World) (xs : List Int) (k : Nat) : Prop where
  below : Below w.heap.size w wr
  size : wr.heap.size = w.heap.size + 1
  row : wr.rowIs w.heap.size t xs.length (fun j => .int .i64 (if j < k then el xs j else 0))
theorem copy_start (t : TypeId) (w : World) (xs : List Int) : Copy t w (w.alloc (.cells (madeCells #[.int .i64 0] xs.length) t)) xs 0 :=
  ⟨(Below.refl _ _).alloc (Nat.le_refl _) _, by simp, (World.rowIs_made w _ xs.length t).congr (fun j _ => by simp)⟩
theorem copy_step {t : TypeId} {w wr : World} {xs : List Int} {k : Nat} (h : Copy t w wr xs k) : Copy t w (wr.setCell ⟨w.heap.size, k, none⟩ (.int .i64 (el xs k))) xs (k + 1) := by
  refine ⟨h.below.setCell (Nat.le_refl _) _, by simp [h.size], (h.row.set k _).congr (fun j _ => ?_)⟩
  by_cases e : j = k
  · subst e; simp
  · rw [if_neg e]
    by_cases hlt : j < k
    · rw [if_pos hlt, if_pos (by omega)]
    · rw [if_neg hlt, if_neg (by omega)]

/-- A table under copy: k rows are there, row i in block 'base + 1 + i'. -/
structure Copies (t u : TypeId) (w wr : World) (T : List (List Int)) (k : Nat) : Prop where
  below : Below w.heap.size w wr
  size : wr.heap.size = w.heap.size + 1 + k
  top : wr.rowIs w.heap.size t T.length (fun j => if j < k then .slice (some ⟨w.heap.size + 1 + j, 0, none⟩) (rw_ T j).length (rw_ T j).length else .slice none 0 0)
  done : ∀ j, j < k → Cells wr (w.heap.size + 1 + j) (rw_ T j)
theorem copies_start (t u : TypeId) (w : World) (T : List (List Int)) : Copies t u w (w.alloc (.cells (madeCells #[.slice none 0 0] T.length) t)) T 0 :=
  ⟨(Below.refl _ _).alloc (Nat.le_refl _) _, by simp, (World.rowIs_made w _ T.length t).congr (fun j _ => by simp), fun j hj => absurd hj (Nat.not_lt_zero _)⟩
theorem copies_step {t u : TypeId} {w wr w1 : World} {T : List (List Int)} {k : Nat} (h : Copies t u w wr T k) (hb : Below wr.heap.size wr w1) (hz : w1.heap.size = wr.heap.size + 1) (hc : Cells w1 wr.heap.size (rw_ T k)) :
    Copies t u w (w1.setCell ⟨w.heap.size, k, none⟩ (.slice (some ⟨wr.heap.size, 0, none⟩) (rw_ T k).length (rw_ T k).length)) T (k + 1) := by
  have hs := h.size
  have htop : w1.rowIs w.heap.size t T.length _ := h.top.of_block (hb.block _ (by omega))
  refine ⟨(h.below.trans (hb.mono (by omega))).setCell (Nat.le_refl _) _, by simp [hz, h.size]; omega, (htop.set k _).congr (fun j _ => ?_), fun j hj => ?_⟩
  · by_cases e : j = k
    · subst e; simp [h.size]
    · rw [if_neg e]
      by_cases hlt : j < k
      · rw [if_pos hlt, if_pos (by omega)]
      · rw [if_neg hlt, if_neg (by omega)]
  · by_cases e : j = k
    · subst e
      rw [h.size] at hc
      exact hc.keep (Below.heap_setCell _ _ _ _ (by show w.heap.size + 1 + j ≠ w.heap.size; omega))
    · exact ((h.done j (by omega)).keep (hb.block _ (by omega))).keep (Below.heap_setCell _ _ _ _ (by show w.heap.size + 1 + j ≠ w.heap.size; omega))
theorem copies_done {t u : TypeId} {w wr : World} {T : List (List Int)} (h : Copies t u w wr T T.length) : OMat wr w.heap.size wr.heap.size (some ⟨w.heap.size, 0, none⟩) T := by
  have hs := h.size
  refine ⟨w.heap.size, 0, fun i => w.heap.size + 1 + i, fun i => (rw_ T i).length, fun i hi => ⟨rfl, Nat.le_refl _, by omega, by dsimp only; omega, by dsimp only; omega, by dsimp only; omega, ?_, h.done i hi⟩, fun i j _ _ hne => by dsimp only; omega⟩
  have := h.top.cell hi
  simpa [hi] using this

theorem takeN_nonneg {n : Nat} {l : Int} (h : 0 ≤ takeN n l) : (n : Int) ≤ l ∧ takeN n l = l - n := by
  unfold takeN at h ⊢
  split at h
  · omega
  · rename_i h'; rw [if_neg h']; exact ⟨by omega, rfl⟩
theorem szRows_small : ∀ (T : List (List Int)) (l : Int), l ≤ 1048576 → 0 ≤ szRows T l → ∀ r ∈ T, r.length ≤ 1048576
  | [], _, _, _ => fun r hr => by cases hr
  | r :: T, l, hl, h => fun x hx => by
    unfold szRows at h
    split at h
    · omega
    · rename_i h'
      obtain ⟨h1, h2⟩ := takeN_nonneg (by omega : 0 ≤ takeN r.length l)
      cases hx with
      | head => omega
      | tail _ hm => exact szRows_small T _ (by omega) h x hm
theorem szT_small {T : List (List Int)} (h : 0 ≤ szT T 1048576) : Small T := by
  unfold szT at h
  split at h
  · omega
  · refine ⟨by omega, fun i hi => szRows_small T _ (by omega) h _ ?_⟩
    have : rw_ T i = T[i] := by simp [rw_, List.getD, hi]
    rw [this]; exact List.getElem_mem hi
end Go.Proofs.Ytnennilpedediaa
