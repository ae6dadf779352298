
/- The laws' own helpers: how large a table is, copies of rows and tables, and whether two are equal: each said as plain facts on lists. -/
import Derived.Test.YthllbekoidogpaaMem
import Derived.Test.YthllbekoidogpaaProg
import Derived.Deep.LoopGhost
import Derived.Deep.QuietTactic
import Derived.BigQuiet
import Derived.Deep.Light
namespace Go.Proofs.Ythllbekoidogpaa
open Go.RowKit
set_option linter.unusedVariables false

theorem info_int : (Try.prog.info? 3).map (fun i => (i.zero, i.size, i.bytes)) = some (some (.int .i64 0), 1, 8) := by kernel_rfl
theorem info_row : (Try.prog.info? 58).map (fun i => (i.zero, i.size, i.bytes)) = some (some (.slice none 0 0), 1, 24) := by kernel_rfl

/-- What is left when n places are taken. -/
def takeN (n : Nat) (l : Int) : Int := if l - n < 0 then -1 else l - n
def szRows : List (List Int) → Int → Int
  | [], l => l
  | r :: T, l => if takeN r.length l < 0 then -1 else szRows T (takeN r.length l)
def szT (T : List (List Int)) (l : Int) : Int := if l - T.length < 0 then -1 else szRows T (l - T.length)

set_option maxHeartbeats 400000 in
theorem szIntS_any (A : Option Addr) (n c : Nat) (l : Int) (w : World) (hn : n ≤ 9223372036854775807) (h0 : 0 ≤ l) (h1 : l ≤ 1048576) :
    Calls Try.prog 75 #[.slice A n c, .int .i64 l] w fun e w' => e = .returned (.int .i64 (takeN n l)) ∧ w = w' := by
  by_cases h : l - n < 0
  · go_enter Try.func75, Try.ntmps75
    go_wp2
    go_ret
    exact ⟨ret_int (by unfold takeN; rw [if_pos (by omega)]), rfl⟩
  · go_enter Try.func75, Try.ntmps75
    go_wp2
    go_ret
    exact ⟨ret_int (by unfold takeN; rw [if_neg (by omega)]), rfl⟩

theorem getD_drop (T : List (List Int)) (k : Nat) (hk : k < T.length) : T.drop k = rw_ T k :: T.drop (k + 1) := by
  rw [List.drop_eq_getElem_cons hk]; simp [rw_, List.getD, hk]

set_option maxHeartbeats 400000 in
theorem szIntSS_any (A : Option Addr) (c lo hi : Nat) (T : List (List Int)) (w : World) (hT : Mat w lo hi A T) (hS : Sized T) :
    Calls Try.prog 50 #[.slice A T.length c, .int .i64 1048576] w fun e w' => e = .returned (.int .i64 (szT T 1048576)) ∧ w = w' := by
  have hn := hS.len
  by_cases h : (1048576 : Int) - (T.length : Int) < 0
  · go_enter Try.func50, Try.ntmps50
    go_wp2
    go_ret
    exact ⟨ret_int (by unfold szT; rw [if_pos (by omega)]), rfl⟩
  · have hge : T.length ≤ 1048576 := by omega
    go_enter Try.func50, Try.ntmps50
    go_wp2
    go_loop [1, 5] (fun l i => ∃ (k : Nat) (n : Int), k ≤ T.length ∧ i = .int .i64 k ∧ l = .int .i64 n ∧ 0 ≤ n ∧ n ≤ 1048576 ∧ Hid (szRows (T.drop k) n = szT T 1048576)) (fun _ i => T.length - (intOf i).toNat)
    case atStart => exact ⟨0, _, Nat.zero_le _, rfl, rfl, by omega, by omega, by show _ = _; unfold szT; rw [if_neg (by omega)]; rfl⟩
    case round =>
      obtain ⟨k, n, hk, rfl, rfl, hn0, hn1, hs⟩ := hrel
      by_cases hlt : k < T.length
      · obtain ⟨b, o, A', c', rfl, _, _, hc, _⟩ := hT k hlt
        have hlen := hS.row k hlt
        by_cases hb : n - (rw_ T k).length < 0
        · have ht : takeN (rw_ T k).length n = -1 := by unfold takeN; rw [if_pos (by omega)]
          go_wp2_with (go_at_call 75; refine (szIntS_any _ _ _ _ _ hlen hn0 hn1).mono ?_; rintro e w' ⟨rfl, rfl⟩)
          go_ret
          exact ⟨ret_int (by rw [← hs.out, getD_drop T k hlt]; simp [szRows, ht]), rfl⟩
        · have ht : takeN (rw_ T k).length n = n - (rw_ T k).length := by unfold takeN; rw [if_neg (by omega)]
          go_wp2_with (go_at_call 75; refine (szIntS_any _ _ _ _ _ hlen hn0 hn1).mono ?_; rintro e w' ⟨rfl, rfl⟩)
          go_round
          case rel => exact ⟨k + 1, _, by omega, by go_num, rfl, by omega, by omega, by show _ = _; rw [← hs.out, getD_drop T k hlt]; simp only [szRows, ht]; rw [if_neg (by omega)]⟩
          case measure => simp [intOf]; omega
      · obtain rfl : k = T.length := by omega
        go_wp2
        go_ret
        exact ⟨ret_int (by rw [← hs.out]; simp [szRows]), rfl⟩

/-- A row under copy: k of its numbers are there. -/
structure Copy (t : TypeId) (w wr : World) (xs : List Int) (k : Nat) : Prop where
  below : Below w.heap.size w wr
  size : wr.heap.size = w.heap.size + 1
  row : wr.rowIs w.heap.size t xs.length (fun j => .int .i64 (if j < k then el xs j else 0))
theorem copy_start (t : TypeId) (w : World) (xs : List Int) : Copy t w (w.alloc (.cells (madeCells #[.int .i64 0] xs.length) t)) xs 0 :=
  ⟨(Below.refl _ _).alloc (Nat.le_refl _) _, by simp, (World.rowIs_made w _ xs.length t).congr (fun j _ => by simp)⟩
theorem copy_step {t : TypeId} {w wr : World} {xs : List Int} {k : Nat} (h : Copy t w wr xs k) : Copy t w (wr.setCell ⟨w.heap.size, k, none⟩ (.int .i64 (el xs k))) xs (k + 1) := by
  refine ⟨h.below.setCell (Nat.le_refl _) _, by simp [h.size], (h.row.set k _).congr (fun j _ => ?_)⟩
  by_cases e : j = k
  · subst e; simp
  · rw [if_neg e]
    by_cases hlt : j < k
    · rw [if_pos hlt, if_pos (by omega)]
    · rw [if_neg hlt, if_neg (by omega)]

set_option maxHeartbeats 400000 in
theorem toIntS_any (A : Option Addr) (c lo hi : Nat) (xs : List Int) (w : World) (h : Row w lo hi A xs) (hn : xs.length ≤ 1048576) (hs : hi ≤ w.heap.size) :
    Calls Try.prog 76 #[.slice A xs.length c] w fun e w' => e = .returned (.slice (some ⟨w.heap.size, 0, none⟩) xs.length xs.length) ∧ Below w.heap.size w w' ∧ w'.heap.size = w.heap.size + 1 ∧ Cells w' w.heap.size xs := by
  have hmk := run_make_row' (P := Try.prog) 58 3 (.int .i64 0) 8 Try.underlying58 info_int rfl .i64 .i64 xs.length (by omega) (by omega)
  go_enter Try.func76, Try.ntmps76
  go_wp2
  clear hmk
  go_loopg [4] xs.length (fun g i wr => ∃ k : Nat, k ≤ xs.length ∧ g = xs.length - k ∧ i = .int .i64 k ∧ Copy 3 w wr xs k)
  case atStart => exact ⟨0, Nat.zero_le _, rfl, rfl, copy_start _ w xs⟩
  case round =>
    obtain ⟨k, hk, rfl, rfl, hC⟩ := hrel
    by_cases hlt : k < xs.length
    · obtain ⟨b, o, rfl, _, hb, hc⟩ := h k hlt
      have g0 : wr.cell? ⟨b, o + k, none⟩ = some (.int .i64 (el xs k)) := by rw [hC.below.cell (p := ⟨b, o + k, none⟩) (by show b < _; omega)]; exact hc
      have g1 := hC.row.cell hlt
      have g2 := hC.row.frozen k
      go_wp2
      go_roundg (xs.length - (k + 1))
      case measure => go_light; omega
      case rel => go_light; exact ⟨k + 1, by omega, rfl, by go_num, copy_step hC⟩
    · obtain rfl : k = xs.length := by omega
      go_wp2
      go_ret
      exact ⟨rfl, hC.below, hC.size, Cells.of_rowIs hC.row (Nat.le_refl _) (fun j hj => by simp [hj])⟩

/-- A table under copy: k rows are there, row i in block 'base + 1 + i'. -/
structure Copies (t u : TypeId) (w wr : World) (T : List (List Int)) (k : Nat) : Prop where
  below : Below w.heap.size w wr
  size : wr.heap.size = w.heap.size + 1 + k
  top : wr.rowIs w.heap.size t T.length (fun j => if j < k then .slice (some ⟨w.heap.size + 1 + j, 0, none⟩) (rw_ T j).length (rw_ T j).length else .slice none 0 0)
  done : ∀ j, j < k → Cells wr (w.heap.size + 1 + j) (rw_ T j)
theorem copies_start (t u : TypeId) (w : World) (T : List (List Int)) : Copies t u w (w.alloc (.cells (madeCells #[.slice none 0 0] T.length) t)) T 0 :=
  ⟨(Below.refl _ _).alloc (Nat.le_refl _) _, by simp, (World.rowIs_made w _ T.length t).congr (fun j _ => by simp), fun j hj => absurd hj (Nat.not_lt_zero _)⟩
theorem copies_step {t u : TypeId} {w wr w1 : World} {T : List (List Int)} {k : Nat} (h : Copies t u w wr T k) (hb : Below wr.heap.size wr w1) (hz : w1.heap.size = wr.heap.size + 1) (hc : Cells w1 wr.heap.size (rw_ T k)) :
    Copies t u w (w1.setCell ⟨w.heap.size, k, none⟩ (.slice (some ⟨wr.heap.size, 0, none⟩) (rw_ T k).length (rw_ T k).length)) T (k + 1) := by
  have hs := h.size
  have htop : w1.rowIs w.heap.size t T.length _ := h.top.of_block (hb.block _ (by omega))
  refine ⟨(h.below.trans (hb.mono (by omega))).setCell (Nat.le_refl _) _, by simp [hz, h.size]; omega, (htop.set k _).congr (fun j _ => ?_), fun j hj => ?_⟩
  · by_cases e : j = k
    · subst e; simp [h.size]
    · rw [if_neg e]
      by_cases hlt : j < k
      · rw [if_pos hlt, if_pos (by omega)]
      · rw [if_neg hlt, if_neg (by omega)]
  · by_cases e : j = k
    · subst e
      rw [h.size] at hc
      exact hc.keep (Below.heap_setCell _ _ _ _ (by show w.heap.size + 1 + j ≠ w.heap.size; omega))
    · exact ((h.done j (by omega)).keep (hb.block _ (by omega))).keep (Below.heap_setCell _ _ _ _ (by show w.heap.size + 1 + j ≠ w.heap.size; omega))
theorem copies_done {t u : TypeId} {w wr : World} {T : List (List Int)} (h : Copies t u w wr T T.length) : OMat wr w.heap.size wr.heap.size (some ⟨w.heap.size, 0, none⟩) T := by
  have hs := h.size
  refine ⟨w.heap.size, 0, fun i => w.heap.size + 1 + i, fun i => (rw_ T i).length, fun i hi => ⟨rfl, Nat.le_refl _, by omega, by dsimp only; omega, by dsimp only; omega, by dsimp only; omega, ?_, h.done i hi⟩, fun i j _ _ hne => by dsimp only; omega⟩
  have := h.top.cell hi
  simpa [hi] using this

set_option maxHeartbeats 400000 in
theorem toIntSS_any (A : Option Addr) (c lo hi : Nat) (T : List (List Int)) (w : World) (h : Mat w lo hi A T) (hS : Small T) (hs : hi ≤ w.heap.size) :
    Calls Try.prog 51 #[.slice A T.length c] w fun e w' => e = .returned (.slice (some ⟨w.heap.size, 0, none⟩) T.length T.length) ∧ Below w.heap.size w w' ∧ OMat w' w.heap.size w'.heap.size (some ⟨w.heap.size, 0, none⟩) T := by
  have hn := hS.len
  have hmk := run_make_row' (P := Try.prog) 23 58 (.slice none 0 0) 24 Try.underlying23 info_row rfl .i64 .i64 T.length (by omega) (by omega)
  go_enter Try.func51, Try.ntmps51
  go_wp2
  clear hmk
  go_loopg [4] T.length (fun g i wr => ∃ k : Nat, k ≤ T.length ∧ g = T.length - k ∧ i = .int .i64 k ∧ Copies 58 3 w wr T k)
  case atStart => exact ⟨0, Nat.zero_le _, rfl, rfl, copies_start _ _ w T⟩
  case round =>
    obtain ⟨k, hk, rfl, rfl, hC⟩ := hrel
    by_cases hlt : k < T.length
    · have hM := h.below hC.below hs
      obtain ⟨b, o, A', c', rfl, _, hb, hc, hrow⟩ := hM k hlt
      have hlen := hS.row k hlt
      have hwr : hi ≤ wr.heap.size := by have := hC.size; omega
      go_wp2_with fail
      go_at_call 76
      refine (toIntS_any _ _ _ _ _ _ hrow hlen hwr).mono ?_
      rintro e w1 ⟨rfl, hb1, hz1, hc1⟩
      have htop : w1.rowIs w.heap.size 58 T.length _ := hC.top.of_block (hb1.block _ (by have := hC.size; omega))
      have g1 := htop.cell hlt
      have g2 := htop.frozen k
      have Hz := hide hz1
      clear hz1 htop
      go_wp2
      go_roundg (T.length - (k + 1))
      case measure => go_light; omega
      case rel => go_light; exact ⟨k + 1, by omega, rfl, by go_num, copies_step hC hb1 Hz.out hc1⟩
    · obtain rfl : k = T.length := by omega
      go_wp2
      go_ret
      exact ⟨rfl, hC.below, copies_done hC⟩

theorem takeN_nonneg {n : Nat} {l : Int} (h : 0 ≤ takeN n l) : (n : Int) ≤ l ∧ takeN n l = l - n := by
  unfold takeN at h ⊢
  split at h
  · omega
  · rename_i h'; rw [if_neg h']; exact ⟨by omega, rfl⟩
theorem szRows_small : ∀ (T : List (List Int)) (l : Int), l ≤ 1048576 → 0 ≤ szRows T l → ∀ r ∈ T, r.length ≤ 1048576
  | [], _, _, _ => fun r hr => by cases hr
  | r :: T, l, hl, h => fun x hx => by
    unfold szRows at h
    split at h
    · omega
    · rename_i h'
      obtain ⟨h1, h2⟩ := takeN_nonneg (by omega : 0 ≤ takeN r.length l)
      cases hx with
      | head => omega
      | tail _ hm => exact szRows_small T _ (by omega) h x hm
theorem szT_small {T : List (List Int)} (h : 0 ≤ szT T 1048576) : Small T := by
  unfold szT at h
  split at h
  · omega
  · refine ⟨by omega, fun i hi => szRows_small T _ (by omega) h _ ?_⟩
    have : rw_ T i = T[i] := by simp [rw_, List.getD, hi]
    rw [this]; exact List.getElem_mem hi
end Go.Proofs.Ythllbekoidogpaa
