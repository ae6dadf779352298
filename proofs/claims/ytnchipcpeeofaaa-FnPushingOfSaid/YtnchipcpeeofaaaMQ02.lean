/-  -/
import Derived.Test.YtnchipcpeeofaaaProg
import Derived.Deep.LoopGhost
import Derived.Deep.QuietTactic
import Derived.BigQuiet
import Derived.Deep.Light
import Derived.Test.YtnchipcpeeofaaaMQ01
namespace Go.Proofs.Ytnchipcpeeofaaa
open Go.RowKit
set_option linter.unusedVariables false

theorem info_int : (Try.prog.info? 3).map (fun i => (i.zero, i.size, i.bytes)) = some (some (.int .i64 0), 1, 8) := by kernel_rfl
theorem info_row : (Try.prog.info? 24).map (fun i => (i.zero, i.size, i.bytes)) = some (some (.slice none 0 0), 1, 24) := by kernel_rfl

/-- What is left when n places are taken. -/
def takeN (n : Nat) (l : Int) : Int := if l - n < 0 then -1 else l - n
def szRows : List (List Int) → Int → Int
  | [], l => l
  | r :: T, l => if takeN r.length l < 0 then -1 else szRows T (takeN r.length l)
def szT (T : List (List Int)) (l : Int) : Int := if l - T.length < 0 then -1 else szRows T (l - T.length)

set_option maxHeartbeats 400000 in
theorem szIntS_any (A : Option Addr) (n c : Nat) (l : Int) (w : World) (hn : n ≤ 9223372036854775807) (h0 : 0 ≤ l) (h1 : l ≤ 1048576) :
    Calls Try.prog 79 #[.slice A n c, .int .i64 l] w fun e w' => e = .returned (.int .i64 (takeN n l)) ∧ w = w' := by
  by_cases h : l - n < 0
  · go_enter Try.func79, Try.ntmps79
    go_wp2
    go_ret
    exact ⟨ret_int (by unfold takeN; rw [if_pos (by omega)]), rfl⟩
  · go_enter Try.func79, Try.ntmps79
    go_wp2
    go_ret
    exact ⟨ret_int (by unfold takeN; rw [if_neg (by omega)]), rfl⟩

theorem getD_drop (T : List (List Int)) (k : Nat) (hk : k < T.length) : T.drop k = rw_ T k :: T.drop (k + 1) := by
  rw [List.drop_eq_getElem_cons hk]; simp [rw_, List.getD, hk]

set_option maxHeartbeats 400000 in
theorem szIntSS_any (A : Option Addr) (c lo hi : Nat) (T : List (List Int)) (w : World) (hT : Mat w lo hi A T) (hS : Sized T) :
    Calls Try.prog 41 #[.slice A T.length c, .int .i64 1048576] w fun e w' => e = .returned (.int .i64 (szT T 1048576)) ∧ w = w' := by
  have hn := hS.len
  by_cases h : (1048576 : Int) - (T.length : Int) < 0
  · go_enter Try.func41, Try.ntmps41
    go_wp2
    go_ret
    exact ⟨ret_int (by unfold szT; rw [if_pos (by omega)]), rfl⟩
  · have hge : T.length ≤ 1048576 := by omega
    go_enter Try.func41, Try.ntmps41
    go_wp2
    go_loop [1, 5] (fun l i => ∃ (k : Nat) (n : Int), k ≤ T.length ∧ i = .int .i64 k ∧ l = .int .i64 n ∧ 0 ≤ n ∧ n ≤ 1048576 ∧ Hid (szRows (T.drop k) n = szT T 1048576)) (fun _ i => T.length - (intOf i).toNat)
    case atStart => exact ⟨0, _, Nat.zero_le _, rfl, rfl, by omega, by omega, by show _ = _; unfold szT; rw [if_neg (by omega)]; rfl⟩
    case round =>
      obtain ⟨k, n, hk, rfl, rfl, hn0, hn1, hs⟩ := hrel
      by_cases hlt : k < T.length
      · obtain ⟨b, o, A', c', rfl, _, _, hc, _⟩ := hT k hlt
        have hlen := hS.row k hlt
        by_cases hb : n - (rw_ T k).length < 0
        · have ht : takeN (rw_ T k).length n = -1 := by unfold takeN; rw [if_pos (by omega)]
          go_wp2_with (go_at_call 79; refine (szIntS_any _ _ _ _ _ hlen hn0 hn1).mono ?_; rintro e w' ⟨rfl, rfl⟩)
          go_ret
          exact ⟨ret_int (by rw [← hs.out, getD_drop T k hlt]; simp [szRows, ht]), rfl⟩
        · have ht : takeN (rw_ T k).length n = n - (rw_ T k).length := by unfold takeN; rw [if_neg (by omega)]
          go_wp2_with (go_at_call 79; refine (szIntS_any _ _ _ _ _ hlen hn0 hn1).mono ?_; rintro e w' ⟨rfl, rfl⟩)
          go_round
          case rel => exact ⟨k + 1, _, by omega, by go_num, rfl, by omega, by omega, by show _ = _; rw [← hs.out, getD_drop T k hlt]; simp only [szRows, ht]; rw [if_neg (by omega)]⟩
          case measure => simp [intOf]; omega
      · obtain rfl : k = T.length := by omega
        go_wp2
        go_ret
        exact ⟨ret_int (by rw [← hs.out]; simp [szRows]), rfl⟩

/-- A row under copy: k of its numbers are there. -/
structure Copy (t : TypeId) (w wr : World) (xs : List Int) (k : Nat) : Prop where
  below : Below w.heap.size w wr
  size : wr.heap.size = w.heap.size + 1
  row : wr.rowIs w.heap.size t xs.length (fun j => .int .i64 (if j < k then el xs j else 0))
theorem copy_start (t : TypeId) (w : World) (xs : List Int) : Copy t w (w.alloc (.cells (madeCells #[.int .i64 0] xs.length) t)) xs 0 :=
  ⟨(Below.refl _ _).alloc (Nat.le_refl _) _, by simp, (World.rowIs_made w _ xs.length t).congr (fun j _ => by simp)⟩
theorem copy_step {t : TypeId} {w wr : World} {xs : List Int} {k : Nat} (h : Copy t w wr xs k) : Copy t w (wr.setCell ⟨w.heap.size, k, none⟩ (.int .i64 (el xs k))) xs (k + 1) := by
  refine ⟨h.below.setCell (Nat.le_refl _) _, by simp [h.size], (h.row.set k _).congr (fun j _ => ?_)⟩
  by_cases e : j = k
  · subst e; simp
  · rw [if_neg e]
    by_cases hlt : j < k
    · rw [if_pos hlt, if_pos (by omega)]
    · rw [if_neg hlt, if_neg (by omega)]

set_option maxHeartbeats 400000 in
theorem toIntS_any (A : Option Addr) (c lo hi : Nat) (xs : List Int) (w : World) (h : Row w lo hi A xs) (hn : xs.length ≤ 1048576) (hs : hi ≤ w.heap.size) :
    Calls Try.prog 43 #[.slice A xs.length c] w fun e w' => e = .returned (.slice (some ⟨w.heap.size, 0, none⟩) xs.length xs.length) ∧ Below w.heap.size w w' ∧ w'.heap.size = w.heap.size + 1 ∧ Cells w' w.heap.size xs := by
  have hmk := run_make_row' (P := Try.prog) 24 3 (.int .i64 0) 8 Try.underlying24 info_int rfl .i64 .i64 xs.length (by omega) (by omega)
  go_enter Try.func43, Try.ntmps43
  go_wp2
  clear hmk
  go_loopg [4] xs.length (fun g i wr => ∃ k : Nat, k ≤ xs.length ∧ g = xs.length - k ∧ i = .int .i64 k ∧ Copy 3 w wr xs k)
  case atStart => exact ⟨0, Nat.zero_le _, rfl, rfl, copy_start _ w xs⟩
  case round =>
    obtain ⟨k, hk, rfl, rfl, hC⟩ := hrel
    by_cases hlt : k < xs.length
    · obtain ⟨b, o, rfl, _, hb, hc⟩ := h k hlt
      have g0 : wr.cell? ⟨b, o + k, none⟩ = some (.int .i64 (el xs k)) := by rw [hC.below.cell (p := ⟨b, o + k, none⟩) (by show b < _; omega)]; exact hc
      have g1 := hC.row.cell hlt
      have g2 := hC.row.frozen k
      go_wp2
      go_roundg (xs.length - (k + 1))
      case measure => go_light; omega
      case rel => go_light; exact ⟨k + 1, by omega, rfl, by go_num, copy_step hC⟩
    · obtain rfl : k = xs.length := by omega
      go_wp2
      go_ret
      exact ⟨rfl, hC.below, hC.size, Cells.of_rowIs hC.row (Nat.le_refl _) (fun j hj => by simp [hj])⟩

/-- A table under copy: k rows are there, row i in block 'base + 1 + i'. -/
structure Copies (t u : TypeId) (w wr : World) (T : List (List Int)) (k : Nat) : Prop where
  below : Below w.heap.size w wr
  size : wr.heap.size = w.heap.size + 1 + k
  top : wr.rowIs w.heap.size t T.length (fun j => if j < k then .slice (some ⟨w.heap.size + 1 + j, 0, none⟩) (rw_ T j).length (rw_ T j).length else .slice none 0 0)
  done : ∀ j, j < k → Cells wr (w.heap.size + 1 + j) (rw_ T j)
theorem copies_start (t u : TypeId) (w : World) (T : List (List Int)) : Copies t u w (w.alloc (.cells (madeCells #[.slice none 0 0] T.length) t)) T 0 :=
  ⟨(Below.refl _ _).alloc (Nat.le_refl _) _, by simp, (World.rowIs_made w _ T.length t).congr (fun j _ => by simp), fun j hj => absurd hj (Nat.not_lt_zero _)⟩
theorem copies_step {t u : TypeId} {w wr w1 : World} {T : List (List Int)} {k : Nat} (h : Copies t u w wr T k) (hb : Below wr.heap.size wr w1) (hz : w1.heap.size = wr.heap.size + 1) (hc : Cells w1 wr.heap.size (rw_ T k)) :
    Copies t u w (w1.setCell ⟨w.heap.size, k, none⟩ (.slice (some ⟨wr.heap.size, 0, none⟩) (rw_ T k).length (rw_ T k).length)) T (k + 1) := by
  have hs := h.size
  have htop : w1.rowIs w.heap.size t T.length _ := h.top.of_block (hb.block _ (by omega))
  refine ⟨(h.below.trans (hb.mono (by omega))).setCell (Nat.le_refl _) _, by simp [hz, h.size]; omega, (htop.set k _).congr (fun j _ => ?_), fun j hj => ?_⟩
  · by_cases e : j = k
    · subst e; simp [h.size]
    · rw [if_neg e]
      by_cases hlt : j < k
      · rw [if_pos hlt, if_pos (by omega)]
      · rw [if_neg hlt, if_neg (by omega)]
  · by_cases e : j = k
    · subst e
      rw [h.size] at hc
      exact hc.keep (Below.heap_setCell _ _ _ _ (by show w.heap.size + 1 + j ≠ w.heap.size; omega))
    · exact ((h.done j (by omega)).keep (hb.block _ (by omega))).keep (Below.heap_setCell _ _ _ _ (by show w.heap.size + 1 + j ≠ w.heap.size; omega))
theorem copies_done {t u : TypeId} {w wr : World} {T : List (List Int)} (h : Copies t u w wr T T.length) : OMat wr w.heap.size wr.heap.size (some ⟨w.heap.size, 0, none⟩) T := by
  have hs := h.size
  refine ⟨w.heap.size, 0, fun i => w.heap.size + 1 + i, fun i => (rw_ T i).length, fun i hi => ⟨rfl, Nat.le_refl _, by omega, by dsimp only; omega, by dsimp only; omega, by dsimp only; omega, ?_, h.done i hi⟩, fun i j _ _ hne => by dsimp only; omega⟩
  have := h.top.cell hi
  simpa [hi] using this

set_option maxHeartbeats 400000 in
theorem toIntSS_any (A : Option Addr) (c lo hi : Nat) (T : List (List Int)) (w : World) (h : Mat w lo hi A T) (hS : Small T) (hs : hi ≤ w.heap.size) :
    Calls Try.prog 42 #[.slice A T.length c] w fun e w' => e = .returned (.slice (some ⟨w.heap.size, 0, none⟩) T.length T.length) ∧ Below w.heap.size w w' ∧ OMat w' w.heap.size w'.heap.size (some ⟨w.heap.size, 0, none⟩) T := by
  have hn := hS.len
  have hmk := run_make_row' (P := Try.prog) 23 24 (.slice none 0 0) 24 Try.underlying23 info_row rfl .i64 .i64 T.length (by omega) (by omega)
  go_enter Try.func42, Try.ntmps42
  go_wp2
  clear hmk
  go_loopg [4] T.length (fun g i wr => ∃ k : Nat, k ≤ T.length ∧ g = T.length - k ∧ i = .int .i64 k ∧ Copies 24 3 w wr T k)
  case atStart => exact ⟨0, Nat.zero_le _, rfl, rfl, copies_start _ _ w T⟩
  case round =>
    obtain ⟨k, hk, rfl, rfl, hC⟩ := hrel
    by_cases hlt : k < T.length
    · have hM := h.below hC.below hs
      obtain ⟨b, o, A', c', rfl, _, hb, hc, hrow⟩ := hM k hlt
      have hlen := hS.row k hlt
      have hwr : hi ≤ wr.heap.size := by have := hC.size; omega
      go_wp2_with fail
      go_at_call 43
      refine (toIntS_any _ _ _ _ _ _ hrow hlen hwr).mono ?_
      rintro e w1 ⟨rfl, hb1, hz1, hc1⟩
      have htop : w1.rowIs w.heap.size 24 T.length _ := hC.top.of_block (hb1.block _ (by have := hC.size; omega))
      have g1 := htop.cell hlt
      have g2 := htop.frozen k
      have Hz := hide hz1
      clear hz1 htop
      go_wp2
      go_roundg (T.length - (k + 1))
      case measure => go_light; omega
      case rel => go_light; exact ⟨k + 1, by omega, rfl, by go_num, copies_step hC hb1 Hz.out hc1⟩
    · obtain rfl : k = T.length := by omega
      go_wp2
      go_ret
      exact ⟨rfl, hC.below, copies_done hC⟩

theorem takeN_nonneg {n : Nat} {l : Int} (h : 0 ≤ takeN n l) : (n : Int) ≤ l ∧ takeN n l = l - n := by
  unfold takeN at h ⊢
  split at h
  · omega
  · rename_i h'; rw [if_neg h']; exact ⟨by omega, rfl⟩
theorem szRows_small : ∀ (T : List (List Int)) (l : Int), l ≤ 1048576 → 0 ≤ szRows T l → ∀ r ∈ T, r.length ≤ 1048576
  | [], _, _, _ => fun r hr => by cases hr
  | r :: T, l, hl, h => fun x hx => by
    unfold szRows at h
    split at h
    · omega
    · rename_i h'
      obtain ⟨h1, h2⟩ := takeN_nonneg (by omega : 0 ≤ takeN r.length l)
      cases hx with
      | head => omega
      | tail _ hm => exact szRows_small T _ (by omega) h x hm
theorem szT_small {T : List (List Int)} (h : 0 ≤ szT T 1048576) : Small T := by
  unfold szT at h
  split at h
  · omega
  · refine ⟨by omega, fun i hi => szRows_small T _ (by omega) h _ ?_⟩
    have : rw_ T i = T[i] := by simp [rw_, List.getD, hi]
    rw [this]; exact List.getElem_mem hi
end Go.Proofs.Ytnchipcpeeofaaa

namespace Go.Proofs.Ytnchipcpeeofaaa
open Go.RowKit
set_option linter.unusedVariables false

set_option maxHeartbeats 400000 in
theorem eqIntS_same (A A2 : Option Addr) (c c2 lo hi lo2 hi2 : Nat) (xs : List Int) (w : World) (h : Row w lo hi A xs) (h2 : Row w lo2 hi2 A2 xs) (hn : xs.length ≤ 1048576) :
    Calls Try.prog 45 #[.slice A xs.length c, .slice A2 xs.length c2] w fun e w' => e = .returned (.bool true) ∧ QD w w' := by
  go_enter Try.func45, Try.ntmps45
  go_wp2
  go_loopg [5] xs.length (fun g i wr => ∃ k : Nat, k ≤ xs.length ∧ g = xs.length - k ∧ i = .int .i64 k ∧ QD w wr)
  case atStart => exact ⟨0, Nat.zero_le _, rfl, rfl, QD.refl _⟩
  case round =>
    obtain ⟨k, hk, rfl, rfl, hq⟩ := hrel
    by_cases hlt : k < xs.length
    · obtain ⟨b, o, rfl, _, _, hc⟩ := (h.quiet hq) k hlt
      obtain ⟨b2, o2, rfl, _, _, hc2⟩ := (h2.quiet hq) k hlt
      have hz : (k : Int) < (xs.length : Int) := by omega
      have hz0 : (0 : Int) ≤ (k : Int) := by omega
      go_wp2
      go_quiet (fail)
      go_wp2
      go_roundg (xs.length - (k + 1))
      case measure => go_light; omega
      case rel => go_light; exact ⟨k + 1, by omega, rfl, by go_num, hq.drewN _⟩
    · obtain rfl : k = xs.length := by omega
      go_wp2
      go_ret
      exact ⟨rfl, hq⟩

set_option maxHeartbeats 400000 in
theorem sameInts_same (A A2 : Option Addr) (c c2 lo hi lo2 hi2 : Nat) (xs : List Int) (w : World) (h : Row w lo hi A xs) (h2 : Row w lo2 hi2 A2 xs) (hn : xs.length ≤ 1048576) :
    Calls Try.prog 37 #[.slice A xs.length c, .slice A2 xs.length c2] w fun e w' => e = .returned (.bool true) ∧ QD w w' := by
  go_enter Try.func37, Try.ntmps37
  go_wp2
  go_loopg [5] xs.length (fun g i wr => ∃ k : Nat, k ≤ xs.length ∧ g = xs.length - k ∧ i = .int .i64 k ∧ QD w wr)
  case atStart => exact ⟨0, Nat.zero_le _, rfl, rfl, QD.refl _⟩
  case round =>
    obtain ⟨k, hk, rfl, rfl, hq⟩ := hrel
    by_cases hlt : k < xs.length
    · obtain ⟨b, o, rfl, _, _, hc⟩ := (h.quiet hq) k hlt
      obtain ⟨b2, o2, rfl, _, _, hc2⟩ := (h2.quiet hq) k hlt
      have hz : (k : Int) < (xs.length : Int) := by omega
      have hz0 : (0 : Int) ≤ (k : Int) := by omega
      go_wp2
      go_quiet (fail)
      go_wp2
      go_roundg (xs.length - (k + 1))
      case measure => go_light; omega
      case rel => go_light; exact ⟨k + 1, by omega, rfl, by go_num, hq.drewN _⟩
    · obtain rfl : k = xs.length := by omega
      go_wp2
      go_ret
      exact ⟨rfl, hq⟩

set_option maxHeartbeats 400000 in
theorem eqIntSS_same (A A2 : Option Addr) (c c2 lo hi lo2 hi2 : Nat) (T : List (List Int)) (w : World) (h : Mat w lo hi A T) (h2 : Mat w lo2 hi2 A2 T) (hS : Small T) :
    Calls Try.prog 44 #[.slice A T.length c, .slice A2 T.length c2] w fun e w' => e = .returned (.bool true) ∧ QD w w' := by
  have hn := hS.len
  go_enter Try.func44, Try.ntmps44
  go_wp2
  go_loopg [5] T.length (fun g i wr => ∃ k : Nat, k ≤ T.length ∧ g = T.length - k ∧ i = .int .i64 k ∧ QD w wr)
  case atStart => exact ⟨0, Nat.zero_le _, rfl, rfl, QD.refl _⟩
  case round =>
    obtain ⟨k, hk, rfl, rfl, hq⟩ := hrel
    by_cases hlt : k < T.length
    · obtain ⟨b, o, A', c', rfl, _, _, hc, hR⟩ := (h.quiet hq) k hlt
      obtain ⟨b2, o2, A2', c2', rfl, _, _, hc2, hR2⟩ := (h2.quiet hq) k hlt
      have hz : (k : Int) < (T.length : Int) := by omega
      have hz0 : (0 : Int) ≤ (k : Int) := by omega
      have hlen := hS.row k hlt
      go_wp2
      go_quiet ((go_at_call 45; exact quiet_at (eqIntS_same _ _ _ _ _ _ _ _ _ _ (hR.drewN _) (hR2.drewN _) hlen)))
      go_wp2
      go_roundg (T.length - (k + 1))
      case measure => go_light; omega
      case rel => go_light; exact ⟨k + 1, by omega, rfl, by go_num, hq.drewN _⟩
    · obtain rfl : k = T.length := by omega
      go_wp2
      go_ret
      exact ⟨rfl, hq⟩

end Go.Proofs.Ytnchipcpeeofaaa

namespace Go.Proofs.Ytnchipcpeeofaaa
open Go.RowKit
set_option linter.unusedVariables false

set_option maxHeartbeats 400000 in
theorem allThings_any (A : Option Addr) (c lo hi n : Nat) (xs : List Int) (w : World) (h : Row w lo hi A xs) (hn : xs.length ≤ 1048576) (hm : n ≤ 1048576) :
    Calls Try.prog 52 #[.slice A xs.length c, .int .i64 n] w fun e w' => e = .returned (.bool (okRow n xs)) ∧ w = w' := by
  go_enter Try.func52, Try.ntmps52
  go_wp2
  go_loopg [9] xs.length (fun g i wr => ∃ k : Nat, k ≤ xs.length ∧ g = xs.length - k ∧ i = .int .i64 k ∧ w = wr ∧ Hid (∀ j, j < k → 0 ≤ el xs j ∧ el xs j < n))
  case atStart => exact ⟨0, Nat.zero_le _, rfl, rfl, rfl, fun _ hj => absurd hj (Nat.not_lt_zero _)⟩
  case round =>
    obtain ⟨k, hk, rfl, rfl, rfl, hH⟩ := hrel
    by_cases hlt : k < xs.length
    · obtain ⟨b, o, rfl, _, _, hc⟩ := h k hlt
      by_cases h0 : el xs k < 0
      · go_wp2
        go_ret
        exact ⟨ret_bool (okRow_false hlt (.inl h0)).symm, rfl⟩
      · by_cases h1 : (n : Int) ≤ el xs k
        · go_wp2
          go_ret
          exact ⟨ret_bool (okRow_false hlt (.inr h1)).symm, rfl⟩
        · go_wp2
          go_roundg (xs.length - (k + 1))
          case measure => go_light; omega
          case rel => go_light; exact ⟨k + 1, by omega, rfl, by go_num, rfl, fun j hj => by
            by_cases e : j = k
            · subst e; exact ⟨by omega, by omega⟩
            · exact hH j (by omega)⟩
    · obtain rfl : k = xs.length := by omega
      go_wp2
      go_ret
      exact ⟨ret_bool (okRow_iff.2 hH.out).symm, rfl⟩

set_option maxHeartbeats 400000 in
theorem l1In_any (n lo hi : Int) (w : World) : Calls Try.prog 53 #[.int .i64 n, .int .i64 lo, .int .i64 hi] w fun e w' => e = .returned (.bool (decide (lo ≤ n) && decide (n ≤ hi))) ∧ w = w' := by
  by_cases h0 : lo ≤ n <;> by_cases h1 : n ≤ hi
  all_goals
    go_enter Try.func53, Try.ntmps53
    go_wp2
    go_ret
    exact ⟨ret_bool (by simp [h0, h1]), rfl⟩

set_option maxHeartbeats 400000 in
theorem iTableOk_any (A : Option Addr) (c lo hi : Nat) (T : List (List Int)) (w : World) (h : Mat w lo hi A T) (hS : Small T) :
    Calls Try.prog 51 #[.slice A T.length c] w fun e w' => e = .returned (.bool (okT T)) ∧ w = w' := by
  have hn := hS.len
  by_cases h1 : T.length < 1
  · go_enter Try.func51, Try.ntmps51
    go_wp2
    go_ret
    exact ⟨ret_bool (okT_size (.inl h1)).symm, rfl⟩
  · by_cases h9 : 9 < T.length
    · go_enter Try.func51, Try.ntmps51
      go_wp2
      go_ret
      exact ⟨ret_bool (okT_size (.inr h9)).symm, rfl⟩
    · go_enter Try.func51, Try.ntmps51
      go_wp2
      go_loopg [15] T.length (fun g i wr => ∃ k : Nat, k ≤ T.length ∧ g = T.length - k ∧ i = .int .i64 k ∧ w = wr ∧ Hid (∀ j, j < k → (rw_ T j).length = T.length ∧ okRow T.length (rw_ T j) = true))
      case atStart => exact ⟨0, Nat.zero_le _, rfl, rfl, rfl, fun _ hj => absurd hj (Nat.not_lt_zero _)⟩
      case round =>
        obtain ⟨k, hk, rfl, rfl, rfl, hH⟩ := hrel
        by_cases hlt : k < T.length
        · obtain ⟨b, o, A', c', rfl, _, _, hc, hR⟩ := h k hlt
          have hl := hS.row k hlt
          by_cases he : (rw_ T k).length = T.length
          · have hz : ((rw_ T k).length : Int) = (T.length : Int) := by omega
            have Hz := hide he
            have hq : (((rw_ T k).length : Int) == (T.length : Int)) = true := by simp [he]
            have hq2 : (((rw_ T k).length : Int) != (T.length : Int)) = false := by simp [he]
            clear he hz
            cases hb : okRow T.length (rw_ T k)
            · go_wp2_with (go_at_call 52; refine (allThings_any _ _ _ _ _ _ _ hR hl hn).mono ?_; rintro e w' ⟨rfl, rfl⟩)
              go_ret
              exact ⟨ret_bool (okT_row hlt hb).symm, rfl⟩
            · go_wp2_with (go_at_call 52; refine (allThings_any _ _ _ _ _ _ _ hR hl hn).mono ?_; rintro e w' ⟨rfl, rfl⟩)
              go_roundg (T.length - (k + 1))
              case measure => go_light; omega
              case rel => go_light; exact ⟨k + 1, by omega, rfl, by go_num, rfl, fun j hj => by
                by_cases e : j = k
                · subst e; exact ⟨Hz.out, hb⟩
                · exact hH j (by omega)⟩
          · have hq : (((rw_ T k).length : Int) == (T.length : Int)) = false := by simp; omega
            have hq2 : (((rw_ T k).length : Int) != (T.length : Int)) = true := by simp; omega
            go_wp2
            go_ret
            exact ⟨ret_bool (okT_len hlt he).symm, rfl⟩
        · obtain rfl : k = T.length := by omega
          go_wp2
          go_ret
          exact ⟨ret_bool (okT_iff.2 ⟨by omega, by omega, fun i hi => (hH i hi).1, fun i j hi hj => okRow_iff.1 (hH i hi).2 j (by rw [(hH i hi).1]; exact hj)⟩).symm, rfl⟩

set_option maxHeartbeats 400000 in
theorem sTableOk_any (A : Option Addr) (c lo hi : Nat) (T : List (List Int)) (w : World) (h : Mat w lo hi A T) (hS : Small T) :
    Calls Try.prog 16 #[.slice A T.length c] w fun e w' => e = .returned (.bool (okT T)) ∧ w = w' := by
  have hn := hS.len
  go_enter Try.func16, Try.ntmps16
  go_wp2
  go_loopg [4] T.length (fun g i wr => ∃ k : Nat, k ≤ T.length ∧ g = T.length - k ∧ i = .int .i64 k ∧ w = wr ∧ Hid (∀ j, j < k → (rw_ T j).length = T.length ∧ okRow T.length (rw_ T j) = true))
  case atStart => exact ⟨0, Nat.zero_le _, rfl, rfl, rfl, fun _ hj => absurd hj (Nat.not_lt_zero _)⟩
  case round =>
    obtain ⟨k, hk, rfl, rfl, rfl, hH⟩ := hrel
    by_cases hlt : k < T.length
    · obtain ⟨b, o, A', c', rfl, _, _, hc, hR⟩ := h k hlt
      have hl := hS.row k hlt
      by_cases he : (rw_ T k).length = T.length
      · have Hz := hide he
        have hq2 : (((rw_ T k).length : Int) != (T.length : Int)) = false := by simp [he]
        clear he
        go_wp2
        go_loopg [5] T.length (fun g i wr => ∃ m : Nat, m ≤ T.length ∧ g = T.length - m ∧ i = .int .i64 m ∧ w = wr ∧ Hid (∀ j, j < m → 0 ≤ el (rw_ T k) j ∧ el (rw_ T k) j < T.length))
        case atStart => exact ⟨0, Nat.zero_le _, rfl, rfl, rfl, fun _ hj => absurd hj (Nat.not_lt_zero _)⟩
        case round =>
          obtain ⟨m, hm, rfl, rfl, rfl, hH2⟩ := hrel
          by_cases hmt : m < T.length
          · have hml : m < (rw_ T k).length := by rw [Hz.out]; exact hmt
            obtain ⟨b2, o2, rfl, _, _, hc2⟩ := hR m hml
            have hmi : (m : Int) < ((rw_ T k).length : Int) := by omega
            by_cases hv : 0 ≤ el (rw_ T k) m ∧ el (rw_ T k) m < T.length
            · obtain ⟨hv0, hv1⟩ := hv
              have hb : (decide (0 ≤ el (rw_ T k) m) && decide (el (rw_ T k) m ≤ (T.length : Int) - 1)) = true := by simp; omega
              go_wp2_with (go_at_call 53; refine (l1In_any _ _ _ _).mono ?_; rintro e w' ⟨rfl, rfl⟩; rw [hb])
              go_roundg (T.length - (m + 1))
              case measure => go_light; omega
              case rel => go_light; exact ⟨m + 1, by omega, rfl, by go_num, rfl, fun j hj => by
                by_cases e : j = m
                · subst e; exact ⟨hv0, hv1⟩
                · exact hH2 j (by omega)⟩
            · have hb : (decide (0 ≤ el (rw_ T k) m) && decide (el (rw_ T k) m ≤ (T.length : Int) - 1)) = false := by simp; omega
              go_wp2_with (go_at_call 53; refine (l1In_any _ _ _ _).mono ?_; rintro e w' ⟨rfl, rfl⟩; rw [hb])
              go_ret
              exact ⟨ret_bool (okT_cell hlt hml (by omega)).symm, rfl⟩
          · obtain rfl : m = T.length := by omega
            go_wp2
            go_roundg (T.length - (k + 1))
            case measure => go_light; omega
            case rel => go_light; exact ⟨k + 1, by omega, rfl, by go_num, rfl, fun j hj => by
              by_cases e : j = k
              · subst e; exact ⟨Hz.out, okRow_iff.2 fun i hi => hH2 i (by rw [← Hz.out]; exact hi)⟩
              · exact hH j (by omega)⟩
      · have hq2 : (((rw_ T k).length : Int) != (T.length : Int)) = true := by simp; omega
        go_wp2
        go_ret
        exact ⟨ret_bool (okT_len hlt he).symm, rfl⟩
    · obtain rfl : k = T.length := by omega
      by_cases hz : 1 ≤ T.length ∧ T.length ≤ 9
      · have hb : (decide ((1 : Int) ≤ (T.length : Int)) && decide ((T.length : Int) ≤ 9)) = true := by simp; omega
        go_wp2_with (go_at_call 53; refine (l1In_any _ _ _ _).mono ?_; rintro e w' ⟨rfl, rfl⟩; rw [hb])
        go_ret
        exact ⟨ret_bool (okT_iff.2 ⟨by omega, by omega, fun i hi => (hH i hi).1, fun i j hi hj => okRow_iff.1 (hH i hi).2 j (by rw [(hH i hi).1]; exact hj)⟩).symm, rfl⟩
      · have hb : (decide ((1 : Int) ≤ (T.length : Int)) && decide ((T.length : Int) ≤ 9)) = false := by simp; omega
        go_wp2_with (go_at_call 53; refine (l1In_any _ _ _ _).mono ?_; rintro e w' ⟨rfl, rfl⟩; rw [hb])
        go_ret
        exact ⟨ret_bool (okT_size (by omega)).symm, rfl⟩
end Go.Proofs.Ytnchipcpeeofaaa

namespace Go.Proofs.Ytnchipcpeeofaaa
open Go.RowKit
set_option linter.unusedVariables false


/-- n numbers from k on. -/
def marks (n : Nat) (k : Int) : List Int := (List.range n).map fun i => k + (i : Nat)
theorem len_marks (n : Nat) (k : Int) : (marks n k).length = n := by simp [marks]
theorem el_marks {n j : Nat} {k : Int} (h : j < n) : el (marks n k) j = k + j := by simp [el, marks, List.getD, h]
/-- How many numbers the first i rows have. -/
def off (T : List (List Int)) : Nat → Nat
  | 0 => 0
  | i + 1 => off T i + (rw_ T i).length
theorem off_le {T : List (List Int)} (hS : Small T) : ∀ i, i ≤ T.length → off T i ≤ i * 1048576
  | 0, _ => Nat.zero_le _
  | i + 1, h => by
    have := off_le hS i (by omega)
    have := hS.row i (by omega)
    simp only [off]; omega
/-- The table with its first p rows marked from k on. -/
def mixT (T : List (List Int)) (k : Int) (p : Nat) : List (List Int) := (List.range T.length).map fun i => if i < p then marks (rw_ T i).length (k + off T i) else rw_ T i
theorem len_mixT (T : List (List Int)) (k : Int) (p : Nat) : (mixT T k p).length = T.length := by simp [mixT]
theorem row_mixT {T : List (List Int)} {k : Int} {p i : Nat} (h : i < T.length) : rw_ (mixT T k p) i = if i < p then marks (rw_ T i).length (k + off T i) else rw_ T i := by
  simp [mixT, rw_, List.getD, h]
theorem rowlen_mixT {T : List (List Int)} {k : Int} {p i : Nat} (h : i < T.length) : (rw_ (mixT T k p) i).length = (rw_ T i).length := by
  rw [row_mixT h]; split
  · rw [len_marks]
  · rfl
theorem mixT_zero (T : List (List Int)) (k : Int) : mixT T k 0 = T := by
  apply List.ext_getElem
  · simp [mixT]
  · intro i h1 h2
    simp [mixT, rw_, List.getD, h2]

theorem cell_set_same {w : World} {p : Addr} {u v : Value} (h : w.cell? p = some u) : (w.setCell p v).cell? p = some v := by
  have hs := World.cell?_spot h
  simp only [World.cell?, World.setCell, Array.getElem?_modify, if_true] at h ⊢
  cases e : w.heap[p.block]? with
  | none => simp [e] at h
  | some o =>
    cases o <;> simp [e, hs] at h ⊢
    rw [Array.getElem?_setIfInBounds, if_pos rfl]
    obtain ⟨hlt, _⟩ := Array.getElem?_eq_some_iff.1 h
    rw [if_pos hlt]
theorem frozen_set (w : World) (p q : Addr) (v : Value) : (w.setCell p v).frozen? q = w.frozen? q := by
  simp only [World.frozen?, World.setCell, Array.getElem?_modify]
  by_cases e : p.block = q.block
  · rw [if_pos e]
    cases w.heap[q.block]? with
    | none => rfl
    | some o => cases o <;> rfl
  · rw [if_neg e]

set_option maxHeartbeats 1000000 in
theorem markIntS_any (g c : Nat) (xs : List Int) (k : Int) (w : World) (h : Cells w g xs) (hn : xs.length ≤ 1048576) (h0 : 0 ≤ k) (h1 : k ≤ 8796093022208) :
    Calls Try.prog 47 #[.slice (some ⟨g, 0, none⟩) xs.length c, .int .i64 k] w fun e w' => e = .returned (.int .i64 (k + xs.length)) ∧ Only g (g + 1) w w' ∧ Cells w' g (marks xs.length k) := by
  go_enter Try.func47, Try.ntmps47
  go_wp2
  go_loopg [5, 1] xs.length (fun m i v wr => ∃ p : Nat, p ≤ xs.length ∧ m = xs.length - p ∧ i = .int .i64 p ∧ v = .int .i64 (k + p) ∧ Only g (g + 1) w wr ∧ ∀ j, j < xs.length → ∃ z : Int, z = (if j < p then k + j else el xs j) ∧ wr.cell? ⟨g, j, none⟩ = some (.int .i64 z) ∧ wr.frozen? ⟨g, j, none⟩ = false)
  case atStart => exact ⟨0, Nat.zero_le _, rfl, rfl, by simp, Only.refl _ _ _, fun j hj => ⟨_, by simp, (h j hj).1, (h j hj).2⟩⟩
  case round =>
    obtain ⟨p, hp, rfl, rfl, rfl, hO, hC⟩ := hrel
    by_cases hlt : p < xs.length
    · obtain ⟨z, hz, hc, hf⟩ := hC p hlt
      clear hz
      go_wp2
      go_roundg (xs.length - (p + 1))
      case measure => go_light; omega
      case rel => go_light; exact ⟨p + 1, by omega, rfl, by go_num, by rw [show k + (p : Int) + 1 = k + ((p + 1 : Nat) : Int) from by omega], hO.setCell (Nat.le_refl _) (by show g < g + 1; omega) _, fun j hj => by
        by_cases e : j = p
        · subst e
          refine ⟨k + j, by rw [if_pos (by omega)], ?_, ?_⟩
          · exact cell_set_same hc
          · rw [frozen_set]; exact hf
        · obtain ⟨y, hy, hcy, hfy⟩ := hC j hj
          refine ⟨y, ?_, ?_, ?_⟩
          · rw [hy]
            by_cases hlt2 : j < p
            · rw [if_pos hlt2, if_pos (by omega)]
            · rw [if_neg hlt2, if_neg (by omega)]
          · rw [World.cell?_setCell_other _ _ _ _ (fun e2 => e (by injection e2 with _ h2 _; exact h2.symm))]; exact hcy
          · rw [frozen_set]; exact hfy⟩
    · obtain rfl : p = xs.length := by omega
      go_wp2
      go_ret
      refine ⟨rfl, hO, fun j hj => ?_⟩
      rw [len_marks] at hj
      obtain ⟨z, hz, hc, hf⟩ := hC j hj
      rw [el_marks hj, hc, hz, if_pos hj]
      exact ⟨rfl, hf⟩

theorem OMat.marked {w w' : World} {lo hi : Nat} {A : Option Addr} {T : List (List Int)} {k : Int} {p : Nat} {b o : Nat} {g C : Nat → Nat} (hp : p < T.length)
    (h1 : ∀ i, i < (mixT T k p).length → A = some ⟨b, o, none⟩ ∧ lo ≤ b ∧ b < hi ∧ g i ≠ b ∧ lo ≤ g i ∧ g i < hi ∧
      w.cell? ⟨b, o + i, none⟩ = some (.slice (some ⟨g i, 0, none⟩) (rw_ (mixT T k p) i).length (C i)) ∧ Cells w (g i) (rw_ (mixT T k p) i)) (h2 : ∀ i j, i < (mixT T k p).length → j < (mixT T k p).length → i ≠ j → g i ≠ g j)
    (hs : hi ≤ w.heap.size) (hO : Only (g p) (g p + 1) w w') (hC : Cells w' (g p) (marks (rw_ T p).length (k + off T p))) : OMat w' lo hi A (mixT T k (p + 1)) := by
  rw [len_mixT] at h1 h2
  refine ⟨b, o, g, C, fun i hi' => ?_, fun i j hi' hj hne => ?_⟩
  · rw [len_mixT] at hi'
    obtain ⟨e, a1, a2, a3, a4, a5, a6, a7⟩ := h1 i hi'
    obtain ⟨_, _, _, c3, c4, c5, _, _⟩ := h1 p hp
    refine ⟨e, a1, a2, a3, a4, a5, ?_, ?_⟩
    · rw [rowlen_mixT hi'] at a6 ⊢
      exact (World.cell?_of_block (w := w) (hO.block b (by omega) (by omega))).trans a6
    · by_cases ei : i = p
      · subst ei
        rw [row_mixT hi', if_pos (by omega)]; exact hC
      · have hne := h2 i p hi' hp ei
        rw [row_mixT hi'] at a7 ⊢
        have : (if i < p + 1 then marks (rw_ T i).length (k + off T i) else rw_ T i) = if i < p then marks (rw_ T i).length (k + off T i) else rw_ T i := by
          by_cases hlt : i < p
          · rw [if_pos hlt, if_pos (by omega)]
          · rw [if_neg hlt, if_neg (by omega)]
        rw [this]
        exact a7.keep (hO.block _ (by omega) (by omega))
  · rw [len_mixT] at hi' hj
    exact h2 i j hi' hj hne

set_option maxHeartbeats 1000000 in
theorem markIntSS_any (A : Option Addr) (c lo hi : Nat) (T : List (List Int)) (w : World) (h : OMat w lo hi A T) (hs : hi ≤ w.heap.size) (hS : Small T) (k : Int) (h0 : 0 ≤ k) (h1 : k ≤ 4398046511104) :
    Calls Try.prog 46 #[.slice A T.length c, .int .i64 k] w fun e w' => e = .returned (.int .i64 (k + off T T.length)) ∧ Only lo hi w w' ∧ OMat w' lo hi A (mixT T k T.length) := by
  have hl := hS.len
  go_enter Try.func46, Try.ntmps46
  go_wp2
  go_loopg [5, 1] T.length (fun m i v wr => ∃ p : Nat, p ≤ T.length ∧ m = T.length - p ∧ i = .int .i64 p ∧ v = .int .i64 (k + off T p) ∧ Only lo hi w wr ∧ OMat wr lo hi A (mixT T k p))
  case atStart => exact ⟨0, Nat.zero_le _, rfl, rfl, by simp [off], Only.refl _ _ _, by rw [mixT_zero]; exact h⟩
  case round =>
    obtain ⟨p, hp, rfl, rfl, rfl, hO, hM⟩ := hrel
    have hoff := off_le hS p hp
    by_cases hlt : p < T.length
    · obtain ⟨b, o, g, C, hM1, hM2⟩ := hM
      obtain ⟨rfl, a1, a2, a3, a4, a5, a6, a7⟩ := hM1 p (by rw [len_mixT]; exact hlt)
      rw [rowlen_mixT hlt] at a6
      rw [row_mixT hlt, if_neg (by omega)] at a7
      have hrl := hS.row p hlt
      have hws := hO.size
      have HN := hide (fun (w1 : World) (hO1 : Only (g p) (g p + 1) wr w1) (hC1 : Cells w1 (g p) (marks (rw_ T p).length (k + off T p))) => OMat.marked hlt hM1 hM2 (by omega) hO1 hC1)
      clear hM1 hM2
      go_wp2_with fail
      refine (markIntS_any (g p) _ (rw_ T p) (k + off T p) _ a7 hrl (by omega) (by omega)).mono ?_
      rintro e w1 ⟨rfl, hO1, hC1⟩
      have hnext := HN.out w1 hO1 hC1
      have hO2 := hO.trans (hO1.mono a4 (by omega : g p + 1 ≤ hi))
      clear a6 a7 hO1 hC1
      go_wp2
      go_roundg (T.length - (p + 1))
      case measure => go_light; omega
      case rel => go_light; exact ⟨p + 1, by omega, rfl, by go_num, by rw [show k + (off T p : Int) + ((rw_ T p).length : Int) = k + ((off T (p + 1) : Nat) : Int) from by simp only [off]; omega], hO2, hnext⟩
    · obtain rfl : p = T.length := by omega
      go_wp2
      go_ret
      exact ⟨rfl, hO, hM⟩

set_option maxHeartbeats 1000000 in
theorem heldIntS_any (A : Option Addr) (c lo hi n : Nat) (k : Int) (w : World) (h : Row w lo hi A (marks n k)) (hn : n ≤ 1048576) (h0 : 0 ≤ k) (h1 : k ≤ 8796093022208) :
    Calls Try.prog 48 #[.slice A n c, .int .i64 k] w fun e w' => e = .returned (.int .i64 (k + n)) ∧ w = w' := by
  go_enter Try.func48, Try.ntmps48
  go_wp2
  go_loopg [5, 1] n (fun m i v wr => ∃ p : Nat, p ≤ n ∧ m = n - p ∧ i = .int .i64 p ∧ v = .int .i64 (k + p) ∧ w = wr)
  case atStart => exact ⟨0, Nat.zero_le _, rfl, rfl, by simp, rfl⟩
  case round =>
    obtain ⟨p, hp, rfl, rfl, rfl, rfl⟩ := hrel
    by_cases hlt : p < n
    · obtain ⟨b, o, rfl, _, _, hc⟩ := h p (by rw [len_marks]; exact hlt)
      rw [el_marks hlt] at hc
      go_wp2
      go_roundg (n - (p + 1))
      case measure => go_light; omega
      case rel => go_light; exact ⟨p + 1, by omega, rfl, by go_num, by rw [show k + (p : Int) + 1 = k + ((p + 1 : Nat) : Int) from by omega], rfl⟩
    · obtain rfl : p = n := by omega
      go_wp2
      go_ret
      exact ⟨rfl, rfl⟩

end Go.Proofs.Ytnchipcpeeofaaa

namespace Go.Proofs.Ytnchipcpeeofaaa
open Go.RowKit
set_option linter.unusedVariables false

set_option maxHeartbeats 400000 in
theorem szIntSS_gen (A : Option Addr) (c lo hi : Nat) (T : List (List Int)) (w : World) (l0 : Int) (hT : Mat w lo hi A T) (hS : Sized T) (hl0 : 0 ≤ l0) (hl1 : l0 ≤ 1048576) :
    Calls Try.prog 41 #[.slice A T.length c, .int .i64 l0] w fun e w' => e = .returned (.int .i64 (szT T l0)) ∧ w = w' := by
  have hn := hS.len
  by_cases h : l0 - (T.length : Int) < 0
  · go_enter Try.func41, Try.ntmps41
    go_wp2
    go_ret
    exact ⟨ret_int (by unfold szT; rw [if_pos (by omega)]), rfl⟩
  · have hge : T.length ≤ 1048576 := by omega
    go_enter Try.func41, Try.ntmps41
    go_wp2
    go_loop [1, 5] (fun l i => ∃ (k : Nat) (n : Int), k ≤ T.length ∧ i = .int .i64 k ∧ l = .int .i64 n ∧ 0 ≤ n ∧ n ≤ 1048576 ∧ Hid (szRows (T.drop k) n = szT T l0)) (fun _ i => T.length - (intOf i).toNat)
    case atStart => exact ⟨0, _, Nat.zero_le _, rfl, rfl, by omega, by omega, by show _ = _; unfold szT; rw [if_neg (by omega)]; rfl⟩
    case round =>
      obtain ⟨k, n, hk, rfl, rfl, hn0, hn1, hs⟩ := hrel
      by_cases hlt : k < T.length
      · obtain ⟨b, o, A', c', rfl, _, _, hc, _⟩ := hT k hlt
        have hlen := hS.row k hlt
        by_cases hb : n - (rw_ T k).length < 0
        · have ht : takeN (rw_ T k).length n = -1 := by unfold takeN; rw [if_pos (by omega)]
          go_wp2_with (go_at_call 79; refine (szIntS_any _ _ _ _ _ hlen hn0 hn1).mono ?_; rintro e w' ⟨rfl, rfl⟩)
          go_ret
          exact ⟨ret_int (by rw [← hs.out, getD_drop T k hlt]; simp [szRows, ht]), rfl⟩
        · have ht : takeN (rw_ T k).length n = n - (rw_ T k).length := by unfold takeN; rw [if_neg (by omega)]
          go_wp2_with (go_at_call 79; refine (szIntS_any _ _ _ _ _ hlen hn0 hn1).mono ?_; rintro e w' ⟨rfl, rfl⟩)
          go_round
          case rel => exact ⟨k + 1, _, by omega, by go_num, rfl, by omega, by omega, by show _ = _; rw [← hs.out, getD_drop T k hlt]; simp only [szRows, ht]; rw [if_neg (by omega)]⟩
          case measure => simp [intOf]; omega
      · obtain rfl : k = T.length := by omega
        go_wp2
        go_ret
        exact ⟨ret_int (by rw [← hs.out]; simp [szRows]), rfl⟩


theorem takeN_le {n : Nat} {l : Int} (h : 0 ≤ l) : takeN n l ≤ l := by
  unfold takeN; split <;> omega
theorem szRows_le : ∀ (T : List (List Int)) (l : Int), 0 ≤ l → szRows T l ≤ l
  | [], l, _ => Int.le_refl _
  | r :: T, l, h => by
    unfold szRows
    split
    · omega
    · rename_i h'
      have := szRows_le T (takeN r.length l) (by omega)
      have := takeN_le (n := r.length) h
      omega
theorem szT_le (T : List (List Int)) (l : Int) (h : 0 ≤ l) : szT T l ≤ l := by
  unfold szT
  split
  · omega
  · have := szRows_le T (l - T.length) (by omega); omega
theorem szT_smallg {T : List (List Int)} {l : Int} (hl : l ≤ 1048576) (h : 0 ≤ szT T l) : Small T := by
  unfold szT at h
  split at h
  · omega
  · refine ⟨by omega, fun i hi => szRows_small T _ (by omega) h _ ?_⟩
    have : rw_ T i = T[i] := by simp [rw_, List.getD, hi]
    rw [this]; exact List.getElem_mem hi
end Go.Proofs.Ytnchipcpeeofaaa
