
/- Words: what is a word, and where letters come first: the landed code's. -/
import Derived.Test.YtjpdfkmlcjkcmaaIwordP
import Derived.Test.YtjpdfkmlcjkcmaaWordL
import Derived.Test.YtjpdfkmlcjkcmaaTab
import Derived.Lib.OthersKept
import Derived.Laws.RangeAny
import Derived.Deep.RegionHeld3
import Derived.BigQuiet
namespace Go.Proofs.Ytjpdfkmlcjkcmaa
open Go.RowKit
set_option linter.unusedVariables false

theorem step_one {u : List UInt8} {k : Nat} (hlt : k < u.length) (h : okC (lt u k) = true) : Utf8.decode (bs u) k = ((lt u k).toNat, 1) := by
  have hk : k < (bs u).size := by rw [size_bs]; exact hlt
  have h9 : (lt u k).toNat < 128 := by
    rcases okC_iff.1 h with h | h | h <;> rw [h] <;> decide
  rw [decode_ascii (bs u) k hk (by rw [get_bs hk]; exact h9), get_bs hk]
/-- A letter that is none: what is read there is none, too. -/
theorem step_bad {u : List UInt8} {k : Nat} (hlt : k < u.length) (h : okC (lt u k) = false) : ¬ (97 ≤ (Utf8.decode (bs u) k).1 ∧ (Utf8.decode (bs u) k).1 ≤ 99) := by
  have hk : k < (bs u).size := by rw [size_bs]; exact hlt
  have hg : (bs u)[k]'hk = lt u k := get_bs hk
  by_cases ha : (lt u k).toNat < 128
  · rw [decode_ascii (bs u) k hk (by rw [hg]; exact ha), hg]
    intro hh
    have : okC (lt u k) = true := by unfold okC; rw [Bool.and_eq_true, decide_eq_true_iff, decide_eq_true_iff]; exact hh
    rw [this] at h; cases h
  · have := (decode_high (bs u) k hk (by rw [hg]; omega)).1
    omega

set_option maxRecDepth 20000 in
set_option maxHeartbeats 2000000 in
theorem iWordOk_any (u : List UInt8) (w : World) (hn : u.length ≤ 1048576) :
    Calls Try.prog 16 #[.string (bs u)] w fun e w' => e = .returned (.bool (okW u)) ∧ Below w.heap.size w w' := by
  have hsz := size_bs u
  by_cases h1 : u.length < 1
  · have HE := hide (show okW u = false from by unfold okW; rw [show decide (1 ≤ u.length) = false from decide_eq_false (by omega)]; simp)
    go_enter Try.func16, Try.ntmps16
    go_wp2
    go_ret
    rw [HE.out]
    exact ⟨rfl, Below.refl _ _⟩
  by_cases h2 : 24 < u.length
  · have HE := hide (show okW u = false from by unfold okW; rw [show decide (u.length ≤ 24) = false from decide_eq_false (by omega)]; simp)
    go_enter Try.func16, Try.ntmps16
    go_wp2
    go_ret
    rw [HE.out]
    exact ⟨rfl, Below.refl _ _⟩
  go_enter Try.func16, Try.ntmps16
  go_wp2
  go_loopg [] u.length (fun g wr => ∃ k : Nat, k ≤ u.length ∧ Hid (g = u.length - k) ∧ Hid (∀ j, j < k → okC (lt u j) = true) ∧ wr = w.iter (bs u) k)
  case atStart => exact ⟨0, Nat.zero_le _, rfl, fun j hj => absurd hj (Nat.not_lt_zero _), rfl⟩
  case round =>
    obtain ⟨k, hk, hg, hH, rfl⟩ := hrel
    by_cases hlt : k < u.length
    · have hp : k < (bs u).size := by omega
      cases hc : okC (lt u k)
      · have hb := step_bad hlt hc
        have HE := hide (okW_bad hlt hc)
        have hnx : ∀ ty, (Instr.next (.pointer (some ⟨w.heap.size, 0, none⟩)) true ty).run Try.prog (w.iter (bs u) k) = _ := fun ty => run_next_any w (bs u) k ty hp
        generalize Utf8.decode (bs u) k = q at hb hnx
        obtain ⟨q1, q2⟩ := q
        simp only at hb hnx
        clear hc
        by_cases hl : q1 < 97
        · have hl2 : ((q1 : Nat) : Int) < 97 := by omega
          go_wp2
          go_ret
          rw [HE.out]
          exact ⟨rfl, (Below.refl _ w).alloc (Nat.le_refl _) _⟩
        · have hl2 : ¬ ((q1 : Nat) : Int) < 97 := by omega
          have hl3 : (99 : Int) < ((q1 : Nat) : Int) := by omega
          go_wp2
          go_ret
          rw [HE.out]
          exact ⟨rfl, (Below.refl _ w).alloc (Nat.le_refl _) _⟩
      · have hst := step_one hlt hc
        have hnx : ∀ ty, (Instr.next (.pointer (some ⟨w.heap.size, 0, none⟩)) true ty).run Try.prog (w.iter (bs u) k) = .ok (.tuple #[.bool true, .int .i64 k, .int .i32 (((lt u k).toNat : Nat) : Int)]) (w.iter (bs u) (k + 1)) := fun ty => by
          rw [run_next_any w (bs u) k ty hp, hst]
        have hc2 := okC_iff.1 hc
        have hl1 : ¬ ((((lt u k).toNat : Nat) : Int) < 97) := by rcases hc2 with h | h | h <;> rw [h] <;> decide
        have hl2 : ¬ ((99 : Int) < (((lt u k).toNat : Nat) : Int)) := by rcases hc2 with h | h | h <;> rw [h] <;> decide
        clear hst hc2
        go_wp2
        go_roundg (u.length - (k + 1))
        case measure => go_light; have := hg.out; omega
        case rel => go_light; exact ⟨k + 1, by omega, rfl, fun j hj => by
          by_cases e : j = k
          · subst e; exact hc
          · exact hH.out j (by omega), rfl⟩
    · obtain rfl : u.length = k := by omega
      have HE := hide (show okW u = true from by rw [okW_len hH.out, Bool.and_eq_true, decide_eq_true_iff, decide_eq_true_iff]; omega)
      have hnx : ∀ ty, (Instr.next (.pointer (some ⟨w.heap.size, 0, none⟩)) true ty).run Try.prog (w.iter (bs u) u.length) = _ := fun ty => run_next_end w (bs u) u.length ty (by omega)
      go_wp2
      go_ret
      rw [HE.out]
      exact ⟨rfl, (Below.refl _ w).alloc (Nat.le_refl _) _⟩

theorem num_any (c : UInt8) (w : World) (h : okC c = true) :
    Calls Try.prog 62 #[.int .i32 ((c.toNat : Nat) : Int)] w fun e w' => e = .returned (.int .i64 ((c.toNat - 97 : Nat) : Int)) ∧ w = w' := by
  rcases okC_iff.1 h with rfl | rfl | rfl
  all_goals
    go_enter Try.func62, Try.ntmps62
    go_wp2
    go_ret
    exact ⟨rfl, rfl⟩

/-- Three places in a block. -/
def PlC (w : World) (g : Nat) (x y z : Int) : Prop := w.heap[g]? = some (.cells #[.int .i64 x, .int .i64 y, .int .i64 z] 48 (0, 0))

theorem results_of_cell3 {fn : Func} {p : Tmp} {ty : TypeId} (h : fn.results = #[.cell p ty]) (tmps : Array Value) (P : Program) (w : World) :
    (results fn tmps).run P w = ((asAddr (tmps.getD p undef)).run P w).andThen fun a w₁ => (loadVar ty a).run P w₁ := by
  simp only [results, h]
  simp [Sem.run_bind, Result.andThen]
set_option maxHeartbeats 1000000 in
theorem res_places (tmps : Array Value) (g : Nat) (x y z : Int) (W : World) (c0 : W.cell? ⟨g, 0, none⟩ = some (.int .i64 x)) (c1 : W.cell? ⟨g, 1, none⟩ = some (.int .i64 y)) (c2 : W.cell? ⟨g, 2, none⟩ = some (.int .i64 z)) (h0 : tmps.getD 2 undef = .pointer (some ⟨g, 0, none⟩)) :
    (results Try.f44 tmps).run Try.prog W = .ok (.agg #[.int .i64 x, .int .i64 y, .int .i64 z]) W := by
  rw [results_of_cell3 rfl]
  simp [asAddr, Result.andThen, h0, go_sem, c0, c1, c2]

def pl3 (x y z : Int) (i : Nat) : Value := .int .i64 (if i = 0 then x else if i = 1 then y else z)
theorem pl3_0 (x y z : Int) : pl3 x y z 0 = .int .i64 x := rfl
theorem pl3_1 (x y z : Int) : pl3 x y z 1 = .int .i64 y := rfl
theorem pl3_2 (x y z : Int) : pl3 x y z 2 = .int .i64 z := rfl
end Go.Proofs.Ytjpdfkmlcjkcmaa
