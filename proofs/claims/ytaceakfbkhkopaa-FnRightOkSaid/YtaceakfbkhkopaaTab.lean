
/- impl.TableOk and spec.TableOk: both answer whether the rows are a table. -/
import Derived.Test.YtaceakfbkhkopaaHelp
import Derived.Test.YtaceakfbkhkopaaPure
namespace Go.Proofs.Ytaceakfbkhkopaa
open Go.RowKit
set_option linter.unusedVariables false

set_option maxHeartbeats 400000 in
theorem allThings_any (A : Option Addr) (c lo hi n : Nat) (xs : List Int) (w : World) (h : Row w lo hi A xs) (hn : xs.length ≤ 1048576) (hm : n ≤ 1048576) :
    Calls Try.prog 54 #[.slice A xs.length c, .int .i64 n] w fun e w' => e = .returned (.bool (okRow n xs)) ∧ w = w' := by
  go_enter Try.func54, Try.ntmps54
  go_wp2
  go_loopg [9] xs.length (fun g i wr => ∃ k : Nat, k ≤ xs.length ∧ g = xs.length - k ∧ i = .int .i64 k ∧ w = wr ∧ Hid (∀ j, j < k → 0 ≤ el xs j ∧ el xs j < n))
  case atStart => exact ⟨0, Nat.zero_le _, rfl, rfl, rfl, fun _ hj => absurd hj (Nat.not_lt_zero _)⟩
  case round =>
    obtain ⟨k, hk, rfl, rfl, rfl, hH⟩ := hrel
    by_cases hlt : k < xs.length
    · obtain ⟨b, o, rfl, _, _, hc⟩ := h k hlt
      by_cases h0 : el xs k < 0
      · go_wp2
        go_ret
        exact ⟨ret_bool (okRow_false hlt (.inl h0)).symm, rfl⟩
      · by_cases h1 : (n : Int) ≤ el xs k
        · go_wp2
          go_ret
          exact ⟨ret_bool (okRow_false hlt (.inr h1)).symm, rfl⟩
        · go_wp2
          go_roundg (xs.length - (k + 1))
          case measure => go_light; omega
          case rel => go_light; exact ⟨k + 1, by omega, rfl, by go_num, rfl, fun j hj => by
            by_cases e : j = k
            · subst e; exact ⟨by omega, by omega⟩
            · exact hH j (by omega)⟩
    · obtain rfl : k = xs.length := by omega
      go_wp2
      go_ret
      exact ⟨ret_bool (okRow_iff.2 hH.out).symm, rfl⟩

set_option maxHeartbeats 400000 in
theorem l1In_any (n lo hi : Int) (w : World) : Calls Try.prog 71 #[.int .i64 n, .int .i64 lo, .int .i64 hi] w fun e w' => e = .returned (.bool (decide (lo ≤ n) && decide (n ≤ hi))) ∧ w = w' := by
  by_cases h0 : lo ≤ n <;> by_cases h1 : n ≤ hi
  all_goals
    go_enter Try.func71, Try.ntmps71
    go_wp2
    go_ret
    exact ⟨ret_bool (by simp [h0, h1]), rfl⟩

set_option maxHeartbeats 400000 in
theorem iTableOk_any (A : Option Addr) (c lo hi : Nat) (T : List (List Int)) (w : World) (h : Mat w lo hi A T) (hS : Small T) :
    Calls Try.prog 36 #[.slice A T.length c] w fun e w' => e = .returned (.bool (okT T)) ∧ w = w' := by
  have hn := hS.len
  by_cases h1 : T.length < 1
  · go_enter Try.func36, Try.ntmps36
    go_wp2
    go_ret
    exact ⟨ret_bool (okT_size (.inl h1)).symm, rfl⟩
  · by_cases h9 : 9 < T.length
    · go_enter Try.func36, Try.ntmps36
      go_wp2
      go_ret
      exact ⟨ret_bool (okT_size (.inr h9)).symm, rfl⟩
    · go_enter Try.func36, Try.ntmps36
      go_wp2
      go_loopg [15] T.length (fun g i wr => ∃ k : Nat, k ≤ T.length ∧ g = T.length - k ∧ i = .int .i64 k ∧ w = wr ∧ Hid (∀ j, j < k → (rw_ T j).length = T.length ∧ okRow T.length (rw_ T j) = true))
      case atStart => exact ⟨0, Nat.zero_le _, rfl, rfl, rfl, fun _ hj => absurd hj (Nat.not_lt_zero _)⟩
      case round =>
        obtain ⟨k, hk, rfl, rfl, rfl, hH⟩ := hrel
        by_cases hlt : k < T.length
        · obtain ⟨b, o, A', c', rfl, _, _, hc, hR⟩ := h k hlt
          have hl := hS.row k hlt
          by_cases he : (rw_ T k).length = T.length
          · have hz : ((rw_ T k).length : Int) = (T.length : Int) := by omega
            have Hz := hide he
            have hq : (((rw_ T k).length : Int) == (T.length : Int)) = true := by simp [he]
            have hq2 : (((rw_ T k).length : Int) != (T.length : Int)) = false := by simp [he]
            clear he hz
            cases hb : okRow T.length (rw_ T k)
            · go_wp2_with (go_at_call 54; refine (allThings_any _ _ _ _ _ _ _ hR hl hn).mono ?_; rintro e w' ⟨rfl, rfl⟩)
              go_ret
              exact ⟨ret_bool (okT_row hlt hb).symm, rfl⟩
            · go_wp2_with (go_at_call 54; refine (allThings_any _ _ _ _ _ _ _ hR hl hn).mono ?_; rintro e w' ⟨rfl, rfl⟩)
              go_roundg (T.length - (k + 1))
              case measure => go_light; omega
              case rel => go_light; exact ⟨k + 1, by omega, rfl, by go_num, rfl, fun j hj => by
                by_cases e : j = k
                · subst e; exact ⟨Hz.out, hb⟩
                · exact hH j (by omega)⟩
          · have hq : (((rw_ T k).length : Int) == (T.length : Int)) = false := by simp; omega
            have hq2 : (((rw_ T k).length : Int) != (T.length : Int)) = true := by simp; omega
            go_wp2
            go_ret
            exact ⟨ret_bool (okT_len hlt he).symm, rfl⟩
        · obtain rfl : k = T.length := by omega
          go_wp2
          go_ret
          exact ⟨ret_bool (okT_iff.2 ⟨by omega, by omega, fun i hi => (hH i hi).1, fun i j hi hj => okRow_iff.1 (hH i hi).2 j (by rw [(hH i hi).1]; exact hj)⟩).symm, rfl⟩

set_option maxHeartbeats 400000 in
theorem sTableOk_any (A : Option Addr) (c lo hi : Nat) (T : List (List Int)) (w : World) (h : Mat w lo hi A T) (hS : Small T) :
    Calls Try.prog 62 #[.slice A T.length c] w fun e w' => e = .returned (.bool (okT T)) ∧ w = w' := by
  have hn := hS.len
  go_enter Try.func62, Try.ntmps62
  go_wp2
  go_loopg [4] T.length (fun g i wr => ∃ k : Nat, k ≤ T.length ∧ g = T.length - k ∧ i = .int .i64 k ∧ w = wr ∧ Hid (∀ j, j < k → (rw_ T j).length = T.length ∧ okRow T.length (rw_ T j) = true))
  case atStart => exact ⟨0, Nat.zero_le _, rfl, rfl, rfl, fun _ hj => absurd hj (Nat.not_lt_zero _)⟩
  case round =>
    obtain ⟨k, hk, rfl, rfl, rfl, hH⟩ := hrel
    by_cases hlt : k < T.length
    · obtain ⟨b, o, A', c', rfl, _, _, hc, hR⟩ := h k hlt
      have hl := hS.row k hlt
      by_cases he : (rw_ T k).length = T.length
      · have Hz := hide he
        have hq2 : (((rw_ T k).length : Int) != (T.length : Int)) = false := by simp [he]
        clear he
        go_wp2
        go_loopg [5] T.length (fun g i wr => ∃ m : Nat, m ≤ T.length ∧ g = T.length - m ∧ i = .int .i64 m ∧ w = wr ∧ Hid (∀ j, j < m → 0 ≤ el (rw_ T k) j ∧ el (rw_ T k) j < T.length))
        case atStart => exact ⟨0, Nat.zero_le _, rfl, rfl, rfl, fun _ hj => absurd hj (Nat.not_lt_zero _)⟩
        case round =>
          obtain ⟨m, hm, rfl, rfl, rfl, hH2⟩ := hrel
          by_cases hmt : m < T.length
          · have hml : m < (rw_ T k).length := by rw [Hz.out]; exact hmt
            obtain ⟨b2, o2, rfl, _, _, hc2⟩ := hR m hml
            have hmi : (m : Int) < ((rw_ T k).length : Int) := by omega
            by_cases hv : 0 ≤ el (rw_ T k) m ∧ el (rw_ T k) m < T.length
            · obtain ⟨hv0, hv1⟩ := hv
              have hb : (decide (0 ≤ el (rw_ T k) m) && decide (el (rw_ T k) m ≤ (T.length : Int) - 1)) = true := by simp; omega
              go_wp2_with (go_at_call 71; refine (l1In_any _ _ _ _).mono ?_; rintro e w' ⟨rfl, rfl⟩; rw [hb])
              go_roundg (T.length - (m + 1))
              case measure => go_light; omega
              case rel => go_light; exact ⟨m + 1, by omega, rfl, by go_num, rfl, fun j hj => by
                by_cases e : j = m
                · subst e; exact ⟨hv0, hv1⟩
                · exact hH2 j (by omega)⟩
            · have hb : (decide (0 ≤ el (rw_ T k) m) && decide (el (rw_ T k) m ≤ (T.length : Int) - 1)) = false := by simp; omega
              go_wp2_with (go_at_call 71; refine (l1In_any _ _ _ _).mono ?_; rintro e w' ⟨rfl, rfl⟩; rw [hb])
              go_ret
              exact ⟨ret_bool (okT_cell hlt hml (by omega)).symm, rfl⟩
          · obtain rfl : m = T.length := by omega
            go_wp2
            go_roundg (T.length - (k + 1))
            case measure => go_light; omega
            case rel => go_light; exact ⟨k + 1, by omega, rfl, by go_num, rfl, fun j hj => by
              by_cases e : j = k
              · subst e; exact ⟨Hz.out, okRow_iff.2 fun i hi => hH2 i (by rw [← Hz.out]; exact hi)⟩
              · exact hH j (by omega)⟩
      · have hq2 : (((rw_ T k).length : Int) != (T.length : Int)) = true := by simp; omega
        go_wp2
        go_ret
        exact ⟨ret_bool (okT_len hlt he).symm, rfl⟩
    · obtain rfl : k = T.length := by omega
      by_cases hz : 1 ≤ T.length ∧ T.length ≤ 9
      · have hb : (decide ((1 : Int) ≤ (T.length : Int)) && decide ((T.length : Int) ≤ 9)) = true := by simp; omega
        go_wp2_with (go_at_call 71; refine (l1In_any _ _ _ _).mono ?_; rintro e w' ⟨rfl, rfl⟩; rw [hb])
        go_ret
        exact ⟨ret_bool (okT_iff.2 ⟨by omega, by omega, fun i hi => (hH i hi).1, fun i j hi hj => okRow_iff.1 (hH i hi).2 j (by rw [(hH i hi).1]; exact hj)⟩).symm, rfl⟩
      · have hb : (decide ((1 : Int) ≤ (T.length : Int)) && decide ((T.length : Int) ≤ 9)) = false := by simp; omega
        go_wp2_with (go_at_call 71; refine (l1In_any _ _ _ _).mono ?_; rintro e w' ⟨rfl, rfl⟩; rw [hb])
        go_ret
        exact ⟨ret_bool (okT_size (by omega)).symm, rfl⟩
end Go.Proofs.Ytaceakfbkhkopaa
