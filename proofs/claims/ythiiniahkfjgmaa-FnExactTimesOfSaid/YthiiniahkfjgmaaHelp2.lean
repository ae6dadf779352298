/- How large a table is, from any count on. -/
import Derived.Test.YthiiniahkfjgmaaHelp
namespace Go.Proofs.Ythiiniahkfjgmaa
open Go.RowKit
set_option linter.unusedVariables false

set_option maxHeartbeats 400000 in
theorem szIntSS_gen (A : Option Addr) (c lo hi : Nat) (T : List (List Int)) (w : World) (l0 : Int) (hT : Mat w lo hi A T) (hS : Sized T) (hl0 : 0 ≤ l0) (hl1 : l0 ≤ 1048576) :
    Calls Try.prog 40 #[.slice A T.length c, .int .i64 l0] w fun e w' => e = .returned (.int .i64 (szT T l0)) ∧ w = w' := by
  have hn := hS.len
  by_cases h : l0 - (T.length : Int) < 0
  · go_enter Try.func40, Try.ntmps40
    go_wp2
    go_ret
    exact ⟨ret_int (by unfold szT; rw [if_pos (by omega)]), rfl⟩
  · have hge : T.length ≤ 1048576 := by omega
    go_enter Try.func40, Try.ntmps40
    go_wp2
    go_loop [1, 5] (fun l i => ∃ (k : Nat) (n : Int), k ≤ T.length ∧ i = .int .i64 k ∧ l = .int .i64 n ∧ 0 ≤ n ∧ n ≤ 1048576 ∧ Hid (szRows (T.drop k) n = szT T l0)) (fun _ i => T.length - (intOf i).toNat)
    case atStart => exact ⟨0, _, Nat.zero_le _, rfl, rfl, by omega, by omega, by show _ = _; unfold szT; rw [if_neg (by omega)]; rfl⟩
    case round =>
      obtain ⟨k, n, hk, rfl, rfl, hn0, hn1, hs⟩ := hrel
      by_cases hlt : k < T.length
      · obtain ⟨b, o, A', c', rfl, _, _, hc, _⟩ := hT k hlt
        have hlen := hS.row k hlt
        by_cases hb : n - (rw_ T k).length < 0
        · have ht : takeN (rw_ T k).length n = -1 := by unfold takeN; rw [if_pos (by omega)]
          go_wp2_with (go_at_call 68; refine (szIntS_any _ _ _ _ _ hlen hn0 hn1).mono ?_; rintro e w' ⟨rfl, rfl⟩)
          go_ret
          exact ⟨ret_int (by rw [← hs.out, getD_drop T k hlt]; simp [szRows, ht]), rfl⟩
        · have ht : takeN (rw_ T k).length n = n - (rw_ T k).length := by unfold takeN; rw [if_neg (by omega)]
          go_wp2_with (go_at_call 68; refine (szIntS_any _ _ _ _ _ hlen hn0 hn1).mono ?_; rintro e w' ⟨rfl, rfl⟩)
          go_round
          case rel => exact ⟨k + 1, _, by omega, by go_num, rfl, by omega, by omega, by show _ = _; rw [← hs.out, getD_drop T k hlt]; simp only [szRows, ht]; rw [if_neg (by omega)]⟩
          case measure => simp [intOf]; omega
      · obtain rfl : k = T.length := by omega
        go_wp2
        go_ret
        exact ⟨ret_int (by rw [← hs.out]; simp [szRows]), rfl⟩


theorem takeN_le {n : Nat} {l : Int} (h : 0 ≤ l) : takeN n l ≤ l := by
  unfold takeN; split <;> omega
theorem szRows_le : ∀ (T : List (List Int)) (l : Int), 0 ≤ l → szRows T l ≤ l
  | [], l, _ => Int.le_refl _
  | r :: T, l, h => by
    unfold szRows
    split
    · omega
    · rename_i h'
      have := szRows_le T (takeN r.length l) (by omega)
      have := takeN_le (n := r.length) h
      omega
theorem szT_le (T : List (List Int)) (l : Int) (h : 0 ≤ l) : szT T l ≤ l := by
  unfold szT
  split
  · omega
  · have := szRows_le T (l - T.length) (by omega); omega
theorem szT_smallg {T : List (List Int)} {l : Int} (hl : l ≤ 1048576) (h : 0 ≤ szT T l) : Small T := by
  unfold szT at h
  split at h
  · omega
  · refine ⟨by omega, fun i hi => szRows_small T _ (by omega) h _ ?_⟩
    have : rw_ T i = T[i] := by simp [rw_, List.getD, hi]
    rw [this]; exact List.getElem_mem hi
end Go.Proofs.Ythiiniahkfjgmaa
