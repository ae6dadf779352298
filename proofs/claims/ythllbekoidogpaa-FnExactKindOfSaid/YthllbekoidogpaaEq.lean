
/- Two rows, two tables that read the same are told to be equal; what is written into a table is read back. -/
import Derived.Test.YthllbekoidogpaaHelp
namespace Go.Proofs.Ythllbekoidogpaa
open Go.RowKit
set_option linter.unusedVariables false

set_option maxHeartbeats 400000 in
theorem eqIntS_same (A A2 : Option Addr) (c c2 lo hi lo2 hi2 : Nat) (xs : List Int) (w : World) (h : Row w lo hi A xs) (h2 : Row w lo2 hi2 A2 xs) (hn : xs.length ≤ 1048576) :
    Calls Try.prog 77 #[.slice A xs.length c, .slice A2 xs.length c2] w fun e w' => e = .returned (.bool true) ∧ QD w w' := by
  go_enter Try.func77, Try.ntmps77
  go_wp2
  go_loopg [5] xs.length (fun g i wr => ∃ k : Nat, k ≤ xs.length ∧ g = xs.length - k ∧ i = .int .i64 k ∧ QD w wr)
  case atStart => exact ⟨0, Nat.zero_le _, rfl, rfl, QD.refl _⟩
  case round =>
    obtain ⟨k, hk, rfl, rfl, hq⟩ := hrel
    by_cases hlt : k < xs.length
    · obtain ⟨b, o, rfl, _, _, hc⟩ := (h.quiet hq) k hlt
      obtain ⟨b2, o2, rfl, _, _, hc2⟩ := (h2.quiet hq) k hlt
      have hz : (k : Int) < (xs.length : Int) := by omega
      have hz0 : (0 : Int) ≤ (k : Int) := by omega
      go_wp2
      go_quiet (fail)
      go_wp2
      go_roundg (xs.length - (k + 1))
      case measure => go_light; omega
      case rel => go_light; exact ⟨k + 1, by omega, rfl, by go_num, hq.drewN _⟩
    · obtain rfl : k = xs.length := by omega
      go_wp2
      go_ret
      exact ⟨rfl, hq⟩

set_option maxHeartbeats 400000 in
theorem eqIntSS_same (A A2 : Option Addr) (c c2 lo hi lo2 hi2 : Nat) (T : List (List Int)) (w : World) (h : Mat w lo hi A T) (h2 : Mat w lo2 hi2 A2 T) (hS : Small T) :
    Calls Try.prog 52 #[.slice A T.length c, .slice A2 T.length c2] w fun e w' => e = .returned (.bool true) ∧ QD w w' := by
  have hn := hS.len
  go_enter Try.func52, Try.ntmps52
  go_wp2
  go_loopg [5] T.length (fun g i wr => ∃ k : Nat, k ≤ T.length ∧ g = T.length - k ∧ i = .int .i64 k ∧ QD w wr)
  case atStart => exact ⟨0, Nat.zero_le _, rfl, rfl, QD.refl _⟩
  case round =>
    obtain ⟨k, hk, rfl, rfl, hq⟩ := hrel
    by_cases hlt : k < T.length
    · obtain ⟨b, o, A', c', rfl, _, _, hc, hR⟩ := (h.quiet hq) k hlt
      obtain ⟨b2, o2, A2', c2', rfl, _, _, hc2, hR2⟩ := (h2.quiet hq) k hlt
      have hz : (k : Int) < (T.length : Int) := by omega
      have hz0 : (0 : Int) ≤ (k : Int) := by omega
      have hlen := hS.row k hlt
      go_wp2
      go_quiet ((go_at_call 77; exact quiet_at (eqIntS_same _ _ _ _ _ _ _ _ _ _ (hR.drewN _) (hR2.drewN _) hlen)))
      go_wp2
      go_roundg (T.length - (k + 1))
      case measure => go_light; omega
      case rel => go_light; exact ⟨k + 1, by omega, rfl, by go_num, hq.drewN _⟩
    · obtain rfl : k = T.length := by omega
      go_wp2
      go_ret
      exact ⟨rfl, hq⟩

end Go.Proofs.Ythllbekoidogpaa
