/- The walk of FnCountFull. -/
import Derived.Test.YtjmjfmgbfjmaaaaSfree
import Derived.Test.YtjmjfmgbfjmaaaaIfree
import Derived.Test.YtjmjfmgbfjmaaaaDrawFrees
import Derived.Deep.RegionHeld3
namespace Go.Proofs.Ytjmjfmgbfjmaaaa
open Go.RowKit
set_option linter.unusedVariables false

set_option maxRecDepth 20000 in
set_option maxHeartbeats 16000000 in
theorem fnCountFull_walk (A : Option Addr) (n c : Nat) (w : World) (h : Bytes w w.heap.size A n) (hc : n ≤ c) (hc2 : c ≤ 9223372036854775807) :
    Calls Try.prog 5 #[.slice A n c] w fun e w' => e = .returned (.bool true) ∧ Below w.heap.size w w' := by
  by_cases hn : (1048576 : Int) < (n : Int)
  · go_enter Try.func5, Try.ntmps5
    go_wp2
    go_ret
    exact ⟨rfl, Below.refl _ _⟩
  · go_enter Try.func5, Try.ntmps5
    go_wp2_with fail
    refine (drawCountFull_any A n c w h hc hc2).mono ?_
    rintro e w1 ⟨x, rfl, hx1, hx2, B1⟩
    obtain rfl | rfl | rfl | rfl | rfl | rfl : x = -1 ∨ x = 0 ∨ x = 1 ∨ x = 2 ∨ x = 3 ∨ x = 4 := by omega
    · go_wp2_with fail
      refine (iCountFull_any (-1) _).mono ?_
      rw [show cntF (-1) = -1 from by decide]
      rintro e w2 ⟨rfl, b2⟩
      have B2 := B1.trans (b2.mono B1.size)
      go_wp2_with fail
      refine (sCountFull_any (-1) _).mono ?_
      rw [show cntF (-1) = -1 from by decide]
      rintro e w_ ⟨rfl, rfl⟩
      go_wp2_with fail
      refine (alive_any _).mono ?_
      rintro e w3 ⟨rfl, b3⟩
      go_wp2
      go_ret
      exact ⟨rfl, B2.trans (b3.mono B2.size)⟩
    · go_wp2_with fail
      refine (iCountFull_any (0) _).mono ?_
      rw [show cntF (0) = -1 from by decide]
      rintro e w2 ⟨rfl, b2⟩
      have B2 := B1.trans (b2.mono B1.size)
      go_wp2_with fail
      refine (sCountFull_any (0) _).mono ?_
      rw [show cntF (0) = -1 from by decide]
      rintro e w_ ⟨rfl, rfl⟩
      go_wp2_with fail
      refine (alive_any _).mono ?_
      rintro e w3 ⟨rfl, b3⟩
      go_wp2
      go_ret
      exact ⟨rfl, B2.trans (b3.mono B2.size)⟩
    · go_wp2_with fail
      refine (iCountFull_any (1) _).mono ?_
      rw [show cntF (1) = 1 from by decide]
      rintro e w2 ⟨rfl, b2⟩
      have B2 := B1.trans (b2.mono B1.size)
      go_wp2_with fail
      refine (sCountFull_any (1) _).mono ?_
      rw [show cntF (1) = 1 from by decide]
      rintro e w_ ⟨rfl, rfl⟩
      go_wp2
      go_ret
      exact ⟨rfl, B2.trans ((Below.refl _ _).alloc B2.size _)⟩
    · go_wp2_with fail
      refine (iCountFull_any (2) _).mono ?_
      rw [show cntF (2) = 4 from by decide]
      rintro e w2 ⟨rfl, b2⟩
      have B2 := B1.trans (b2.mono B1.size)
      go_wp2_with fail
      refine (sCountFull_any (2) _).mono ?_
      rw [show cntF (2) = 4 from by decide]
      rintro e w_ ⟨rfl, rfl⟩
      go_wp2_with fail
      refine (iCountFull_any (1) _).mono ?_
      rw [show cntF (1) = 1 from by decide]
      rintro e w3 ⟨rfl, b3⟩
      have B3 := B2.trans (b3.mono B2.size)
      go_wp2
      go_ret
      exact ⟨rfl, B3.trans ((Below.refl _ _).alloc B3.size _)⟩
    · go_wp2_with fail
      refine (iCountFull_any (3) _).mono ?_
      rw [show cntF (3) = 144 from by decide]
      rintro e w2 ⟨rfl, b2⟩
      have B2 := B1.trans (b2.mono B1.size)
      go_wp2_with fail
      refine (sCountFull_any (3) _).mono ?_
      rw [show cntF (3) = 144 from by decide]
      rintro e w_ ⟨rfl, rfl⟩
      go_wp2_with fail
      refine (iCountFull_any (2) _).mono ?_
      rw [show cntF (2) = 4 from by decide]
      rintro e w3 ⟨rfl, b3⟩
      have B3 := B2.trans (b3.mono B2.size)
      go_wp2
      go_ret
      exact ⟨rfl, B3.trans ((Below.refl _ _).alloc B3.size _)⟩
    · go_wp2_with fail
      refine (iCountFull_any (4) _).mono ?_
      rw [show cntF (4) = -1 from by decide]
      rintro e w2 ⟨rfl, b2⟩
      have B2 := B1.trans (b2.mono B1.size)
      go_wp2_with fail
      refine (sCountFull_any (4) _).mono ?_
      rw [show cntF (4) = -1 from by decide]
      rintro e w_ ⟨rfl, rfl⟩
      go_wp2_with fail
      refine (alive_any _).mono ?_
      rintro e w3 ⟨rfl, b3⟩
      go_wp2
      go_ret
      exact ⟨rfl, B2.trans (b3.mono B2.size)⟩

end Go.Proofs.Ytjmjfmgbfjmaaaa
