
/- Chapter 6 of the landed code: all six contracts (texts A to F, and the letters). -/
import Derived.Test.YtjpdfkmlcjkcmaaIwordF
namespace Go.Proofs.Ytjpdfkmlcjkcmaa
open Go.RowKit
set_option linter.unusedVariables false

set_option maxHeartbeats 2000000 in
theorem iLettersIn_any (u : List UInt8) (w : World) (hn : u.length ≤ 1048576) :
    Calls Try.prog 20 #[.string (bs u)] w fun e w' => e = .returned (.int .i64 (letN u)) ∧ Below w.heap.size w w' := by
  cases hw : okW u
  · have HE := hide (letN_not hw)
    go_enter Try.func20, Try.ntmps20
    go_wp2_with fail
    refine (iWordOk_any u _ hn).mono ?_
    rw [hw]
    rintro e w' ⟨rfl, b1⟩
    go_wp2
    go_ret
    exact ⟨ret_int HE.out.symm, b1⟩
  · have HE := hide (letN_ok hw)
    have HW := hide hw
    go_enter Try.func20, Try.ntmps20
    go_wp2_with fail
    refine (iWordOk_any u _ hn).mono ?_
    rw [hw]
    rintro e w1 ⟨rfl, b1⟩
    clear hw
    go_wp2_with fail
    refine (places_any u _ HW.out).mono ?_
    rintro e w2 ⟨x, y, z, ⟨hx, hy, hz⟩, rfl, b2⟩
    have HL := hide (letsN_ltr hx hy hz)
    clear hx hy hz
    go_wp2_with fail
    refine (letters_any x y z _).mono ?_
    rw [HL.out]
    rintro e w3 ⟨rfl, b3⟩
    go_wp2
    go_ret
    have b12 := b1.trans (b2.mono b1.size)
    exact ⟨ret_int HE.out.symm, b12.trans (b3.mono b12.size)⟩
end Go.Proofs.Ytjpdfkmlcjkcmaa
