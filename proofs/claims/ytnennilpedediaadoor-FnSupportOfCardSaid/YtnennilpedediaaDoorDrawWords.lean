/-  -/
import Derived.Test.YtnennilpedediaaDoorDrawS
import Derived.Test.YtnennilpedediaaDoorSword
import Derived.Test.YtnennilpedediaaDoorDrawAll
namespace Go.Proofs.YtnennilpedediaaDoor
open Go.RowKit
set_option linter.unusedVariables false


/-- A step that gives a word. -/
def WordStep (w wi : World) (B g P : Nat) (A : Option Addr) (n c : Nat) (e : Ending) (wj : World) : Prop :=
  ∃ u P', e = .returned (.string (bs u)) ∧ u.length ≤ 40 ∧ St w wj B g P' A n c ∧ P' ≤ P + 40 ∧ Only g (g + 1) wi wj
set_option maxHeartbeats 1000000 in
theorem odd0_any (g : Nat) (w : World) : Calls Tryd.prog 24 #[.pointer (some ⟨g, 0, none⟩), .int .i64 0] w fun e w' => e = .returned (.bool false) ∧ w = w' := by
  go_enter Tryd.func24, Tryd.ntmps24
  go_wp2
  go_ret
  exact ⟨rfl, rfl⟩
end Go.Proofs.YtnennilpedediaaDoor

namespace Go.Proofs.YtnennilpedediaaDoor
open Go.RowKit
set_option linter.unusedVariables false


def DrawnW (w : World) (e : Ending) (w' : World) : Prop := ∃ u, e = .returned (.string (bs u)) ∧ u.length ≤ 40 ∧ Below w.heap.size w w'
def DrawnV (w : World) (e : Ending) (w' : World) : Prop := ∃ A c T u, ∃ x y z : Int, e = .returned (.tuple #[.slice A T.length c, .string (bs u), .int .i64 x, .int .i64 y, .int .i64 z]) ∧ Below w.heap.size w w' ∧ Mat w' w.heap.size w'.heap.size A T ∧ Small T ∧ u.length ≤ 40
theorem bytes_later {w w' : World} {n : Nat} {A : Option Addr} (h : Bytes w w.heap.size A n) (b : Below w.heap.size w w') : Bytes w' w'.heap.size A n := fun j hj => by
  obtain ⟨bb, o, z, e, hlt, hc, hz⟩ := h j hj
  exact ⟨bb, o, z, e, Nat.lt_of_lt_of_le hlt b.size, (b.cell (p := ⟨bb, o + j, none⟩) hlt).trans hc, hz⟩
end Go.Proofs.YtnennilpedediaaDoor
