/-  -/
import Derived.DeepKeys4
import Derived.Test.YtnchipcpeeofaaaMQ13
import Derived.Test.YtnchipcpeeofaaaMQ06
namespace Go.Proofs.Ytnchipcpeeofaaa
open Go.RowKit
set_option linter.unusedVariables false
set_option linter.unusedSimpArgs false

theorem bs_inj {u v : List UInt8} (h : bs u = bs v) : u = v := by
  have := congrArg ByteArray.toList h
  rwa [toList_bs, toList_bs] at this
/-- What is right to be remembered of two words. -/
def SR (x v : Value) : Prop := ∀ u1 v1 : List UInt8, x = .agg #[.string (bs u1), .string (bs v1)] → v = .bool (sameB u1 v1)
theorem SR.of (u v : List UInt8) : SR (.agg #[.string (bs u), .string (bs v)]) (.bool (sameB u v)) := fun u1 v1 e => by
  injection e with e
  have e := congrArg Array.toList e
  simp only [List.cons.injEq, Value.string.injEq, and_true] at e
  rw [bs_inj e.1, bs_inj e.2]
theorem SR.at {u v : List UInt8} {z : Value} (h : SR (.agg #[.string (bs u), .string (bs v)]) z) : z = .bool (sameB u v) := h u v rfl
section
variable {W : World} {b : Nat} {u v : List UInt8}
end
end Go.Proofs.Ytnchipcpeeofaaa
