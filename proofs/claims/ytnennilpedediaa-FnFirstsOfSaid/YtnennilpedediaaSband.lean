
/- Bands and their sides, zeros and ones: the specification's. -/
import Derived.Test.YtnennilpedediaaSgrp
import Derived.Test.YtnennilpedediaaTab
import Derived.Test.YtnennilpedediaaBandP
import Derived.Test.YtnennilpedediaaPureX
import Derived.Test.YtnennilpedediaaIband
namespace Go.Proofs.Ytnennilpedediaa
open Go.RowKit
set_option linter.unusedVariables false


set_option maxRecDepth 20000 in
theorem either_half {T : List (List Int)} (h : ∀ i j, i < T.length → j < i → rEither T i j = true) : allRR T.length (rEither T) = true := allRR_iff.2 fun a b ha hb => by
  rcases Nat.lt_trichotomy a b with hl | rfl | hl
  · have := h b a hb hl
    unfold rEither at this ⊢
    rw [beq_iff_eq] at this ⊢
    exact this.symm
  · unfold rEither; exact beq_self_eq_true _
  · exact h a b ha hl

end Go.Proofs.Ytnennilpedediaa
