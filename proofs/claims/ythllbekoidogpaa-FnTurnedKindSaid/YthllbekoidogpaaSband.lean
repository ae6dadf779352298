
/- Bands and their sides, zeros and ones: the specification's. -/
import Derived.Test.YthllbekoidogpaaSgrp
import Derived.Test.YthllbekoidogpaaTab
import Derived.Test.YthllbekoidogpaaBandP
import Derived.Test.YthllbekoidogpaaPureX
import Derived.Test.YthllbekoidogpaaIband
namespace Go.Proofs.Ythllbekoidogpaa
open Go.RowKit
set_option linter.unusedVariables false


set_option maxRecDepth 20000 in
theorem either_half {T : List (List Int)} (h : ∀ i j, i < T.length → j < i → rEither T i j = true) : allRR T.length (rEither T) = true := allRR_iff.2 fun a b ha hb => by
  rcases Nat.lt_trichotomy a b with hl | rfl | hl
  · have := h b a hb hl
    unfold rEither at this ⊢
    rw [beq_iff_eq] at this ⊢
    exact this.symm
  · unfold rEither; exact beq_self_eq_true _
  · exact h a b ha hl

end Go.Proofs.Ythllbekoidogpaa
