
/- The drawn rows; a row appended to a row. -/
import Derived.Test.YtcegjiiondmchabDrawAll
import Derived.WalkLawsBesides
namespace Go.Proofs.Ytcegjiiondmchab
open Go.RowKit
set_option linter.unusedVariables false


/-- A drawn row. -/
def DrawRow (w : World) (B g P : Nat) (A : Option Addr) (n c : Nat) (wi : World) (e : Ending) (w' : World) : Prop :=
  ∃ A' c' xs, e = .returned (.slice A' xs.length c') ∧ Row w' w.heap.size w'.heap.size A' xs ∧ xs.length ≤ 7 ∧ xs.length ≤ c' ∧ c' ≤ 9223372036854775807 ∧ (∃ P', St w w' B g P' A n c ∧ P' ≤ P + 30) ∧ Only g (g + 1) wi w'

/-- 'row = append(row, source...)' where the source holds numbers. -/
theorem wp_app_src {ops : Array Oper} {rest : List Oper} {o : Oper} {a : Act} {Q : Exit → Act → World → Prop} {w : World} (hgd : o.guard = none) (s x : Operand)
    (ho : o.op = .call { callee := .builtin .append, args := #[s, x], argTypes := #[28, 28] }) (base lo hi : Nat) (v : Value) (xs ys : List Int) (A' : Option Addr) (c : Nat) (hs : a.eval s = v) (hx : a.eval x = .slice A' ys.length c)
    (hown : ARow base w v xs) (hsrc : Row w lo hi A' ys) (hy : 1 ≤ ys.length) (hy2 : ys.length ≤ 1048576) (hn : xs.length ≤ 1048576) (hb : base ≤ w.heap.size)
    (h : ∀ v' w', ARow base w' v' (xs ++ ys) → w.grownBy w' v.ownBlock → wpList Try.prog ops Q rest (a.put o.dst v') w') : wpList Try.prog ops Q (o :: rest) a w := by
  obtain ⟨i0, hi0, hz0, hz1, hz2⟩ := info_parts info_int
  obtain ⟨b, off, rfl, _, _, _⟩ := hsrc 0 (by omega)
  refine wpList_append_own _ hgd s x 28 ho base 3 i0 (.int .i64 0) 1 8 Try.underlying28 hi0 hz0 hz1 hz2 rfl (by decide) v _ _ hs hown ⟨b, off, none⟩ ys.length c (ys.map (Value.int .i64)) hx (by simp) (fun j u hu => ?_) (by simp [Value.oneCell']) (by rw [maxLen_is]; omega) (by omega) hb ?_
  · have hj : j < ys.length := by
      rcases Nat.lt_or_ge j ys.length with h1 | h1
      · exact h1
      · simp [List.getElem?_eq_none h1] at hu
    obtain ⟨b', o', e, _, _, hc⟩ := hsrc j hj
    obtain ⟨rfl, rfl⟩ : b = b' ∧ off = o' := by simpa using e
    have hu2 : u = .int .i64 (el ys j) := by
      simp [hj] at hu
      rw [← hu, el_eq hj]
    rw [hu2, Addr.add_lit]
    exact hc
  · intro v' w' h1 h2 _
    exact h v' w' (by unfold ARow; simpa using h1) h2
end Go.Proofs.Ytcegjiiondmchab
