
/- A row of the call's own, whole: in a block of its own, from its head; marked, held. -/
import Derived.Test.YtnennilpedediaaMark
import Derived.Test.YtnennilpedediaaFill
namespace Go.Proofs.Ytnennilpedediaa
open Go.RowKit
set_option linter.unusedVariables false


def ORow (w : World) (lo hi : Nat) (A : Option Addr) (xs : List Int) : Prop := xs.length = 0 ∨ ∃ g, A = some ⟨g, 0, none⟩ ∧ lo ≤ g ∧ g < hi ∧ Cells w g xs
/-- A call that returns a row of its own. -/
def OwnRow (w : World) (xs : List Int) (e : Ending) (w' : World) : Prop := ∃ A c, e = .returned (.slice A xs.length c) ∧ Below w.heap.size w w' ∧ ORow w' w.heap.size w'.heap.size A xs ∧ xs.length ≤ c ∧ c ≤ 9223372036854775807
section
variable {w w' : World} {lo hi : Nat} {A : Option Addr} {xs : List Int}
theorem ORow.row (h : ORow w lo hi A xs) : Row w lo hi A xs := by
  rcases h with h | ⟨g, rfl, h1, h2, h3⟩
  · exact fun j hj => by omega
  · exact h3.row h1 h2
theorem ORow.keep (h : ORow w lo hi A xs) (hk : ∀ k, lo ≤ k → k < hi → w'.heap[k]? = w.heap[k]?) : ORow w' lo hi A xs := by
  rcases h with h | ⟨g, e, h1, h2, h3⟩
  · exact .inl h
  · exact .inr ⟨g, e, h1, h2, h3.keep (hk g h1 h2)⟩
theorem ORow.below {B : Nat} (h : ORow w lo hi A xs) (hb : Below B w w') (hB : hi ≤ B) : ORow w' lo hi A xs := h.keep fun k _ hk => hb.block k (by omega)
theorem ORow.only {lo' hi' : Nat} (h : ORow w lo hi A xs) (hb : Only lo' hi' w w') (hs : hi ≤ w.heap.size) (hd : hi ≤ lo' ∨ hi' ≤ lo) : ORow w' lo hi A xs := h.keep fun k h1 h2 => hb.block k (by omega) (by omega)
theorem ORow.mono {lo' hi' : Nat} (h : ORow w lo hi A xs) (h1 : lo' ≤ lo) (h2 : hi ≤ hi') : ORow w lo' hi' A xs := by
  rcases h with h | ⟨g, e, a1, a2, h3⟩
  · exact .inl h
  · exact .inr ⟨g, e, by omega, by omega, h3⟩
theorem ORow.nil (w : World) (lo hi : Nat) (A : Option Addr) : ORow w lo hi A [] := .inl rfl
/-- A row that was made by appending is one. -/
theorem ARow.orow {base : Nat} {v : Value} (h : ARow base w v xs) : ∃ A c, v = .slice A xs.length c ∧ xs.length ≤ c ∧ c ≤ 9223372036854775807 ∧ ORow w base w.heap.size A xs := by
  rcases h.2 with ⟨rfl, h0⟩ | ⟨g, cap, cur, rfl, hg, hh, hc, hm, _, _⟩
  · have : xs = [] := List.eq_nil_of_length_eq_zero h0
    subst this
    exact ⟨none, 0, rfl, Nat.le_refl _, by omega, ORow.nil _ _ _ _⟩
  · refine ⟨_, cap, rfl, hc, by rw [maxLen_is] at hm; exact hm, .inr ⟨g, rfl, hg, (Array.getElem?_eq_some_iff.1 hh).1, fun j hj => ⟨?_, ?_⟩⟩⟩
    · have := h.cells (g := g) rfl j (.int .i64 (el xs j)) (by simp [hj, el, List.getD])
      simpa [Addr.add_lit] using this
    · simp [World.frozen?, hh]
end

set_option maxHeartbeats 1000000 in
theorem markRow_any (A : Option Addr) (c lo hi : Nat) (xs : List Int) (k : Int) (w : World) (h : ORow w lo hi A xs) (hn : xs.length ≤ 1048576) (h0 : 0 ≤ k) (h1 : k ≤ 8796093022208) :
    Calls Try.prog 62 #[.slice A xs.length c, .int .i64 k] w fun e w' => e = .returned (.int .i64 (k + xs.length)) ∧ Only lo hi w w' ∧ ORow w' lo hi A (marks xs.length k) := by
  rcases h with h | ⟨g, rfl, h2, h3, h4⟩
  · have hx : xs = [] := List.eq_nil_of_length_eq_zero h
    subst hx
    go_enter Try.func62, Try.ntmps62
    go_wp2
    go_loopg [5, 1] 1 (fun m i v wr => i = .int .i64 0 ∧ v = .int .i64 k ∧ w = wr)
    case atStart => exact ⟨rfl, rfl, rfl⟩
    case round =>
      obtain ⟨rfl, rfl, rfl⟩ := hrel
      go_wp2
      go_ret
      exact ⟨ret_int (by simp), Only.refl _ _ _, .inl (by simp [marks])⟩
  · refine (markIntS_any g c xs k w h4 hn h0 h1).mono ?_
    rintro e w' ⟨rfl, hO, hC⟩
    exact ⟨rfl, hO.mono h2 (by omega), .inr ⟨g, rfl, h2, h3, hC⟩⟩
end Go.Proofs.Ytnennilpedediaa
