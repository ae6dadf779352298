/-  -/
import Derived.Laws.Slices
import Derived.Test.YtnchipcpeeofaaaMQ06
import Derived.Test.YtnchipcpeeofaaaMQ03
import Derived.Test.YtnchipcpeeofaaaMQ04
import Derived.Test.YtnchipcpeeofaaaMQ02
import Derived.Test.YtnchipcpeeofaaaMQ05
import Derived.Test.YtnchipcpeeofaaaMQ01
namespace Go.Proofs.Ytnchipcpeeofaaa
open Go.RowKit
set_option linter.unusedVariables false


/-- The j-th text of a row. -/
def sl (L : List (List UInt8)) (j : Nat) : List UInt8 := L.getD j []
/-- A row of texts in blocks from lo on, below hi. -/
def Srow (w : World) (lo hi : Nat) (A : Option Addr) (L : List (List UInt8)) : Prop :=
  ∀ j, j < L.length → ∃ b o, A = some ⟨b, o, none⟩ ∧ lo ≤ b ∧ b < hi ∧ w.cell? ⟨b, o + j, none⟩ = some (.string (bs (sl L j)))
def SCells (w : World) (g : Nat) (L : List (List UInt8)) : Prop :=
  ∀ j, j < L.length → w.cell? ⟨g, j, none⟩ = some (.string (bs (sl L j))) ∧ w.frozen? ⟨g, j, none⟩ = false
def OStr (w : World) (lo hi : Nat) (A : Option Addr) (L : List (List UInt8)) : Prop := L.length = 0 ∨ ∃ g, A = some ⟨g, 0, none⟩ ∧ lo ≤ g ∧ g < hi ∧ SCells w g L
/-- A row of texts of the call's own, made by appending. -/
def AStr (base : Nat) (w : World) (v : Value) (L : List (List UInt8)) : Prop := w.ownsRow base 9 1 v L.length (L.map fun u => Value.string (bs u))
section
variable {w w' : World} {lo hi base : Nat} {A : Option Addr} {L : List (List UInt8)} {v : Value}
theorem Srow.keep (h : Srow w lo hi A L) (hk : ∀ k, lo ≤ k → k < hi → w'.heap[k]? = w.heap[k]?) : Srow w' lo hi A L := fun j hj => by
  obtain ⟨b, o, e, h1, h2, hc⟩ := h j hj
  exact ⟨b, o, e, h1, h2, (World.cell?_of_block (w := w) (hk b h1 h2)).trans hc⟩
theorem Srow.mono (h : Srow w lo hi A L) {lo' hi' : Nat} (h1 : lo' ≤ lo) (h2 : hi ≤ hi') : Srow w lo' hi' A L := fun j hj => by
  obtain ⟨b, o, e, a1, a2, hc⟩ := h j hj
  exact ⟨b, o, e, by omega, by omega, hc⟩
theorem Srow.below {B : Nat} (h : Srow w lo hi A L) (hb : Below B w w') (hB : hi ≤ B) : Srow w' lo hi A L := h.keep fun k _ hk => hb.block k (by omega)
theorem Srow.only {lo' hi' : Nat} (h : Srow w lo hi A L) (hb : Only lo' hi' w w') (hs : hi ≤ w.heap.size) (hd : hi ≤ lo' ∨ hi' ≤ lo) : Srow w' lo hi A L := h.keep fun k h1 h2 => hb.block k (by omega) (by omega)
theorem Srow.quiet (h : Srow w lo hi A L) (q : QD w w') : Srow w' lo hi A L := h.keep fun k _ _ => by rw [q.heap]
theorem Srow.nil (w : World) (lo hi : Nat) (A : Option Addr) : Srow w lo hi A [] := fun _ hj => absurd hj (Nat.not_lt_zero _)
theorem SCells.keep {g : Nat} (h : SCells w g L) (hk : w'.heap[g]? = w.heap[g]?) : SCells w' g L := fun j hj =>
  ⟨(World.cell?_of_block (w := w) hk).trans (h j hj).1, (World.frozen?_of_block (w := w) hk).trans (h j hj).2⟩
theorem OStr.row (h : OStr w lo hi A L) : Srow w lo hi A L := by
  rcases h with h | ⟨g, rfl, h1, h2, h3⟩
  · exact fun j hj => by omega
  · exact fun j hj => ⟨g, 0, rfl, h1, h2, by simpa using (h3 j hj).1⟩
theorem OStr.keep (h : OStr w lo hi A L) (hk : ∀ k, lo ≤ k → k < hi → w'.heap[k]? = w.heap[k]?) : OStr w' lo hi A L := by
  rcases h with h | ⟨g, e, h1, h2, h3⟩
  · exact .inl h
  · exact .inr ⟨g, e, h1, h2, h3.keep (hk g h1 h2)⟩
theorem OStr.below {B : Nat} (h : OStr w lo hi A L) (hb : Below B w w') (hB : hi ≤ B) : OStr w' lo hi A L := h.keep fun k _ hk => hb.block k (by omega)
theorem OStr.only {lo' hi' : Nat} (h : OStr w lo hi A L) (hb : Only lo' hi' w w') (hs : hi ≤ w.heap.size) (hd : hi ≤ lo' ∨ hi' ≤ lo) : OStr w' lo hi A L := h.keep fun k h1 h2 => hb.block k (by omega) (by omega)
theorem OStr.mono (h : OStr w lo hi A L) {lo' hi' : Nat} (h1 : lo' ≤ lo) (h2 : hi ≤ hi') : OStr w lo' hi' A L := by
  rcases h with h | ⟨g, e, a1, a2, h3⟩
  · exact .inl h
  · exact .inr ⟨g, e, by omega, by omega, h3⟩
theorem OStr.nil (w : World) (lo hi : Nat) (A : Option Addr) : OStr w lo hi A [] := .inl rfl
theorem AStr.below (h : AStr base w v L) (hb : Below w.heap.size w w') : AStr base w' v L := ownsRow_below h hb
theorem AStr.mono {base' : Nat} (h : AStr base w v L) (hb : base' ≤ base) : AStr base' w v L := ownsRow_mono h hb
theorem AStr.nil_ (base : Nat) (w : World) : AStr base w (.slice none 0 0) [] := World.ownsRow_nil w base _ _
theorem AStr.made (hb : base ≤ w.heap.size) : AStr base (w.alloc (.cells #[] 9)) (.slice (some ⟨w.heap.size, 0, none⟩) 0 0) [] := World.ownsRow_made w #[] 0 hb (by simp [maxLen]) rfl
theorem AStr.belowOf {base0 : Nat} {w1 : World} (h : AStr base w v L) (hg : w.grownBy w1 v.ownBlock) (hb : base0 ≤ base) (hw : base0 ≤ w.heap.size) : Below base0 w w1 :=
  (Below.refl _ _).grown hg hw fun k hk => Nat.le_trans hb (h.lt k hk).1
theorem AStr.ostr (h : AStr base w v L) : ∃ A c, v = .slice A L.length c ∧ L.length ≤ c ∧ c ≤ 9223372036854775807 ∧ OStr w base w.heap.size A L := by
  rcases h.2 with ⟨rfl, h0⟩ | ⟨g, cap, cur, rfl, hg, hh, hc, hm, _, _⟩
  · have : L = [] := List.eq_nil_of_length_eq_zero h0
    subst this
    exact ⟨none, 0, rfl, Nat.le_refl _, by omega, OStr.nil _ _ _ _⟩
  · refine ⟨_, cap, rfl, hc, by rw [maxLen_is] at hm; exact hm, .inr ⟨g, rfl, hg, (Array.getElem?_eq_some_iff.1 hh).1, fun j hj => ⟨?_, ?_⟩⟩⟩
    · have := h.cells (g := g) rfl j (.string (bs (sl L j))) (by simp [hj, sl, List.getD])
      simpa [Addr.add_lit] using this
    · simp [World.frozen?, hh]
theorem AStr.val (h : AStr base w v L) : ∃ A c, v = .slice A L.length c ∧ L.length ≤ c ∧ c ≤ 9223372036854775807 ∧ Srow w base w.heap.size A L := by
  obtain ⟨A, c, e, h1, h2, h3⟩ := h.ostr
  exact ⟨A, c, e, h1, h2, h3.row⟩
end

end Go.Proofs.Ytnchipcpeeofaaa

namespace Go.Proofs.Ytnchipcpeeofaaa
set_option linter.unusedVariables false

/-- The letter of a bit. -/
def lx (i : Nat) : UInt8 := if i = 0 then 97 else if i = 1 then 98 else 99
section
variable {g : Nat → List (List UInt8)} {s : Nat}
end
end Go.Proofs.Ytnchipcpeeofaaa

namespace Go.Proofs.Ytnchipcpeeofaaa
open Go.RowKit
set_option linter.unusedVariables false

/-- The numbers of the letters of a set. -/
def numN (s : Nat) : List Nat := (List.range 3).filter fun i => s.testBit i
theorem num_lt {s i : Nat} (h : i ∈ numN s) : i < 3 ∧ s.testBit i = true := by
  unfold numN at h
  rw [List.mem_filter, List.mem_range] at h
  exact h
end Go.Proofs.Ytnchipcpeeofaaa
