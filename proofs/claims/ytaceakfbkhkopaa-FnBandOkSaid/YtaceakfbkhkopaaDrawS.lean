
/- Stores into drawn tables: they stay tables. -/
import Derived.Test.YtaceakfbkhkopaaDrawC
import Derived.Deep.Slices
namespace Go.Proofs.Ytaceakfbkhkopaa
open Go.RowKit
set_option linter.unusedVariables false

theorem ARow.set_int {base g y : Nat} {z : Int} {w : World} {u : Value} {xs : List Int} (h : ARow base w u xs) :
    ∃ xs' : List Int, xs'.length = xs.length ∧ ARow base (w.setCell ⟨g, y, none⟩ (.int .i64 z)) u xs' := by
  obtain ⟨h1, h2⟩ := h
  rcases h2 with h2 | ⟨g', cap, cur, hv, hg, hh, hc, hm, hs, ht⟩
  · exact ⟨xs, rfl, h1, .inl h2⟩
  · by_cases e : g' = g
    · subst e
      refine ⟨xs.set y z, by simp, by simp, .inr ⟨g', cap, cur.setIfInBounds y (.int .i64 z), by rw [hv]; simp, hg, ?_, by simpa using hc, hm, by simpa using hs, ?_⟩⟩
      · simp [World.setCell, Array.getElem?_modify, hh]
      · rw [Nat.mul_one] at ht
        simp only [Nat.mul_one, List.length_set, Array.toList_setIfInBounds, List.map_set]
        rw [List.take_set, ht]
    · exact ⟨xs, rfl, h1, .inr ⟨g', cap, cur, hv, hg, (Below.heap_setCell _ _ _ _ (by show g' ≠ g; exact e)).trans hh, hc, hm, hs, ht⟩⟩

theorem TabS.cells {w wi : World} {A' : Option Addr} {q c' x y : Nat} (h : TabS w wi (.slice A' q c') q) (hx : x < q) (hy : y < q) :
    ∃ b b2 c2 z, A' = some ⟨b, 0, none⟩ ∧ wi.cell? ⟨b, x, none⟩ = some (.slice (some ⟨b2, 0, none⟩) q c2) ∧ q ≤ c2 ∧ c2 ≤ 9223372036854775807 ∧ wi.cell? ⟨b2, y, none⟩ = some (.int .i64 z) ∧ wi.frozen? ⟨b2, y, none⟩ = false ∧ wi.frozen? ⟨b, x, none⟩ = false ∧ w.heap.size ≤ b2 ∧ w.heap.size ≤ b ∧ b ≠ b2 ∧
      ∀ u : Int, TabS w (wi.setCell ⟨b2, y, none⟩ (.int .i64 u)) (.slice A' q c') q := by
  obtain ⟨T, ⟨vs, h1, h2⟩, hT⟩ := h
  have hl := hT.len
  obtain ⟨u, hu, hr⟩ := h2 x (by omega)
  have hrl := hT.row x hx
  have h1k := h1
  have hrk := hr
  rcases h1.2 with ⟨_, h0⟩ | ⟨b, cap, cur, hv, hg, hh, hc, hm, hs, ht⟩
  · omega
  rcases hr.2 with ⟨_, h0⟩ | ⟨b2, cap2, cur2, hv2, hg2, hh2, hc2, hm2, hs2, ht2⟩
  · omega
  have hne : b ≠ b2 := fun e => by
    subst e
    rw [hh] at hh2
    injection hh2 with hh2
    injection hh2 with _ hty
    exact absurd hty (by decide)
  injection hv with hA hlen hcap
  subst hA
  subst hv2
  have ex := h1k.cells (g := b) (by rw [Value.ownBlock]) x _ hu
  have ey := hrk.cells (g := b2) rfl y (.int .i64 (el (rw_ T x) y)) (by simp [el, List.getD, hrl, hy])
  rw [Addr.add_lit] at ex ey
  simp only [Nat.zero_add] at ex ey
  refine ⟨b, b2, cap2, _, rfl, by rw [ex, hrl], by omega, by rw [maxLen_is] at hm2; exact hm2, ey, by simp [World.frozen?, hh2], by simp [World.frozen?, hh], hg2, hg, hne, fun z => ?_⟩
  have each : ∀ i, i < T.length → ∃ xs' : List Int, xs'.length = (rw_ T i).length ∧ ∃ u', vs[i]? = some u' ∧ ARow w.heap.size (wi.setCell ⟨b2, y, none⟩ (.int .i64 z)) u' xs' := fun i hi => by
    obtain ⟨u', hu', hr'⟩ := h2 i hi
    obtain ⟨xs', hl', ha'⟩ := hr'.set_int (g := b2) (y := y) (z := z)
    exact ⟨xs', hl', u', hu', ha'⟩
  obtain ⟨F, hF⟩ := Go.Deep.choose_lt each
  have hrow : ∀ i, i < T.length → rw_ ((List.range T.length).map F) i = F i := fun i hi => by simp [rw_, List.getD, hi]
  refine ⟨(List.range T.length).map F, ⟨vs, ⟨by simpa using h1k.1, .inr ⟨b, cap, cur, by simp [hl, hcap], hg, (Below.heap_setCell _ _ _ _ (by show b ≠ b2; exact hne)).trans hh, by simpa using hc, hm, by simpa using hs, by simpa using ht⟩⟩, fun i hi => ?_⟩, ⟨by simp [hl], fun i hi => ?_⟩⟩
  · have hi' : i < T.length := by simpa using hi
    obtain ⟨_, u', hu', ha'⟩ := hF i hi'
    exact ⟨u', hu', by rw [hrow i hi']; exact ha'⟩
  · rw [hrow i (by omega), (hF i (by omega)).1]
    exact hT.row i hi

theorem St.set {w wi : World} {B g P n c b y : Nat} {A : Option Addr} {u : Value} (h : St w wi B g P A n c) (hb : w.heap.size ≤ b) : St w (wi.setCell ⟨b, y, none⟩ u) B g P A n c := by
  have hb2 : Below w.heap.size wi (wi.setCell ⟨b, y, none⟩ u) := (Below.refl _ _).setCell hb _
  exact ⟨h.rd.belowM hb2 h.lt, h.only.thenBelow hb2 (Nat.le_refl _), h.lt⟩
end Go.Proofs.Ytaceakfbkhkopaa
