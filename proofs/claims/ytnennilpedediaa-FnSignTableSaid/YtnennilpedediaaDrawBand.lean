
/- The drawn bands, whole. -/
import Derived.Test.YtnennilpedediaaDrawS
import Derived.Test.YtnennilpedediaaMark
import Derived.Test.YtnennilpedediaaFill
import Derived.Deep.DeepCutAuto
import Derived.Deep.CutBlock
import Derived.Deep.RegionHeld3
namespace Go.Proofs.Ytnennilpedediaa
open Go.RowKit
set_option linter.unusedVariables false

/-- A call that draws a table, square or not. -/
def DrawAny (w : World) (B g P : Nat) (A : Option Addr) (n c : Nat) (e : Ending) (w' : World) : Prop :=
  ∃ A' c' T P', e = .returned (.slice A' T.length c') ∧ Mat w' w.heap.size w'.heap.size A' T ∧ Small T ∧ St w w' B g P' A n c ∧ P' ≤ P ∧ T.length ≤ 9
theorem DrawAny.mono {w w' : World} {B g P P2 n c : Nat} {A : Option Addr} {e : Ending} (h : DrawAny w B g P A n c e w') (hp : P ≤ P2) : DrawAny w B g P2 A n c e w' := by
  obtain ⟨A', c', T, P', h1, h2, h3, h4, h5, h6⟩ := h
  exact ⟨A', c', T, P', h1, h2, h3, h4, Nat.le_trans h5 hp, h6⟩
theorem Bd.any {w w' : World} {B g P n c m c' : Nat} {A A' : Option Addr} (h : TabS w w' (.slice A' m c') m) (hm : m ≤ 9) (s : St w w' B g P A n c) : DrawAny w B g P A n c (.returned (.slice A' m c')) w' := by
  obtain ⟨T, hM, hT⟩ := h.mat
  exact ⟨A', c', T, P, by rw [hT.len], hM, hT.small hm hm, s, Nat.le_refl _, by rw [hT.len]; exact hm⟩


/-- A drawn table of which the blocks of the rows are known. -/
structure TF (w W : World) (b q c : Nat) (F H : Nat → Nat) : Prop where
  tab : TabS w W (.slice (some ⟨b, 0, none⟩) q c) q
  top : ∀ x, x < q → W.cell? ⟨b, x, none⟩ = some (.slice (some ⟨F x, 0, none⟩) q (H x))
theorem TF.of {w W : World} {A' : Option Addr} {q c : Nat} (h : TabS w W (.slice A' q c) q) (hq : 1 ≤ q) : ∃ b F H, A' = some ⟨b, 0, none⟩ ∧ TF w W b q c F H := by
  obtain ⟨b, _, _, _, rfl, _⟩ := h.cells (x := 0) (y := 0) (by omega) (by omega)
  have each : ∀ x, x < q → ∃ y : Nat × Nat, W.cell? ⟨b, x, none⟩ = some (.slice (some ⟨y.1, 0, none⟩) q y.2) := fun x hx => by
    obtain ⟨b', b2, c2, _, e, hc, _⟩ := h.cells (x := x) (y := 0) hx (by omega)
    obtain rfl : b = b' := by simpa using e
    exact ⟨(b2, c2), hc⟩
  obtain ⟨F, hF⟩ := Go.Deep.choose_lt each
  exact ⟨b, fun x => (F x).1, fun x => (F x).2, rfl, h, hF⟩
section
variable {w W W' : World} {b q c g : Nat} {F H : Nat → Nat}
theorem TF.cell (h : TF w W b q c F H) {x y : Nat} (hx : x < q) (hy : y < q) :
    W.cell? ⟨F x, y, none⟩ = some (curV W ⟨F x, y, none⟩) ∧ W.frozen? ⟨F x, y, none⟩ = false ∧ w.heap.size ≤ F x ∧ w.heap.size ≤ b ∧ b ≠ F x ∧ ∀ u : Int, TabS w (W.setCell ⟨F x, y, none⟩ (.int .i64 u)) (.slice (some ⟨b, 0, none⟩) q c) q := by
  obtain ⟨b', b2, c2, z, e, hc, _, _, hz, hf, _, h1, h2, h3, h4⟩ := h.tab.cells (x := x) (y := y) hx hy
  obtain rfl : b = b' := by simpa using e
  have e2 := (h.top x hx).symm.trans hc
  have e3 : F x = b2 := by simpa using (by injection e2 with e2; injection e2 with e2 _ _; injection e2 with e2; injection e2 : F x = b2)
  rw [e3]
  exact ⟨by simp [curV, hz], hf, h1, h2, h3, h4⟩
theorem TF.only (hO : Only g (g + 1) W W') (hg : g < w.heap.size) (h : TF w W b q c F H) : TF w W' b q c F H := by
  refine ⟨h.tab.only hO hg, fun x hx => ?_⟩
  obtain ⟨_, _, _, h2, _⟩ := h.cell hx hx
  have hlt := World.block_lt_of_cell? _ _ (h.top x hx)
  exact (World.cell?_of_block (w := W) (hO.block b hlt (.inr (by omega)))).trans (h.top x hx)
theorem TF.set {x y : Nat} (hx : x < q) (hy : y < q) (u : Int) (h : TF w W b q c F H) : TF w (W.setCell ⟨F x, y, none⟩ (.int .i64 u)) b q c F H := by
  obtain ⟨_, _, _, _, hne, ht⟩ := h.cell hx hy
  refine ⟨ht u, fun x' hx' => ?_⟩
  exact (World.cell?_of_block (w := W) (Below.heap_setCell _ _ _ _ (by show b ≠ F x; exact hne))).trans (h.top x' hx')
theorem TF.drew (h : TF w W b q c F H) : TF w W.drew b q c F H := ⟨h.tab, h.top⟩
theorem TF.all (h : TF w W b q c F H) : (∀ x, x < q → W.cell? ⟨b, x, none⟩ = some (.slice (some ⟨F x, 0, none⟩) q (H x))) ∧ (∀ x y, x < q → y < q → W.cell? ⟨F x, y, none⟩ = some (curV W ⟨F x, y, none⟩)) ∧ (∀ x y, x < q → y < q → W.frozen? ⟨F x, y, none⟩ = false) ∧ TF w W b q c F H :=
  ⟨h.top, fun x y hx hy => (h.cell hx hy).1, fun x y hx hy => (h.cell hx hy).2.1, h⟩
end
theorem ragged {w wi : World} {B g P n c q c' b b2 cv c2 : Nat} {A Av : Option Addr} (h : TabS w wi (.slice (some ⟨b, 0, none⟩) q c') q) (s : St w wi B g P A n c) (hq : 1 ≤ q) (hq9 : q ≤ 9)
    (hc : wi.cell? ⟨b, q - 1, none⟩ = some (.slice (some ⟨b2, 0, none⟩) q c2)) (hA : q = 1 ∨ Av = some ⟨b2, 1, none⟩) (hf : wi.frozen? ⟨b, q - 1, none⟩ = false) (hlo : w.heap.size ≤ b) :
    DrawAny w B g P A n c (.returned (.slice (some ⟨b, 0, none⟩) q c')) (wi.setCell ⟨b, q - 1, none⟩ (.slice Av (q - 1) cv)) := by
  obtain ⟨T, hM, hT⟩ := h.mat
  have hl := hT.len
  let T' : List (List Int) := (List.range q).map fun i => if i = q - 1 then (rw_ T i).drop 1 else rw_ T i
  have hrow : ∀ i, i < q → rw_ T' i = if i = q - 1 then (rw_ T i).drop 1 else rw_ T i := fun i hi => by simp [T', rw_, List.getD, hi]
  have hlen : T'.length = q := by simp [T']
  have hrl : ∀ i, i < q → (rw_ T' i).length ≤ 9 := fun i hi => by
    rw [hrow i hi]
    have := hT.row i hi
    split
    · simp; omega
    · omega
  refine ⟨_, c', T', P, by rw [hlen], fun i hi => ?_, ⟨by omega, fun i hi => by have := hrl i (by omega); omega⟩, s.set hlo, Nat.le_refl _, by omega⟩
  have hi' : i < q := by omega
  have hsz : (wi.setCell ⟨b, q - 1, none⟩ (.slice Av (q - 1) cv)).heap.size = wi.heap.size := by simp [World.setCell]
  rw [hsz]
  obtain ⟨bb, oo, Ai, ci, e0, hlo1, hhi1, hci, hRi⟩ := hM i (by omega)
  obtain ⟨rfl, rfl⟩ : b = bb ∧ 0 = oo := by simpa using e0
  rw [Nat.zero_add] at hci
  have hti := hT.row i hi'
  rw [hti] at hci
  by_cases ei : i = q - 1
  · subst ei
    have e1 := hc.symm.trans hci
    obtain rfl : some ⟨b2, 0, none⟩ = Ai := by injection e1 with e1; injection e1
    have hlr : (rw_ T' (q - 1)).length = q - 1 := by rw [hrow _ hi', if_pos rfl]; simp; omega
    refine ⟨b, 0, Av, cv, rfl, hlo1, hhi1, ?_, fun j hj => ?_⟩
    · rw [Nat.zero_add, hlr]; exact cell_set_same hc
    · rw [hlr] at hj
      have hA' : Av = some ⟨b2, 1, none⟩ := by rcases hA with h1 | h1; (· omega); exact h1
      obtain ⟨b', b3, c3, z, e3, hc3, _, _, hz, _, _, h6, _, h7, _⟩ := h.cells (x := q - 1) (y := j + 1) hi' (by omega)
      obtain rfl : b = b' := by simpa using e3
      have e4 := hc.symm.trans hc3
      obtain rfl : b2 = b3 := by injection e4 with e4; injection e4 with e4 _ _; injection e4 with e4; injection e4
      obtain ⟨b4, o4, e5, _, hhi5, hcell⟩ := hRi (j + 1) (by omega)
      obtain ⟨rfl, rfl⟩ : b2 = b4 ∧ 0 = o4 := by simpa using e5
      refine ⟨b2, 1, hA', h6, hhi5, ?_⟩
      rw [World.cell?_setCell_other _ _ _ _ (fun e => h7 (by injection e)), show 1 + j = 0 + (j + 1) from by omega, hcell, hrow _ hi', if_pos rfl]
      simp [el, List.getD]
  · refine ⟨b, 0, Ai, ci, rfl, hlo1, hhi1, ?_, fun j hj => ?_⟩
    · rw [World.cell?_setCell_other _ _ _ _ (fun e => ei (by injection e with _ h2 _; omega)), Nat.zero_add, hci, hrow i hi', if_neg ei, hti]
    · rw [hrow i hi', if_neg ei] at hj ⊢
      obtain ⟨b', b3, c3, z, e3, hc3, _, _, hz, _, _, h6, _, h7, _⟩ := h.cells (x := i) (y := j) hi' (by omega)
      obtain rfl : b = b' := by simpa using e3
      have e4 := hci.symm.trans hc3
      obtain ⟨b4, o4, e5, hlo5, hhi5, hcell⟩ := hRi j hj
      have e6 : Ai = some ⟨b3, 0, none⟩ := by injection e4 with e4; injection e4
      obtain ⟨rfl, rfl⟩ : b3 = b4 ∧ 0 = o4 := by simpa [e6] using e5
      refine ⟨b3, 0, e5, hlo5, hhi5, ?_⟩
      rw [World.cell?_setCell_other _ _ _ _ (fun e => h7 (by injection e))]; exact hcell

end Go.Proofs.Ytnennilpedediaa
