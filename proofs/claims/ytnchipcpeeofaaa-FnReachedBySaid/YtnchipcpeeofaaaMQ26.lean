/-  -/
import Derived.Test.YtnchipcpeeofaaaMQ25
import Derived.Test.YtnchipcpeeofaaaMQ03
namespace Go.Proofs.Ytnchipcpeeofaaa
open Go.ChangeShapes Go.WideShapes Go.ChangeAt Go.RowKit Go.Deep
set_option linter.unusedVariables false
theorem cells_byte : Try.prog.cellsOf 5 = 1 := by kernel_rfl
theorem u8_bounds {z : Int} (h : (Lit.int .u8 z).wf = true) : 0 ≤ z ∧ z ≤ 255 := by
  simp [Lit.wf, IntKind.min, IntKind.max, IntKind.signed, IntKind.bits] at h
  omega
theorem open_bytes {H : Type} {enc : TypeId × Value → H} {w : World} {fuel len cap : Nat} {a0 : Option Addr} {x : DataW H × List MemPlace}
    (h : DataW.trod enc Try.prog w 0 (fun _ => true) true fuel 22 [.slice a0 len cap] = some x) :
    len ≤ cap ∧ cap ≤ 9223372036854775807 ∧ Bytes w w.heap.size a0 len := by
  rcases open_ints Try.underlying22 Try.underlying5 cells_byte h with ⟨hcs, _⟩ | ⟨a, l, c, zs, hcs, _, hl, hm, hz, _, hcell, hwf⟩
  · simp at hcs
    obtain ⟨rfl, rfl, rfl⟩ := hcs
    exact ⟨Nat.le_refl _, by omega, fun j hj => absurd hj (Nat.not_lt_zero _)⟩
  · simp at hcs
    obtain ⟨rfl, rfl, rfl⟩ := hcs
    simp only [if_true] at hz
    refine ⟨hl, by rw [maxLen_is] at hm; exact hm, fun j hj => ?_⟩
    have hc := hcell j (by omega)
    obtain ⟨b, o, s⟩ := a
    have hs : s = none := by
      have h0 := hcell 0 (by omega)
      simpa [Addr.add] using World.cell?_spot h0
    subst hs
    rw [add_is] at hc
    have hz2 : zs.getD j 0 ∈ zs := by
      have hj' : j < zs.length := by omega
      simp only [List.getD, List.getElem?_eq_getElem hj', Option.getD_some]
      exact List.getElem_mem hj'
    obtain ⟨z0, z1⟩ := u8_bounds (hwf _ hz2)
    exact ⟨b, o, _, rfl, World.block_lt_of_cell? _ _ hc, hc, z0, z1⟩
end Go.Proofs.Ytnchipcpeeofaaa
