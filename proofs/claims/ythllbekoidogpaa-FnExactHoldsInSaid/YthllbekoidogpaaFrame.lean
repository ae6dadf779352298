
/- What a law's arguments hold when it is called, as lists; how its row is closed behind a walk that returned true and wrote nothing old. -/
import Derived.Test.YthllbekoidogpaaRows
import Derived.Test.YthllbekoidogpaaMem
import Derived.WalkKit
import Derived.ProofKit
import Derived.OpenShut
import Derived.ShutString
import Derived.ChangeOld
import Derived.Below
import Derived.Deep.Matrix
namespace Go.Proofs.Ythllbekoidogpaa
open Go.ChangeShapes Go.WideShapes Go.ChangeAt Go.RowKit Go.Deep
set_option linter.unusedVariables false

theorem own : ownKnob Try.prog.godebug = none := by kernel_rfl
theorem laidOut : laidOutB Try.prog = true := by kernel_rfl
theorem cells_row : Try.prog.cellsOf 58 = 1 := by kernel_rfl
theorem cells_int : Try.prog.cellsOf 3 = 1 := by kernel_rfl

theorem add_is {b o i : Nat} : (⟨b, o, none⟩ : Addr).add i = ⟨b, o + i, none⟩ := by unfold Addr.add; split <;> simp_all

theorem el_take {zs : List Int} {n j : Nat} (hj : j < n) (hn : n ≤ zs.length) : el (zs.take n) j = zs.getD j 0 := by
  simp [el, List.getD, hj]

/-- A row that came in. -/
theorem open_row {H : Type} {enc : TypeId × Value → H} {w : World} {fuel len cap : Nat} {a0 : Option Addr} {x : DataW H × List MemPlace}
    (h : DataW.trod enc Try.prog w 0 (fun _ => true) true fuel 58 [.slice a0 len cap] = some x) :
    ∃ xs : List Int, xs.length = len ∧ len ≤ 9223372036854775807 ∧ Row w 0 w.heap.size a0 xs := by
  rcases open_ints Try.underlying58 Try.underlying3 cells_int h with ⟨hcs, _⟩ | ⟨a, l, c, zs, hcs, _, hl, hm, hz, _, hcell, _⟩
  · simp at hcs
    obtain ⟨rfl, rfl, rfl⟩ := hcs
    exact ⟨[], rfl, by omega, Row.nil _ _ _ _⟩
  · simp at hcs
    obtain ⟨rfl, rfl, rfl⟩ := hcs
    simp only [if_true] at hz
    refine ⟨zs.take len, by simp; omega, by rw [maxLen_is] at hm; omega, fun j hj => ?_⟩
    have hj' : j < len := by simp at hj; omega
    have hc := hcell j (by omega)
    obtain ⟨b, o, s⟩ := a
    have hs : s = none := by
      have h0 := hcell 0 (by omega)
      simpa [Addr.add] using World.cell?_spot h0
    subst hs
    rw [add_is] at hc
    exact ⟨b, o, rfl, Nat.zero_le _, World.block_lt_of_cell? _ _ hc, by rw [hc, el_take hj' (by omega)]⟩

/-- A table that came in. -/
theorem open_tab {H : Type} {enc : TypeId × Value → H} {w : World} {fuel len cap : Nat} {a0 : Option Addr} {x : DataW H × List MemPlace}
    (h : DataW.trod enc Try.prog w 0 (fun _ => true) true fuel 23 [.slice a0 len cap] = some x) :
    ∃ T : List (List Int), T.length = len ∧ Sized T ∧ Mat w 0 w.heap.size a0 T := by
  rcases open_int_rows Try.underlying23 Try.underlying58 Try.underlying3 cells_row cells_int h with ⟨hcs, _⟩ | ⟨a, l, c, A, L, C, Z, hcs, _, hl, hm, _, hr⟩
  · simp at hcs
    obtain ⟨rfl, rfl, rfl⟩ := hcs
    exact ⟨[], rfl, ⟨by simp, fun _ hi => absurd hi (Nat.not_lt_zero _)⟩, Mat.nil _ _ _ _⟩
  · simp at hcs
    obtain ⟨rfl, rfl, rfl⟩ := hcs
    have hrow : ∀ i, i < len → rw_ ((List.range len).map fun r => (Z r).take (L r)) i = (Z i).take (L i) := fun i hi => by simp [rw_, List.getD, hi]
    have hlen : ∀ i, i < len → ((Z i).take (L i)).length = L i := fun i hi => by
      obtain ⟨_, h1, h2, h3, _⟩ := hr i (by omega)
      simp; omega
    refine ⟨(List.range len).map fun r => (Z r).take (L r), by simp, ⟨by simp; rw [maxLen_is] at hm; omega, fun i hi => ?_⟩, fun i hi => ?_⟩
    · have hi' : i < len := by simpa using hi
      obtain ⟨_, h1, h2, h3, _⟩ := hr i (by omega)
      rw [hrow i hi', hlen i hi']
      rw [maxLen_is] at h2; omega
    · have hi' : i < len := by simpa using hi
      obtain ⟨hc, h1, h2, h3, _, h5, h6⟩ := hr i (by omega)
      obtain ⟨b, o, s⟩ := a
      have hs : s = none := by
        have h0 := (hr 0 (by omega)).1
        simpa [Addr.add] using World.cell?_spot h0
      subst hs
      rw [add_is] at hc
      refine ⟨b, o, A i, C i, rfl, Nat.zero_le _, World.block_lt_of_cell? _ _ hc, by rw [hc, hrow i hi', hlen i hi'], fun j hj => ?_⟩
      rw [hrow i hi'] at hj ⊢
      rw [hlen i hi'] at hj
      obtain ⟨a', ha'⟩ : ∃ a', A i = some a' := by
        cases e : A i with
        | none => have := h5 e; omega
        | some a' => exact ⟨a', rfl⟩
      obtain ⟨_, hcell⟩ := h6 a' ha'
      have hcj := hcell j (by omega)
      obtain ⟨b', o', s'⟩ := a'
      have hs' : s' = none := by
        have h0 := hcell 0 (by omega)
        simpa [Addr.add] using World.cell?_spot h0
      subst hs'
      rw [add_is] at hcj
      exact ⟨b', o', ha', Nat.zero_le _, World.block_lt_of_cell? _ _ hcj, by rw [hcj, el_take hj (by omega)]⟩
end Go.Proofs.Ythllbekoidogpaa
