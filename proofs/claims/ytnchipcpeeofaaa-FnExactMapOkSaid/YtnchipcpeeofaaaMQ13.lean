/-  -/
import Derived.WideKeyMaps
import Derived.DeepKeys3
import Derived.MapKept
import Derived.Test.YtnchipcpeeofaaaMQ01
namespace Go.Proofs.Ytnchipcpeeofaaa
open Go.RowKit
set_option linter.unusedVariables false
set_option linter.unusedSimpArgs false

/-- All that the map in block b holds is right. -/
def Memo (P : Program) (k : TypeId) (R : Value → Value → Prop) (W : World) (b : Nat) : Prop :=
  ∃ es clock, W.heap[b]? = some (.map es clock) ∧ ∀ en, en ∈ es.toList → (∃ l, keyOf P k en.key = some l) ∧ R en.key en.val
section
variable {P : Program} {k e t : TypeId} {R : Value → Value → Prop} {W W' : World} {b : Nat} {x v z : Value}
theorem Memo.new (w : World) : Memo P k R (w.alloc (.map #[] 0)) w.heap.size := ⟨#[], 0, (MapKept.heap_alloc w _).1, fun en h => by simp at h⟩
theorem Memo.lt (h : Memo P k R W b) : b < W.heap.size := by
  obtain ⟨es, c, hb, _⟩ := h
  exact (Array.getElem?_eq_some_iff.1 hb).1
theorem Memo.keep (h : Memo P k R W b) (hk : W'.heap[b]? = W.heap[b]?) : Memo P k R W' b := by
  obtain ⟨es, c, hb, hr⟩ := h
  exact ⟨es, c, hk.trans hb, hr⟩
/-- What is right is remembered. -/
theorem Memo.put (L : WideMaps.KeyLaw P k) (ht : P.underlying t = some (.map k e)) (h : Memo P k R W b) (hx : ∃ l, keyOf P k x = some l) (hv : R x v) :
    ∃ W', (Instr.mapUpdate t (.map (some b)) x v).run P W = .ok () W' ∧ Memo P k R W' b ∧ W'.os = W.os ∧ W'.tape = W.tape ∧ W'.output = W.output ∧ W'.heap.size = W.heap.size ∧ ∀ j, j ≠ b → W'.heap[j]? = W.heap[j]? := by
  obtain ⟨es, clock, hb, hr⟩ := h
  obtain ⟨lx, hx⟩ := hx
  have hc := L.check W false hx
  rcases L.find W hx es.toList (fun en hen => (hr en hen).1) with ⟨hf, _⟩ | ⟨j, en, hf, hj, hkey⟩
  · refine ⟨{ W with heap := W.heap.setIfInBounds b (.map (es.push { key := x, val := v, born := clock }) (clock + 1)) }, ?_, ⟨_, _, (MapKept.heap_set hb).1, fun en hen => ?_⟩, rfl, rfl, rfl, by simp, (MapKept.heap_set hb).2⟩
    · simp [Instr.mapUpdate, run_underlying ht, MapKept.run_getObj_map hb, hc, hf, MapKept.run_setObj_map _ hb, Result.andThen]
    · rw [Array.toList_push, List.mem_append, List.mem_singleton] at hen
      rcases hen with hen | rfl
      · exact hr en hen
      · exact ⟨⟨lx, hx⟩, hv⟩
  · have hs := L.stays W hx
    have hje : ((es[j]?).map (·.key)).getD x = x := by
      have : es[j]? = some en := by simpa using hj
      rw [this]
      exact hkey
    refine ⟨{ W with heap := W.heap.setIfInBounds b (.map (es.modify j fun e => { e with key := x, val := v }) clock) }, ?_, ⟨_, _, (MapKept.heap_set hb).1, fun en' hen => ?_⟩, rfl, rfl, rfl, by simp, (MapKept.heap_set hb).2⟩
    · simp [Instr.mapUpdate, run_underlying ht, MapKept.run_getObj_map hb, hc, hf, hje, hs, MapKept.run_setObj_map _ hb, Result.andThen]
    · obtain ⟨i, hi, rfl⟩ := List.getElem_of_mem hen
      have hi' : i < es.size := by simpa using hi
      have e1 : (es.modify j fun e => { e with key := x, val := v }).toList[i] = if j = i then { es[i] with key := x, val := v } else es[i] := by
        rw [Array.getElem_toList, Array.getElem_modify]
      rw [e1]
      split
      · exact ⟨⟨lx, hx⟩, hv⟩
      · exact hr _ (Array.getElem_mem_toList hi')
end
end Go.Proofs.Ytnchipcpeeofaaa
