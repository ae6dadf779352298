
/- The arguments that the laws draw: from bytes to tables. -/
import Derived.Test.YtnennilpedediaaDrawBand
namespace Go.Proofs.Ytnennilpedediaa
open Go.RowKit
set_option linter.unusedVariables false


theorem DrawAny.up {w wi w' : World} {B g P Q n c : Nat} {A : Option Addr} {e : Ending} (s : St w wi B g P A n c) (h : DrawAny wi B g Q A n c e w') : DrawAny w B g Q A n c e w' := by
  obtain ⟨A', c', T, P', h1, h2, h3, h4, h5⟩ := h
  exact ⟨A', c', T, P', h1, h2.mono s.only.size (Nat.le_refl _), h3, ⟨h4.rd, s.only.trans h4.only, s.lt⟩, h5⟩
theorem DrawSq.any {w w' : World} {B g P n c : Nat} {A : Option Addr} {e : Ending} (hg : g < w.heap.size) (h : DrawSq w B g P A n c e w') : DrawAny w B g (P + 40) A n c e w' := by
  obtain ⟨v, T, m, P', rfl, hP, hR, hO, hA, hT, h1, h9⟩ := h
  have hS : TabS w w' v m := ⟨T, hA, hT⟩
  obtain ⟨A', c', rfl⟩ := hS.val
  exact (Bd.any hS h9 ⟨hR, hO, hg⟩).mono hP

/-- A new reader. -/
def Opened (w : World) (e : Ending) (w' : World) : Prop := ∃ A n c, e = .returned (.pointer (some ⟨w.heap.size, 0, none⟩)) ∧ Below w.heap.size w w' ∧ St w' w' w.heap.size w.heap.size 0 A n c
theorem opened {w : World} {A : Option Addr} {n c : Nat} (h : Bytes w w.heap.size A n) (hn : n ≤ 2000) : Opened w (.returned (.pointer (some ⟨w.heap.size, 0, none⟩))) (w.alloc (.cells #[.slice A n c, .int .i64 0] 78)) := by
  have b := (Below.refl w.heap.size w).more (.cells #[.slice A n c, .int .i64 0] 78)
  refine ⟨A, n, c, rfl, b, St.start ⟨heap_alloc_new w _, Nat.le_refl _, hn, fun j hj => ?_⟩⟩
  obtain ⟨bb, o, z, e, hlt, hc, hz⟩ := h j hj
  exact ⟨bb, o, z, e, hlt, (b.cell (p := ⟨bb, o + j, none⟩) hlt).trans hc, hz⟩
set_option maxHeartbeats 1000000 in
theorem open_any (A : Option Addr) (n c : Nat) (w : World) (h : Bytes w w.heap.size A n) (hc : n ≤ c) (hc2 : c ≤ 9223372036854775807) :
    Calls Try.prog 35 #[.slice A n c] w (Opened w) := by
  by_cases hn : 2000 < n
  · have hni : (2000 : Int) < (n : Int) := by omega
    have h2 : Bytes w w.heap.size A 2000 := fun j hj => h j (by omega)
    go_enter Try.func35, Try.ntmps35
    go_wp2
    all_goals go_ret
    all_goals exact opened h2 (by omega)
  · have hni : ¬ (2000 : Int) < (n : Int) := by omega
    go_enter Try.func35, Try.ntmps35
    go_wp2
    go_ret
    exact opened h (by omega)

/-- A drawn table: new, small. -/
def Drawn (w : World) (e : Ending) (w' : World) : Prop := ∃ A c T, e = .returned (.slice A T.length c) ∧ Below w.heap.size w w' ∧ Mat w' w.heap.size w'.heap.size A T ∧ Small T

/-- A table of one thing, written out. -/
theorem lit1 {W : World} {k : Nat} (z : Int) (hk : W.heap.size = k) : Mat ((W.alloc (.cells #[.int .i64 z] 3)).alloc (.cells #[.slice (some ⟨k, 0, none⟩) 1 1] 42)) k (k + 2) (some ⟨k + 1, 0, none⟩) [[z]] := fun i hi => by
  subst hk
  have e1 := heap_alloc_new W (.cells #[.int .i64 z] 3)
  have e2 := heap_alloc_new (W.alloc (.cells #[.int .i64 z] 3)) (.cells #[.slice (some ⟨W.heap.size, 0, none⟩) 1 1] 42)
  have e3 := (Below.heap_alloc (W.alloc (.cells #[.int .i64 z] 3)) (.cells #[.slice (some ⟨W.heap.size, 0, none⟩) 1 1] 42) W.heap.size (by simp)).trans e1
  have hs : (W.alloc (.cells #[.int .i64 z] 3)).heap.size = W.heap.size + 1 := by simp
  rw [hs] at e2
  have h0 : i = 0 := by simpa using hi
  subst h0
  refine ⟨W.heap.size + 1, 0, some ⟨W.heap.size, 0, none⟩, 1, rfl, by omega, by omega, by rw [cell_of_row _ _ _ _ _ _ e2]; rfl, fun j hj => ?_⟩
  have h0 : j = 0 := by simpa [rw_] using hj
  subst h0
  exact ⟨W.heap.size, 0, rfl, by omega, by omega, by rw [cell_of_row _ _ _ _ _ _ e3]; rfl⟩
theorem small1 (z : Int) : Small [[z]] := ⟨by simp, fun i hi => by
  have h0 : i = 0 := by simpa using hi
  subst h0
  simp [rw_]⟩
set_option maxHeartbeats 1000000 in
theorem alive_any (w : World) : Calls Try.prog 13 #[] w fun e w' => e = .returned (.bool true) ∧ Below w.heap.size w w' := by
  go_enter Try.func13, Try.ntmps13
  go_wp2_with fail
  refine (iTableOk_any _ 1 _ _ [[0]] _ (lit1 0 rfl) (small1 0)).mono ?_
  rintro e w1 ⟨rfl, rfl⟩
  rw [show okT [[0]] = true from by decide]
  go_wp2_with fail
  refine (iTableOk_any _ 1 _ _ [[1]] _ (lit1 1 (by simp)) (small1 1)).mono ?_
  rintro e w1 ⟨rfl, rfl⟩
  rw [show okT [[1]] = false from by decide]
  go_wp2
  go_ret
  exact ⟨rfl, ((((Below.refl w.heap.size w).more _).more _).more _).more _⟩
end Go.Proofs.Ytnennilpedediaa
