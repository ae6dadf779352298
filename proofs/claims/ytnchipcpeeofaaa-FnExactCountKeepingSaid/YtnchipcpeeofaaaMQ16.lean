/-  -/
import Derived.Laws.Slices
import Derived.Deep.RegionHeld3
import Derived.Maps.OwnIn
import Derived.Shelf.Abstract
import Derived.Shelf.RegionOpen
import Derived.WalkKit
import Derived.OwnWalkIn
import Derived.TacticsInMore
import Derived.LoopNIn
import Derived.LoopIn
import Derived.Deep.WholeRow
import Derived.Test.YtnchipcpeeofaaaMQ06
import Derived.Test.YtnchipcpeeofaaaMQ02
import Derived.Test.YtnchipcpeeofaaaMQ05
import Derived.Test.YtnchipcpeeofaaaMQ04
import Derived.Test.YtnchipcpeeofaaaMQ01
import Derived.Test.YtnchipcpeeofaaaMQ03
import Derived.Test.YtnchipcpeeofaaaMQ11
import Derived.Test.YtnchipcpeeofaaaMQ12
import Derived.Test.YtnchipcpeeofaaaMQ14
import Derived.Test.YtnchipcpeeofaaaMQ15
namespace Go.Proofs.Ytnchipcpeeofaaa
open Go.RowKit
set_option linter.unusedVariables false
set_option linter.unusedSimpArgs false
attribute [local go_sem] Oper.semAt_some

theorem range_pre {k n : Nat} (h : k < n) : List.range k ++ [k] <+: List.range n := by
  rw [← List.range_succ]
  have := List.take_prefix (k + 1) (List.range n)
  rwa [List.take_range, Nat.min_eq_left (by omega)] at this
theorem pre_range {s : List Nat} {k n : Nat} (h : s ++ [k] <+: List.range n) : k < n ∧ s = List.range k := by
  have e := List.prefix_iff_eq_take.1 h
  rw [List.take_range, List.length_append, List.length_singleton] at e
  have hl := h.length_le
  simp at hl
  rw [Nat.min_eq_left (by omega), List.range_succ] at e
  obtain ⟨e1, e2⟩ := List.append_inj' e rfl
  obtain rfl : k = s.length := by simpa using e2
  exact ⟨by omega, e1⟩
section
variable {F : Fence} {n : Nat} {P : Program} {ops : Array Oper} {rest : List Oper} {o : Oper} {a : Act} {Q : Exit → Act → World → Prop} {w w' : World} {v : Value}
end
end Go.Proofs.Ytnchipcpeeofaaa

namespace Go.Proofs.Ytnchipcpeeofaaa
open Go.RowKit
set_option linter.unusedVariables false
set_option linter.unusedSimpArgs false
attribute [local go_sem] Oper.semAt_some

theorem bxBelowI {W V : World} {B : Nat} {ty : TypeId} {v : Value} (h : Boxed W B ty v) (hb : Below W.heap.size W V) : Boxed V B ty v := (hb.block B h.lt).trans h
theorem bxOtherI {W : World} {B p : Nat} {ty : TypeId} {v : Value} (h : Boxed W B ty v) (u : Value) (hp : B ≠ p) : Boxed (W.setCell ⟨p, 0, none⟩ u) B ty v := h.kept (grownBy_setCell' W p u) (fun e => hp (by simpa using e))
theorem below_putI {n l : Nat} {W : World} (o : Obj) (h : n ≤ l) : Below n W (W.putObj l o) := ⟨rfl, rfl, rfl, by simp, fun k hk => World.putObj_heap_other (by omega)⟩
theorem below_twiceI (w : World) (o o' : Obj) : Below w.heap.size w ((w.alloc o).alloc o') := ((Below.refl _ w).alloc (Nat.le_refl _) o).alloc (by simp) o'

/-- The blocks of three results, one after the other. -/
def threeI (B b : Nat) : Prop := b = B + 1 ∨ b = B + 2 ∨ b = B + 3
/-- Under way: the number asked for, and three results. -/
structure WayI (w : World) (n : Int) (u v : ByteArray) (ok : Bool) (X : Nat → Prop) (V : World) : Prop where
  low : Below w.heap.size w V
  num : Boxed V w.heap.size 3 (.int .i64 n)
  fst : Boxed V (w.heap.size + 1) 9 (.string u)
  snd : Boxed V (w.heap.size + 2) 9 (.string v)
  thd : Boxed V (w.heap.size + 3) 4 (.bool ok)
  own : ∀ b, X b ↔ threeI w.heap.size b
section
variable {w V V' : World} {n : Int} {u v : ByteArray} {ok : Bool} {X : Nat → Prop}
theorem WayI.there (h : WayI w n u v ok X V) : ∀ b, X b → b < V.heap.size := fun b hb => by
  rcases (h.own b).1 hb with rfl | rfl | rfl
  · exact h.fst.lt
  · exact h.snd.lt
  · exact h.thd.lt
theorem WayI.move (h : WayI w n u v ok X V) {B : Nat} (hB : w.heap.size + 1 ≤ B) (hl : Below 0 V V') (hs : ∀ b, (b < B ∨ X b) → b < V.heap.size → V'.heap[b]? = V.heap[b]?) : WayI w n u v ok X V' :=
  ⟨⟨hl.os.trans h.low.os, hl.tape.trans h.low.tape, hl.output.trans h.low.output, Nat.le_trans h.low.size hl.size, fun k hk => (hs k (.inl (by omega)) (by have := h.low.size; omega)).trans (h.low.block k hk)⟩,
   (hs _ (.inl (by omega)) h.num.lt).trans h.num, (hs _ (.inr ((h.own _).2 (.inl rfl))) h.fst.lt).trans h.fst, (hs _ (.inr ((h.own _).2 (.inr (.inl rfl)))) h.snd.lt).trans h.snd, (hs _ (.inr ((h.own _).2 (.inr (.inr rfl)))) h.thd.lt).trans h.thd, h.own⟩
theorem WayI.put (h : WayI w n u v ok X V) {u' v' : ByteArray} {ok' : Bool} (h1 : Boxed V' (w.heap.size + 1) 9 (.string u')) (h2 : Boxed V' (w.heap.size + 2) 9 (.string v')) (h3 : Boxed V' (w.heap.size + 3) 4 (.bool ok'))
    (hl : Below 0 V V') (hs : ∀ b, ¬ X b → b < V.heap.size → V'.heap[b]? = V.heap[b]?) : WayI w n u' v' ok' X V' :=
  ⟨⟨hl.os.trans h.low.os, hl.tape.trans h.low.tape, hl.output.trans h.low.output, Nat.le_trans h.low.size hl.size, fun k hk => (hs k (fun hx => by rcases (h.own _).1 hx with e | e | e <;> omega) (by have := h.low.size; omega)).trans (h.low.block k hk)⟩,
   (hs _ (fun hx => by rcases (h.own _).1 hx with e | e | e <;> omega) h.num.lt).trans h.num, h1, h2, h3, h.own⟩
theorem WayI.done (h : WayI w n u v ok X V) (u' v' : ByteArray) (ok' : Bool) : WayI w n u' v' ok' X (((V.setCell ⟨w.heap.size + 1, 0, none⟩ (.string u')).setCell ⟨w.heap.size + 2, 0, none⟩ (.string v')).setCell ⟨w.heap.size + 3, 0, none⟩ (.bool ok')) ∧
    Kept V.heap.size X V (((V.setCell ⟨w.heap.size + 1, 0, none⟩ (.string u')).setCell ⟨w.heap.size + 2, 0, none⟩ (.string v')).setCell ⟨w.heap.size + 3, 0, none⟩ (.bool ok')) := by
  have hl := (((Below.refl 0 V).setCell (p := ⟨w.heap.size + 1, 0, none⟩) (Nat.zero_le _) (.string u')).setCell (p := ⟨w.heap.size + 2, 0, none⟩) (Nat.zero_le _) (.string v')).setCell (p := ⟨w.heap.size + 3, 0, none⟩) (Nat.zero_le _) (.bool ok')
  have hs : ∀ b, ¬ X b → (((V.setCell ⟨w.heap.size + 1, 0, none⟩ (.string u')).setCell ⟨w.heap.size + 2, 0, none⟩ (.string v')).setCell ⟨w.heap.size + 3, 0, none⟩ (.bool ok')).heap[b]? = V.heap[b]? := fun b hb =>
    (Below.heap_setCell _ _ _ b (fun e => hb ((h.own b).2 (.inr (.inr e))))).trans ((Below.heap_setCell _ _ _ b (fun e => hb ((h.own b).2 (.inr (.inl e))))).trans (Below.heap_setCell _ _ _ b (fun e => hb ((h.own b).2 (.inl e)))))
  exact ⟨h.put (bxOtherI (bxOtherI (h.fst.set _) _ (by omega)) _ (by omega)) (bxOtherI ((bxOtherI h.snd _ (by omega)).set _) _ (by omega)) ((bxOtherI (bxOtherI h.thd _ (by omega)) _ (by omega)).set _) hl (fun b hb _ => hs b hb), hl, fun b _ hb => hs b hb⟩
theorem WayI.drew (h : WayI w n u v ok X V) : WayI w n u v ok X V.drew := h.move (B := w.heap.size + 1) (Nat.le_refl _) ((Below.refl 0 V).drew) (fun b _ hb => ((Below.refl V.heap.size V).drew).block b hb)
end
end Go.Proofs.Ytnchipcpeeofaaa
