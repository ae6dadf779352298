
/- Rows of bytes of the call's own, made by appending; the text that they are turned into. -/
import Derived.Test.YtnennilpedediaaDoorFill
import Derived.Test.YtnennilpedediaaDoorSword
import Derived.Laws.IdiomStrings
namespace Go.Proofs.YtnennilpedediaaDoor
open Go.RowKit
set_option linter.unusedVariables false

def AByt (base : Nat) (w : World) (v : Value) (u : List UInt8) : Prop := w.ownsRow base 5 1 v u.length (u.map fun c => Value.int .u8 ((c.toNat : Nat) : Int))
theorem info_AByt : (Tryd.prog.info? 5).map (fun i => (i.zero, i.size, i.bytes)) = some (some (.int .u8 0), 1, 1) := by kernel_rfl
section
variable {base : Nat} {w w' : World} {v : Value} {u : List UInt8}
theorem AByt.below (h : AByt base w v u) (hb : Below w.heap.size w w') : AByt base w' v u := ownsRow_below h hb
theorem AByt.mono {base' : Nat} (h : AByt base w v u) (hb : base' ≤ base) : AByt base' w v u := ownsRow_mono h hb
theorem AByt.drew (h : AByt base w v u) : AByt base w.drew v u := h
theorem AByt.nil_ (base : Nat) (w : World) : AByt base w (.slice none 0 0) [] := World.ownsRow_nil w base _ _
theorem AByt.belowOf {base0 : Nat} {w1 : World} (h : AByt base w v u) (hg : w.grownBy w1 v.ownBlock) (hb : base0 ≤ base) (hw : base0 ≤ w.heap.size) : Below base0 w w1 :=
  (Below.refl _ _).grown hg hw fun k hk => Nat.le_trans hb (h.lt k hk).1
/-- 'row = append(row, q)'. -/
theorem wp_app_AByt {ops : Array Oper} {rest : List Oper} {o : Oper} {a : Act} {Q : Exit → Act → World → Prop} {w : World} (hgd : o.guard = none) (s x : Operand)
    (ho : o.op = .call { callee := .builtin .append, args := #[s, x], argTypes := #[22, 22] }) (base : Nat) (v : Value) (xs : List UInt8) (q : UInt8) (c : Nat) (hs : a.eval s = v) (hx : a.eval x = .slice (some ⟨w.heap.size, 0, none⟩) 1 c)
    (hown : AByt base w v xs) (hn : xs.length ≤ 1048576) (hb : base ≤ w.heap.size)
    (h : ∀ v' w', AByt base w' v' (xs ++ [q]) → w.grownBy w' v.ownBlock → wpList Tryd.prog ops Q rest (a.put o.dst v') w') : wpList Tryd.prog ops Q (o :: rest) a (w.alloc (.cells #[.int .u8 ((q.toNat : Nat) : Int)] 5)) := by
  obtain ⟨i0, hi0, hz0, hz1, hz2⟩ := info_parts info_AByt
  refine wpList_append_own _ hgd s x 22 ho base 5 i0 (.int .u8 0) 1 1 Tryd.underlying22 hi0 hz0 hz1 hz2 rfl (by decide) v _ _ hs (hown.below ((Below.refl _ _).alloc (Nat.le_refl _) _)) ⟨w.heap.size, 0, none⟩ 1 c [.int .u8 ((q.toNat : Nat) : Int)] hx rfl
    (World.news_of_block (cs := #[.int .u8 ((q.toNat : Nat) : Int)]) (t := 5) (fr := (0, 0)) (heap_alloc_new _ _)) (by simp [Value.oneCell']) (by rw [maxLen_is]; omega) (by omega) (by simp; omega) ?_
  intro v' w' h1 h2 _
  exact h v' w' (by unfold AByt; simpa using h1) (grown_alloc _ h2)
theorem AByt.val (h : AByt base w v u) (hu : 0 < u.length) : ∃ g c, v = .slice (some ⟨g, 0, none⟩) u.length c ∧ ∀ j (hj : j < u.length), w.cell? (Addr.add ⟨g, 0, none⟩ j) = some (.int .u8 ((u[j].toNat : Nat) : Int)) := by
  rcases h.2 with ⟨rfl, h0⟩ | ⟨g, cap, cur, rfl, hg, hh, hc, hm, _, _⟩
  · omega
  · refine ⟨g, cap, rfl, fun j hj => ?_⟩
    have := h.cells (g := g) rfl j (.int .u8 ((u[j].toNat : Nat) : Int)) (by simp [hj])
    simpa [Addr.add_lit] using this
theorem AByt.text (h : AByt base w v u) (hu : 0 < u.length) : (convert 22 9 v).run Tryd.prog w = .ok (.string (bs u)) w := by
  obtain ⟨g, c, rfl, hc⟩ := h.val hu
  exact run_convert_bytes_back w 22 9 5 ⟨g, 0, none⟩ c u Tryd.underlying22 Tryd.underlying5 Tryd.underlying9 hc
end
end Go.Proofs.YtnennilpedediaaDoor
