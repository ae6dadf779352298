
/- Rows of runes of the call's own, made by appending; the text that they are turned into. -/
import Derived.Test.YtnennilpedediaaFill
import Derived.Test.YtnennilpedediaaSword
import Derived.Test.YtnennilpedediaaIword
namespace Go.Proofs.Ytnennilpedediaa
open Go.RowKit
set_option linter.unusedVariables false

def ARun (base : Nat) (w : World) (v : Value) (u : List UInt8) : Prop := w.ownsRow base 21 1 v u.length (u.map fun c => Value.int .i32 ((c.toNat : Nat) : Int))
theorem info_ARun : (Try.prog.info? 21).map (fun i => (i.zero, i.size, i.bytes)) = some (some (.int .i32 0), 1, 4) := by kernel_rfl
section
variable {base : Nat} {w w' : World} {v : Value} {u : List UInt8}
theorem ARun.below (h : ARun base w v u) (hb : Below w.heap.size w w') : ARun base w' v u := ownsRow_below h hb
theorem ARun.mono {base' : Nat} (h : ARun base w v u) (hb : base' ≤ base) : ARun base' w v u := ownsRow_mono h hb
theorem ARun.drew (h : ARun base w v u) : ARun base w.drew v u := h
theorem ARun.nil_ (base : Nat) (w : World) : ARun base w (.slice none 0 0) [] := World.ownsRow_nil w base _ _
theorem ARun.belowOf {base0 : Nat} {w1 : World} (h : ARun base w v u) (hg : w.grownBy w1 v.ownBlock) (hb : base0 ≤ base) (hw : base0 ≤ w.heap.size) : Below base0 w w1 :=
  (Below.refl _ _).grown hg hw fun k hk => Nat.le_trans hb (h.lt k hk).1
/-- 'row = append(row, q)'. -/
theorem wp_app_ARun {ops : Array Oper} {rest : List Oper} {o : Oper} {a : Act} {Q : Exit → Act → World → Prop} {w : World} (hgd : o.guard = none) (s x : Operand)
    (ho : o.op = .call { callee := .builtin .append, args := #[s, x], argTypes := #[67, 67] }) (base : Nat) (v : Value) (xs : List UInt8) (q : UInt8) (c : Nat) (hs : a.eval s = v) (hx : a.eval x = .slice (some ⟨w.heap.size, 0, none⟩) 1 c)
    (hown : ARun base w v xs) (hn : xs.length ≤ 1048576) (hb : base ≤ w.heap.size)
    (h : ∀ v' w', ARun base w' v' (xs ++ [q]) → w.grownBy w' v.ownBlock → wpList Try.prog ops Q rest (a.put o.dst v') w') : wpList Try.prog ops Q (o :: rest) a (w.alloc (.cells #[.int .i32 ((q.toNat : Nat) : Int)] 21)) := by
  obtain ⟨i0, hi0, hz0, hz1, hz2⟩ := info_parts info_ARun
  refine wpList_append_own _ hgd s x 67 ho base 21 i0 (.int .i32 0) 1 4 Try.underlying67 hi0 hz0 hz1 hz2 rfl (by decide) v _ _ hs (hown.below ((Below.refl _ _).alloc (Nat.le_refl _) _)) ⟨w.heap.size, 0, none⟩ 1 c [.int .i32 ((q.toNat : Nat) : Int)] hx rfl
    (World.news_of_block (cs := #[.int .i32 ((q.toNat : Nat) : Int)]) (t := 21) (fr := (0, 0)) (heap_alloc_new _ _)) (by simp [Value.oneCell']) (by rw [maxLen_is]; omega) (by omega) (by simp; omega) ?_
  intro v' w' h1 h2 _
  exact h v' w' (by unfold ARun; simpa using h1) (grown_alloc _ h2)
theorem ARun.val (h : ARun base w v u) (hu : 0 < u.length) : ∃ g c, v = .slice (some ⟨g, 0, none⟩) u.length c ∧ ∀ j (hj : j < u.length), w.cell? (Addr.add ⟨g, 0, none⟩ j) = some (.int .i32 ((u[j].toNat : Nat) : Int)) := by
  rcases h.2 with ⟨rfl, h0⟩ | ⟨g, cap, cur, rfl, hg, hh, hc, hm, _, _⟩
  · omega
  · refine ⟨g, cap, rfl, fun j hj => ?_⟩
    have := h.cells (g := g) rfl j (.int .i32 ((u[j].toNat : Nat) : Int)) (by simp [hj])
    simpa [Addr.add_lit] using this
theorem ARun.text (h : ARun base w v u) (hu : 0 < u.length) (hk : ∀ c, c ∈ u → okC c = true) : (convert 67 9 v).run Try.prog w = .ok (.string (bs u)) w := by
  obtain ⟨g, c, rfl, hc⟩ := h.val hu
  rw [run_convert_runes w 67 9 21 ⟨g, 0, none⟩ u.length c (nums u) (by rw [len_nums]; exact Nat.le_refl _) Try.underlying67 Try.underlying21 Try.underlying9 (fun j hj => by
    have hj' : j < u.length := by rw [len_nums] at hj; exact hj
    rw [hc j hj']
    simp [nums, List.getD, hj'])]
  rw [List.take_of_length_le (by rw [len_nums]; exact Nat.le_refl _), bytes_ok hk]
end
end Go.Proofs.Ytnennilpedediaa
