/-  -/
import Derived.Test.YthllbekoidogpaaHelp
import Derived.Deep.AppendLies
import Derived.Deep.RegionHeld3
namespace Go.Proofs.Ythllbekoidogpaa
open Go.RowKit
set_option linter.unusedVariables false

/-- A row of the call's own, made by appending: blocks from base on. -/
def ARow (base : Nat) (w : World) (v : Value) (xs : List Int) : Prop := w.ownsRow base 3 1 v xs.length (xs.map (Value.int .i64))
/-- A table of the call's own, made by appending rows. -/
def ATab (base : Nat) (w : World) (v : Value) (T : List (List Int)) : Prop :=
  ∃ vs : List Value, w.ownsRow base 58 1 v T.length vs ∧ ∀ i, i < T.length → ∃ u, vs[i]? = some u ∧ ARow base w u (rw_ T i)

section
variable {base : Nat} {w w' : World} {v : Value} {xs : List Int} {T : List (List Int)}
theorem ownsRow_below {e : TypeId} {size n : Nat} {vs : List Value} (h : w.ownsRow base e size v n vs) (hb : Below w.heap.size w w') : w'.ownsRow base e size v n vs := by
  obtain ⟨h1, h2⟩ := h
  refine ⟨h1, h2.imp id ?_⟩
  rintro ⟨g, cap, cur, hv, hg, hh, r⟩
  exact ⟨g, cap, cur, hv, hg, (hb.block g (Array.getElem?_eq_some_iff.1 hh).1).trans hh, r⟩
theorem ownsRow_mono {e : TypeId} {size n base' : Nat} {vs : List Value} (h : w.ownsRow base e size v n vs) (hb : base' ≤ base) : w.ownsRow base' e size v n vs := by
  obtain ⟨h1, h2⟩ := h
  refine ⟨h1, h2.imp id ?_⟩
  rintro ⟨g, cap, cur, hv, hg, r⟩
  exact ⟨g, cap, cur, hv, Nat.le_trans hb hg, r⟩
theorem ARow.below (h : ARow base w v xs) (hb : Below w.heap.size w w') : ARow base w' v xs := ownsRow_below h hb
theorem ARow.mono {base' : Nat} (h : ARow base w v xs) (hb : base' ≤ base) : ARow base' w v xs := ownsRow_mono h hb
theorem ATab.below (h : ATab base w v T) (hb : Below w.heap.size w w') : ATab base w' v T := by
  obtain ⟨vs, h1, h2⟩ := h
  exact ⟨vs, ownsRow_below h1 hb, fun i hi => by
    obtain ⟨u, hu, hr⟩ := h2 i hi
    exact ⟨u, hu, hr.below hb⟩⟩
theorem ARow.drewN (h : ARow base w v xs) (n : Nat) : ARow base (w.drewN n) v xs := h
theorem ATab.drewN (h : ATab base w v T) (n : Nat) : ATab base (w.drewN n) v T := h
theorem ARow.nil_ (base : Nat) (w : World) : ARow base w (.slice none 0 0) [] := World.ownsRow_nil w base _ _
theorem ARow.made (hb : base ≤ w.heap.size) : ARow base (w.alloc (.cells #[] 3)) (.slice (some ⟨w.heap.size, 0, none⟩) 0 0) [] := World.ownsRow_made w #[] 0 hb (by simp [maxLen]) rfl
theorem ATab.nil_ (base : Nat) (w : World) : ATab base w (.slice none 0 0) [] := ⟨[], World.ownsRow_nil w base _ _, fun i hi => absurd hi (Nat.not_lt_zero _)⟩
theorem ATab.made (hb : base ≤ w.heap.size) : ATab base (w.alloc (.cells #[] 58)) (.slice (some ⟨w.heap.size, 0, none⟩) 0 0) [] := ⟨[], World.ownsRow_made w #[] 0 hb (by simp [maxLen]) rfl, fun i hi => absurd hi (Nat.not_lt_zero _)⟩

theorem ARow.val (h : ARow base w v xs) : ∃ A c, v = .slice A xs.length c ∧ xs.length ≤ c ∧ c ≤ 9223372036854775807 ∧ Row w base w.heap.size A xs := by
  rcases h.2 with ⟨rfl, h0⟩ | ⟨g, cap, cur, rfl, hg, hh, hc, hm, _, _⟩
  · have : xs = [] := List.eq_nil_of_length_eq_zero h0
    subst this
    exact ⟨none, 0, rfl, Nat.le_refl _, by omega, Row.nil _ _ _ _⟩
  · refine ⟨_, cap, rfl, hc, by rw [maxLen_is] at hm; exact hm, fun j hj => ⟨g, 0, rfl, hg, (Array.getElem?_eq_some_iff.1 hh).1, ?_⟩⟩
    have := h.cells (g := g) rfl j (.int .i64 (el xs j)) (by simp [hj, el, List.getD])
    simpa [Addr.add_lit] using this
theorem ATab.val (h : ATab base w v T) : ∃ A c, v = .slice A T.length c ∧ T.length ≤ c ∧ c ≤ 9223372036854775807 ∧ Mat w base w.heap.size A T := by
  obtain ⟨vs, h1, h2⟩ := h
  rcases h1.2 with ⟨rfl, h0⟩ | ⟨g, cap, cur, rfl, hg, hh, hc, hm, _, _⟩
  · have : T = [] := List.eq_nil_of_length_eq_zero h0
    subst this
    exact ⟨none, 0, rfl, Nat.le_refl _, by omega, Mat.nil _ _ _ _⟩
  · refine ⟨_, cap, rfl, hc, by rw [maxLen_is] at hm; exact hm, fun i hi => ?_⟩
    obtain ⟨u, hu, hr⟩ := h2 i hi
    obtain ⟨A', c', rfl, _, _, hR⟩ := hr.val
    have := h1.cells (g := g) rfl i _ hu
    exact ⟨g, 0, A', c', rfl, hg, (Array.getElem?_eq_some_iff.1 hh).1, by simpa [Addr.add_lit] using this, hR⟩

theorem own_ne {e e' : TypeId} {b b' size size' n n' : Nat} {v v' : Value} {vs vs' : List Value} (h : w.ownsRow b e size v n vs) (h' : w.ownsRow b' e' size' v' n' vs') (hne : e ≠ e') : v.ownBlock = none ∨ v.ownBlock ≠ v'.ownBlock := by
  rcases h.2 with ⟨rfl, _⟩ | ⟨g, cap, cur, rfl, _, hh, _⟩
  · left; rfl
  · right
    intro he
    rcases h'.2 with ⟨rfl, _⟩ | ⟨g', cap', cur', rfl, _, hh', _⟩
    · simp [Value.ownBlock] at he
    · have : g = g' := by simpa [Value.ownBlock] using he
      subst this
      rw [hh] at hh'
      injection hh' with hh'
      injection hh' with _ ht
      exact hne ht
theorem grown_alloc {w1 : World} {row : Option Nat} (o : Obj) (hg : (w.alloc o).grownBy w1 row) : w.grownBy w1 row :=
  ⟨hg.os, hg.tape, hg.output, Nat.le_trans (by simp) hg.size, fun k hk hne => (hg.block k (by simp; omega) hne).trans (Below.heap_alloc _ _ _ hk)⟩
theorem ARow.belowOf {base0 : Nat} {w1 : World} (h : ARow base w v xs) (hg : w.grownBy w1 v.ownBlock) (hb : base0 ≤ base) (hw : base0 ≤ w.heap.size) : Below base0 w w1 :=
  (Below.refl _ _).grown hg hw fun k hk => Nat.le_trans hb (h.lt k hk).1
theorem ATab.belowOf {base0 : Nat} {w1 : World} (h : ATab base w v T) (hg : w.grownBy w1 v.ownBlock) (hb : base0 ≤ base) (hw : base0 ≤ w.heap.size) : Below base0 w w1 := by
  obtain ⟨vs, h1, _⟩ := h
  exact (Below.refl _ _).grown hg hw fun k hk => Nat.le_trans hb (h1.lt k hk).1
end

/-- 'row = append(row, q)'. -/
theorem wp_app_int {ops : Array Oper} {rest : List Oper} {o : Oper} {a : Act} {Q : Exit → Act → World → Prop} {w : World} (hgd : o.guard = none) (s x : Operand)
    (ho : o.op = .call { callee := .builtin .append, args := #[s, x], argTypes := #[58, 58] }) (base : Nat) (v : Value) (xs : List Int) (q : Int) (c : Nat) (hs : a.eval s = v) (hx : a.eval x = .slice (some ⟨w.heap.size, 0, none⟩) 1 c)
    (hown : ARow base w v xs) (hn : xs.length ≤ 1048576) (hb : base ≤ w.heap.size)
    (h : ∀ v' w', ARow base w' v' (xs ++ [q]) → w.grownBy w' v.ownBlock → wpList Try.prog ops Q rest (a.put o.dst v') w') : wpList Try.prog ops Q (o :: rest) a (w.alloc (.cells #[.int .i64 q] 3)) := by
  obtain ⟨i0, hi0, hz0, hz1, hz2⟩ := info_parts info_int
  refine wpList_append_own _ hgd s x 58 ho base 3 i0 (.int .i64 0) 1 8 Try.underlying58 hi0 hz0 hz1 hz2 rfl (by decide) v _ _ hs (hown.alloc _) ⟨w.heap.size, 0, none⟩ 1 c [.int .i64 q] hx rfl
    (World.news_of_block (cs := #[.int .i64 q]) (t := 3) (fr := (0, 0)) (heap_alloc_new _ _)) (by simp [Value.oneCell']) (by rw [maxLen_is]; omega) (by omega) (by simp; omega) ?_
  intro v' w' h1 h2 _
  exact h v' w' (by unfold ARow; simpa using h1) (grown_alloc _ h2)

/-- 'row = append(row, q)' inside a region that draws its order. -/
theorem step_app_int {ops : Array Oper} {o : Oper} {a : Act} {K : Act → World → Prop} {Q : Exit → Act → World → Prop} {E : Prop} {w : World} (hgd : o.guard = none) (s x : Operand)
    (ho : o.op = .call { callee := .builtin .append, args := #[s, x], argTypes := #[58, 58] }) (base : Nat) (v : Value) (xs : List Int) (q : Int) (c : Nat) (hs : a.eval s = v) (hx : a.eval x = .slice (some ⟨w.heap.size, 0, none⟩) 1 c)
    (hown : ARow base w v xs) (hn : xs.length ≤ 1048576) (hb : base ≤ w.heap.size)
    (h : ∀ v' w', ARow base w' v' (xs ++ [q]) → w.grownBy w' v.ownBlock → K (a.put o.dst v') w') :
    if Region.wanted o (yielded ops a.tmps) = true then Oper.wp Try.prog o a (w.alloc (.cells #[.int .i64 q] 3)) K Q else E := by
  have hw : Region.wanted o (yielded ops a.tmps) = true := by simp [Region.wanted, hgd]
  rw [if_pos hw]
  obtain ⟨i0, hi0, hz0, hz1, hz2⟩ := info_parts info_int
  refine wp_append_own _ s x 58 ho base 3 i0 (.int .i64 0) 1 8 Try.underlying58 hi0 hz0 hz1 hz2 rfl (by decide) v _ _ hs (hown.alloc _) ⟨w.heap.size, 0, none⟩ 1 c [.int .i64 q] hx rfl
    (World.news_of_block (cs := #[.int .i64 q]) (t := 3) (fr := (0, 0)) (heap_alloc_new _ _)) (by simp [Value.oneCell']) (by rw [maxLen_is]; omega) (by omega) (by simp; omega) ?_
  intro v' w' h1 h2 _
  exact h v' w' (by unfold ARow; simpa using h1) (grown_alloc _ h2)

theorem step_app_drew {ops : Array Oper} {o : Oper} {a : Act} {K : Act → World → Prop} {Q : Exit → Act → World → Prop} {E : Prop} {w : World} (hgd : o.guard = none) (s x : Operand)
    (ho : o.op = .call { callee := .builtin .append, args := #[s, x], argTypes := #[58, 58] }) (base : Nat) (v : Value) (xs : List Int) (q : Int) (c : Nat) (hs : a.eval s = v) (hx : a.eval x = .slice (some ⟨w.heap.size, 0, none⟩) 1 c)
    (hown : ARow base w v xs) (hn : xs.length ≤ 1048576) (hb : base ≤ w.heap.size)
    (h : ∀ v' w', ARow base w' v' (xs ++ [q]) → w.grownBy w' v.ownBlock → K (a.put o.dst v') w') :
    if Region.wanted o (yielded ops a.tmps) = true then Oper.wp Try.prog o a (w.alloc (.cells #[.int .i64 q] 3)).drew K Q else E :=
  step_app_int (w := w.drew) hgd s x ho base v xs q c hs hx hown hn hb fun v' w' h1 h2 => h v' w' h1 ⟨h2.os, h2.tape, h2.output, h2.size, h2.block⟩

/-- 'table = append(table, row)'. -/
theorem wp_app_row {ops : Array Oper} {rest : List Oper} {o : Oper} {a : Act} {Q : Exit → Act → World → Prop} {w : World} (hgd : o.guard = none) (s x : Operand)
    (ho : o.op = .call { callee := .builtin .append, args := #[s, x], argTypes := #[23, 23] }) (base : Nat) (v u : Value) (T : List (List Int)) (xs : List Int) (c : Nat) (hs : a.eval s = v) (hx : a.eval x = .slice (some ⟨w.heap.size, 0, none⟩) 1 c)
    (hown : ATab base w v T) (hrow : ARow base w u xs) (hn : T.length ≤ 1048576) (hb : base ≤ w.heap.size)
    (h : ∀ v' w', ATab base w' v' (T ++ [xs]) → w.grownBy w' v.ownBlock → wpList Try.prog ops Q rest (a.put o.dst v') w') : wpList Try.prog ops Q (o :: rest) a (w.alloc (.cells #[u] 58)) := by
  obtain ⟨i0, hi0, hz0, hz1, hz2⟩ := info_parts info_row
  obtain ⟨vs, ho1, ho2⟩ := hown
  have hu1 : u.oneCell' = true := by
    obtain ⟨A, c, rfl, _⟩ := hrow.val
    rfl
  refine wpList_append_own _ hgd s x 23 ho base 58 i0 (.slice none 0 0) 1 24 Try.underlying23 hi0 hz0 hz1 hz2 rfl (by decide) v _ _ hs (ho1.alloc _) ⟨w.heap.size, 0, none⟩ 1 c [u] hx rfl
    (World.news_of_block (cs := #[u]) (t := 58) (fr := (0, 0)) (heap_alloc_new _ _)) (by intro y hy; simp at hy; subst hy; exact hu1) (by rw [maxLen_is]; omega) (by omega) (by simp; omega) ?_
  intro v' w' h1 h2 _
  have hg := grown_alloc _ h2
  have keep : ∀ {u' : Value} {ys : List Int}, ARow base w u' ys → ARow base w' u' ys := fun hr => World.ownsRow.kept hr hg (own_ne hr ho1 (by decide))
  refine h v' w' ⟨vs ++ [u], by simpa using h1, fun i hi => ?_⟩ hg
  have hl : vs.length = T.length := by have := ho1.1; simpa using this
  by_cases e : i < T.length
  · obtain ⟨u', hu', hr⟩ := ho2 i e
    refine ⟨u', by rw [List.getElem?_append_left (by omega)]; exact hu', ?_⟩
    have : rw_ (T ++ [xs]) i = rw_ T i := by simp [rw_, List.getD, List.getElem?_append_left e]
    rw [this]; exact keep hr
  · have ei : i = T.length := by simp at hi; omega
    subst ei
    refine ⟨u, by rw [← hl]; simp, ?_⟩
    have : rw_ (T ++ [xs]) T.length = xs := by simp [rw_, List.getD]
    rw [this]; exact keep hrow
end Go.Proofs.Ythllbekoidogpaa

namespace Go.Proofs.Ythllbekoidogpaa
open Go.RowKit
set_option linter.unusedVariables false


/-- The table of n rows of n numbers told by a function. -/
def tabOf (n : Nat) (f : Nat → Nat → Int) : List (List Int) := (List.range n).map fun a => (List.range n).map fun b => f a b
theorem len_tabOf (n : Nat) (f : Nat → Nat → Int) : (tabOf n f).length = n := by simp [tabOf]
theorem row_tabOf {n : Nat} {f : Nat → Nat → Int} {i : Nat} (hi : i < n) : rw_ (tabOf n f) i = (List.range n).map fun b => f i b := by simp [tabOf, rw_, List.getD, hi]
theorem rowlen_tabOf {n : Nat} {f : Nat → Nat → Int} {i : Nat} (hi : i < n) : (rw_ (tabOf n f) i).length = n := by rw [row_tabOf hi]; simp
theorem el_tabOf {n : Nat} {f : Nat → Nat → Int} {i j : Nat} (hi : i < n) (hj : j < n) : el (rw_ (tabOf n f) i) j = f i j := by rw [row_tabOf hi]; simp [el, List.getD, hj]

/-- The rows' own blocks, when a rows are made and row a is being filled. -/
structure Blocks (w wr : World) (n a : Nat) (f : Nat → Nat → Int) (G : Nat → Nat) : Prop where
  below : Below w.heap.size w wr
  size : w.heap.size < wr.heap.size
  top : wr.rowIs w.heap.size 58 n (fun j => if j < a then .slice (some ⟨G j, 0, none⟩) n n else .slice none 0 0)
  in_ : ∀ j, j < a → w.heap.size < G j ∧ G j < wr.heap.size
  up : ∀ i j, i < j → j < a → G i < G j

/-- a rows are filled. -/
structure Fill (w wr : World) (n a : Nat) (f : Nat → Nat → Int) (G : Nat → Nat) : Prop extends Blocks w wr n a f G where
  done : ∀ j, j < a → wr.rowIs (G j) 3 n (fun c => .int .i64 (f j c))

/-- a rows are filled, and b numbers of the next. -/
structure FillI (w wr : World) (n a b : Nat) (f : Nat → Nat → Int) (G : Nat → Nat) : Prop extends Blocks w wr n (a + 1) f G where
  done : ∀ j, j < a → wr.rowIs (G j) 3 n (fun c => .int .i64 (f j c))
  cur : wr.rowIs (G a) 3 n (fun c => .int .i64 (if c < b then f a c else 0))

theorem fill_start (w : World) (n : Nat) (f : Nat → Nat → Int) : Fill w (w.alloc (.cells (madeCells #[.slice none 0 0] n) 58)) n 0 f (fun _ => 0) :=
  ⟨⟨(Below.refl _ _).alloc (Nat.le_refl _) _, by simp, (World.rowIs_made w _ n 58).congr (fun j _ => by simp), fun j hj => absurd hj (Nat.not_lt_zero _), fun i j _ hj => absurd hj (Nat.not_lt_zero _)⟩, fun j hj => absurd hj (Nat.not_lt_zero _)⟩

theorem fill_row {w wr : World} {n a : Nat} {f : Nat → Nat → Int} {G : Nat → Nat} (h : Fill w wr n a f G) (ha : a < n) :
    FillI w ((wr.alloc (.cells (madeCells #[.int .i64 0] n) 3)).setCell ⟨w.heap.size, a, none⟩ (.slice (some ⟨wr.heap.size, 0, none⟩) n n)) n a 0 f (fun j => if j = a then wr.heap.size else G j) := by
  have hs := h.size
  have hnew := World.rowIs_made wr (.int .i64 0) n 3
  refine ⟨⟨(h.below.alloc (Nat.le_of_lt h.size) _).setCell (Nat.le_refl _) _, by simp; omega, ((h.top.alloc _).set a _).congr (fun j hj => ?_), fun j hj => ?_, fun i j hij hj => ?_⟩, fun j hj => ?_, ?_⟩
  · by_cases e : j = a
    · subst e; simp
    · rw [if_neg e]
      by_cases hlt : j < a
      · rw [if_pos hlt, if_pos (by omega), if_neg e]
      · rw [if_neg hlt, if_neg (by omega)]
  · by_cases e : j = a
    · subst e; simp; exact hs
    · obtain ⟨h1, h2⟩ := h.in_ j (by omega)
      simp [e]; omega
  · rw [if_neg (by omega : i ≠ a)]
    by_cases e : j = a
    · rw [if_pos e]; exact (h.in_ i (by omega)).2
    · rw [if_neg e]; exact h.up i j hij (by omega)
  · rw [show (if j = a then wr.heap.size else G j) = G j from if_neg (by omega)]
    obtain ⟨h1, h2⟩ := h.in_ j hj
    exact ((h.done j hj).alloc _).setOther (by show G j ≠ w.heap.size; omega) _
  · rw [show (if a = a then wr.heap.size else G a) = wr.heap.size from if_pos rfl]
    exact (hnew.setOther (by show wr.heap.size ≠ w.heap.size; omega) _).congr (fun i _ => by simp)

theorem FillI.call {w wr w1 : World} {n a b : Nat} {f : Nat → Nat → Int} {G : Nat → Nat} (hb : Below wr.heap.size wr w1) (h : FillI w wr n a b f G) : FillI w w1 n a b f G := by
  have hs := h.size
  refine ⟨⟨h.below.trans (hb.mono (Nat.le_of_lt h.size)), Nat.lt_of_lt_of_le h.size hb.size, h.top.of_block (hb.block _ hs), fun j hj => ⟨(h.in_ j hj).1, Nat.lt_of_lt_of_le (h.in_ j hj).2 hb.size⟩, h.up⟩,
    fun j hj => (h.done j hj).of_block (hb.block _ (h.in_ j (by omega)).2), h.cur.of_block (hb.block _ (h.in_ a (by omega)).2)⟩
theorem FillI.drew {w wr : World} {n a b : Nat} {f : Nat → Nat → Int} {G : Nat → Nat} (h : FillI w wr n a b f G) : FillI w wr.drew n a b f G :=
  ⟨⟨h.below.drew, h.size, h.top, h.in_, h.up⟩, h.done, h.cur⟩
theorem FillI.store {w wr : World} {n a b : Nat} {f : Nat → Nat → Int} {G : Nat → Nat} (h : FillI w wr n a b f G) : FillI w (wr.setCell ⟨G a, b, none⟩ (.int .i64 (f a b))) n a (b + 1) f G := by
  obtain ⟨h1, h2⟩ := h.in_ a (by omega)
  refine ⟨⟨h.below.setCell (Nat.le_of_lt h1) _, by simpa [World.setCell] using h.size, h.top.setOther (by show w.heap.size ≠ G a; omega) _, fun j hj => by simpa [World.setCell] using h.in_ j hj, h.up⟩,
    fun j hj => (h.done j hj).setOther (by have := h.up j a hj (by omega); show G j ≠ G a; omega) _, (h.cur.set b _).congr (fun c _ => ?_)⟩
  by_cases e : c = b
  · subst e; simp
  · rw [if_neg e]
    by_cases hlt : c < b
    · rw [if_pos hlt, if_pos (by omega)]
    · rw [if_neg hlt, if_neg (by omega)]
theorem fill_rowdone {w wr : World} {n a : Nat} {f : Nat → Nat → Int} {G : Nat → Nat} (h : FillI w wr n a n f G) : Fill w wr n (a + 1) f G :=
  ⟨h.toBlocks, fun j hj => by
    by_cases e : j = a
    · subst e; exact h.cur.congr (fun c hc => by rw [if_pos hc])
    · exact h.done j (by omega)⟩
theorem fill_done {w wr : World} {n : Nat} {f : Nat → Nat → Int} {G : Nat → Nat} (h : Fill w wr n n f G) : OMat wr w.heap.size wr.heap.size (some ⟨w.heap.size, 0, none⟩) (tabOf n f) := by
  refine ⟨w.heap.size, 0, G, fun _ => n, fun i hi => ?_, fun i j hi hj hne => ?_⟩
  · rw [len_tabOf] at hi
    obtain ⟨h1, h2⟩ := h.in_ i hi
    have := h.top.cell hi
    refine ⟨rfl, Nat.le_refl _, h.size, by omega, by omega, h2, by rw [rowlen_tabOf hi]; simpa [hi] using this, ?_⟩
    exact Cells.of_rowIs (h.done i hi) (by rw [rowlen_tabOf hi]; exact Nat.le_refl _) (fun j hj => by rw [rowlen_tabOf hi] at hj; rw [el_tabOf hi hj])
  · rw [len_tabOf] at hi hj
    rcases Nat.lt_or_gt_of_ne hne with hlt | hlt
    · have := h.up i j hlt hj; omega
    · have := h.up j i hlt hi; omega

/-- What a cell holds now. -/
def curV (w : World) (p : Addr) : Value := (w.cell? p).getD undef
/-- One number of a row is being filled: it is, or is not yet. -/
def FS (w : World) (n a b : Nat) (f : Nat → Nat → Int) (G : Nat → Nat) (w' : World) : Prop := FillI w w' n a b f G ∨ FillI w w' n a (b + 1) f G
section
variable {w w0 w1 : World} {n a b : Nat} {f : Nat → Nat → Int} {G : Nat → Nat}
theorem FS.call (hb : Below w0.heap.size w0 w1) (h : FS w n a b f G w0) : FS w n a b f G w1 := h.imp (·.call hb) (·.call hb)
theorem FS.top (h : FS w n a b f G w0) (ha : a < n) : w0.cell? ⟨w.heap.size, a, none⟩ = some (.slice (some ⟨G a, 0, none⟩) n n) := by
  rcases h with h | h
  all_goals have := h.top.cell ha; simpa using this
theorem FS.now (h : FS w n a b f G w0) (hb : b < n) : w0.cell? ⟨G a, b, none⟩ = some (curV w0 ⟨G a, b, none⟩) := by
  rcases h with h | h
  all_goals have := h.cur.cell hb; simp [curV, this]
theorem FS.frz (h : FS w n a b f G w0) : w0.frozen? ⟨G a, b, none⟩ = false := by
  rcases h with h | h
  all_goals exact h.cur.frozen b
theorem FS.belowStore {v : Value} (h : FS w n a b f G w0) (hb : Below w.heap.size w w0) : Below w.heap.size w (w0.setCell ⟨G a, b, none⟩ v) := by
  rcases h with h | h
  all_goals exact hb.setCell (Nat.le_of_lt (h.in_ a (by omega)).1) _
theorem FS.store (h : FS w n a b f G w0) : FS w n a b f G (w0.setCell ⟨G a, b, none⟩ (.int .i64 (f a b))) := by
  right
  rcases h with h | h
  · exact h.store
  · obtain ⟨h1, h2⟩ := h.in_ a (by omega)
    refine ⟨⟨h.below.setCell (Nat.le_of_lt h1) _, by simpa [World.setCell] using h.size, h.top.setOther (by show w.heap.size ≠ G a; omega) _, fun j hj => by simpa [World.setCell] using h.in_ j hj, h.up⟩,
      fun j hj => (h.done j hj).setOther (by have := h.up j a hj (by omega); show G j ≠ G a; omega) _, (h.cur.set b _).congr (fun c _ => ?_)⟩
    by_cases e : c = b
    · subst e; simp
    · rw [if_neg e]
theorem FS.done (h : FS w n a b f G w0) (hb : b < n) (hv : w0.cell? ⟨G a, b, none⟩ = some (.int .i64 (f a b))) : FillI w w0 n a (b + 1) f G := by
  rcases h with h | h
  · have := (h.cur.cell hb).symm.trans hv
    have e : f a b = 0 := by simpa using this.symm
    refine ⟨h.toBlocks, h.done, h.cur.congr (fun c _ => ?_)⟩
    by_cases hc : c = b
    · subst hc; simp [e]
    · by_cases hlt : c < b
      · rw [if_pos hlt, if_pos (by omega)]
      · rw [if_neg hlt, if_neg (by omega)]
  · exact h
theorem set_now {w0 : World} {p : Addr} {u v : Value} (hs : p.spot = none) (h : (w0.setCell p v).cell? p = some u) : u = v := by
  simp only [World.setCell, World.cell?, Array.getElem?_modify, if_true, hs] at h
  cases e : w0.heap[p.block]? with
  | none => simp [e] at h
  | some o =>
    cases o <;> simp [e] at h
    rw [Array.getElem?_setIfInBounds, if_pos rfl] at h
    split at h
    · exact (Option.some.inj h).symm
    · cases h
end

set_option maxRecDepth 20000 in
set_option maxHeartbeats 4000000 in
theorem filledRows_any (fid : FuncId) (caps : Array Value) (n : Nat) (f : Nat → Nat → Int) (w : World) (hn : n ≤ 9) (hcf : ∀ (args : Array Value) (w : World), (callFunc fid args).run Try.prog w = .ok (.enter fid args) w)
    (hF : ∀ (wr : World) (a b : Nat), a < n → b < n → Below w.heap.size w wr → Calls Try.prog fid (#[.int .i64 a, .int .i64 b] ++ caps) wr fun e w' => e = .returned (.int .i64 (f a b)) ∧ Below wr.heap.size wr w') :
    Calls Try.prog 60 #[.int .i64 n, .func (.func fid) #[] caps] w fun e w' => e = .returned (.slice (some ⟨w.heap.size, 0, none⟩) n n) ∧ Below w.heap.size w w' ∧ OMat w' w.heap.size w'.heap.size (some ⟨w.heap.size, 0, none⟩) (tabOf n f) := by
  have HF := hide hF
  clear hF
  have hmk := run_make_row' (P := Try.prog) 23 58 (.slice none 0 0) 24 Try.underlying23 info_row rfl .i64 .i64 n (by omega) (by omega)
  go_enter Try.func60, Try.ntmps60
  go_wp2
  clear hmk
  go_loopg [11] n (fun g i wr => ∃ (a : Nat) (G : Nat → Nat), a ≤ n ∧ g = n - a ∧ i = .int .i64 a ∧ Fill w wr n a f G)
  case atStart => exact ⟨0, _, Nat.zero_le _, rfl, rfl, fill_start w n f⟩
  case round =>
    obtain ⟨a, G, ha, rfl, rfl, hO⟩ := hrel
    by_cases hlt : a < n
    · have hmk := run_make_row' (P := Try.prog) 58 3 (.int .i64 0) 8 Try.underlying58 info_int rfl .i64 .i64 n (by omega) (by omega)
      have hst1 : ∀ o, (wr.alloc o).cell? ⟨w.heap.size, a, none⟩ = some (.slice none 0 0) := fun o => by have := (hO.top.alloc o).cell hlt; simpa using this
      have hst2 : ∀ o, (wr.alloc o).frozen? ⟨w.heap.size, a, none⟩ = false := fun o => (hO.top.alloc o).frozen a
      go_wp2
      have hI0 := fill_row hO hlt
      obtain ⟨G1, hG1⟩ : ∃ G1, G1 = fun j => if j = a then wr.heap.size else G j := ⟨_, rfl⟩
      rw [← hG1] at hI0
      clear hmk hst1 hst2 hO hG1
      go_loopg [20] n (fun g i wi => ∃ b : Nat, b ≤ n ∧ g = n - b ∧ i = .int .i64 b ∧ FillI w wi n a b f G1)
      case atStart => exact ⟨0, Nat.zero_le _, rfl, rfl, hI0⟩
      case round =>
        obtain ⟨b, hb, rfl, rfl, hI⟩ := hrel
        clear hI0
        by_cases hbt : b < n
        · have hFS : FS w n a b f G1 _ := .inl hI.drew
          have i0 : (0 : Int) ≤ (a : Int) := by omega
          have i1 : (a : Int) < (n : Int) := by omega
          have j0 : (0 : Int) ≤ (b : Int) := by omega
          have j1 : (b : Int) < (n : Int) := by omega
          go_wp2
          go_region_held3 (fun w' => w'.cell? ⟨w.heap.size, a, none⟩ = some (.slice (some ⟨G1 a, 0, none⟩) n n) ∧ w'.cell? ⟨G1 a, b, none⟩ = some (curV w' ⟨G1 a, b, none⟩) ∧ w'.frozen? ⟨G1 a, b, none⟩ = false ∧ Below w.heap.size w w' ∧ FS w n a b f G1 w')
            (first
              | exact ⟨hFS.top hlt, hFS.now hbt, hFS.frz, hI.below.drew, hFS⟩
              | (go_split_ands
                 exact ⟨FS.top (FS.call (by assumption) (by assumption)) hlt, FS.now (FS.call (by assumption) (by assumption)) hbt, FS.frz (FS.call (by assumption) (by assumption)), Below.trans (by assumption) (Below.mono (by assumption) (Below.size (by assumption))), FS.call (by assumption) (by assumption)⟩)
              | (go_split_ands
                 exact ⟨FS.top (FS.store (by assumption)) hlt, FS.now (FS.store (by assumption)) hbt, FS.frz (FS.store (by assumption)), FS.belowStore (by assumption) (by assumption), FS.store (by assumption)⟩))
            (first
              | (go_split_ands
                 refine (HF.out _ a b hlt hbt ?_).mono ?_
                 · assumption
                 rintro e w1 ⟨rfl, hbc⟩))
          rename_i hHeld
          obtain ⟨_, hc, _, _, hfs⟩ := hHeld
          have hd := FS.done hfs hbt (hc.trans (congrArg some (set_now rfl hc)))
          clear hc hfs hI
          go_wp2
          go_roundg (n - (b + 1))
          case measure => go_light; omega
          case rel => go_light; exact ⟨b + 1, by omega, rfl, by go_num, hd⟩
        · obtain rfl : b = n := by omega
          go_wp2
          go_roundg (b - (a + 1))
          case measure => go_light; omega
          case rel => go_light; exact ⟨a + 1, G1, by omega, rfl, by go_num, fill_rowdone hI⟩
    · obtain rfl : a = n := by omega
      go_wp2
      go_ret
      exact ⟨rfl, hO.below, fill_done hO⟩
end Go.Proofs.Ythllbekoidogpaa
