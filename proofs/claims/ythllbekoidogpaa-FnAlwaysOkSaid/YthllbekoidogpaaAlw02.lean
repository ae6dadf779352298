/-  -/
import Derived.Test.YthllbekoidogpaaAlw01
import Derived.Deep.AppendLies
import Derived.Deep.RegionHeld3
import Derived.Laws.Slices
namespace Go.Proofs.Ythllbekoidogpaa
open Go.RowKit
set_option linter.unusedVariables false

/-- A row of the call's own, made by appending: blocks from base on. -/
def ARow (base : Nat) (w : World) (v : Value) (xs : List Int) : Prop := w.ownsRow base 3 1 v xs.length (xs.map (Value.int .i64))
/-- A table of the call's own, made by appending rows. -/
def ATab (base : Nat) (w : World) (v : Value) (T : List (List Int)) : Prop :=
  ∃ vs : List Value, w.ownsRow base 58 1 v T.length vs ∧ ∀ i, i < T.length → ∃ u, vs[i]? = some u ∧ ARow base w u (rw_ T i)

section
variable {base : Nat} {w w' : World} {v : Value} {xs : List Int} {T : List (List Int)}
theorem ownsRow_below {e : TypeId} {size n : Nat} {vs : List Value} (h : w.ownsRow base e size v n vs) (hb : Below w.heap.size w w') : w'.ownsRow base e size v n vs := by
  obtain ⟨h1, h2⟩ := h
  refine ⟨h1, h2.imp id ?_⟩
  rintro ⟨g, cap, cur, hv, hg, hh, r⟩
  exact ⟨g, cap, cur, hv, hg, (hb.block g (Array.getElem?_eq_some_iff.1 hh).1).trans hh, r⟩
theorem ownsRow_mono {e : TypeId} {size n base' : Nat} {vs : List Value} (h : w.ownsRow base e size v n vs) (hb : base' ≤ base) : w.ownsRow base' e size v n vs := by
  obtain ⟨h1, h2⟩ := h
  refine ⟨h1, h2.imp id ?_⟩
  rintro ⟨g, cap, cur, hv, hg, r⟩
  exact ⟨g, cap, cur, hv, Nat.le_trans hb hg, r⟩
theorem ARow.below (h : ARow base w v xs) (hb : Below w.heap.size w w') : ARow base w' v xs := ownsRow_below h hb
theorem ARow.mono {base' : Nat} (h : ARow base w v xs) (hb : base' ≤ base) : ARow base' w v xs := ownsRow_mono h hb
theorem ATab.below (h : ATab base w v T) (hb : Below w.heap.size w w') : ATab base w' v T := by
  obtain ⟨vs, h1, h2⟩ := h
  exact ⟨vs, ownsRow_below h1 hb, fun i hi => by
    obtain ⟨u, hu, hr⟩ := h2 i hi
    exact ⟨u, hu, hr.below hb⟩⟩
theorem ARow.drewN (h : ARow base w v xs) (n : Nat) : ARow base (w.drewN n) v xs := h
theorem ATab.drewN (h : ATab base w v T) (n : Nat) : ATab base (w.drewN n) v T := h
theorem ARow.nil_ (base : Nat) (w : World) : ARow base w (.slice none 0 0) [] := World.ownsRow_nil w base _ _
theorem ARow.made (hb : base ≤ w.heap.size) : ARow base (w.alloc (.cells #[] 3)) (.slice (some ⟨w.heap.size, 0, none⟩) 0 0) [] := World.ownsRow_made w #[] 0 hb (by simp [maxLen]) rfl
theorem ATab.nil_ (base : Nat) (w : World) : ATab base w (.slice none 0 0) [] := ⟨[], World.ownsRow_nil w base _ _, fun i hi => absurd hi (Nat.not_lt_zero _)⟩
theorem ATab.made (hb : base ≤ w.heap.size) : ATab base (w.alloc (.cells #[] 58)) (.slice (some ⟨w.heap.size, 0, none⟩) 0 0) [] := ⟨[], World.ownsRow_made w #[] 0 hb (by simp [maxLen]) rfl, fun i hi => absurd hi (Nat.not_lt_zero _)⟩

theorem ARow.val (h : ARow base w v xs) : ∃ A c, v = .slice A xs.length c ∧ xs.length ≤ c ∧ c ≤ 9223372036854775807 ∧ Row w base w.heap.size A xs := by
  rcases h.2 with ⟨rfl, h0⟩ | ⟨g, cap, cur, rfl, hg, hh, hc, hm, _, _⟩
  · have : xs = [] := List.eq_nil_of_length_eq_zero h0
    subst this
    exact ⟨none, 0, rfl, Nat.le_refl _, by omega, Row.nil _ _ _ _⟩
  · refine ⟨_, cap, rfl, hc, by rw [maxLen_is] at hm; exact hm, fun j hj => ⟨g, 0, rfl, hg, (Array.getElem?_eq_some_iff.1 hh).1, ?_⟩⟩
    have := h.cells (g := g) rfl j (.int .i64 (el xs j)) (by simp [hj, el, List.getD])
    simpa [Addr.add_lit] using this
theorem ATab.val (h : ATab base w v T) : ∃ A c, v = .slice A T.length c ∧ T.length ≤ c ∧ c ≤ 9223372036854775807 ∧ Mat w base w.heap.size A T := by
  obtain ⟨vs, h1, h2⟩ := h
  rcases h1.2 with ⟨rfl, h0⟩ | ⟨g, cap, cur, rfl, hg, hh, hc, hm, _, _⟩
  · have : T = [] := List.eq_nil_of_length_eq_zero h0
    subst this
    exact ⟨none, 0, rfl, Nat.le_refl _, by omega, Mat.nil _ _ _ _⟩
  · refine ⟨_, cap, rfl, hc, by rw [maxLen_is] at hm; exact hm, fun i hi => ?_⟩
    obtain ⟨u, hu, hr⟩ := h2 i hi
    obtain ⟨A', c', rfl, _, _, hR⟩ := hr.val
    have := h1.cells (g := g) rfl i _ hu
    exact ⟨g, 0, A', c', rfl, hg, (Array.getElem?_eq_some_iff.1 hh).1, by simpa [Addr.add_lit] using this, hR⟩

theorem own_ne {e e' : TypeId} {b b' size size' n n' : Nat} {v v' : Value} {vs vs' : List Value} (h : w.ownsRow b e size v n vs) (h' : w.ownsRow b' e' size' v' n' vs') (hne : e ≠ e') : v.ownBlock = none ∨ v.ownBlock ≠ v'.ownBlock := by
  rcases h.2 with ⟨rfl, _⟩ | ⟨g, cap, cur, rfl, _, hh, _⟩
  · left; rfl
  · right
    intro he
    rcases h'.2 with ⟨rfl, _⟩ | ⟨g', cap', cur', rfl, _, hh', _⟩
    · simp [Value.ownBlock] at he
    · have : g = g' := by simpa [Value.ownBlock] using he
      subst this
      rw [hh] at hh'
      injection hh' with hh'
      injection hh' with _ ht
      exact hne ht
theorem grown_alloc {w1 : World} {row : Option Nat} (o : Obj) (hg : (w.alloc o).grownBy w1 row) : w.grownBy w1 row :=
  ⟨hg.os, hg.tape, hg.output, Nat.le_trans (by simp) hg.size, fun k hk hne => (hg.block k (by simp; omega) hne).trans (Below.heap_alloc _ _ _ hk)⟩
theorem ARow.belowOf {base0 : Nat} {w1 : World} (h : ARow base w v xs) (hg : w.grownBy w1 v.ownBlock) (hb : base0 ≤ base) (hw : base0 ≤ w.heap.size) : Below base0 w w1 :=
  (Below.refl _ _).grown hg hw fun k hk => Nat.le_trans hb (h.lt k hk).1
theorem ATab.belowOf {base0 : Nat} {w1 : World} (h : ATab base w v T) (hg : w.grownBy w1 v.ownBlock) (hb : base0 ≤ base) (hw : base0 ≤ w.heap.size) : Below base0 w w1 := by
  obtain ⟨vs, h1, _⟩ := h
  exact (Below.refl _ _).grown hg hw fun k hk => Nat.le_trans hb (h1.lt k hk).1
end

/-- 'row = append(row, q)'. -/
theorem wp_app_int {ops : Array Oper} {rest : List Oper} {o : Oper} {a : Act} {Q : Exit → Act → World → Prop} {w : World} (hgd : o.guard = none) (s x : Operand)
    (ho : o.op = .call { callee := .builtin .append, args := #[s, x], argTypes := #[58, 58] }) (base : Nat) (v : Value) (xs : List Int) (q : Int) (c : Nat) (hs : a.eval s = v) (hx : a.eval x = .slice (some ⟨w.heap.size, 0, none⟩) 1 c)
    (hown : ARow base w v xs) (hn : xs.length ≤ 1048576) (hb : base ≤ w.heap.size)
    (h : ∀ v' w', ARow base w' v' (xs ++ [q]) → w.grownBy w' v.ownBlock → wpList Try.prog ops Q rest (a.put o.dst v') w') : wpList Try.prog ops Q (o :: rest) a (w.alloc (.cells #[.int .i64 q] 3)) := by
  obtain ⟨i0, hi0, hz0, hz1, hz2⟩ := info_parts info_int
  refine wpList_append_own _ hgd s x 58 ho base 3 i0 (.int .i64 0) 1 8 Try.underlying58 hi0 hz0 hz1 hz2 rfl (by decide) v _ _ hs (hown.alloc _) ⟨w.heap.size, 0, none⟩ 1 c [.int .i64 q] hx rfl
    (World.news_of_block (cs := #[.int .i64 q]) (t := 3) (fr := (0, 0)) (heap_alloc_new _ _)) (by simp [Value.oneCell']) (by rw [maxLen_is]; omega) (by omega) (by simp; omega) ?_
  intro v' w' h1 h2 _
  exact h v' w' (by unfold ARow; simpa using h1) (grown_alloc _ h2)

/-- 'table = append(table, row)'. -/
theorem wp_app_row {ops : Array Oper} {rest : List Oper} {o : Oper} {a : Act} {Q : Exit → Act → World → Prop} {w : World} (hgd : o.guard = none) (s x : Operand)
    (ho : o.op = .call { callee := .builtin .append, args := #[s, x], argTypes := #[23, 23] }) (base : Nat) (v u : Value) (T : List (List Int)) (xs : List Int) (c : Nat) (hs : a.eval s = v) (hx : a.eval x = .slice (some ⟨w.heap.size, 0, none⟩) 1 c)
    (hown : ATab base w v T) (hrow : ARow base w u xs) (hn : T.length ≤ 1048576) (hb : base ≤ w.heap.size)
    (h : ∀ v' w', ATab base w' v' (T ++ [xs]) → w.grownBy w' v.ownBlock → wpList Try.prog ops Q rest (a.put o.dst v') w') : wpList Try.prog ops Q (o :: rest) a (w.alloc (.cells #[u] 58)) := by
  obtain ⟨i0, hi0, hz0, hz1, hz2⟩ := info_parts info_row
  obtain ⟨vs, ho1, ho2⟩ := hown
  have hu1 : u.oneCell' = true := by
    obtain ⟨A, c, rfl, _⟩ := hrow.val
    rfl
  refine wpList_append_own _ hgd s x 23 ho base 58 i0 (.slice none 0 0) 1 24 Try.underlying23 hi0 hz0 hz1 hz2 rfl (by decide) v _ _ hs (ho1.alloc _) ⟨w.heap.size, 0, none⟩ 1 c [u] hx rfl
    (World.news_of_block (cs := #[u]) (t := 58) (fr := (0, 0)) (heap_alloc_new _ _)) (by intro y hy; simp at hy; subst hy; exact hu1) (by rw [maxLen_is]; omega) (by omega) (by simp; omega) ?_
  intro v' w' h1 h2 _
  have hg := grown_alloc _ h2
  have keep : ∀ {u' : Value} {ys : List Int}, ARow base w u' ys → ARow base w' u' ys := fun hr => World.ownsRow.kept hr hg (own_ne hr ho1 (by decide))
  refine h v' w' ⟨vs ++ [u], by simpa using h1, fun i hi => ?_⟩ hg
  have hl : vs.length = T.length := by have := ho1.1; simpa using this
  by_cases e : i < T.length
  · obtain ⟨u', hu', hr⟩ := ho2 i e
    refine ⟨u', by rw [List.getElem?_append_left (by omega)]; exact hu', ?_⟩
    have : rw_ (T ++ [xs]) i = rw_ T i := by simp [rw_, List.getD, List.getElem?_append_left e]
    rw [this]; exact keep hr
  · have ei : i = T.length := by simp at hi; omega
    subst ei
    refine ⟨u, by rw [← hl]; simp, ?_⟩
    have : rw_ (T ++ [xs]) T.length = xs := by simp [rw_, List.getD]
    rw [this]; exact keep hrow
end Go.Proofs.Ythllbekoidogpaa

namespace Go.Proofs.Ythllbekoidogpaa
open Go.RowKit
set_option linter.unusedVariables false

set_option maxHeartbeats 400000 in
theorem allThings_any (A : Option Addr) (c lo hi n : Nat) (xs : List Int) (w : World) (h : Row w lo hi A xs) (hn : xs.length ≤ 1048576) (hm : n ≤ 1048576) :
    Calls Try.prog 66 #[.slice A xs.length c, .int .i64 n] w fun e w' => e = .returned (.bool (okRow n xs)) ∧ w = w' := by
  go_enter Try.func66, Try.ntmps66
  go_wp2
  go_loopg [9] xs.length (fun g i wr => ∃ k : Nat, k ≤ xs.length ∧ g = xs.length - k ∧ i = .int .i64 k ∧ w = wr ∧ Hid (∀ j, j < k → 0 ≤ el xs j ∧ el xs j < n))
  case atStart => exact ⟨0, Nat.zero_le _, rfl, rfl, rfl, fun _ hj => absurd hj (Nat.not_lt_zero _)⟩
  case round =>
    obtain ⟨k, hk, rfl, rfl, rfl, hH⟩ := hrel
    by_cases hlt : k < xs.length
    · obtain ⟨b, o, rfl, _, _, hc⟩ := h k hlt
      by_cases h0 : el xs k < 0
      · go_wp2
        go_ret
        exact ⟨ret_bool (okRow_false hlt (.inl h0)).symm, rfl⟩
      · by_cases h1 : (n : Int) ≤ el xs k
        · go_wp2
          go_ret
          exact ⟨ret_bool (okRow_false hlt (.inr h1)).symm, rfl⟩
        · go_wp2
          go_roundg (xs.length - (k + 1))
          case measure => go_light; omega
          case rel => go_light; exact ⟨k + 1, by omega, rfl, by go_num, rfl, fun j hj => by
            by_cases e : j = k
            · subst e; exact ⟨by omega, by omega⟩
            · exact hH j (by omega)⟩
    · obtain rfl : k = xs.length := by omega
      go_wp2
      go_ret
      exact ⟨ret_bool (okRow_iff.2 hH.out).symm, rfl⟩

set_option maxHeartbeats 400000 in
theorem l1In_any (n lo hi : Int) (w : World) : Calls Try.prog 59 #[.int .i64 n, .int .i64 lo, .int .i64 hi] w fun e w' => e = .returned (.bool (decide (lo ≤ n) && decide (n ≤ hi))) ∧ w = w' := by
  by_cases h0 : lo ≤ n <;> by_cases h1 : n ≤ hi
  all_goals
    go_enter Try.func59, Try.ntmps59
    go_wp2
    go_ret
    exact ⟨ret_bool (by simp [h0, h1]), rfl⟩

set_option maxHeartbeats 400000 in
theorem iTableOk_any (A : Option Addr) (c lo hi : Nat) (T : List (List Int)) (w : World) (h : Mat w lo hi A T) (hS : Small T) :
    Calls Try.prog 33 #[.slice A T.length c] w fun e w' => e = .returned (.bool (okT T)) ∧ w = w' := by
  have hn := hS.len
  by_cases h1 : T.length < 1
  · go_enter Try.func33, Try.ntmps33
    go_wp2
    go_ret
    exact ⟨ret_bool (okT_size (.inl h1)).symm, rfl⟩
  · by_cases h9 : 9 < T.length
    · go_enter Try.func33, Try.ntmps33
      go_wp2
      go_ret
      exact ⟨ret_bool (okT_size (.inr h9)).symm, rfl⟩
    · go_enter Try.func33, Try.ntmps33
      go_wp2
      go_loopg [15] T.length (fun g i wr => ∃ k : Nat, k ≤ T.length ∧ g = T.length - k ∧ i = .int .i64 k ∧ w = wr ∧ Hid (∀ j, j < k → (rw_ T j).length = T.length ∧ okRow T.length (rw_ T j) = true))
      case atStart => exact ⟨0, Nat.zero_le _, rfl, rfl, rfl, fun _ hj => absurd hj (Nat.not_lt_zero _)⟩
      case round =>
        obtain ⟨k, hk, rfl, rfl, rfl, hH⟩ := hrel
        by_cases hlt : k < T.length
        · obtain ⟨b, o, A', c', rfl, _, _, hc, hR⟩ := h k hlt
          have hl := hS.row k hlt
          by_cases he : (rw_ T k).length = T.length
          · have hz : ((rw_ T k).length : Int) = (T.length : Int) := by omega
            have Hz := hide he
            have hq : (((rw_ T k).length : Int) == (T.length : Int)) = true := by simp [he]
            have hq2 : (((rw_ T k).length : Int) != (T.length : Int)) = false := by simp [he]
            clear he hz
            cases hb : okRow T.length (rw_ T k)
            · go_wp2_with (go_at_call 66; refine (allThings_any _ _ _ _ _ _ _ hR hl hn).mono ?_; rintro e w' ⟨rfl, rfl⟩)
              go_ret
              exact ⟨ret_bool (okT_row hlt hb).symm, rfl⟩
            · go_wp2_with (go_at_call 66; refine (allThings_any _ _ _ _ _ _ _ hR hl hn).mono ?_; rintro e w' ⟨rfl, rfl⟩)
              go_roundg (T.length - (k + 1))
              case measure => go_light; omega
              case rel => go_light; exact ⟨k + 1, by omega, rfl, by go_num, rfl, fun j hj => by
                by_cases e : j = k
                · subst e; exact ⟨Hz.out, hb⟩
                · exact hH j (by omega)⟩
          · have hq : (((rw_ T k).length : Int) == (T.length : Int)) = false := by simp; omega
            have hq2 : (((rw_ T k).length : Int) != (T.length : Int)) = true := by simp; omega
            go_wp2
            go_ret
            exact ⟨ret_bool (okT_len hlt he).symm, rfl⟩
        · obtain rfl : k = T.length := by omega
          go_wp2
          go_ret
          exact ⟨ret_bool (okT_iff.2 ⟨by omega, by omega, fun i hi => (hH i hi).1, fun i j hi hj => okRow_iff.1 (hH i hi).2 j (by rw [(hH i hi).1]; exact hj)⟩).symm, rfl⟩

end Go.Proofs.Ythllbekoidogpaa

namespace Go.Proofs.Ythllbekoidogpaa
open Go.RowKit
set_option linter.unusedVariables false


/-- A table in memory at which x and y are things: what a product reads. -/
theorem Mat.at_ {w : World} {lo hi : Nat} {A : Option Addr} {T : List (List Int)} (h : Mat w lo hi A T) (k : IsT T) {x y : Int} (hx0 : 0 ≤ x) (hx1 : x < T.length) (hy0 : 0 ≤ y) (hy1 : y < T.length) :
    ∃ b o b2 o2 c, A = some ⟨b, o, none⟩ ∧ lo ≤ b ∧ b < hi ∧ w.cell? ⟨b, o + x.toNat, none⟩ = some (.slice (some ⟨b2, o2, none⟩) T.length c) ∧ lo ≤ b2 ∧ b2 < hi ∧ w.cell? ⟨b2, o2 + y.toNat, none⟩ = some (.int .i64 (mul T x y)) := by
  obtain ⟨b, o, A', c, rfl, h1, h2, hc, hR⟩ := h x.toNat (by omega)
  have hl := k.len x.toNat (by omega)
  obtain ⟨b2, o2, rfl, h3, h4, hc2⟩ := hR y.toNat (by omega)
  rw [hl] at hc
  exact ⟨b, o, b2, o2, c, rfl, h1, h2, hc, h3, h4, hc2⟩

set_option maxHeartbeats 400000 in
theorem product_any (A : Option Addr) (c lo hi : Nat) (T : List (List Int)) (x y : Int) (w : World) (h : Mat w lo hi A T) (hh : hi ≤ w.heap.size) (k : IsT T) (hx0 : 0 ≤ x) (hx1 : x < T.length) (hy0 : 0 ≤ y) (hy1 : y < T.length) :
    Calls Try.prog 62 #[.agg #[.slice A T.length c], .int .i64 x, .int .i64 y] w fun e w' => e = .returned (.int .i64 (mul T x y)) ∧ Below w.heap.size w w' := by
  obtain ⟨b, o, b2, o2, c', rfl, _, hb, hc, _, hb2, hc2⟩ := h.at_ k hx0 hx1 hy0 hy1
  have hb' : b < w.heap.size := by omega
  have hb2' : b2 < w.heap.size := by omega
  go_enter Try.func62, Try.ntmps62
  go_wp2
  go_ret
  exact ⟨rfl, (Below.refl _ _).alloc (Nat.le_refl _) _⟩

/-- What stays while a call that makes memory reads a table. -/
structure GS (w : World) (lo hi : Nat) (A : Option Addr) (T : List (List Int)) (w' : World) : Prop where
  mat : Mat w' lo hi A T
  hh : hi ≤ w.heap.size
  size : w.heap.size < w'.heap.size
  below : Below w.heap.size w w'
theorem GS.step {w w0 w1 : World} {lo hi : Nat} {A : Option Addr} {T : List (List Int)} (hb : Below w0.heap.size w0 w1) (h : GS w lo hi A T w0) : GS w lo hi A T w1 :=
  ⟨h.mat.below hb (by have := h.hh; have := h.size; omega), h.hh, Nat.lt_of_lt_of_le h.size hb.size, h.below.trans (hb.mono (Nat.le_of_lt h.size))⟩
theorem GS.cell {w w0 w1 : World} {lo hi : Nat} {A : Option Addr} {T : List (List Int)} (hb : Below w0.heap.size w0 w1) (h : GS w lo hi A T w0) {v : Option Value} (hc : w0.cell? ⟨w.heap.size, 0, none⟩ = v) : w1.cell? ⟨w.heap.size, 0, none⟩ = v :=
  (hb.cell (p := ⟨w.heap.size, 0, none⟩) h.size).trans hc
theorem GS.top {w w0 : World} {lo hi : Nat} {A : Option Addr} {T : List (List Int)} (h : GS w lo hi A T w0) : hi ≤ w0.heap.size := by have := h.hh; have := h.size; omega
theorem GS.drew {w w0 : World} {lo hi : Nat} {A : Option Addr} {T : List (List Int)} (h : GS w lo hi A T w0) : GS w lo hi A T w0.drew := ⟨h.mat, h.hh, h.size, h.below.drew⟩

end Go.Proofs.Ythllbekoidogpaa

namespace Go.Proofs.Ythllbekoidogpaa
open Go.RowKit
set_option linter.unusedVariables false


theorem bits_i64 {a b : Nat} (ha : a < 1024) (hb : b < 1024) : bits .and .i64 (a : Int) (b : Int) = ((a &&& b : Nat) : Int) ∧ bits .or .i64 (a : Int) (b : Int) = ((a ||| b : Nat) : Int) :=
  bits_nat .i64 10 (by decide) (fun n h0 h1 => IntWalk.i64_in _ ⟨by omega, by omega⟩) a b ha hb
theorem pow_le9 {p : Nat} (hp : p ≤ 9) : 1 ≤ 2 ^ p ∧ 2 ^ p ≤ 512 := ⟨Nat.one_le_two_pow, by have : 2 ^ p ≤ 2 ^ 9 := Nat.pow_le_pow_right (by omega) hp; omega⟩
theorem and_two (s p : Nat) : s &&& 2 ^ p = if s.testBit p = true then 2 ^ p else 0 := by
  apply Nat.eq_of_testBit_eq
  intro i
  rw [Nat.testBit_and, Nat.testBit_two_pow]
  by_cases e : p = i
  · subst e
    cases h : s.testBit p <;> simp
  · have e2 : ((if s.testBit p = true then 2 ^ p else 0) : Nat).testBit i = false := by
      split
      · rw [Nat.testBit_two_pow]; simp [e]
      · simp
    rw [e2]; simp [e]
theorem and_pow {s p : Nat} (hs : s < 1024) (hp : p ≤ 9) : bits .and .i64 (s : Int) ((2 : Int) ^ p) = if s.testBit p = true then (2 : Int) ^ p else 0 := by
  have h := pow_le9 hp
  have e : (2 : Int) ^ p = ((2 ^ p : Nat) : Int) := by simp
  rw [e, (bits_i64 hs (by omega)).1, and_two]
  cases s.testBit p <;> simp
/-- The things of a set, below k. -/
def thk (s k : Nat) : List Int := List.map (fun p : Nat => (p : Int)) ((List.range k).filter fun p => s.testBit p)
end Go.Proofs.Ythllbekoidogpaa

namespace Go.Proofs.Ythllbekoidogpaa
set_option linter.unusedVariables false

/-- The text of a word. -/
def bs (u : List UInt8) : ByteArray := ⟨u.toArray⟩
/-- The k-th letter. -/
def lt (u : List UInt8) (k : Nat) : UInt8 := u.getD k 0
def okC (c : UInt8) : Bool := decide (97 ≤ c.toNat) && decide (c.toNat ≤ 99)
def okW (u : List UInt8) : Bool := u.all okC && (decide (1 ≤ u.length) && decide (u.length ≤ 24))
section
variable {u v : List UInt8} {k : Nat}
theorem size_bs (u : List UInt8) : (bs u).size = u.length := by simp [bs, ByteArray.size]
theorem toList_bs (u : List UInt8) : (bs u).toList = u := ByteArray.toList_mk u
theorem get_bs (h : k < (bs u).size) : (bs u)[k]'h = lt u k := by
  have h2 : k < u.length := by rw [size_bs] at h; exact h
  have e : lt u k = u[k] := by simp [lt, h2]
  rw [e]
  rfl
theorem ext_bs (u : List UInt8) (a b : Nat) : (bs u).extract a b = bs ((u.drop a).take (b - a)) := by
  unfold bs
  rw [ByteArray.extract_mk]
theorem app_bs (u v : List UInt8) : bs u ++ bs v = bs (u ++ v) := ByteArray.mk_append_mk u v
theorem lt_mem (h : k < u.length) : lt u k ∈ u := by simp [lt, h]
theorem okW_iff : okW u = true ↔ (∀ c, c ∈ u → okC c = true) ∧ 1 ≤ u.length ∧ u.length ≤ 24 := by
  unfold okW
  rw [Bool.and_eq_true, Bool.and_eq_true, List.all_eq_true, decide_eq_true_iff, decide_eq_true_iff]
theorem okW_bad (h : k < u.length) (hc : okC (lt u k) = false) : okW u = false := by
  cases e : okW u with
  | false => rfl
  | true => rw [(okW_iff.1 e).1 _ (lt_mem h)] at hc; cases hc
theorem okW_len (h : ∀ j, j < u.length → okC (lt u j) = true) : okW u = (decide (1 ≤ u.length) && decide (u.length ≤ 24)) := by
  unfold okW
  have : u.all okC = true := by
    rw [List.all_eq_true]
    intro c hc
    obtain ⟨j, hj, rfl⟩ := List.getElem_of_mem hc
    have := h j hj
    simpa [lt, hj] using this
  rw [this, Bool.true_and]
theorem okC_iff {c : UInt8} : okC c = true ↔ c = 97 ∨ c = 98 ∨ c = 99 := by
  unfold okC
  rw [Bool.and_eq_true, decide_eq_true_iff, decide_eq_true_iff, ← UInt8.toNat_inj, ← UInt8.toNat_inj, ← UInt8.toNat_inj]
  show _ ↔ c.toNat = 97 ∨ c.toNat = 98 ∨ c.toNat = 99
  omega
theorem okC_int (c : UInt8) : okC c = (decide ((97 : Int) ≤ ((c.toNat : Nat) : Int)) && decide (((c.toNat : Nat) : Int) ≤ 99)) := by
  unfold okC
  congr 1 <;> rw [decide_eq_decide] <;> omega
theorem okW_ok (h : okW u = true) (hk : k < u.length) : okC (lt u k) = true := (okW_iff.1 h).1 _ (lt_mem hk)
end
/-- A letter among letters, as the specification adds it. -/
def dlt (c : UInt8) : Nat := 2 ^ (c.toNat % 32) / 2
def letF (u : List UInt8) (k : Nat) : Nat := (u.take k).foldl (fun s c => s ||| dlt c) 0
theorem dlt_lt (c : UInt8) : dlt c < 2 ^ 31 := by
  unfold dlt
  have h : c.toNat % 32 ≤ 31 := by omega
  have : 2 ^ (c.toNat % 32) ≤ 2 ^ 31 := Nat.pow_le_pow_right (by omega) h
  omega
theorem letF_succ {u : List UInt8} {k : Nat} (h : k < u.length) : letF u (k + 1) = letF u k ||| dlt (lt u k) := by
  have e : u.take (k + 1) = u.take k ++ [lt u k] := by
    have : lt u k = u[k] := by simp [lt, h]
    rw [this, List.take_succ_eq_append_getElem h]
  unfold letF
  rw [e, List.foldl_append]; rfl
theorem letF_lt (u : List UInt8) : ∀ k, letF u k < 2 ^ 31
  | 0 => by simp [letF]
  | k + 1 => by
    by_cases h : k < u.length
    · rw [letF_succ h]; exact Nat.or_lt_two_pow (letF_lt u k) (dlt_lt _)
    · have : letF u (k + 1) = letF u k := by
        unfold letF
        rw [List.take_of_length_le (by omega), List.take_of_length_le (by omega)]
      rw [this]; exact letF_lt u k
theorem bits_or31 {a b : Nat} (ha : a < 2 ^ 31) (hb : b < 2 ^ 31) : bits .or .i64 (a : Int) (b : Int) = ((a ||| b : Nat) : Int) :=
  (bits_nat .i64 31 (by decide) (fun n h0 h1 => IntWalk.i64_in _ ⟨by omega, by omega⟩) a b ha hb).2
theorem and31 (c : UInt8) : bits .and .u8 ((c.toNat : Nat) : Int) 31 = ((c.toNat % 32 : Nat) : Int) := by
  have h := (bits_nat .u8 8 (by decide) (fun n h0 h1 => IntWalk.u8_in _ ⟨by omega, by omega⟩) c.toNat 31 c.toNat_lt (by decide)).1
  rw [show (31 : Int) = ((31 : Nat) : Int) from rfl, h]
  congr 1
  exact Nat.and_two_pow_sub_one_eq_mod c.toNat 5
/-- Which letters a word has. -/
def ltr (u : List UInt8) : Nat := (if 97 ∈ u then 1 else 0) ||| (if 98 ∈ u then 2 else 0) ||| (if 99 ∈ u then 4 else 0)
def letN (u : List UInt8) : Int := if okW u = true then ((ltr u : Nat) : Int) else -1
theorem letN_not {u : List UInt8} (h : okW u = false) : letN u = -1 := by unfold letN; rw [if_neg (by rw [h]; exact Bool.false_ne_true)]
theorem letN_ok {u : List UInt8} (h : okW u = true) : letN u = ((ltr u : Nat) : Int) := by unfold letN; rw [if_pos h]
theorem ltr_app (u : List UInt8) (c : UInt8) (hc : okC c = true) : ltr (u ++ [c]) = ltr u ||| dlt c := by
  unfold ltr dlt
  rcases okC_iff.1 hc with rfl | rfl | rfl
  all_goals
    by_cases h1 : (97 : UInt8) ∈ u <;> by_cases h2 : (98 : UInt8) ∈ u <;> by_cases h3 : (99 : UInt8) ∈ u <;> simp [h1, h2, h3]
theorem letF_ltr {u : List UInt8} (h : ∀ c, c ∈ u → okC c = true) : ∀ k, letF u k = ltr (u.take k)
  | 0 => by simp [letF, ltr]
  | k + 1 => by
    by_cases hk : k < u.length
    · have e : u.take (k + 1) = u.take k ++ [lt u k] := by
        have : lt u k = u[k] := by simp [lt, hk]
        rw [this, List.take_succ_eq_append_getElem hk]
      rw [letF_succ hk, e, ltr_app _ _ (h _ (lt_mem hk)), letF_ltr h k]
    · have e1 : letF u (k + 1) = letF u k := by
        unfold letF
        rw [List.take_of_length_le (by omega), List.take_of_length_le (by omega)]
      rw [e1, letF_ltr h k, List.take_of_length_le (by omega), List.take_of_length_le (by omega)]
theorem letF_all {u : List UInt8} (h : okW u = true) : letF u u.length = ltr u := by
  rw [letF_ltr (okW_iff.1 h).1, List.take_length]
/-- Letters are the same exactly if words have the same. -/
theorem ltr_iff {u v : List UInt8} (hu : ∀ c, c ∈ u → okC c = true) (hv : ∀ c, c ∈ v → okC c = true) : ltr u = ltr v ↔ ∀ c, c ∈ u ↔ c ∈ v := by
  constructor
  · intro e c
    have key : ((97 : UInt8) ∈ u ↔ (97 : UInt8) ∈ v) ∧ ((98 : UInt8) ∈ u ↔ (98 : UInt8) ∈ v) ∧ ((99 : UInt8) ∈ u ↔ (99 : UInt8) ∈ v) := by
      unfold ltr at e
      by_cases h1 : (97 : UInt8) ∈ u <;> by_cases h2 : (98 : UInt8) ∈ u <;> by_cases h3 : (99 : UInt8) ∈ u <;> by_cases h4 : (97 : UInt8) ∈ v <;> by_cases h5 : (98 : UInt8) ∈ v <;> by_cases h6 : (99 : UInt8) ∈ v <;> simp_all
    obtain ⟨k1, k2, k3⟩ := key
    constructor
    · intro h
      rcases okC_iff.1 (hu c h) with rfl | rfl | rfl
      · exact k1.1 h
      · exact k2.1 h
      · exact k3.1 h
    · intro h
      rcases okC_iff.1 (hv c h) with rfl | rfl | rfl
      · exact k1.2 h
      · exact k2.2 h
      · exact k3.2 h
  · intro h
    unfold ltr
    simp only [h]
theorem ltr_range {u : List UInt8} (h : okW u = true) : 1 ≤ ltr u ∧ ltr u ≤ 7 := by
  have hw := okW_iff.1 h
  have h0 : 0 < u.length := hw.2.1
  have hm := lt_mem h0
  have hc := okC_iff.1 (hw.1 _ hm)
  generalize lt u 0 = c at hm hc
  unfold ltr
  rcases hc with rfl | rfl | rfl
  all_goals
    by_cases h1 : (97 : UInt8) ∈ u <;> by_cases h2 : (98 : UInt8) ∈ u <;> by_cases h3 : (99 : UInt8) ∈ u <;> simp_all
/-- A word turned round. -/
def rndW (u : List UInt8) : List UInt8 := if okW u = true then u.reverse else []
theorem rndW_not {u : List UInt8} (h : okW u = false) : rndW u = [] := by unfold rndW; rw [if_neg (by rw [h]; exact Bool.false_ne_true)]
theorem rndW_ok {u : List UInt8} (h : okW u = true) : rndW u = u.reverse := by unfold rndW; rw [if_pos h]
theorem drop_rev {u : List UInt8} {m : Nat} (h : m < u.length) : (u.drop (m + 1)).reverse ++ [lt u m] = (u.drop m).reverse := by
  have e : lt u m = u[m] := by simp [lt, h]
  rw [List.drop_eq_getElem_cons h, e, List.reverse_cons]
theorem ext_one {u : List UInt8} {k : Nat} (h : k < u.length) : (bs u).extract k (k + 1) = bs [lt u k] := by
  have e : lt u k = u[k] := by simp [lt, h]
  rw [ext_bs, e, Nat.add_sub_cancel_left, List.drop_eq_getElem_cons h]
  rfl
theorem ext_take (u : List UInt8) (k : Nat) : (bs u).extract 0 k = bs (u.take k) := by rw [ext_bs]; simp
theorem okW_take {u : List UInt8} (h : okW u = true) {k : Nat} (h1 : 1 ≤ k) (h2 : k ≤ u.length) : okW (u.take k) = true := by
  obtain ⟨a, b, c⟩ := okW_iff.1 h
  exact okW_iff.2 ⟨fun x hx => a x (List.mem_of_mem_take hx), by rw [List.length_take]; omega, by rw [List.length_take]; omega⟩
theorem take_lt {u : List UInt8} {k : Nat} (hk : k < u.length) : u.take (k + 1) = u.take k ++ [lt u k] := by
  have : lt u k = u[k] := by simp [lt, hk]
  rw [this, List.take_succ_eq_append_getElem hk]
/-- The head under way. -/
theorem hd_start {u : List UInt8} (h : 0 < u.length) : HdIs (u.take 1) (u.take 0) (lt u 0) := by
  have := take_lt h
  rw [this]
  exact ⟨⟨[], by simp, fun y hy => by cases hy⟩, by simp⟩
theorem hd_old {u : List UInt8} {k a : Nat} (hk : k < u.length) (h : HdIs (u.take k) (u.take a) (lt u a)) (hm : lt u k ∈ u.take k) : HdIs (u.take (k + 1)) (u.take a) (lt u a) := by
  rw [take_lt hk]; exact h.old hm
theorem hd_new {u : List UInt8} {k : Nat} (hk : k < u.length) (hm : lt u k ∉ u.take k) : HdIs (u.take (k + 1)) (u.take k) (lt u k) := by
  rw [take_lt hk]; exact HdIs.fresh hm
theorem let_old {u : List UInt8} (h : okW u = true) {k : Nat} (h1 : 1 ≤ k) (hk : k < u.length) (hm : lt u k ∈ u.take k) : letN (u.take (k + 1)) = letN (u.take k) := by
  have o1 := okW_take h h1 (by omega : k ≤ u.length)
  have o2 := okW_take h (k := k + 1) (by omega) (by omega)
  rw [letN_ok o1, letN_ok o2, (ltr_iff (okW_iff.1 o2).1 (okW_iff.1 o1).1).2 fun c => by
    rw [take_lt hk, List.mem_append, List.mem_singleton]
    exact ⟨fun h => h.elim id (fun e => e ▸ hm), .inl⟩]
theorem let_new {u : List UInt8} (h : okW u = true) {k : Nat} (h1 : 1 ≤ k) (hk : k < u.length) (hm : lt u k ∉ u.take k) : letN (u.take (k + 1)) ≠ letN (u.take k) := by
  have o1 := okW_take h h1 (by omega : k ≤ u.length)
  have o2 := okW_take h (k := k + 1) (by omega) (by omega)
  rw [letN_ok o1, letN_ok o2]
  intro e
  have e' : ltr (u.take (k + 1)) = ltr (u.take k) := by omega
  exact hm (((ltr_iff (okW_iff.1 o2).1 (okW_iff.1 o1).1).1 e' _).1 (by rw [take_lt hk]; simp))
/-- The head of a word, and its letter; nothing for others. -/
def hdW (u : List UInt8) : List UInt8 := if okW u = true then hd u else []
def hlW (u : List UInt8) : List UInt8 := if okW u = true then [hl u] else []
def tlW (u : List UInt8) : List UInt8 := if okW u = true then tl u else []
def llW (u : List UInt8) : List UInt8 := if okW u = true then [ll u] else []
section
variable {u : List UInt8}
theorem hdW_not (h : okW u = false) : hdW u = [] := by unfold hdW; rw [if_neg (by rw [h]; exact Bool.false_ne_true)]
theorem hlW_not (h : okW u = false) : hlW u = [] := by unfold hlW; rw [if_neg (by rw [h]; exact Bool.false_ne_true)]
theorem tlW_not (h : okW u = false) : tlW u = [] := by unfold tlW; rw [if_neg (by rw [h]; exact Bool.false_ne_true)]
theorem llW_not (h : okW u = false) : llW u = [] := by unfold llW; rw [if_neg (by rw [h]; exact Bool.false_ne_true)]
theorem hdW_ok (h : okW u = true) : hdW u = hd u := by unfold hdW; rw [if_pos h]
theorem hlW_ok (h : okW u = true) : hlW u = [hl u] := by unfold hlW; rw [if_pos h]
theorem tlW_ok (h : okW u = true) : tlW u = tl u := by unfold tlW; rw [if_pos h]
theorem llW_ok (h : okW u = true) : llW u = [ll u] := by unfold llW; rw [if_pos h]
theorem okW_ne (h : okW u = true) : u ≠ [] := fun e => by have := (okW_iff.1 h).2.1; rw [e] at this; simp at this
theorem okW_pre {h : List UInt8} {x : UInt8} (hw : okW u = true) (k : HdIs u h x) : h = [] ∨ okW h = true := by
  by_cases e : h = []
  · exact .inl e
  · obtain ⟨a, b, c⟩ := okW_iff.1 hw
    have hl := k.lt
    exact .inr (okW_iff.2 ⟨fun y hy => a y (k.mem.2 (.inl hy)), List.length_pos_iff.2 e, by omega⟩)
theorem okW_rev : okW u.reverse = okW u := by
  rw [Bool.eq_iff_iff, okW_iff, okW_iff]
  simp
theorem rnd_hd (hw : okW u = true) : rndW (hd u.reverse) = tl u := by
  have hr : okW u.reverse = true := by rw [okW_rev]; exact hw
  rcases okW_pre hr (hdIs (okW_ne hr)) with e | e
  · rw [e, rndW_not (by rfl)]
    unfold tl; rw [e]; rfl
  · rw [rndW_ok e]; rfl
end
section
variable {u v : List UInt8}
theorem okW_app (h1 : okW u = true) (h2 : okW v = true) (h : u.length + v.length ≤ 24) : okW (u ++ v) = true := by
  obtain ⟨a1, a2, a3⟩ := okW_iff.1 h1
  obtain ⟨b1, b2, b3⟩ := okW_iff.1 h2
  exact okW_iff.2 ⟨fun c hc => (List.mem_append.1 hc).elim (a1 c) (b1 c), by rw [List.length_append]; omega, by rw [List.length_append]; omega⟩
theorem letN_mem (h1 : okW u = true) (h2 : okW v = true) (h : ∀ c, c ∈ u ↔ c ∈ v) : letN u = letN v := by
  rw [letN_ok h1, letN_ok h2, (ltr_iff (okW_iff.1 h1).1 (okW_iff.1 h2).1).2 h]
theorem okW_sub (h1 : okW u = true) (hs : ∀ c, c ∈ v → c ∈ u) (hl : v.length ≤ u.length) (h0 : v ≠ []) : okW v = true := by
  obtain ⟨a1, a2, a3⟩ := okW_iff.1 h1
  exact okW_iff.2 ⟨fun c hc => a1 c (hs c hc), List.length_pos_iff.2 h0, by omega⟩
theorem add_bs {P : Program} (u v : List UInt8) (h : u.length + v.length ≤ 9223372036854775807) (w : World) : (Op.stringOp .add (bs u) (bs v)).run P w = .ok (.string (bs (u ++ v))) w := by
  rw [run_string_add_sum w _ _ (by rw [size_bs, size_bs]; exact h), app_bs]
theorem eq_bs (u v : List UInt8) : ((bs u).toList == (bs v).toList) = decide (u = v) := by
  rw [toList_bs, toList_bs]
  rw [Bool.eq_iff_iff, beq_iff_eq, decide_eq_true_iff]
end
end Go.Proofs.Ythllbekoidogpaa

namespace Go.Proofs.Ythllbekoidogpaa
set_option linter.unusedVariables false
section
variable {u v : List UInt8}
def sameB (u v : List UInt8) : Bool := decide (made u = made v)
theorem sameB_iff : sameB u v = true ↔ Same u v := by unfold sameB; rw [decide_eq_true_iff, same_iff_made]
theorem sameB_nil (h : u = [] ∨ v = []) : sameB u v = decide (u = v) := by
  rw [Bool.eq_iff_iff, sameB_iff, decide_eq_true_iff]
  constructor
  · intro s
    rcases h with rfl | rfl
    · exact (s.nil_iff.1 rfl).symm
    · exact s.nil_iff.2 rfl
  · rintro rfl
    exact Same.refl _
theorem sameB_step (hu : u ≠ []) (hv : v ≠ []) : sameB u v = (decide ([hl u] = [hl v]) && (decide ([ll u] = [ll v]) && (sameB (hd u) (hd v) && sameB (tl u) (tl v)))) := by
  rw [Bool.eq_iff_iff, sameB_iff, same_iff hu hv]
  simp only [Bool.and_eq_true, decide_eq_true_iff, sameB_iff, List.cons.injEq, and_true]
theorem sameB_let (hu : okW u = true) (hv : okW v = true) (h : letN u ≠ letN v) : sameB u v = false := by
  cases e : sameB u v with
  | false => rfl
  | true => exact absurd (letN_mem hu hv (sameB_iff.1 e).mem) h
/-- Words, and the empty text. -/
def okE (u : List UInt8) : Prop := u = [] ∨ okW u = true
theorem okE_sub (h : okW u = true) (hs : ∀ c, c ∈ v → c ∈ u) (hl : v.length ≤ u.length) : okE v := by
  by_cases e : v = []
  · exact .inl e
  · exact .inr (okW_sub h hs hl e)
theorem okE_hd (h : okW u = true) : okE (hd u) := okE_sub h (fun c hc => (hdIs (okW_ne h)).mem.2 (.inl hc)) (Nat.le_of_lt (hd_lt (okW_ne h)))
theorem okE_tl (h : okW u = true) : okE (tl u) := okE_sub h (fun c hc => (tlIs (okW_ne h)).mem.2 (.inl hc)) (Nat.le_of_lt (tl_lt (okW_ne h)))
theorem okE_len (h : okE u) : u.length ≤ 24 := by
  rcases h with rfl | h
  · simp
  · exact (okW_iff.1 h).2.2
theorem made_short (h : okW u = true) : (made u).length ≤ 10 := made_ten fun y hy => okC_iff.1 ((okW_iff.1 h).1 y hy)
/-- One letter, again and again: told by the set of letters. -/
theorem one_iff (h : okW u = true) : (ltr u = 1 ∨ ltr u = 2 ∨ ltr u = 4) ↔ ∀ y, y ∈ u → y = lt u 0 := by
  have h1 := (okW_iff.1 h).2.1
  have h0 : lt u 0 ∈ u := lt_mem h1
  have hc : ∀ y, y ∈ u → y = 97 ∨ y = 98 ∨ y = 99 := fun y hy => okC_iff.1 ((okW_iff.1 h).1 y hy)
  have hd : ∀ (p q r : Bool), ((if p then 1 else 0) ||| (if q then 2 else 0) ||| (if r then 4 else 0) : Nat) = 1 ∨ ((if p then 1 else 0) ||| (if q then 2 else 0) ||| (if r then 4 else 0) : Nat) = 2 ∨ ((if p then 1 else 0) ||| (if q then 2 else 0) ||| (if r then 4 else 0) : Nat) = 4 ↔ (p && !q && !r || !p && q && !r || !p && !q && r) = true := by decide
  have hk : ltr u = ((if decide (97 ∈ u) then 1 else 0) ||| (if decide (98 ∈ u) then 2 else 0) ||| (if decide (99 ∈ u) then 4 else 0) : Nat) := by
    unfold ltr
    simp only [decide_eq_true_eq]
  rw [hk, hd]
  simp only [Bool.or_eq_true, Bool.and_eq_true, Bool.not_eq_true', decide_eq_true_iff, decide_eq_false_iff_not]
  constructor
  · intro hh y hy
    have a := hc _ h0
    have b := hc y hy
    rcases hh with (⟨⟨p, q⟩, r⟩ | ⟨⟨p, q⟩, r⟩) | ⟨⟨p, q⟩, r⟩ <;> rcases a with a | a | a <;> rcases b with b | b | b <;> rw [a] at h0 <;> rw [b] at hy <;> first | (rw [a, b]; done) | exact absurd h0 ‹_› | exact absurd hy ‹_›
  · intro ha
    rcases hc _ h0 with a | a | a
    · exact .inl (.inl ⟨⟨a ▸ h0, fun hx => by have := ha _ hx; rw [a] at this; revert this; decide⟩, fun hx => by have := ha _ hx; rw [a] at this; revert this; decide⟩)
    · exact .inl (.inr ⟨⟨fun hx => by have := ha _ hx; rw [a] at this; revert this; decide, a ▸ h0⟩, fun hx => by have := ha _ hx; rw [a] at this; revert this; decide⟩)
    · exact .inr ⟨⟨fun hx => by have := ha _ hx; rw [a] at this; revert this; decide, fun hx => by have := ha _ hx; rw [a] at this; revert this; decide⟩, a ▸ h0⟩
def oneB (u : List UInt8) : Bool := decide (1 ≤ letN u) && decide (letN u ≤ 2) || letN u == 4
theorem oneB_made (h : okW u = true) (ho : oneB u = true) : made u = u.take 1 := by
  have h1 := (okW_iff.1 h).2.1
  have hr := ltr_range h
  have ha : ∀ y, y ∈ u → y = lt u 0 := (one_iff h).1 (by
    unfold oneB at ho
    rw [letN_ok h] at ho
    simp only [Bool.or_eq_true, Bool.and_eq_true, decide_eq_true_iff, beq_iff_eq] at ho
    omega)
  rw [made_one (okW_ne h) ha]
  cases u with
  | nil => simp at h1
  | cons a r => simp [lt]
theorem oneB_step (h : okW u = true) (ho : oneB u = false) : made u = made (hd u) ++ [hl u] ++ [ll u] ++ made (tl u) := by
  rw [made_step (okW_ne h) fun ha => ?_]
  · simp
  · have h0 : lt u 0 ∈ u := lt_mem (okW_iff.1 h).2.1
    have e : ltr u = 1 ∨ ltr u = 2 ∨ ltr u = 4 := (one_iff h).2 fun y hy => (ha y hy).trans (ha _ h0).symm
    unfold oneB at ho
    rw [letN_ok h] at ho
    have : (decide (1 ≤ ((ltr u : Nat) : Int)) && decide (((ltr u : Nat) : Int) ≤ 2) || ((ltr u : Nat) : Int) == 4) = true := by
      simp only [Bool.or_eq_true, Bool.and_eq_true, decide_eq_true_iff, beq_iff_eq]
      omega
    rw [this] at ho
    cases ho
end
end Go.Proofs.Ythllbekoidogpaa

namespace Go.Proofs.Ythllbekoidogpaa
open Go.RowKit
set_option linter.unusedVariables false

section
variable {P : Program} {t : TypeId} (ht : P.underlying t = some .string) (u : List UInt8)
include ht
theorem slice_lh (i j : Int) (a b : Nat) (hi : i = a) (hj : j = b) (h : a ≤ b) (hb : b ≤ u.length) (w : World) :
    (Instr.slice t (.string (bs u)) (some (.int .i64 i)) (some (.int .i64 j)) none).run P w = .ok (.string (bs ((u.drop a).take (b - a)))) w := by
  subst hi hj
  have hz := size_bs u
  have e := ext_bs u a b
  have h1 : ((b : Int) ≤ ((bs u).size : Int)) := by omega
  have h2 : ((a : Int) ≤ (b : Int)) := by omega
  simp [Instr.slice, run_underlying ht, Instr.sliceBounds, run_sliceBound, *]
theorem slice_to (j : Int) (b : Nat) (hj : j = b) (hb : b ≤ u.length) (w : World) :
    (Instr.slice t (.string (bs u)) none (some (.int .i64 j)) none).run P w = .ok (.string (bs (u.take b))) w := by
  subst hj
  have hz := size_bs u
  rw [run_slice_string_h w t (bs u) ht .i64 _ (by omega) (by omega), Int.toNat_natCast, ext_take]
theorem slice_from (i : Int) (a : Nat) (hi : i = a) (ha : a ≤ u.length) (w : World) :
    (Instr.slice t (.string (bs u)) (some (.int .i64 i)) none none).run P w = .ok (.string (bs (u.drop a))) w := by
  subst hi
  have hz := size_bs u
  rw [run_slice_string_l w t (bs u) ht .i64 _ (by omega) (by omega), Int.toNat_natCast, ext_bs, hz, List.take_of_length_le (by rw [List.length_drop]; omega)]
theorem slice_one (i j : Int) (a : Nat) (hi : i = a) (hj : j = (a : Int) + 1) (h : a < u.length) (w : World) :
    (Instr.slice t (.string (bs u)) (some (.int .i64 i)) (some (.int .i64 j)) none).run P w = .ok (.string (bs [lt u a])) w := by
  have := slice_lh ht u i j a (a + 1) hi (by omega) (by omega) (by omega) w
  rw [this, ← ext_bs, ext_one h]
end
end Go.Proofs.Ythllbekoidogpaa
