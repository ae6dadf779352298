/-  -/
import Derived.Deep.AppendLies
import Derived.Test.YtnchipcpeeofaaaMQ02
namespace Go.Proofs.Ytnchipcpeeofaaa
open Go.RowKit
set_option linter.unusedVariables false

/-- A row of the call's own, made by appending: blocks from base on. -/
def ARow (base : Nat) (w : World) (v : Value) (xs : List Int) : Prop := w.ownsRow base 3 1 v xs.length (xs.map (Value.int .i64))
/-- A table of the call's own, made by appending rows. -/
def ATab (base : Nat) (w : World) (v : Value) (T : List (List Int)) : Prop :=
  ∃ vs : List Value, w.ownsRow base 24 1 v T.length vs ∧ ∀ i, i < T.length → ∃ u, vs[i]? = some u ∧ ARow base w u (rw_ T i)

section
variable {base : Nat} {w w' : World} {v : Value} {xs : List Int} {T : List (List Int)}
theorem ownsRow_below {e : TypeId} {size n : Nat} {vs : List Value} (h : w.ownsRow base e size v n vs) (hb : Below w.heap.size w w') : w'.ownsRow base e size v n vs := by
  obtain ⟨h1, h2⟩ := h
  refine ⟨h1, h2.imp id ?_⟩
  rintro ⟨g, cap, cur, hv, hg, hh, r⟩
  exact ⟨g, cap, cur, hv, hg, (hb.block g (Array.getElem?_eq_some_iff.1 hh).1).trans hh, r⟩
theorem ownsRow_mono {e : TypeId} {size n base' : Nat} {vs : List Value} (h : w.ownsRow base e size v n vs) (hb : base' ≤ base) : w.ownsRow base' e size v n vs := by
  obtain ⟨h1, h2⟩ := h
  refine ⟨h1, h2.imp id ?_⟩
  rintro ⟨g, cap, cur, hv, hg, r⟩
  exact ⟨g, cap, cur, hv, Nat.le_trans hb hg, r⟩
theorem ARow.below (h : ARow base w v xs) (hb : Below w.heap.size w w') : ARow base w' v xs := ownsRow_below h hb
theorem ARow.mono {base' : Nat} (h : ARow base w v xs) (hb : base' ≤ base) : ARow base' w v xs := ownsRow_mono h hb
theorem ATab.below (h : ATab base w v T) (hb : Below w.heap.size w w') : ATab base w' v T := by
  obtain ⟨vs, h1, h2⟩ := h
  exact ⟨vs, ownsRow_below h1 hb, fun i hi => by
    obtain ⟨u, hu, hr⟩ := h2 i hi
    exact ⟨u, hu, hr.below hb⟩⟩
theorem ARow.drewN (h : ARow base w v xs) (n : Nat) : ARow base (w.drewN n) v xs := h
theorem ATab.drewN (h : ATab base w v T) (n : Nat) : ATab base (w.drewN n) v T := h
theorem ARow.nil_ (base : Nat) (w : World) : ARow base w (.slice none 0 0) [] := World.ownsRow_nil w base _ _
theorem ARow.made (hb : base ≤ w.heap.size) : ARow base (w.alloc (.cells #[] 3)) (.slice (some ⟨w.heap.size, 0, none⟩) 0 0) [] := World.ownsRow_made w #[] 0 hb (by simp [maxLen]) rfl
theorem ATab.nil_ (base : Nat) (w : World) : ATab base w (.slice none 0 0) [] := ⟨[], World.ownsRow_nil w base _ _, fun i hi => absurd hi (Nat.not_lt_zero _)⟩
theorem ATab.made (hb : base ≤ w.heap.size) : ATab base (w.alloc (.cells #[] 24)) (.slice (some ⟨w.heap.size, 0, none⟩) 0 0) [] := ⟨[], World.ownsRow_made w #[] 0 hb (by simp [maxLen]) rfl, fun i hi => absurd hi (Nat.not_lt_zero _)⟩

theorem ARow.val (h : ARow base w v xs) : ∃ A c, v = .slice A xs.length c ∧ xs.length ≤ c ∧ c ≤ 9223372036854775807 ∧ Row w base w.heap.size A xs := by
  rcases h.2 with ⟨rfl, h0⟩ | ⟨g, cap, cur, rfl, hg, hh, hc, hm, _, _⟩
  · have : xs = [] := List.eq_nil_of_length_eq_zero h0
    subst this
    exact ⟨none, 0, rfl, Nat.le_refl _, by omega, Row.nil _ _ _ _⟩
  · refine ⟨_, cap, rfl, hc, by rw [maxLen_is] at hm; exact hm, fun j hj => ⟨g, 0, rfl, hg, (Array.getElem?_eq_some_iff.1 hh).1, ?_⟩⟩
    have := h.cells (g := g) rfl j (.int .i64 (el xs j)) (by simp [hj, el, List.getD])
    simpa [Addr.add_lit] using this
theorem ATab.val (h : ATab base w v T) : ∃ A c, v = .slice A T.length c ∧ T.length ≤ c ∧ c ≤ 9223372036854775807 ∧ Mat w base w.heap.size A T := by
  obtain ⟨vs, h1, h2⟩ := h
  rcases h1.2 with ⟨rfl, h0⟩ | ⟨g, cap, cur, rfl, hg, hh, hc, hm, _, _⟩
  · have : T = [] := List.eq_nil_of_length_eq_zero h0
    subst this
    exact ⟨none, 0, rfl, Nat.le_refl _, by omega, Mat.nil _ _ _ _⟩
  · refine ⟨_, cap, rfl, hc, by rw [maxLen_is] at hm; exact hm, fun i hi => ?_⟩
    obtain ⟨u, hu, hr⟩ := h2 i hi
    obtain ⟨A', c', rfl, _, _, hR⟩ := hr.val
    have := h1.cells (g := g) rfl i _ hu
    exact ⟨g, 0, A', c', rfl, hg, (Array.getElem?_eq_some_iff.1 hh).1, by simpa [Addr.add_lit] using this, hR⟩

theorem own_ne {e e' : TypeId} {b b' size size' n n' : Nat} {v v' : Value} {vs vs' : List Value} (h : w.ownsRow b e size v n vs) (h' : w.ownsRow b' e' size' v' n' vs') (hne : e ≠ e') : v.ownBlock = none ∨ v.ownBlock ≠ v'.ownBlock := by
  rcases h.2 with ⟨rfl, _⟩ | ⟨g, cap, cur, rfl, _, hh, _⟩
  · left; rfl
  · right
    intro he
    rcases h'.2 with ⟨rfl, _⟩ | ⟨g', cap', cur', rfl, _, hh', _⟩
    · simp [Value.ownBlock] at he
    · have : g = g' := by simpa [Value.ownBlock] using he
      subst this
      rw [hh] at hh'
      injection hh' with hh'
      injection hh' with _ ht
      exact hne ht
theorem grown_alloc {w1 : World} {row : Option Nat} (o : Obj) (hg : (w.alloc o).grownBy w1 row) : w.grownBy w1 row :=
  ⟨hg.os, hg.tape, hg.output, Nat.le_trans (by simp) hg.size, fun k hk hne => (hg.block k (by simp; omega) hne).trans (Below.heap_alloc _ _ _ hk)⟩
theorem ARow.belowOf {base0 : Nat} {w1 : World} (h : ARow base w v xs) (hg : w.grownBy w1 v.ownBlock) (hb : base0 ≤ base) (hw : base0 ≤ w.heap.size) : Below base0 w w1 :=
  (Below.refl _ _).grown hg hw fun k hk => Nat.le_trans hb (h.lt k hk).1
theorem ATab.belowOf {base0 : Nat} {w1 : World} (h : ATab base w v T) (hg : w.grownBy w1 v.ownBlock) (hb : base0 ≤ base) (hw : base0 ≤ w.heap.size) : Below base0 w w1 := by
  obtain ⟨vs, h1, _⟩ := h
  exact (Below.refl _ _).grown hg hw fun k hk => Nat.le_trans hb (h1.lt k hk).1
end

/-- 'row = append(row, q)'. -/
theorem wp_app_int {ops : Array Oper} {rest : List Oper} {o : Oper} {a : Act} {Q : Exit → Act → World → Prop} {w : World} (hgd : o.guard = none) (s x : Operand)
    (ho : o.op = .call { callee := .builtin .append, args := #[s, x], argTypes := #[24, 24] }) (base : Nat) (v : Value) (xs : List Int) (q : Int) (c : Nat) (hs : a.eval s = v) (hx : a.eval x = .slice (some ⟨w.heap.size, 0, none⟩) 1 c)
    (hown : ARow base w v xs) (hn : xs.length ≤ 1048576) (hb : base ≤ w.heap.size)
    (h : ∀ v' w', ARow base w' v' (xs ++ [q]) → w.grownBy w' v.ownBlock → wpList Try.prog ops Q rest (a.put o.dst v') w') : wpList Try.prog ops Q (o :: rest) a (w.alloc (.cells #[.int .i64 q] 3)) := by
  obtain ⟨i0, hi0, hz0, hz1, hz2⟩ := info_parts info_int
  refine wpList_append_own _ hgd s x 24 ho base 3 i0 (.int .i64 0) 1 8 Try.underlying24 hi0 hz0 hz1 hz2 rfl (by decide) v _ _ hs (hown.alloc _) ⟨w.heap.size, 0, none⟩ 1 c [.int .i64 q] hx rfl
    (World.news_of_block (cs := #[.int .i64 q]) (t := 3) (fr := (0, 0)) (heap_alloc_new _ _)) (by simp [Value.oneCell']) (by rw [maxLen_is]; omega) (by omega) (by simp; omega) ?_
  intro v' w' h1 h2 _
  exact h v' w' (by unfold ARow; simpa using h1) (grown_alloc _ h2)

/-- 'row = append(row, q)' inside a region that draws its order. -/
theorem step_app_int {ops : Array Oper} {o : Oper} {a : Act} {K : Act → World → Prop} {Q : Exit → Act → World → Prop} {E : Prop} {w : World} (hgd : o.guard = none) (s x : Operand)
    (ho : o.op = .call { callee := .builtin .append, args := #[s, x], argTypes := #[24, 24] }) (base : Nat) (v : Value) (xs : List Int) (q : Int) (c : Nat) (hs : a.eval s = v) (hx : a.eval x = .slice (some ⟨w.heap.size, 0, none⟩) 1 c)
    (hown : ARow base w v xs) (hn : xs.length ≤ 1048576) (hb : base ≤ w.heap.size)
    (h : ∀ v' w', ARow base w' v' (xs ++ [q]) → w.grownBy w' v.ownBlock → K (a.put o.dst v') w') :
    if Region.wanted o (yielded ops a.tmps) = true then Oper.wp Try.prog o a (w.alloc (.cells #[.int .i64 q] 3)) K Q else E := by
  have hw : Region.wanted o (yielded ops a.tmps) = true := by simp [Region.wanted, hgd]
  rw [if_pos hw]
  obtain ⟨i0, hi0, hz0, hz1, hz2⟩ := info_parts info_int
  refine wp_append_own _ s x 24 ho base 3 i0 (.int .i64 0) 1 8 Try.underlying24 hi0 hz0 hz1 hz2 rfl (by decide) v _ _ hs (hown.alloc _) ⟨w.heap.size, 0, none⟩ 1 c [.int .i64 q] hx rfl
    (World.news_of_block (cs := #[.int .i64 q]) (t := 3) (fr := (0, 0)) (heap_alloc_new _ _)) (by simp [Value.oneCell']) (by rw [maxLen_is]; omega) (by omega) (by simp; omega) ?_
  intro v' w' h1 h2 _
  exact h v' w' (by unfold ARow; simpa using h1) (grown_alloc _ h2)

theorem step_app_drew {ops : Array Oper} {o : Oper} {a : Act} {K : Act → World → Prop} {Q : Exit → Act → World → Prop} {E : Prop} {w : World} (hgd : o.guard = none) (s x : Operand)
    (ho : o.op = .call { callee := .builtin .append, args := #[s, x], argTypes := #[24, 24] }) (base : Nat) (v : Value) (xs : List Int) (q : Int) (c : Nat) (hs : a.eval s = v) (hx : a.eval x = .slice (some ⟨w.heap.size, 0, none⟩) 1 c)
    (hown : ARow base w v xs) (hn : xs.length ≤ 1048576) (hb : base ≤ w.heap.size)
    (h : ∀ v' w', ARow base w' v' (xs ++ [q]) → w.grownBy w' v.ownBlock → K (a.put o.dst v') w') :
    if Region.wanted o (yielded ops a.tmps) = true then Oper.wp Try.prog o a (w.alloc (.cells #[.int .i64 q] 3)).drew K Q else E :=
  step_app_int (w := w.drew) hgd s x ho base v xs q c hs hx hown hn hb fun v' w' h1 h2 => h v' w' h1 ⟨h2.os, h2.tape, h2.output, h2.size, h2.block⟩

/-- 'table = append(table, row)'. -/
theorem wp_app_row {ops : Array Oper} {rest : List Oper} {o : Oper} {a : Act} {Q : Exit → Act → World → Prop} {w : World} (hgd : o.guard = none) (s x : Operand)
    (ho : o.op = .call { callee := .builtin .append, args := #[s, x], argTypes := #[23, 23] }) (base : Nat) (v u : Value) (T : List (List Int)) (xs : List Int) (c : Nat) (hs : a.eval s = v) (hx : a.eval x = .slice (some ⟨w.heap.size, 0, none⟩) 1 c)
    (hown : ATab base w v T) (hrow : ARow base w u xs) (hn : T.length ≤ 1048576) (hb : base ≤ w.heap.size)
    (h : ∀ v' w', ATab base w' v' (T ++ [xs]) → w.grownBy w' v.ownBlock → wpList Try.prog ops Q rest (a.put o.dst v') w') : wpList Try.prog ops Q (o :: rest) a (w.alloc (.cells #[u] 24)) := by
  obtain ⟨i0, hi0, hz0, hz1, hz2⟩ := info_parts info_row
  obtain ⟨vs, ho1, ho2⟩ := hown
  have hu1 : u.oneCell' = true := by
    obtain ⟨A, c, rfl, _⟩ := hrow.val
    rfl
  refine wpList_append_own _ hgd s x 23 ho base 24 i0 (.slice none 0 0) 1 24 Try.underlying23 hi0 hz0 hz1 hz2 rfl (by decide) v _ _ hs (ho1.alloc _) ⟨w.heap.size, 0, none⟩ 1 c [u] hx rfl
    (World.news_of_block (cs := #[u]) (t := 24) (fr := (0, 0)) (heap_alloc_new _ _)) (by intro y hy; simp at hy; subst hy; exact hu1) (by rw [maxLen_is]; omega) (by omega) (by simp; omega) ?_
  intro v' w' h1 h2 _
  have hg := grown_alloc _ h2
  have keep : ∀ {u' : Value} {ys : List Int}, ARow base w u' ys → ARow base w' u' ys := fun hr => World.ownsRow.kept hr hg (own_ne hr ho1 (by decide))
  refine h v' w' ⟨vs ++ [u], by simpa using h1, fun i hi => ?_⟩ hg
  have hl : vs.length = T.length := by have := ho1.1; simpa using this
  by_cases e : i < T.length
  · obtain ⟨u', hu', hr⟩ := ho2 i e
    refine ⟨u', by rw [List.getElem?_append_left (by omega)]; exact hu', ?_⟩
    have : rw_ (T ++ [xs]) i = rw_ T i := by simp [rw_, List.getD, List.getElem?_append_left e]
    rw [this]; exact keep hr
  · have ei : i = T.length := by simp at hi; omega
    subst ei
    refine ⟨u, by rw [← hl]; simp, ?_⟩
    have : rw_ (T ++ [xs]) T.length = xs := by simp [rw_, List.getD]
    rw [this]; exact keep hrow
end Go.Proofs.Ytnchipcpeeofaaa

namespace Go.Proofs.Ytnchipcpeeofaaa
open Go.RowKit
set_option linter.unusedVariables false


def ORow (w : World) (lo hi : Nat) (A : Option Addr) (xs : List Int) : Prop := xs.length = 0 ∨ ∃ g, A = some ⟨g, 0, none⟩ ∧ lo ≤ g ∧ g < hi ∧ Cells w g xs
/-- A call that returns a row of its own. -/
def OwnRow (w : World) (xs : List Int) (e : Ending) (w' : World) : Prop := ∃ A c, e = .returned (.slice A xs.length c) ∧ Below w.heap.size w w' ∧ ORow w' w.heap.size w'.heap.size A xs ∧ xs.length ≤ c ∧ c ≤ 9223372036854775807
section
variable {w w' : World} {lo hi : Nat} {A : Option Addr} {xs : List Int}
theorem ORow.row (h : ORow w lo hi A xs) : Row w lo hi A xs := by
  rcases h with h | ⟨g, rfl, h1, h2, h3⟩
  · exact fun j hj => by omega
  · exact h3.row h1 h2
theorem ORow.keep (h : ORow w lo hi A xs) (hk : ∀ k, lo ≤ k → k < hi → w'.heap[k]? = w.heap[k]?) : ORow w' lo hi A xs := by
  rcases h with h | ⟨g, e, h1, h2, h3⟩
  · exact .inl h
  · exact .inr ⟨g, e, h1, h2, h3.keep (hk g h1 h2)⟩
theorem ORow.below {B : Nat} (h : ORow w lo hi A xs) (hb : Below B w w') (hB : hi ≤ B) : ORow w' lo hi A xs := h.keep fun k _ hk => hb.block k (by omega)
theorem ORow.only {lo' hi' : Nat} (h : ORow w lo hi A xs) (hb : Only lo' hi' w w') (hs : hi ≤ w.heap.size) (hd : hi ≤ lo' ∨ hi' ≤ lo) : ORow w' lo hi A xs := h.keep fun k h1 h2 => hb.block k (by omega) (by omega)
theorem ORow.mono {lo' hi' : Nat} (h : ORow w lo hi A xs) (h1 : lo' ≤ lo) (h2 : hi ≤ hi') : ORow w lo' hi' A xs := by
  rcases h with h | ⟨g, e, a1, a2, h3⟩
  · exact .inl h
  · exact .inr ⟨g, e, by omega, by omega, h3⟩
theorem ORow.nil (w : World) (lo hi : Nat) (A : Option Addr) : ORow w lo hi A [] := .inl rfl
end

set_option maxHeartbeats 1000000 in
theorem markRow_any (A : Option Addr) (c lo hi : Nat) (xs : List Int) (k : Int) (w : World) (h : ORow w lo hi A xs) (hn : xs.length ≤ 1048576) (h0 : 0 ≤ k) (h1 : k ≤ 8796093022208) :
    Calls Try.prog 47 #[.slice A xs.length c, .int .i64 k] w fun e w' => e = .returned (.int .i64 (k + xs.length)) ∧ Only lo hi w w' ∧ ORow w' lo hi A (marks xs.length k) := by
  rcases h with h | ⟨g, rfl, h2, h3, h4⟩
  · have hx : xs = [] := List.eq_nil_of_length_eq_zero h
    subst hx
    go_enter Try.func47, Try.ntmps47
    go_wp2
    go_loopg [5, 1] 1 (fun m i v wr => i = .int .i64 0 ∧ v = .int .i64 k ∧ w = wr)
    case atStart => exact ⟨rfl, rfl, rfl⟩
    case round =>
      obtain ⟨rfl, rfl, rfl⟩ := hrel
      go_wp2
      go_ret
      exact ⟨ret_int (by simp), Only.refl _ _ _, .inl (by simp [marks])⟩
  · refine (markIntS_any g c xs k w h4 hn h0 h1).mono ?_
    rintro e w' ⟨rfl, hO, hC⟩
    exact ⟨rfl, hO.mono h2 (by omega), .inr ⟨g, rfl, h2, h3, hC⟩⟩
end Go.Proofs.Ytnchipcpeeofaaa

namespace Go.Proofs.Ytnchipcpeeofaaa
open Go.RowKit
set_option linter.unusedVariables false


theorem xor_nat (a b : Nat) (ha : a < 4611686018427387904) (hb : b < 4611686018427387904) : bits .xor .i64 (a : Int) (b : Int) = ((a ^^^ b : Nat) : Int) := by
  have ha' : a % 2 ^ 64 = a := Nat.mod_eq_of_lt (by omega)
  have hb' : b % 2 ^ 64 = b := Nat.mod_eq_of_lt (by omega)
  have h : a ^^^ b < 2 ^ 62 := Nat.xor_lt_two_pow (by omega) (by omega)
  have e : IntKind.i64.bits = 64 := rfl
  simp only [bits, BitVec.ofInt_natCast, BitVec.toNat_xor, BitVec.toNat_ofNat, e, ha', hb']
  exact IntWalk.i64_in _ (by omega)
theorem xor_nonneg {x y : Int} (hx0 : 0 ≤ x) (hx1 : x < 4611686018427387904) (hy0 : 0 ≤ y) (hy1 : y < 4611686018427387904) : 0 ≤ bits .xor .i64 x y := by
  have := xor_nat x.toNat y.toNat (by omega) (by omega)
  rw [Int.toNat_of_nonneg hx0, Int.toNat_of_nonneg hy0] at this
  rw [this]; exact Int.natCast_nonneg _

/-- Bytes that came in, below block B. -/
def Bytes (w : World) (B : Nat) (A : Option Addr) (n : Nat) : Prop :=
  ∀ j, j < n → ∃ b o z, A = some ⟨b, o, none⟩ ∧ b < B ∧ w.cell? ⟨b, o + j, none⟩ = some (.int .u8 z) ∧ 0 ≤ z ∧ z ≤ 255
/-- The reader in block g, after P picks. -/
structure Rd (w : World) (B g P : Nat) (A : Option Addr) (n c : Nat) : Prop where
  heap : w.heap[g]? = some (.cells #[.slice A n c, .int .i64 (P : Nat)] 81 (0, 0))
  low : B ≤ g
  len : n ≤ 2000
  bytes : Bytes w B A n
theorem Rd.lt {w : World} {B g P n c : Nat} {A : Option Addr} (h : Rd w B g P A n c) : g < w.heap.size := (Array.getElem?_eq_some_iff.1 h.heap).1
theorem Rd.c0 {w : World} {B g P n c : Nat} {A : Option Addr} (h : Rd w B g P A n c) : w.cell? ⟨g, 0, none⟩ = some (.slice A n c) := by simp [World.cell?, h.heap]
theorem Rd.c1 {w : World} {B g P n c : Nat} {A : Option Addr} (h : Rd w B g P A n c) : w.cell? ⟨g, 1, none⟩ = some (.int .i64 (P : Nat)) := by simp [World.cell?, h.heap]
theorem Rd.f1 {w : World} {B g P n c : Nat} {A : Option Addr} (h : Rd w B g P A n c) : w.frozen? ⟨g, 1, none⟩ = false := by simp [World.frozen?, h.heap]
theorem Rd.next {w : World} {B g P n c : Nat} {A : Option Addr} (h : Rd w B g P A n c) : Rd (w.setCell ⟨g, 1, none⟩ (.int .i64 ((P : Int) + 1))) B g (P + 1) A n c := by
  refine ⟨?_, h.low, h.len, fun j hj => ?_⟩
  · simp [World.setCell, Array.getElem?_modify, h.heap]
  · obtain ⟨b, o, z, e, hb, hc, hz⟩ := h.bytes j hj
    exact ⟨b, o, z, e, hb, (World.cell?_of_block (w := w) (Below.heap_setCell _ _ _ _ (by show b ≠ g; have := h.low; omega))).trans hc, hz⟩
theorem Rd.below {w w' : World} {B g P n c : Nat} {A : Option Addr} (h : Rd w B g P A n c) (hb : Below w.heap.size w w') : Rd w' B g P A n c :=
  ⟨(hb.block g h.lt).trans h.heap, h.low, h.len, fun j hj => by
    obtain ⟨b, o, z, e, hlt, hc, hz⟩ := h.bytes j hj
    exact ⟨b, o, z, e, hlt, (hb.cell (p := ⟨b, o + j, none⟩) (by show b < _; have := h.low; have := h.lt; omega)).trans hc, hz⟩⟩
theorem Rd.drewN {w : World} {B g P n c : Nat} {A : Option Addr} (h : Rd w B g P A n c) (k : Nat) : Rd (w.drewN k) B g P A n c := ⟨h.heap, h.low, h.len, h.bytes⟩

/-- What a pick of m gives: a number below m (0 for m < 1), and only the reader has turned. -/
def Picked (w : World) (B g P : Nat) (A : Option Addr) (n c : Nat) (m : Int) (e : Ending) (w' : World) : Prop :=
  ∃ v : Int, e = .returned (.int .i64 v) ∧ 0 ≤ v ∧ (v < m ∨ v = 0) ∧ Rd w' B g (P + 1) A n c ∧ Only g (g + 1) w w' ∧ w'.heap.size = w.heap.size

set_option maxHeartbeats 4000000 in
theorem pick_any (B g P : Nat) (A : Option Addr) (n c : Nat) (m : Int) (w : World) (h : Rd w B g P A n c) (hP : P ≤ 100000) (hm0 : -100000 ≤ m) (hm : m ≤ 100000) :
    Calls Try.prog 72 #[.pointer (some ⟨g, 0, none⟩), .int .i64 m] w (Picked w B g P A n c m) := by
  have c0 := h.c0
  have c1 := h.c1
  have f1 := h.f1
  have hN := h.next
  have hO : Only g (g + 1) w (w.setCell ⟨g, 1, none⟩ (.int .i64 ((P : Int) + 1))) := Only.setCell (p := ⟨g, 1, none⟩) (Only.refl _ _ _) (Nat.le_refl _) (by show g < g + 1; omega) _
  have hsz : (w.setCell ⟨g, 1, none⟩ (.int .i64 ((P : Int) + 1))).heap.size = w.heap.size := by simp [World.setCell]
  have HZ := hide hsz
  clear hsz
  have n0 := hN.c0
  have n1 := hN.c1
  have n1' : (w.setCell ⟨g, 1, none⟩ (.int .i64 ((P : Int) + 1))).cell? ⟨g, 1, none⟩ = some (.int .i64 ((P : Int) + 1)) := by simpa using n1
  clear n1
  have hl := h.len
  by_cases hm1 : m < 1
  · go_enter Try.func72, Try.ntmps72
    go_wp2
    go_ret
    exact ⟨0, rfl, by omega, .inr rfl, hN, hO, HZ.out⟩
  by_cases hn0 : n = 0
  · subst hn0
    go_enter Try.func72, Try.ntmps72
    go_wp2
    go_ret
    exact ⟨0, rfl, by omega, .inr rfl, hN, hO, HZ.out⟩
  have hz : ((n : Int) == 0) = false := beq_eq_false_iff_ne.2 (by omega)
  by_cases hlt : P < n
  · obtain ⟨b, o, z, rfl, hb, hc, hz0, hz1⟩ := hN.bytes P hlt
    go_enter Try.func72, Try.ntmps72
    go_wp2
    go_ret
    exact ⟨z % m, rfl, Int.emod_nonneg _ (by omega), .inl (Int.emod_lt_of_pos _ (by omega)), hN, hO, HZ.out⟩
  · have hn1 : 1 ≤ n := by omega
    have d0 : 0 ≤ (P : Int) / (n : Int) := Int.ediv_nonneg (by omega) (by omega)
    have d1 : (P : Int) / (n : Int) ≤ 100000 := Int.le_trans (Int.ediv_le_self _ (by omega)) (by omega)
    have x0 : 0 ≤ (P : Int) % (n : Int) := Int.emod_nonneg _ (by omega)
    have x1 : (P : Int) % (n : Int) < (n : Int) := Int.emod_lt_of_pos _ (by omega)
    have y0 : 0 ≤ ((P : Int) * 7 + 3) % (n : Int) := Int.emod_nonneg _ (by omega)
    have y1 : ((P : Int) * 7 + 3) % (n : Int) < (n : Int) := Int.emod_lt_of_pos _ (by omega)
    obtain ⟨b, o, z1, rfl, hb, hc1, hz10, hz11⟩ := hN.bytes ((P : Int) % (n : Int)).toNat (by omega)
    obtain ⟨b', o', z2, e2, _, hc2, hz20, hz21⟩ := hN.bytes (((P : Int) * 7 + 3) % (n : Int)).toNat (by omega)
    obtain ⟨rfl, rfl⟩ : b = b' ∧ o = o' := by simpa using e2
    clear e2
    have hc1' := hc1
    have hc2' := hc2
    rw [show ((P : Int) % (n : Int)).toNat = P % n from by omega] at hc1'
    rw [show (((P : Int) * 7 + 3) % (n : Int)).toNat = (P * 7 + 3) % n from by
      rw [show ((P : Int) * 7 + 3) % (n : Int) = (((P * 7 + 3) % n : Nat) : Int) from by simp]; exact Int.toNat_natCast _] at hc2'
    go_enter Try.func72, Try.ntmps72
    go_wp2
    go_quiet (fail)
    obtain ⟨X, hX⟩ : ∃ X : Int, X = z1 * 131 + z2 * 1117 + (P : Int) * 29 + (P : Int) / (n : Int) * 53 := ⟨_, rfl⟩
    have hX0 : 0 ≤ X := by omega
    have hX1 : X ≤ 10000000 := by omega
    rw [← hX]
    have hv : 0 ≤ bits .xor .i64 X (X / 64) := xor_nonneg hX0 (by omega) (by omega) (by omega)
    clear hX
    go_wp2
    go_ret
    exact ⟨_, rfl, Int.emod_nonneg _ (by omega), .inl (Int.emod_lt_of_pos _ (by omega)), hN.drewN _, hO.drewN _, HZ.out⟩
end Go.Proofs.Ytnchipcpeeofaaa
