/-  -/
import Derived.RangeFuncNested
import Derived.RangeFuncFrom
import Derived.RangeFuncCalls
import Derived.RangeFuncBox
import Derived.Test.YtnchipcpeeofaaaMQ01
namespace Go.Proofs.Ytnchipcpeeofaaa
open Go.RowKit
set_option linter.unusedVariables false

/-- Each block below n that is none of X lies as it lay. -/
structure Kept (n : Nat) (X : Nat → Prop) (V V' : World) : Prop where
  low : Below 0 V V'
  same : ∀ b, b < n → ¬ X b → V'.heap[b]? = V.heap[b]?
theorem below_put0 (W : World) (l : Nat) (o : Obj) : Below 0 W (W.putObj l o) := ⟨rfl, rfl, rfl, by simp, fun k hk => absurd hk (Nat.not_lt_zero _)⟩
section
variable {n n' : Nat} {X X' : Nat → Prop} {A B C : World}
theorem Kept.refl (n : Nat) (X : Nat → Prop) (A : World) : Kept n X A A := ⟨Below.refl _ _, fun _ _ _ => rfl⟩
theorem Kept.trans (h : Kept n X A B) (k : Kept n X B C) : Kept n X A C := ⟨h.low.trans k.low, fun b hb hx => (k.same b hb hx).trans (h.same b hb hx)⟩
theorem Kept.mono (h : Kept n X A B) (hn : n' ≤ n) (hX : ∀ b, X b → X' b) : Kept n' X' A B := ⟨h.low, fun b hb hx => h.same b (by omega) (fun k => hx (hX b k))⟩
theorem Kept.of (h : Below n A B) (X : Nat → Prop) : Kept n X A B := ⟨h.mono (Nat.zero_le _), fun b hb _ => h.block b hb⟩
theorem Kept.put {l : Nat} (o : Obj) (h : n ≤ l ∨ X l) : Kept n X A (A.putObj l o) := ⟨⟨rfl, rfl, rfl, by simp, fun k hk => absurd hk (Nat.not_lt_zero _)⟩, fun b hb hx => World.putObj_heap_other (fun e => by subst e; rcases h with h | h; omega; exact hx h)⟩
end

/-- What speaks of the blocks below B, and of those of X, alone; these are there. -/
structure Rests {α : Type} (B : Nat) (J : List α → (Nat → Prop) → World → Prop) : Prop where
  there : ∀ {s X A}, J s X A → ∀ b, X b → b < A.heap.size
  move : ∀ {s X A A'}, J s X A → Below 0 A A' → (∀ b, (b < B ∨ X b) → b < A.heap.size → A'.heap[b]? = A.heap[b]?) → J s X A'
theorem rests_false {α : Type} (B : Nat) : Rests B (fun (_ : List α) (_ : Nat → Prop) (_ : World) => False) := ⟨fun h => h.elim, fun h => h.elim⟩
theorem Rests.mono {α : Type} {B B' : Nat} {J : List α → (Nat → Prop) → World → Prop} (h : Rests B J) (hB : B ≤ B') : Rests B' J := ⟨h.there, fun hj hl hs => h.move hj hl (fun b hb => hs b (hb.imp (fun k => by omega) id))⟩

/-- The outcome of one round: it has written its own blocks and new ones. -/
def Dealt {α : Type} (J Jx : List α → (Nat → Prop) → World → Prop) (s : List α) (X : Nat → Prop) (V : World) (e : Ending) (V' : World) : Prop :=
  ∃ X' : Nat → Prop, (∀ b, X' b → X b ∨ V.heap.size ≤ b) ∧ Kept V.heap.size X V V' ∧ ((e = .returned (.bool true) ∧ J s X' V') ∨ (e = .returned (.bool false) ∧ Jx s X' V'))

/-- How the body of a round may be left. -/
def Ends {α : Type} (I Ix : List α → (Nat → Prop) → World → Prop) (s : List α) (X : Nat → Prop) (nV : Nat) (V2 : World) : Exit → Act → World → Prop
  | .normal, _, V3 => ∃ X' : Nat → Prop, (∀ b, X' b → X b ∨ nV ≤ b) ∧ Kept nV X V2 V3 ∧ I s X' V3
  | .ret, _, V3 => ∃ X' : Nat → Prop, (∀ b, X' b → X b ∨ nV ≤ b) ∧ Kept nV X V2 V3 ∧ Ix s X' V3
  | _, _, _ => False

/-- The loop's record. -/
def recOf (fn : FuncId) (tmps : Array Value) (ps : Array Tmp) (assign body : Code) (d : Nat) (st : LoopState) (pe : Option Code) : Loop := { state := st, pending := pe, fn := fn, tmps := tmps, params := ps, assign := assign, body := body, defers := d }

end Go.Proofs.Ytnchipcpeeofaaa

namespace Go.Proofs.Ytnchipcpeeofaaa
open Go.RowKit
set_option linter.unusedVariables false

/-- What is handed: a row in a block of the iterator's own, none of the caller's. -/
def HRow (lo : Nat) (X : Nat → Prop) (f : List Int) (vs : Array Value) (V : World) : Prop :=
  ∃ g, lo ≤ g ∧ g < V.heap.size ∧ ¬ X g ∧ vs = #[.slice (some ⟨g, 0, none⟩) f.length f.length] ∧ Cells V g f
section
variable {lo : Nat} {X X' : Nat → Prop} {f : List Int} {vs : Array Value} {V V' : World}
theorem HRow.sub (h : HRow lo X f vs V) (hX : ∀ b, X' b → X b) : HRow lo X' f vs V := by
  obtain ⟨g, h1, h2, h3, h4, h5⟩ := h
  exact ⟨g, h1, h2, fun k => h3 (hX g k), h4, h5⟩
theorem HRow.keep (h : HRow lo X f vs V) (hs : V.heap.size ≤ V'.heap.size) (hk : ∀ b, lo ≤ b → ¬ X b → b < V.heap.size → V'.heap[b]? = V.heap[b]?) : HRow lo X f vs V' := by
  obtain ⟨g, h1, h2, h3, h4, h5⟩ := h
  exact ⟨g, h1, by omega, h3, h4, h5.keep (hk g h1 h3 h2)⟩
end
/-- The iterator hands over a row for each thing of the list xs, one after the other, to whatever caller, and writes none of the caller's blocks; C: the blocks that the iterator reads. -/
def HandsM {α : Type} (P : Program) (gf : Nat) (args : Nat → Array Value) (row : α → List Int) (xs : List α) (C : Nat → Prop) (w : World) : Prop :=
  ∀ (l : Nat) (J Jx : List α → (Nat → Prop) → World → Prop) (X : Nat → Prop) (W : World), Below w.heap.size w W → (∀ b, X b → ¬ C b) → Rests W.heap.size J → Rests W.heap.size Jx → J [] X W →
    (∀ s x vs X V m, J s X V → s ++ [x] <+: xs → HRow W.heap.size X (row x) vs V → YieldAt Fence.wide m P l vs V (Dealt J Jx (s ++ [x]) X V)) →
    ∀ m, CallsIn Fence.wide m P gf (args l) W fun e V => (∃ v, e = .returned v) ∧ ((∃ X', J xs X' V) ∨ ∃ s X', Jx s X' V)
/-- One round: the assignments to the loop's variables, then its body. -/
def RoundM {α : Type} (P : Program) (I Ix : List α → (Nat → Prop) → World → Prop) (row : α → List Int) (xs : List α) (ps : Array Tmp) (assign body : Code) (tmps : Array Value) (l : Nat) (m : Nat) : Prop :=
  ∀ (s : List α) (x : α) (vs : Array Value) (X : Nat → Prop) (V : World) (lo : Nat), I s X V → ¬ X l → l < V.heap.size → s ++ [x] <+: xs → l < lo → HRow lo X (row x) vs V →
    assign.wpIn (Fence.wide.inRound l) m P (Exit.then (fun a₁ V1 => Kept V.heap.size (fun _ => False) V V1 ∧
        ∀ V2 r, Below 0 V1 V2 → V2.heap.size = V1.heap.size → (∀ b, b ≠ l → V2.heap[b]? = V1.heap[b]?) → V2.heap[l]? = some (.loop r) → I s X V2 → HRow lo X (row x) vs V2 →
          body.wpIn (Fence.wide.inRound l) m P (Ends I Ix (s ++ [x]) X V.heap.size V2) a₁ V2) (fun _ _ _ => False)) { tmps := (ps.zip vs).foldl (fun t (p, v) => t.setIfInBounds p v) tmps, defers := [] } V

set_option maxHeartbeats 1000000 in
theorem range_coreM {α : Type} {P : Program} {ps : Array Tmp} {assign body : Code} {tmps : Array Value} {w0 U : World} {gf : Nat} {args : Nat → Array Value} {row : α → List Int} {xs : List α} {I Ix : List α → (Nat → Prop) → World → Prop} {X0 C : Nat → Prop}
    (fn : FuncId) (d nw L D : Nat) (t : Bool) (hps : ps.size = 1) (hit : HandsM P gf args row xs C w0) (hb0 : Below w0.heap.size w0 U) (hI : Rests nw I) (hIx : Rests nw Ix) (hnw : nw ≤ U.heap.size) (hC : ∀ b, C b → b < w0.heap.size) (hX0 : ∀ b, X0 b → ¬ C b)
    (hL0 : w0.heap.size ≤ L) (hLU : L < U.heap.size) (hD0 : t = true → w0.heap.size ≤ D) (hXL : ¬ X0 L) (hXD : t = true → ¬ X0 D) (hne : t = true → D ≠ L) (hnL : nw ≤ L) (h0 : I [] X0 U)
    (recL : U.heap[L]? = some (.loop (recOf fn tmps ps assign body d .ready none))) (recD : t = true → U.heap[D]? = some (.deferred (some [])))
    (hround : ∀ m, RoundM P I Ix row xs ps assign body tmps L m) (m : Nat) :
    CallsIn Fence.wide m P gf (args L) U fun e V => (∃ v, e = .returned v) ∧
      ((∃ X, ¬ X L ∧ (t = true → ¬ X D) ∧ I xs X V ∧ V.heap[L]? = some (.loop (recOf fn tmps ps assign body d .ready none)) ∧ (t = true → V.heap[D]? = some (.deferred (some [])))) ∨
       ∃ s X, ¬ X L ∧ (t = true → ¬ X D) ∧ Ix s X V ∧ V.heap[L]? = some (.loop (recOf fn tmps ps assign body d .done (some .ret))) ∧ (t = true → V.heap[D]? = some (.deferred (some [])))) := by
  have step := hit L
    (fun s Y V => ∃ X, (∀ b, Y b ↔ X b ∨ b = L ∨ (t = true ∧ b = D)) ∧ ¬ X L ∧ (t = true → ¬ X D) ∧ I s X V ∧ V.heap[L]? = some (.loop (recOf fn tmps ps assign body d .ready none)) ∧ (t = true → V.heap[D]? = some (.deferred (some []))))
    (fun s Y V => ∃ X, (∀ b, Y b ↔ X b ∨ b = L ∨ (t = true ∧ b = D)) ∧ ¬ X L ∧ (t = true → ¬ X D) ∧ Ix s X V ∧ V.heap[L]? = some (.loop (recOf fn tmps ps assign body d .done (some .ret))) ∧ (t = true → V.heap[D]? = some (.deferred (some []))))
    (fun b => X0 b ∨ b = L ∨ (t = true ∧ b = D)) U hb0
    (fun b hb => by
      rcases hb with hb | rfl | ⟨ht, rfl⟩
      · exact hX0 b hb
      · exact fun k => by have := hC _ k; omega
      · exact fun k => by have := hC _ k; have := hD0 ht; omega)
    ⟨fun {s Y A} h b hb => by
      obtain ⟨X, hY, _, _, hi, hl, hd⟩ := h
      rcases (hY b).1 hb with hb | rfl | ⟨ht, rfl⟩
      · exact hI.there hi b hb
      · exact (Array.getElem?_eq_some_iff.1 hl).1
      · exact (Array.getElem?_eq_some_iff.1 (hd ht)).1,
     fun {s Y A A'} h hl0 hs => by
      obtain ⟨X, hY, n1, n2, hi, hl, hd⟩ := h
      exact ⟨X, hY, n1, n2, hI.move hi hl0 (fun b hb hlt => hs b (hb.imp (fun k => by omega) (fun k => (hY b).2 (.inl k))) hlt), (hs L (.inr ((hY L).2 (.inr (.inl rfl)))) (Array.getElem?_eq_some_iff.1 hl).1).trans hl,
        fun ht => (hs D (.inr ((hY D).2 (.inr (.inr ⟨ht, rfl⟩)))) (Array.getElem?_eq_some_iff.1 (hd ht)).1).trans (hd ht)⟩⟩
    ⟨fun {s Y A} h b hb => by
      obtain ⟨X, hY, _, _, hi, hl, hd⟩ := h
      rcases (hY b).1 hb with hb | rfl | ⟨ht, rfl⟩
      · exact hIx.there hi b hb
      · exact (Array.getElem?_eq_some_iff.1 hl).1
      · exact (Array.getElem?_eq_some_iff.1 (hd ht)).1,
     fun {s Y A A'} h hl0 hs => by
      obtain ⟨X, hY, n1, n2, hi, hl, hd⟩ := h
      exact ⟨X, hY, n1, n2, hIx.move hi hl0 (fun b hb hlt => hs b (hb.imp (fun k => by omega) (fun k => (hY b).2 (.inl k))) hlt), (hs L (.inr ((hY L).2 (.inr (.inl rfl)))) (Array.getElem?_eq_some_iff.1 hl).1).trans hl,
        fun ht => (hs D (.inr ((hY D).2 (.inr (.inr ⟨ht, rfl⟩)))) (Array.getElem?_eq_some_iff.1 (hd ht)).1).trans (hd ht)⟩⟩
    ⟨X0, fun b => Iff.rfl, hXL, hXD, h0, recL, recD⟩ (fun s x vs Y V k hJ hx hH => ?_) m
  · refine step.mono ?_
    rintro e V ⟨hv, ⟨Y, X, _, h⟩ | ⟨s, Y, X, _, h⟩⟩
    · exact ⟨hv, .inl ⟨X, h⟩⟩
    · exact ⟨hv, .inr ⟨s, X, h⟩⟩
  · obtain ⟨X, hY, nL, nD, hi, hl, hd⟩ := hJ
    have llt : L < V.heap.size := (Array.getElem?_eq_some_iff.1 hl).1
    have hvs : vs.size = ps.size := by
      obtain ⟨g, _, _, _, e, _⟩ := hH
      rw [e, hps]; rfl
    have hHX : HRow U.heap.size X (row x) vs V := hH.sub fun b hb => (hY b).2 (.inl hb)
    have hy := run_yield (P := P) (args := vs) hl (by rw [hvs]; rfl)
    refine ⟨fn, _, assign, body, hy, roundIn_of_wpIn trivial (wpIn_mono (hround k s x vs X V _ hi nL llt hx hLU hHX) ?_)⟩
    rintro e a1 V1 hp
    cases e with
    | normal =>
      obtain ⟨hk1, hbody⟩ := hp
      have hl1 : V1.heap[L]? = some (.loop (recOf fn tmps ps assign body d .ready none)) := (hk1.same L llt id).trans hl
      have llt1 : L < V1.heap.size := (Array.getElem?_eq_some_iff.1 hl1).1
      have hbr := run_beginRound (P := P) hl1 rfl
      generalize hV2 : V1.putObj L (.loop { recOf fn tmps ps assign body d .ready none with state := .busy }) = V2 at hbr
      have hl2 : V2.heap[L]? = some (.loop { recOf fn tmps ps assign body d .ready none with state := .busy }) := by rw [← hV2]; exact World.putObj_heap_same llt1
      have ho2 : ∀ b, b ≠ L → V2.heap[b]? = V1.heap[b]? := fun b hb => by rw [← hV2]; exact World.putObj_heap_other hb
      have hz2 : V2.heap.size = V1.heap.size := by rw [← hV2]; simp
      have hb2 : Below 0 V1 V2 := by rw [← hV2]; exact below_put0 _ _ _
      have hi2 : I s X V2 := hI.move hi (hk1.low.trans hb2) (fun b hb hlt => by
        have hne : b ≠ L := by rintro rfl; rcases hb with hb | hb; omega; exact nL hb
        exact (ho2 b hne).trans (hk1.same b hlt id))
      have hH2 : HRow U.heap.size X (row x) vs V2 := hHX.keep (Nat.le_trans hk1.low.size (by omega)) fun b h1 h2 h3 => (ho2 b (by omega)).trans (hk1.same b h3 id)
      refine ⟨V2, hbr, wpIn_mono (hbody V2 _ hb2 hz2 ho2 hl2 hi2 hH2) ?_⟩
      have fin : ∀ (jump : Option Code) (X' : Nat → Prop) (V3 : World), (∀ b, X' b → X b ∨ V.heap.size ≤ b) → Kept V.heap.size X V2 V3 →
          (Instr.endRound L jump).run P V3 = .ok (.bool jump.isNone) (V3.putObj L (.loop (recOf fn tmps ps assign body d (if jump.isNone then .ready else .done) jump))) ∧
          (V3.putObj L (.loop (recOf fn tmps ps assign body d (if jump.isNone then .ready else .done) jump))).heap[L]? = some (.loop (recOf fn tmps ps assign body d (if jump.isNone then .ready else .done) jump)) ∧
          (t = true → (V3.putObj L (.loop (recOf fn tmps ps assign body d (if jump.isNone then .ready else .done) jump))).heap[D]? = some (.deferred (some []))) ∧ ¬ X' L ∧ (t = true → ¬ X' D) ∧
          (∀ b, (X' b ∨ b = L ∨ (t = true ∧ b = D)) → Y b ∨ V.heap.size ≤ b) ∧ Kept V.heap.size Y V (V3.putObj L (.loop (recOf fn tmps ps assign body d (if jump.isNone then .ready else .done) jump))) := fun jump X' V3 hg hk3 => by
        have hl3 := (hk3.same L llt nL).trans hl2
        have hr := run_endRound (P := P) jump hl3
        have llt3 : L < V3.heap.size := (Array.getElem?_eq_some_iff.1 hl3).1
        refine ⟨hr, World.putObj_heap_same llt3, fun ht => ?_, fun k => ?_, fun ht k => ?_, fun b hb => ?_, ?_⟩
        · have dlt : D < V.heap.size := (Array.getElem?_eq_some_iff.1 (hd ht)).1
          exact (World.putObj_heap_other (hne ht)).trans ((hk3.same D dlt (nD ht)).trans ((ho2 D (hne ht)).trans ((hk1.same D dlt id).trans (hd ht))))
        · rcases hg L k with k | k
          · exact nL k
          · omega
        · have dlt : D < V.heap.size := (Array.getElem?_eq_some_iff.1 (hd ht)).1
          rcases hg D k with k | k
          · exact nD ht k
          · omega
        · rcases hb with hb | hb
          · exact (hg b hb).imp (fun k => (hY b).2 (.inl k)) id
          · exact .inl ((hY b).2 (.inr hb))
        · refine ⟨((hk1.low.trans hb2).trans hk3.low).trans (below_put0 _ _ _), fun b hb hx => ?_⟩
          have nb : b ≠ L := fun e => hx ((hY b).2 (.inr (.inl e)))
          exact (World.putObj_heap_other nb).trans ((hk3.same b hb (fun k => hx ((hY b).2 (.inl k)))).trans ((ho2 b nb).trans (hk1.same b hb id)))
      rintro e a3 V3 hp
      cases e with
      | normal =>
        obtain ⟨X', hg, hk3, hi3⟩ := hp
        obtain ⟨hr, f1, f2, f3, f4, f5, f6⟩ := fin none X' V3 hg hk3
        exact ⟨_, _, hr, _, f5, f6, .inl ⟨rfl, X', fun b => Iff.rfl, f3, f4, hI.move hi3 (below_put0 _ _ _) (fun b hb _ => World.putObj_heap_other (by rintro rfl; rcases hb with hb | hb; omega; exact f3 hb)), f1, f2⟩⟩
      | ret =>
        obtain ⟨X', hg, hk3, hi3⟩ := hp
        obtain ⟨hr, f1, f2, f3, f4, f5, f6⟩ := fin (some .ret) X' V3 hg hk3
        exact ⟨_, _, hr, _, f5, f6, .inr ⟨rfl, X', fun b => Iff.rfl, f3, f4, hIx.move hi3 (below_put0 _ _ _) (fun b hb _ => World.putObj_heap_other (by rintro rfl; rcases hb with hb | hb; omega; exact f3 hb)), f1, f2⟩⟩
      | exit id => exact hp.elim
      | goto t => exact hp.elim
      | panic ch => exact hp.elim
      | outgrown => exact hp.elim
    | exit id => exact hp.elim
    | goto t => exact hp.elim
    | ret => exact hp.elim
    | panic ch => exact hp.elim
    | outgrown => exact hp.elim

set_option maxHeartbeats 1000000 in
/-- The statement 'for .. := range f { .. }', outside of every other one. -/
theorem range_topM {α : Type} {P : Program} {n : Nat} {g : Operand} {ps : Array Tmp} {assign body : Code} {Q : Exit → Act → World → Prop} {a : Act} {w w0 : World} {gf : Nat} {fa lb : Array Value} {row : α → List Int} {xs : List α} {C : Nat → Prop}
    (hg : a.eval g = .func (.func gf) fa lb) (eg : ∀ args w, (callFunc gf args).run P w = .ok (.enter gf args) w) (hps : ps.size = 1)
    (hit : HandsM P gf (fun l => fa ++ #[.func (.yield l) #[] #[]] ++ lb) row xs C w0) (hb0 : Below w0.heap.size w0 w)
    (I Ix : List α → (Nat → Prop) → World → Prop) (X0 : Nat → Prop) (hI : Rests w.heap.size I) (hIx : Rests w.heap.size Ix) (hC : ∀ b, C b → b < w0.heap.size) (hX0 : ∀ b, X0 b → ¬ C b) (h0 : I [] X0 w)
    (hround : ∀ l m, w.heap.size ≤ l → RoundM P I Ix row xs ps assign body a.tmps l m)
    (hdone : ∀ X V, I xs X V → ¬ X w.heap.size → V.heap[w.heap.size]? = some (.deferred (some [])) → Q .normal { a with defers := { target := .collected w.heap.size, args := #[] } :: a.defers } V)
    (hstop : ∀ s X V, Ix s X V → ¬ X w.heap.size → V.heap[w.heap.size]? = some (.deferred (some [])) → Code.ret.wpIn Fence.wide n P Q { a with defers := { target := .collected w.heap.size, args := #[] } :: a.defers } V) :
    (Code.rangeFunc g ps assign body).wpIn Fence.wide n P Q a w := by
  refine wpIn_rangeFunc fun fn hfn => ?_
  generalize hU : (w.alloc (.deferred (some []))).alloc (.loop (recOf fn a.tmps ps assign body w.heap.size .ready none)) = U
  have hBU : Below w.heap.size w U := by rw [← hU]; exact ((Below.refl _ w).alloc (Nat.le_refl _) _).alloc (by simp) _
  have hsz : U.heap.size = w.heap.size + 2 := by rw [← hU]; simp
  have rec0 : U.heap[w.heap.size + 1]? = some (.loop (recOf fn a.tmps ps assign body w.heap.size .ready none)) := by
    have h := World.alloc_heap_new (w.alloc (.deferred (some []))) (.loop (recOf fn a.tmps ps assign body w.heap.size .ready none))
    rw [World.size_alloc, hU] at h
    exact h
  have dfr0 : U.heap[w.heap.size]? = some (.deferred (some [])) := by
    rw [← hU]
    exact (Below.heap_alloc _ _ _ (by simp)).trans (World.alloc_heap_new w _)
  have hX : ∀ b, X0 b → b < w.heap.size := hI.there h0
  refine ⟨w.heap.size + 1, [{ target := .collected w.heap.size, args := #[] }], U, { target := .fn (.func gf) lb, args := fa ++ #[.func (.yield (w.heap.size + 1)) #[] #[]] }, U, gf,
    fa ++ #[.func (.yield (w.heap.size + 1)) #[] #[]] ++ lb, U, ?_, ?_, fun _ _ => trivial, ?_, fun h => by simp [Fence.wide] at h, ?_⟩
  · rw [← hU]
    exact run_enterLoop_outer _ _ _ _ _
  · simp only [resolve, hg]
    simp [go_sem]
  · simp [invoke, go_sem, eg]
  · refine (range_coreM (X0 := X0) fn w.heap.size w.heap.size (w.heap.size + 1) w.heap.size true hps hit (hb0.trans (hBU.mono hb0.size)) hI hIx (by omega) hC hX0 (by have := hb0.size; omega) (by omega) (fun _ => hb0.size)
      (fun k => by have := hX _ k; omega) (fun _ k => by have := hX _ k; omega) (fun _ => by omega) (by omega)
      (hI.move h0 (hBU.mono (Nat.zero_le _)) (fun b hb hlt => hBU.block b hlt)) rec0 (fun _ => dfr0) (fun m => hround _ m (by omega)) (n - 1)).mono ?_
    rintro e V ⟨⟨v, rfl⟩, ⟨X, nL, nD, hi, hl, hd⟩ | ⟨s, X, nL, nD, hi, hl, hd⟩⟩
    · have hend := run_endLoop (P := P) hl (by simp [recOf])
      exact ⟨none, _, hend, hdone X _ (hI.move hi (below_put0 _ _ _) (fun b hb _ => World.putObj_heap_other (by rintro rfl; rcases hb with hb | hb; omega; exact nL hb))) (nD rfl) ((World.putObj_heap_other (by omega)).trans (hd rfl))⟩
    · have hend := run_endLoop (P := P) hl (by simp [recOf])
      exact ⟨some .ret, _, hend, hstop s X _ (hIx.move hi (below_put0 _ _ _) (fun b hb _ => World.putObj_heap_other (by rintro rfl; rcases hb with hb | hb; omega; exact nL hb))) (nD rfl) ((World.putObj_heap_other (by omega)).trans (hd rfl))⟩

end Go.Proofs.Ytnchipcpeeofaaa
