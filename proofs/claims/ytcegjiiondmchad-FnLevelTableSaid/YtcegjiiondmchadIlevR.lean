/-  -/
import Derived.RangeFuncFrom
import Derived.RangeFuncCalls
import Derived.RangeFuncBox
import Derived.Test.YtcegjiiondmchadMem
import Derived.Test.YtcegjiiondmchadIlev2
import Derived.Shelf.Abstract
import Derived.Shelf.RegionOpen
import Derived.WalkKit
import Derived.OwnWalkIn
import Derived.TacticsInMore
import Derived.LoopNIn
import Derived.LoopIn
namespace Go.Proofs.Ytcegjiiondmchad
open Go.RowKit
set_option linter.unusedVariables false

/-- How the body of a round may be left: off its end, or by a return. -/
def RoundEnd (Kp : World → World → Prop) (I Ix : Nat → World → Prop) (k : Nat) (W : World) : Exit → Act → World → Prop
  | .normal, _, V => KeepsOthers W V ∧ Kp W V ∧ I k V
  | .ret, _, V => KeepsOthers W V ∧ Ix k V
  | _, _, _ => False

/-- An iterator with N rounds: H: what is known of the two values handed in round k, in the world of the call (from the base on: new blocks); Kp: what a round that goes on must keep. -/
def Yields (P : Program) (m : Nat) (gf : Nat) (args : Nat → Array Value) (H : Nat → Nat → Value → Value → World → Prop) (Kp : World → World → Prop) (N : Nat) (w : World) : Prop :=
  ∀ (l : Nat) (J Jx : Nat → World → Prop) (W : World), Below w.heap.size w W → (∀ k A B, J k A → Below A.heap.size A B → J k B) →
    (∀ k x y V, J k V → k < N → H W.heap.size k x y V → YieldAt Fence.wide (m - 1) P l #[x, y] V fun e V' =>
      (e = .returned (.bool true) ∧ J (k + 1) V' ∧ Kp V V') ∨ (e = .returned (.bool false) ∧ Jx k V')) →
    J 0 W →
    CallsIn Fence.wide m P gf (args l) W fun e V => (∃ v, e = .returned v) ∧ (J N V ∨ ∃ k, k < N ∧ Jx k V)

theorem below_twice (w : World) (o o' : Obj) : Below w.heap.size w ((w.alloc o).alloc o') := ((Below.refl _ w).alloc (Nat.le_refl _) o).alloc (by simp) o'
theorem below_put {n l : Nat} {W : World} (o : Obj) (h : n ≤ l) : Below n W (W.putObj l o) := ⟨rfl, rfl, rfl, by simp, fun k hk => World.putObj_heap_other (by omega)⟩

set_option maxHeartbeats 1000000 in
/-- The statement 'for x, y := range t.m { .. }'. -/
theorem range_two {P : Program} {n : Nat} {g : Operand} {ps : Array Tmp} {assign body : Code} {Q : Exit → Act → World → Prop} {a : Act} {w w0 : World} {gf : Nat} {fa : Array Value}
    (hg : a.eval g = .func (.func gf) fa #[]) (eg : ∀ args w, (callFunc gf args).run P w = .ok (.enter gf args) w) (hps : ps.size = 2)
    {H : Nat → Nat → Value → Value → World → Prop} {Kp : World → World → Prop} {N : Nat}
    (hit : Yields P (n - 1) gf (fun l => fa ++ #[.func (.yield l) #[] #[]]) H Kp N w0) (hb0 : Below w0.heap.size w0 w)
    (hHp : ∀ k x y V r o, H (w.heap.size + 2) k x y V → V.heap[w.heap.size + 1]? = some (.loop r) → H (w.heap.size + 2) k x y (V.putObj (w.heap.size + 1) o))
    (hKt : ∀ {A B C : World}, Kp A B → Kp B C → Kp A C) (hKb : ∀ (V : World) r o, V.heap[w.heap.size + 1]? = some (.loop r) → Kp V (V.putObj (w.heap.size + 1) o))
    (I Ix : Nat → World → Prop) (hIa : ∀ k A B, I k A → Below A.heap.size A B → I k B)
    (hIp : ∀ k V r o, I k V → V.heap[w.heap.size + 1]? = some (.loop r) → I k (V.putObj (w.heap.size + 1) o))
    (hXp : ∀ k V r o, Ix k V → V.heap[w.heap.size + 1]? = some (.loop r) → Ix k (V.putObj (w.heap.size + 1) o))
    (h0 : I 0 w) (a₁ : Value → Value → Act)
    (hassign : ∀ (l : Nat) (x y : Value) (W : World) (K : Act → World → Prop), K (a₁ x y) W →
      assign.wpIn (Fence.wide.inRound l) (n - 1 - 1) P (Exit.then K (fun _ _ _ => False)) { tmps := (ps.zip #[x, y]).foldl (fun t (p, v) => t.setIfInBounds p v) a.tmps, defers := [] } W)
    (hbody : ∀ (k : Nat) (x y : Value) (W : World) r, I k W → k < N → H (w.heap.size + 2) k x y W → W.heap[w.heap.size + 1]? = some (.loop r) →
      body.wpIn (Fence.wide.inRound (w.heap.size + 1)) (n - 1 - 1) P (RoundEnd Kp (fun j V => I (j + 1) V) Ix k W) (a₁ x y) W)
    (hdone : ∀ (W : World), I N W → W.heap[w.heap.size]? = some (.deferred (some [])) → Q .normal { a with defers := { target := .collected w.heap.size, args := #[] } :: a.defers } W)
    (hstop : ∀ (k : Nat) (W : World), k < N → Ix k W → W.heap[w.heap.size]? = some (.deferred (some [])) → Code.ret.wpIn Fence.wide n P Q { a with defers := { target := .collected w.heap.size, args := #[] } :: a.defers } W) :
    (Code.rangeFunc g ps assign body).wpIn Fence.wide n P Q a w := by
  refine wpIn_rangeFunc fun fn hfn => ?_
  generalize hr0 : (fun (st : LoopState) (pe : Option Code) => ({ state := st, pending := pe, fn := fn, tmps := a.tmps, params := ps, assign := assign, body := body, defers := w.heap.size } : Loop)) = mk
  have mkp : ∀ st pe, (mk st pe).params = ps := fun st pe => by rw [← hr0]
  have mks : ∀ st pe, (mk st pe).state = st := fun st pe => by rw [← hr0]
  have mku : ∀ st pe st' pe', ({ mk st pe with state := st', pending := pe' } : Loop) = mk st' pe' := fun st pe st' pe' => by rw [← hr0]
  have mkb : ∀ st pe st', ({ mk st pe with state := st' } : Loop) = mk st' pe := fun st pe st' => by rw [← hr0]
  generalize hU : (w.alloc (.deferred (some []))).alloc (.loop (mk .ready none)) = U
  have hBU : Below w.heap.size w U := by rw [← hU]; exact below_twice w _ _
  have hsz : U.heap.size = w.heap.size + 2 := by rw [← hU]; simp
  have rec0 : U.heap[w.heap.size + 1]? = some (.loop (mk .ready none)) := by
    have h := World.alloc_heap_new (w.alloc (.deferred (some []))) (.loop (mk .ready none))
    rw [World.size_alloc, hU] at h
    exact h
  have dfr0 : U.heap[w.heap.size]? = some (.deferred (some [])) := by
    rw [← hU]
    exact (Below.heap_alloc _ _ _ (by simp)).trans (World.alloc_heap_new w _)
  refine ⟨w.heap.size + 1, [{ target := .collected w.heap.size, args := #[] }], U, { target := .fn (.func gf) #[], args := fa ++ #[.func (.yield (w.heap.size + 1)) #[] #[]] }, U, gf,
    fa ++ #[.func (.yield (w.heap.size + 1)) #[] #[]], U, ?_, ?_, fun _ _ => trivial, ?_, fun h => by simp [Fence.wide] at h, ?_⟩
  · rw [← hU, ← hr0]
    exact run_enterLoop_outer _ _ _ _ _
  · simp only [resolve, hg]
    simp [go_sem]
  · simp [invoke, go_sem, eg]
  · have step := hit (w.heap.size + 1)
      (fun k V => I k V ∧ V.heap[w.heap.size + 1]? = some (.loop (mk .ready none)) ∧ V.heap[w.heap.size]? = some (.deferred (some [])))
      (fun k V => Ix k V ∧ V.heap[w.heap.size + 1]? = some (.loop (mk .done (some .ret))) ∧ V.heap[w.heap.size]? = some (.deferred (some [])))
      U (hb0.trans (hBU.mono hb0.size))
      (fun k A B hA hAB => by
        have l1 : w.heap.size + 1 < A.heap.size := (Array.getElem?_eq_some_iff.1 hA.2.1).1
        exact ⟨hIa k A B hA.1 hAB, (hAB.block _ l1).trans hA.2.1, (hAB.block _ (by omega)).trans hA.2.2⟩)
      (fun k x y V hJ hk hH => ?_) ⟨hIa _ _ _ h0 hBU, rec0, dfr0⟩
    · refine step.mono ?_
      rintro e V ⟨⟨v, rfl⟩, ⟨hi, hl, hd⟩ | ⟨k, hk, hi, hl, hd⟩⟩
      · have hend := run_endLoop (P := P) hl (by rw [mks]; simp)
        have hpend : (mk .ready none).pending = none := by rw [← hr0]
        rw [hpend] at hend
        exact ⟨none, _, hend, hdone _ (hIp _ _ _ _ hi hl) ((World.putObj_heap_other (by omega)).trans hd)⟩
      · have hend := run_endLoop (P := P) hl (by rw [mks]; simp)
        have hpend : (mk .done (some .ret)).pending = some .ret := by rw [← hr0]
        rw [hpend] at hend
        exact ⟨some .ret, _, hend, hstop k _ hk (hXp _ _ _ _ hi hl) ((World.putObj_heap_other (by omega)).trans hd)⟩
    · -- a round
      obtain ⟨hi, hl, hd⟩ := hJ
      rw [hsz] at hH
      have llt : w.heap.size + 1 < V.heap.size := (Array.getElem?_eq_some_iff.1 hl).1
      have hy := run_yield (P := P) (args := #[x, y]) hl (by rw [mkp, hps]; rfl)
      generalize hV : V.putObj (w.heap.size + 1) (.loop (mk .busy none)) = V1
      have hb := run_beginRound (P := P) hl (by rw [mks])
      rw [mkb, hV] at hb
      have hl1 : V1.heap[w.heap.size + 1]? = some (.loop (mk .busy none)) := by rw [← hV]; exact World.putObj_heap_same llt
      have hd1 : V1.heap[w.heap.size]? = some (.deferred (some [])) := by rw [← hV]; exact (World.putObj_heap_other (by omega)).trans hd
      have hk1 : Kp V V1 := by rw [← hV]; exact hKb _ _ _ hl
      have hi1 : I k V1 := by rw [← hV]; exact hIp _ _ _ _ hi hl
      have hH1 : H (w.heap.size + 2) k x y V1 := by rw [← hV]; exact hHp _ _ _ _ _ _ hH hl
      have hasg := hassign (w.heap.size + 1) x y V (fun a' V' => ∃ V2, (Instr.beginRound (w.heap.size + 1)).run P V' = .ok () V2 ∧ body.wpIn (Fence.wide.inRound (w.heap.size + 1)) (n - 1 - 1) P
        (roundPost P (w.heap.size + 1) fun e V' => (e = .returned (.bool true) ∧ (I (k + 1) V' ∧ V'.heap[w.heap.size + 1]? = some (.loop (mk .ready none)) ∧ V'.heap[w.heap.size]? = some (.deferred (some []))) ∧ Kp V V') ∨
          (e = .returned (.bool false) ∧ Ix k V' ∧ V'.heap[w.heap.size + 1]? = some (.loop (mk .done (some .ret))) ∧ V'.heap[w.heap.size]? = some (.deferred (some [])))) a' V2)
        ⟨V1, hb, wpIn_mono (hbody k x y V1 _ hi1 hk hH1 hl1) ?_⟩
      · refine ⟨fn, _, assign, body, ?_, roundIn_of_wpIn hfn hasg⟩
        have e1 : (mk .ready none).fn = fn := by rw [← hr0]
        have e2 : (mk .ready none).tmps = a.tmps := by rw [← hr0]
        have e3 : (mk .ready none).assign = assign := by rw [← hr0]
        have e4 : (mk .ready none).body = body := by rw [← hr0]
        rw [mkp, e1, e2, e3, e4] at hy
        exact hy
      · -- the round's end
        intro e a3 V3 hp
        have hend : ∀ jump, KeepsOthers V1 V3 → (Instr.endRound (w.heap.size + 1) jump).run P V3 = .ok (.bool jump.isNone) (V3.putObj (w.heap.size + 1) (.loop (mk (if jump.isNone then .ready else .done) jump))) ∧
            V3.heap[w.heap.size + 1]? = some (.loop (mk .busy none)) ∧ w.heap.size + 1 < V3.heap.size ∧ V3.heap[w.heap.size]? = some (.deferred (some [])) := fun jump hko => by
          have hl3 := hko.same _ _ hl1 rfl
          have he := run_endRound (P := P) jump hl3
          rw [mku] at he
          exact ⟨he, hl3, (Array.getElem?_eq_some_iff.1 hl3).1, hko.same _ _ hd1 rfl⟩
        cases e with
        | normal =>
          obtain ⟨hko, hkp, hi3⟩ := hp
          obtain ⟨he, hl3, hlt3, hd3⟩ := hend none hko
          exact ⟨_, _, he, .inl ⟨rfl, ⟨hIp _ _ _ _ hi3 hl3, World.putObj_heap_same hlt3, (World.putObj_heap_other (by omega)).trans hd3⟩, hKt (hKt hk1 hkp) (hKb _ _ _ hl3)⟩⟩
        | ret =>
          obtain ⟨hko, hi3⟩ := hp
          obtain ⟨he, hl3, hlt3, hd3⟩ := hend (some .ret) hko
          exact ⟨_, _, he, .inr ⟨rfl, hXp _ _ _ _ hi3 hl3, World.putObj_heap_same hlt3, (World.putObj_heap_other (by omega)).trans hd3⟩⟩
        | exit id => exact hp.elim
        | goto t => exact hp.elim
        | panic ch => exact hp.elim
        | outgrown => exact hp.elim
end Go.Proofs.Ytcegjiiondmchad

namespace Go.Proofs.Ytcegjiiondmchad
open Go.RowKit
set_option linter.unusedVariables false


/-- What is handed to round k: the set of the things of level k, and their table, which is new. -/
def HandL (T : List (List Int)) (base k : Nat) (x y : Value) (V : World) : Prop :=
  ∃ (A' : Option Addr) (c' : Nat), x = .int .i64 (levB T k : Nat) ∧ y = .slice A' (partT T (levB T k : Nat)).length c' ∧ OMat V base V.heap.size A' (partT T (levB T k : Nat))
/-- What a round keeps: what lay before the loop, and boxes of tables. -/
def KeepL (n0 : Nat) (W V : World) : Prop :=
  Below n0 W V ∧ ∀ (b : Nat) (v : Value), W.heap[b]? = some (Obj.cells #[v] 44 (0, 0)) → V.heap[b]? = some (Obj.cells #[v] 44 (0, 0))
theorem KeepL.trans {n0 : Nat} {A B C : World} (h : KeepL n0 A B) (k : KeepL n0 B C) : KeepL n0 A C := ⟨h.1.trans k.1, fun b v hb => k.2 b v (h.2 b v hb)⟩
theorem KeepL.put {n0 l : Nat} {V : World} {r : Loop} (o : Obj) (h : n0 ≤ l) (hl : V.heap[l]? = some (.loop r)) : KeepL n0 V (V.putObj l o) :=
  ⟨below_put o h, fun b v hb => by
    by_cases e : b = l
    · subst e; rw [hl] at hb; cases hb
    · exact (World.putObj_heap_other e).trans hb⟩
theorem HandL.put {T : List (List Int)} {l k : Nat} {x y : Value} {V : World} {r : Loop} {o : Obj} (h : HandL T (l + 1) k x y V) (hl : V.heap[l]? = some (.loop r)) : HandL T (l + 1) k x y (V.putObj l o) := by
  obtain ⟨A', c', hx, hy, ho⟩ := h
  refine ⟨A', c', hx, hy, ?_⟩
  rw [World.putObj_size]
  exact ho.keep fun k h1 _ => World.putObj_heap_other (by omega)

theorem fs_neq_rp (r : Nat → Nat → Bool) (a : Nat) : (((fs r a : Nat) : Int) != ((a : Nat) : Int)) = !(rp r a) := by
  cases h : rp r a
  · have := (fs_some h).1
    simp; omega
  · rw [fs_rp h]; simp

set_option maxRecDepth 100000 in
set_option maxHeartbeats 4000000 in
theorem rect_yields (A : Option Addr) (c lo hi n0 m : Nat) (T : List (List Int)) (w : World) (h : Mat w lo hi A T) (hh : hi ≤ n0) (hn : n0 ≤ w.heap.size) (hb : bandT T = true) (hS : Small T) :
    Yields Try.prog m 76 (fun l => #[.agg #[.slice A T.length c]] ++ #[.func (.yield l) #[] #[]]) (HandL T) (KeepL n0) (nL T) w := by
  intro l J Jx W hW hJ hY h0
  have k := band_tab hb
  have k9 := k.hi
  have EE := hide (band_eqvL hb)
  have HB := hide hb
  have hTW := h.below hW (Nat.le_trans hh hn)
  have hWs := hW.size
  obtain ⟨W0, hW0⟩ : ∃ W0, W0 = W.alloc (.cells #[.slice A T.length c] 44) := ⟨_, rfl⟩
  have b0 : Below W.heap.size W W0 := by rw [hW0]; exact (Below.refl W.heap.size W).alloc (Nat.le_refl _) _
  have e0 : W0.heap[W.heap.size]? = some (.cells #[.slice A T.length c] 44) := by rw [hW0]; exact heap_alloc_new W _
  have z0 : W0.heap.size = W.heap.size + 1 := by rw [hW0]; simp
  have HY := hide hY
  have HJ := hide hJ
  have HI := hide (⟨HJ.out _ _ _ h0 b0, e0, hTW.below b0 (by omega), by omega⟩ : J 0 W0 ∧ W0.heap[W.heap.size]? = some (.cells #[.slice A T.length c] 44) ∧ Mat W0 lo hi A T ∧ W.heap.size < W0.heap.size)
  have HW0 := hide hW0
  clear hY hJ e0 z0 b0 h0 hTW hW0 hb
  refine callsIn_of_wp Try.func76 rfl trivial ?_ rfl
  simp only [Try.ntmps76, List.size_toArray, List.length_cons, List.length_nil, Nat.reduceAdd, Nat.reduceSub, Array.replicate_succ, Array.replicate_zero, List.push_toArray, List.append_toArray, List.nil_append, List.cons_append]
  gi_wp2
  rw [← HW0.out]
  gi_loopw [9] (fun i wr => ∃ p : Nat, p ≤ T.length ∧ i = .int .i64 p ∧ (J (ct (inLev T) p) wr ∧ wr.heap[W.heap.size]? = some (.cells #[.slice A T.length c] 44) ∧ Mat wr lo hi A T ∧ W.heap.size < wr.heap.size)) (fun i _ => T.length - (intOf i).toNat)
  case atStart => exact ⟨0, Nat.zero_le _, rfl, HI.out⟩
  case round =>
    clear HI
    obtain ⟨p, hp, rfl, hj, hbox, hT, hsz⟩ := hrel
    have hcell : wr.cell? ⟨W.heap.size, 0, none⟩ = some (.slice A T.length c) := by rw [cell_of_row wr W.heap.size 0 _ _ _ hbox]; rfl
    by_cases hlt : p < T.length
    · have hq := fs_neq_rp (inLev T) p
      cases hr : rp (inLev T) p
      · rw [hr] at hq
        have HC := hide (ct_not hr)
        gi_wp2_with fail
        refine ⟨trivial, (fun hd => by simp [Fence.wide] at hd), (callsIn_wide.2 (firstOn_any A c lo hi T p wr hT (by omega) k hlt)).mono ?_⟩
        rintro e w1 ⟨rfl, b1⟩
        have HN := hide (⟨HJ.out _ _ _ hj b1, (b1.block _ hsz).trans hbox, hT.below b1 (by omega), Nat.lt_of_lt_of_le hsz b1.size⟩ : J (ct (inLev T) p) w1 ∧ w1.heap[W.heap.size]? = some (.cells #[.slice A T.length c] 44) ∧ Mat w1 lo hi A T ∧ W.heap.size < w1.heap.size)
        gi_wp2
        go_roundw
        case rel => exact ⟨p + 1, by omega, by go_num, by rw [HC.out]; exact HN.out⟩
        case measure => simp [intOf]; omega
      · rw [hr] at hq
        have HC := hide (ct_rp hr)
        have hv : levA T p T.length = levB T (ct (inLev T) p) := by rw [levA_is HB.out hlt, num_rp hr]
        have hlv : ct (inLev T) p < nL T := by have := EE.out.num_lt hlt hlt; rw [num_rp hr] at this; exact this
        gi_wp2_with fail
        refine ⟨trivial, (fun hd => by simp [Fence.wide] at hd), (callsIn_wide.2 (firstOn_any A c lo hi T p wr hT (by omega) k hlt)).mono ?_⟩
        rintro e w1 ⟨rfl, b1⟩
        have hT1 := hT.below b1 (by omega)
        have s1 := b1.size
        have hc1 : w1.cell? ⟨W.heap.size, 0, none⟩ = some (.slice A T.length c) := (b1.cell (p := ⟨W.heap.size, 0, none⟩) hsz).trans hcell
        gi_wp2_with fail
        refine ⟨trivial, (fun hd => by simp [Fence.wide] at hd), (callsIn_wide.2 (setOn_any A c lo hi T p w1 hT1 (by omega) k hlt)).mono ?_⟩
        rw [hv]
        rintro e w2 ⟨rfl, b2⟩
        have hT2 := hT1.below b2 (by omega)
        have s2 := b2.size
        have hc2 : w2.cell? ⟨W.heap.size, 0, none⟩ = some (.slice A T.length c) := (b2.cell (p := ⟨W.heap.size, 0, none⟩) (by show W.heap.size < _; omega)).trans hc1
        gi_wp2_with fail
        refine ⟨trivial, (fun hd => by simp [Fence.wide] at hd), (callsIn_wide.2 (iPartOf_any A c lo hi T (levB T (ct (inLev T) p) : Nat) w2 hT2 (by omega) hS)).mono ?_⟩
        rintro e w3 ⟨A3, c3, rfl, b3, o3⟩
        have B3 := (b1.trans (b2.mono s1)).trans (b3.mono (Nat.le_trans s1 s2))
        have hbox3 := (B3.block _ hsz).trans hbox
        have hT3 := hT.below B3 (by omega)
        have s3 := B3.size
        obtain ⟨fn, tmps, assign, body, hy, hR⟩ := HY.out (ct (inLev T) p) _ _ w3 (HJ.out _ _ _ hj B3) hlv ⟨A3, c3, rfl, rfl, o3.mono (by omega) (Nat.le_refl _)⟩
        clear hT hT1 hT2 hcell hc1 hc2 hbox hj o3
        gi_wp2
        refine ⟨(fun hd => by simp [Fence.wide] at hd), hR.mono ?_⟩
        rintro e w4 (⟨rfl, hj4, hk4⟩ | ⟨rfl, hx4⟩)
        · have HN := hide (⟨hj4, hk4.2 _ _ hbox3, hT3.below hk4.1 hh, Nat.lt_of_lt_of_le hsz (Nat.le_trans s3 hk4.1.size)⟩ : J (ct (inLev T) p + 1) w4 ∧ w4.heap[W.heap.size]? = some (.cells #[.slice A T.length c] 44) ∧ Mat w4 lo hi A T ∧ W.heap.size < w4.heap.size)
          clear hj4 hk4 hT3 hbox3
          gi_wp2
          go_roundw
          case rel => exact ⟨p + 1, by omega, by go_num, by rw [HC.out]; exact HN.out⟩
          case measure => simp [intOf]; omega
        · gi_wp2
          refine bodyPost_ret (results_none rfl _ _ _) rfl ?_
          exact ⟨⟨_, rfl⟩, .inr ⟨_, hlv, hx4⟩⟩
    · obtain rfl : T.length = p := by omega
      gi_wp2
      go_end0
      exact ⟨⟨_, rfl⟩, .inl hj⟩
end Go.Proofs.Ytcegjiiondmchad
