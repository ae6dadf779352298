
/- The set and the table of a level, found by the iterator: the program's. -/
import Derived.Test.YtcegjiiondmchadIlevR
import Derived.Test.YtcegjiiondmchadSlset
import Derived.Test.YtcegjiiondmchadIrectOk
namespace Go.Proofs.Ytcegjiiondmchad
open Go.RowKit
set_option linter.unusedVariables false


attribute [local go_sem] Oper.semAt_some

theorem res_at (tmps : Array Value) (p q : Nat) (u : Int) (A : Option Addr) (n c : Nat) (W : World) (h1 : W.cell? ⟨p, 0, none⟩ = some (.int .i64 u)) (h2 : W.cell? ⟨q, 0, none⟩ = some (.slice A n c))
    (e1 : tmps.getD 4 undef = .pointer (some ⟨p, 0, none⟩)) (e2 : tmps.getD 5 undef = .pointer (some ⟨q, 0, none⟩)) :
    (results Try.f57 tmps).run Try.prog W = .ok (.tuple #[.int .i64 u, .slice A n c]) W := by
  have e1' : tmps[4]?.getD undef = .pointer (some ⟨p, 0, none⟩) := by simpa using e1
  have e2' : tmps[5]?.getD undef = .pointer (some ⟨q, 0, none⟩) := by simpa using e2
  simp [results, Try.f57, asAddr, e1', e2', go_sem, h1, h2]
/-- What levelAt answers. -/
def AtLev (w : World) (T : List (List Int)) (l : Int) (e : Ending) (w' : World) : Prop :=
  ∃ A' c', e = .returned (.tuple #[.int .i64 (levS T l), .slice A' (levP T l).length c']) ∧ Below w.heap.size w w' ∧ OMat w' w.heap.size w'.heap.size A' (levP T l)
theorem atLev_none {w w' : World} {T : List (List Int)} {l : Int} (h : levS T l = -1) (hb : Below w.heap.size w w') : AtLev w T l (.returned (.tuple #[.int .i64 (-1), .slice none 0 0])) w' := by
  refine ⟨none, 0, ?_, hb, ?_⟩
  · rw [levP_not h, h]; rfl
  · rw [levP_not h]; exact OMat.nil _ _ _ _
theorem bxBelow {W V : World} {B : Nat} {ty : TypeId} {v : Value} (h : Boxed W B ty v) (hb : Below W.heap.size W V) : Boxed V B ty v := (hb.block B h.lt).trans h
theorem bxPut {W : World} {B l : Nat} {ty : TypeId} {v : Value} (h : Boxed W B ty v) (o : Obj) (hl : B ≠ l) : Boxed (W.putObj l o) B ty v := (World.putObj_heap_other hl).trans h
theorem bxOther {W : World} {B p : Nat} {ty : TypeId} {v : Value} (h : Boxed W B ty v) (u : Value) (hp : B ≠ p) : Boxed (W.setCell ⟨p, 0, none⟩ u) B ty v := h.kept (grownBy_setCell' W p u) (fun e => hp (by simpa using e))

set_option maxRecDepth 100000 in
set_option maxHeartbeats 4000000 in
theorem levelAt_any (A : Option Addr) (c lo hi : Nat) (T : List (List Int)) (l : Int) (w : World) (h : Mat w lo hi A T) (hh : hi ≤ w.heap.size) (hS : Small T) :
    Calls Try.prog 57 #[.slice A T.length c, .int .i64 l] w (AtLev w T l) := by
  obtain ⟨w1, hw1⟩ : ∃ w1, w1 = ((w.alloc (.cells #[.int .i64 l] 3)).alloc (.cells #[.int .i64 0] 3)).alloc (.cells #[.slice none 0 0] 23) := ⟨_, rfl⟩
  have b1 : Below w.heap.size w w1 := by rw [hw1]; exact (below_twice w _ _).alloc (by simp; omega) _
  have z1 : w1.heap.size = w.heap.size + 3 := by rw [hw1]; simp
  have x0 : Boxed w1 w.heap.size 3 (.int .i64 l) := by rw [hw1]; exact ((Boxed.new w _ _).alloc _).alloc _
  have x1 : Boxed w1 (w.heap.size + 1) 3 (.int .i64 0) := by
    have := Boxed.new (w.alloc (.cells #[.int .i64 l] 3)) 3 (.int .i64 0)
    rw [World.size_alloc] at this
    rw [hw1]; exact this.alloc _
  have x2 : Boxed w1 (w.heap.size + 2) 23 (.slice none 0 0) := by
    have := Boxed.new ((w.alloc (.cells #[.int .i64 l] 3)).alloc (.cells #[.int .i64 0] 3)) 23 (.slice none 0 0)
    rw [World.size_alloc, World.size_alloc] at this
    rw [hw1]; exact this
  have hW1 := hide hw1
  clear hw1
  cases hb : bandT T
  · have HE := hide (levS_not (T := T) (l := l) (fun q => by rw [q.1] at hb; cases hb))
    go_enter Try.func57, Try.ntmps57
    go_wp2_with fail
    rw [← hW1.out]
    refine (iBandOk_any A c lo hi T w1 (h.below b1 hh) (Nat.le_trans hh b1.size) hS).mono ?_
    rw [hb]
    rintro e w2 ⟨rfl, b2⟩
    have y1 := bxBelow x1 b2
    have y2 := bxBelow x2 b2
    have yc1 := y1.cell
    have yf1 := y1.frozen
    have yc2 := (bxOther y2 (.int .i64 (-1)) (by omega : w.heap.size + 2 ≠ w.heap.size + 1)).cell
    have yf2 := (bxOther y2 (.int .i64 (-1)) (by omega : w.heap.size + 2 ≠ w.heap.size + 1)).frozen
    go_wp2
    have c1 := (bxOther (y1.set (.int .i64 (-1))) (.slice none 0 0) (by omega : w.heap.size + 1 ≠ w.heap.size + 2)).cell
    have c2 := ((bxOther y2 (.int .i64 (-1)) (by omega : w.heap.size + 2 ≠ w.heap.size + 1)).set (.slice none 0 0)).cell
    refine bodyPost_ret (res_at _ _ _ _ _ _ _ _ c1 c2 rfl rfl) rfl ?_
    exact atLev_none HE.out (((b1.trans (b2.mono b1.size)).setCell (p := ⟨w.heap.size + 1, 0, none⟩) (by simp) _).setCell (p := ⟨w.heap.size + 2, 0, none⟩) (by simp) _)
  · have k := band_tab hb
    have k9 := k.hi
    have hL9 := nL_le T
    have HB := hide hb
    refine (callsIn_wide (n := 9)).1 ?_
    refine callsIn_of_wp_marks Try.func57 rfl trivial ?_ rfl
    simp only [Try.ntmps57, List.size_toArray, List.length_cons, List.length_nil, Nat.reduceAdd, Nat.reduceSub, Array.replicate_succ, Array.replicate_zero, List.push_toArray, List.append_toArray, List.nil_append, List.cons_append]
    gi_wp2_with fail
    rw [← hW1.out]
    refine ⟨trivial, (callsIn_wide.2 (iBandOk_any A c lo hi T w1 (h.below b1 hh) (Nat.le_trans hh b1.size) hS)).mono ?_⟩
    rw [hb]
    rintro e w2 ⟨rfl, b2⟩
    have B2 := b1.trans (b2.mono b1.size)
    have z2 := b2.size
    obtain ⟨w3, hw3⟩ : ∃ w3, w3 = w2.alloc (.cells #[.int .i64 0] 3) := ⟨_, rfl⟩
    have b3 : Below w2.heap.size w2 w3 := by rw [hw3]; exact (Below.refl w2.heap.size w2).alloc (Nat.le_refl _) _
    have z3 : w3.heap.size = w2.heap.size + 1 := by rw [hw3]; simp
    have y3 : Boxed w3 w2.heap.size 3 (.int .i64 0) := by rw [hw3]; exact Boxed.new w2 _ _
    have y0 := bxBelow (bxBelow x0 b2) b3
    have y1 := bxBelow (bxBelow x1 b2) b3
    have y2 := bxBelow (bxBelow x2 b2) b3
    have B3 := B2.trans (b3.mono B2.size)
    have hW3 := hide hw3
    clear hw3 x0 x1 x2
    gi_wp2
    rw [← hW3.out]
    refine range_two (gf := 76) (fa := #[.agg #[.slice A T.length c]]) rfl (enters_of Try.func76 (by kernel_rfl) rfl) rfl
      (rect_yields A c lo hi w.heap.size _ T w3 (h.below B3 hh) hh B3.size HB.out hS) (Below.refl _ _) (fun k x y V r o hH hl => HandL.put hH hl) (fun hA hB => hA.trans hB) (fun V r o hl => KeepL.put o (by omega) hl)
      (fun k V => Below w.heap.size w V ∧ Boxed V w.heap.size 3 (.int .i64 l) ∧ Boxed V (w.heap.size + 1) 3 (.int .i64 0) ∧ Boxed V (w.heap.size + 2) 23 (.slice none 0 0) ∧ Boxed V w2.heap.size 3 (.int .i64 (k : Nat)) ∧ ∀ j : Nat, j < k → l ≠ (j : Int))
      (fun k V => Below w.heap.size w V ∧ l = (k : Nat) ∧ Boxed V (w.heap.size + 1) 3 (.int .i64 (levB T k : Nat)) ∧ ∃ A' c', Boxed V (w.heap.size + 2) 23 (.slice A' (partT T (levB T k : Nat)).length c') ∧ OMat V (w3.heap.size + 2) V.heap.size A' (partT T (levB T k : Nat)))
      (fun k V V' hI hV => ?Ia) (fun k V r o hI hl => ?Ip) (fun k V r o hI hl => ?Xp) ⟨B3, y0, y1, y2, y3, fun j hj => absurd hj (Nat.not_lt_zero _)⟩
      (fun x y => { tmps := #[.slice A T.length c, .int .i64 l, undef, .pointer (some ⟨w.heap.size, 0, none⟩), .pointer (some ⟨w.heap.size + 1, 0, none⟩), .pointer (some ⟨w.heap.size + 2, 0, none⟩), .pointer (some ⟨w2.heap.size, 0, none⟩), x, y, .slice A T.length c, .bool true, .bool false, .slice A T.length c, .agg #[.slice A T.length c], .func (.func 76) #[.agg #[.slice A T.length c]] #[], x, y, undef, undef, undef, undef, undef, undef, undef], defers := [] }) ?assign ?body ?done ?stop
    case Ia =>
      obtain ⟨h1, h2, h3, h4, h5, h6⟩ := hI
      exact ⟨h1.trans (hV.mono h1.size), bxBelow h2 hV, bxBelow h3 hV, bxBelow h4 hV, bxBelow h5 hV, h6⟩
    case Ip =>
      obtain ⟨h1, h2, h3, h4, h5, h6⟩ := hI
      exact ⟨h1.trans (below_put o (by omega)), bxPut h2 o (by omega), bxPut h3 o (by omega), bxPut h4 o (by omega), bxPut h5 o (by omega), h6⟩
    case Xp =>
      obtain ⟨h1, h2, h3, A', c', h4, h5⟩ := hI
      refine ⟨h1.trans (below_put o (by omega)), h2, bxPut h3 o (by omega), A', c', bxPut h4 o (by omega), ?_⟩
      rw [World.putObj_size]
      exact h5.keep fun k h1 _ => World.putObj_heap_other (by omega)
    case assign =>
      intro l' x y W K hK
      gi_wp2
      exact hK
    case body =>
      rintro k x y W r ⟨hB, hv0, hv1, hv2, hv3, hne⟩ hk ⟨A', c', rfl, rfl, ho⟩ hl
      have c0 := hv0.cell
      have c1 := hv1.cell
      have c2 := hv2.cell
      have c3 := hv3.cell
      have f1 := hv1.frozen
      have f2 := (bxOther hv2 (.int .i64 (levB T k : Nat)) (by omega : w.heap.size + 2 ≠ w.heap.size + 1)).frozen
      have f3 := hv3.frozen
      by_cases hlk : l = (k : Nat)
      · subst hlk
        gi_wp2
        refine ⟨(KeepsOthers.setCell _ _ _).trans (KeepsOthers.setCell _ _ _), (hB.setCell (p := ⟨w.heap.size + 1, 0, none⟩) (by simp) _).setCell (p := ⟨w.heap.size + 2, 0, none⟩) (by simp) _, rfl, bxOther (hv1.set _) _ (by omega), A', c', (bxOther hv2 _ (by omega)).set _, ?_⟩
        have hsz : ((W.setCell ⟨w.heap.size + 1, 0, none⟩ (.int .i64 (levB T k : Nat))).setCell ⟨w.heap.size + 2, 0, none⟩ (.slice A' (partT T (levB T k : Nat)).length c')).heap.size = W.heap.size := by simp [World.setCell]
        rw [hsz]
        exact ho.keep fun k h1 _ => (Below.heap_setCell _ _ _ k (by show k ≠ w.heap.size + 2; omega)).trans (Below.heap_setCell _ _ _ k (by show k ≠ w.heap.size + 1; omega))
      · have hne2 : (((k : Nat) : Int) == l) = false := beq_eq_false_iff_ne.2 (fun e => hlk e.symm)
        gi_wp2
        refine ⟨KeepsOthers.setCell _ _ _, ⟨(Below.refl _ _).setCell (p := ⟨w2.heap.size, 0, none⟩) (by show w.heap.size ≤ w2.heap.size; omega) _, fun b v hb => bxOther hb _ ?_⟩, hB.setCell (p := ⟨w2.heap.size, 0, none⟩) (by show w.heap.size ≤ w2.heap.size; omega) _, bxOther hv0 _ (by omega), bxOther hv1 _ (by omega), bxOther hv2 _ (by omega), ?_, fun j hj => ?_⟩
        · rintro rfl
          have := hb.symm.trans hv3
          simp at this
        · have e := hv3.set (.int .i64 ((k + 1 : Nat) : Int))
          simpa using e
        · by_cases e : j = k
          · subst e; exact hlk
          · exact hne j (by omega)
    case done =>
      rintro W ⟨hB, hv0, hv1, hv2, hv3, hne⟩ hD
      have HE := hide (levS_not (T := T) (l := l) (fun q => by
        obtain ⟨v, hv⟩ : ∃ v : Nat, l = v := ⟨l.toNat, by omega⟩
        exact hne v (by omega) hv))
      have c1 := hv1.cell
      have f1 := hv1.frozen
      have c2 := (bxOther hv2 (.int .i64 (-1)) (by omega : w.heap.size + 2 ≠ w.heap.size + 1)).cell
      have f2 := (bxOther hv2 (.int .i64 (-1)) (by omega : w.heap.size + 2 ≠ w.heap.size + 1)).frozen
      gi_wp2
      have hD1 := (KeepsOthers.setCell W ⟨w.heap.size + 1, 0, none⟩ (.int .i64 (-1))).same w3.heap.size _ hD rfl
      have hD2 := (KeepsOthers.setCell _ ⟨w.heap.size + 2, 0, none⟩ (.slice none 0 0)).same w3.heap.size _ hD1 rfl
      refine ⟨by simp, .inl ⟨_, _, rfl, run_takeDeferred hD2, ?_⟩⟩
      have d1 := (bxPut (l := w3.heap.size) (bxOther (hv1.set (.int .i64 (-1))) (.slice none 0 0) (by omega : w.heap.size + 1 ≠ w.heap.size + 2)) (.deferred none) (by omega)).cell
      have d2 := (bxPut (l := w3.heap.size) ((bxOther hv2 (.int .i64 (-1)) (by omega : w.heap.size + 2 ≠ w.heap.size + 1)).set (.slice none 0 0)) (.deferred none) (by omega)).cell
      exact ⟨_, res_at _ _ _ _ _ _ _ _ d1 d2 rfl rfl, atLev_none HE.out (((hB.setCell (p := ⟨w.heap.size + 1, 0, none⟩) (by simp) _).setCell (p := ⟨w.heap.size + 2, 0, none⟩) (by simp) _).trans (below_put _ (by omega)))⟩
    case stop =>
      rintro k W hk ⟨hB, rfl, hv1, A', c', hv2, ho⟩ hD
      have HS := hide (levS_ok HB.out hk)
      have HP := hide (levP_ok HB.out hk)
      gi_wp2
      refine ⟨by simp, .inl ⟨_, _, rfl, run_takeDeferred hD, ?_⟩⟩
      have d1 := (bxPut (l := w3.heap.size) hv1 (.deferred none) (by omega)).cell
      have d2 := (bxPut (l := w3.heap.size) hv2 (.deferred none) (by omega)).cell
      refine ⟨_, res_at _ _ _ _ _ _ _ _ d1 d2 rfl rfl, A', c', ?_, hB.trans (below_put _ (by omega)), ?_⟩
      · rw [HS.out, HP.out]
      · rw [World.putObj_size, HP.out]
        exact (ho.keep fun k h1 _ => World.putObj_heap_other (by omega)).mono (by omega) (Nat.le_refl _)

set_option maxHeartbeats 1000000 in
theorem iLevelSet_any (A : Option Addr) (c lo hi : Nat) (T : List (List Int)) (l : Int) (w : World) (h : Mat w lo hi A T) (hh : hi ≤ w.heap.size) (hS : Small T) :
    Calls Try.prog 29 #[.slice A T.length c, .int .i64 l] w fun e w' => e = .returned (.int .i64 (levS T l)) ∧ Below w.heap.size w w' := by
  go_enter Try.func29, Try.ntmps29
  go_wp2_with fail
  refine (levelAt_any A c lo hi T l w h hh hS).mono ?_
  rintro e w1 ⟨A', c', rfl, b1, _⟩
  go_wp2
  go_ret
  exact ⟨rfl, b1⟩
set_option maxHeartbeats 1000000 in
theorem iLevelPart_any (A : Option Addr) (c lo hi : Nat) (T : List (List Int)) (l : Int) (w : World) (h : Mat w lo hi A T) (hh : hi ≤ w.heap.size) (hS : Small T) :
    Calls Try.prog 33 #[.slice A T.length c, .int .i64 l] w (OwnTab w (levP T l)) := by
  go_enter Try.func33, Try.ntmps33
  go_wp2_with fail
  refine (levelAt_any A c lo hi T l w h hh hS).mono ?_
  rintro e w1 ⟨A', c', rfl, b1, o1⟩
  go_wp2
  go_ret
  exact ⟨A', c', rfl, b1, o1⟩
end Go.Proofs.Ytcegjiiondmchad
