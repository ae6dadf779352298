
/- The first things of levels, collected from the iterator: the program's. -/
import Derived.Test.YtcegjiiondmchadIlevR
import Derived.Test.YtcegjiiondmchadIlev2
import Derived.Test.YtcegjiiondmchadSltab
import Derived.Maps.AppendAt
namespace Go.Proofs.Ytcegjiiondmchad
open Go.RowKit
set_option linter.unusedVariables false


attribute [local go_sem] Oper.semAt_some

/-- The first things of the first k levels. -/
def flK (T : List (List Int)) (k : Nat) : List Int := (List.range k).map fun v => ((fl T v : Nat) : Int)
theorem flK_succ (T : List (List Int)) (k : Nat) : flK T k ++ [((fl T k : Nat) : Int)] = flK T (k + 1) := by simp [flK, List.range_succ]
theorem len_flK (T : List (List Int)) (k : Nat) : (flK T k).length = k := by simp [flK]
theorem el_flK {T : List (List Int)} {k v : Nat} (h : v < k) : el (flK T k) v = ((fl T v : Nat) : Int) := by simp [flK, el, List.getD, h]
theorem cnt_zero {s : Nat} : ∀ z, (∀ b, b < z → s.testBit b = false) → cnt s z = 0
  | 0, _ => rfl
  | z + 1, h => by
    simp only [cnt]
    rw [cnt_zero z fun b hb => h b (by omega), h z (by omega)]
    simp
/-- The first thing of a level's set. -/
theorem el_first {T : List (List Int)} (hb : bandT T = true) {v : Nat} (h : v < nL T) : 0 < (thk (levB T v) 9).length ∧ el (thk (levB T v) 9) 0 = ((fl T v : Nat) : Int) := by
  obtain ⟨h1, h2, h3⟩ := fl_ok h
  have k9 := (band_tab hb).hi
  have hbit : (levB T v).testBit (fl T v) = true := levB_bit.2 ⟨h1, h2⟩
  have hz : cnt (levB T v) (fl T v) = 0 := cnt_zero _ fun b hb => by
    cases e : (levB T v).testBit b with
    | false => rfl
    | true => exact absurd (levB_bit.1 e).2 (h3 b hb)
  have h4 := el_cnt hbit 9 (by omega)
  have h5 := cnt_bit hbit 9 (by omega)
  rw [hz] at h4 h5
  rw [len_thk_cnt]
  exact ⟨h5, h4⟩

/-- 'row = append(row, q)' in a round, inside a region that draws its order. -/
theorem stepIn_app_int {F : Fence} {n : Nat} {ops : Array Oper} {o : Oper} {a : Act} {K : Act → World → Prop} {Q : Exit → Act → World → Prop} {E : Prop} {w : World} (hgd : o.guard = none) (s x : Operand)
    (ho : o.op = .call { callee := .builtin .append, args := #[s, x], argTypes := #[25, 25] }) (base : Nat) (v : Value) (xs : List Int) (q : Int) (hs : a.eval s = v) (hx : a.eval x = .slice (some ⟨w.heap.size, 0, none⟩) 1 1)
    (hown : ARow base w v xs) (hn : xs.length ≤ 1048576) (hb : base ≤ w.heap.size)
    (h : ∀ v' w', ARow base w' v' (xs ++ [q]) → (w.alloc (.cells #[.int .i64 q] 3)).grownBy w' v.ownBlock → K (a.put o.dst v') w') :
    if Region.wanted o (yielded ops a.tmps) = true then Oper.wpIn F n Try.prog o a (w.alloc (.cells #[.int .i64 q] 3)) K Q else E := by
  have hw : Region.wanted o (yielded ops a.tmps) = true := by simp [Region.wanted, hgd]
  rw [if_pos hw]
  obtain ⟨i0, hi0, hz0, hz1, hz2⟩ := info_parts info_int
  obtain ⟨v', w', hrun, r1, r2, _⟩ := run_append_own (P := Try.prog) (w.alloc (.cells #[.int .i64 q] 3)) base 25 o.type 3 i0 (.int .i64 0) 1 8 Try.underlying25 hi0 hz0 hz1 hz2 rfl (by decide) v xs.length _ (hown.alloc _) ⟨w.heap.size, 0, none⟩ 1 1 [.int .i64 q] rfl
    (World.news_of_block (cs := #[.int .i64 q]) (t := 3) (fr := (0, 0)) (heap_alloc_new _ _)) (by simp [Value.oneCell']) (by rw [maxLen_is]; omega) (by omega) (by simp; omega)
  unfold Oper.wpIn
  refine ⟨?_, ?_⟩
  · simp [Oper.about, ho, resolve, Target.leads, Sem.run_pure]
  · rw [Oper.semAt_plain F _ _ (by rw [ho]; intro c hc'; cases hc')]
    simp [execOp, ho, resolve, invoke, builtin, hs, hx, hrun, Result.andThen]
    exact h v' w' (by unfold ARow; simpa using r1) r2
/-- The store of a grown row keeps boxes of tables. -/
theorem boxes_app {W w2 w3 : World} {n0 B k b : Nat} {v u v' : Value} {xs : List Value} {tmp : Obj} (h1 : Below W.heap.size W w2) (hv : Boxed w2 B 25 v) (hrow : w2.ownsRow n0 3 1 v k xs)
    (hg : (w2.alloc tmp).grownBy w3 v.ownBlock) (hb : Boxed W b 44 u) : Boxed (w3.setCell ⟨B, 0, none⟩ v') b 44 u := by
  have hb2 : Boxed w2 b 44 u := (h1.block b hb.lt).trans hb
  have hb3 : Boxed w3 b 44 u := (hb2.alloc tmp).kept hg (hb2.not_row (by decide) hrow)
  refine hb3.kept (grownBy_setCell' w3 B v') fun e => ?_
  obtain rfl : b = B := by simpa using e
  have := (show w2.heap[b]? = _ from hb2).symm.trans hv
  simp at this

set_option maxRecDepth 100000 in
set_option maxHeartbeats 4000000 in
theorem firsts_any (A : Option Addr) (c lo hi : Nat) (T : List (List Int)) (w : World) (h : Mat w lo hi A T) (hh : hi ≤ w.heap.size) (hb : bandT T = true) (hS : Small T) :
    Calls Try.prog 52 #[.agg #[.slice A T.length c]] w (OwnRow w (flK T (nL T))) := by
  have k := band_tab hb
  have k9 := k.hi
  have hL9 := nL_le T
  obtain ⟨w1, hw1⟩ : ∃ w1, w1 = (w.alloc (.cells #[.slice A T.length c] 44)).alloc (.cells #[.slice none 0 0] 25) := ⟨_, rfl⟩
  have b1 : Below w.heap.size w w1 := by rw [hw1]; exact below_twice w _ _
  have z1 : w1.heap.size = w.heap.size + 2 := by rw [hw1]; simp
  have bx : Boxed w1 (w.heap.size + 1) 25 (.slice none 0 0) := by
    have := Boxed.new (w.alloc (.cells #[.slice A T.length c] 44)) 25 (.slice none 0 0)
    rw [World.size_alloc] at this
    rw [hw1]; exact this
  have hW1 := hide hw1
  have HB := hide hb
  clear hw1
  refine (callsIn_wide (n := 9)).1 ?_
  refine callsIn_of_wp_marks Try.func52 rfl trivial ?_ rfl
  simp only [Try.ntmps52, List.size_toArray, List.length_cons, List.length_nil, Nat.reduceAdd, Nat.reduceSub, Array.replicate_succ, Array.replicate_zero, List.push_toArray, List.append_toArray, List.nil_append, List.cons_append]
  gi_wp2
  rw [← hW1.out]
  refine range_two (gf := 76) (fa := #[.agg #[.slice A T.length c]]) rfl (enters_of Try.func76 (by kernel_rfl) rfl) rfl
    (rect_yields A c lo hi w.heap.size _ T w1 (h.below b1 hh) hh b1.size HB.out hS) (Below.refl _ _) (fun k x y V r o hH hl => HandL.put hH hl) (fun hA hB => hA.trans hB) (fun V r o hl => KeepL.put o (by omega) hl)
    (fun k V => Below w.heap.size w V ∧ ∃ v, Boxed V (w.heap.size + 1) 25 v ∧ ARow w.heap.size V v (flK T k))
    (fun _ _ => False)
    (fun k V V' hI hV => ?Ia) (fun k V r o hI hl => ?Ip) (fun _ _ _ _ hx _ => hx.elim) ⟨b1, _, bx, ARow.nil_ _ _⟩
    (fun x y => { tmps := #[.agg #[.slice A T.length c], .pointer (some ⟨w.heap.size, 0, none⟩), .slice none 0 0, .pointer (some ⟨w.heap.size + 1, 0, none⟩), x, .agg #[.slice A T.length c], .func (.func 76) #[.agg #[.slice A T.length c]] #[], x, y, undef, undef, undef, undef, undef, undef, undef, undef], defers := [] }) ?assign ?body ?done ?stop
  case Ia =>
    obtain ⟨h1, v, h2, h3⟩ := hI
    exact ⟨h1.trans (hV.mono h1.size), v, (hV.block _ h2.lt).trans h2, h3.below hV⟩
  case Ip =>
    obtain ⟨h1, v, h2, h3⟩ := hI
    refine ⟨h1.trans (below_put o (by omega)), v, (World.putObj_heap_other (by omega)).trans h2, ownsRow_putObj h3 o hl rfl⟩
  case assign =>
    intro l x y W K hK
    gi_wp2
    exact hK
  case body =>
    rintro k x y W r ⟨hB, v, hv, hrow⟩ hk ⟨A', c', rfl, rfl, ho⟩ hl
    have hmx : Try.prog.follows .mixedOrders = true := by kernel_rfl
    have hc := hv.cell
    obtain ⟨f1, f2⟩ := el_first HB.out hk
    have hs : levB T k < 1024 := by have := levB_lt (T := T) k; have := pow_le9 (p := T.length) k9; omega
    obtain ⟨L, hL⟩ : ∃ L, L = (thk (levB T k) 9).length := ⟨_, rfl⟩
    have f3 : 0 < L := by omega
    have HL := hide hL
    have F1 := hide f1
    have HFK := hide (flK_succ T k)
    clear hL f1
    have hFin : Hid (∀ (w2 w3 : World) (v' : Value), Below W.heap.size W w2 → Boxed w2 (w.heap.size + 1) 25 v → ARow w.heap.size w2 v (flK T k) → ARow w.heap.size w3 v' (flK T k ++ [((fl T k : Nat) : Int)]) →
        (w2.alloc (.cells #[.int .i64 (fl T k : Nat)] 3)).grownBy w3 v.ownBlock → RoundEnd (KeepL w.heap.size) (fun j V => (Below w.heap.size w V ∧ ∃ v, Boxed V (w.heap.size + 1) 25 v ∧ ARow w.heap.size V v (flK T (j + 1)))) (fun _ _ => False) k W .normal { tmps := #[], defers := [] } (w3.setCell ⟨w.heap.size + 1, 0, none⟩ v')) := fun w2 w3 v' q1 q2 q3 q4 q5 => by
      rw [HFK.out] at q4
      obtain ⟨_, p2, p3, p4, p5⟩ := q2.appended (by decide) q3 (Nat.le_trans hB.size q1.size) (by omega) q4 q5
      have q0 : KeepsOthers W w2 := ⟨q1.size, fun k o hk _ => (q1.block k (Array.getElem?_eq_some_iff.1 hk).1).trans hk⟩
      have q6 := (q1.mono hB.size).trans p5
      exact ⟨q0.trans p4, ⟨q6, fun b u hb => boxes_app q1 q2 q3 q5 hb⟩, hB.trans q6, v', p2, p3⟩
    gi_wp2
    refine wpIn_region_any hmx ?_
    change wpAnyIn _ _ _ _ _ _ _ _ _ (World.drew _)
    refine wpAnyIn_ready (rs := [0, 1]) (by kernel_rfl) (by simp) ?_
    refine AllReadyIn.cons rfl (fun K hK => ?_) ?_
    · go_simp
      refine hK _ _ ?_
      clear hK K
      refine wpAnyIn_ready (rs := [1]) (by kernel_rfl) (by simp) ?_
      refine AllReadyIn.cons rfl (fun K hK => ?_) ?_
      · go_simp
        refine hK _ _ ?_
        clear hK K
        refine wpAnyIn_ready (rs := [2]) (by kernel_rfl) (by simp) ?_
        refine AllReadyIn.cons rfl (fun K hK => ?_) ?_
        · go_simp
          refine ⟨trivial, ?_⟩
          refine (CallsIn.inRound _ (callsIn_wide.2 (thingsIn_any _ _ hs))).mono ?_
          rintro e w2 ⟨A3, c3, rfl, b2d, hR, _, _⟩
          have b2 : Below W.heap.size W w2 := ⟨b2d.os, b2d.tape, b2d.output, b2d.size, b2d.block⟩
          clear b2d
          obtain ⟨bq, oq, rfl, _, _, hq⟩ := hR 0 F1.out
          rw [f2, Nat.add_zero] at hq
          rw [← HL.out]
          have hv2 : Boxed w2 (w.heap.size + 1) 25 v := (b2.block _ hv.lt).trans hv
          have hc2 := Boxed.cell hv2
          have hc2a := (hv2.alloc (.cells #[.int .i64 (fl T k : Nat)] 3)).cell
          have hr2 : ARow w.heap.size w2 v (flK T k) := hrow.below b2
          clear hR
          refine hK _ _ ?_
          clear hK K
          refine wpAnyIn_ready (rs := [3]) (by kernel_rfl) (by simp) ?_
          refine AllReadyIn.cons rfl (fun K hK => ?_) ?_
          · go_simp
            try (rw [if_pos f3]; go_simp)
            refine hK _ _ ?_
            clear hK K
            refine wpAnyIn_ready (rs := [4]) (by kernel_rfl) (by simp) ?_
            refine AllReadyIn.cons rfl (fun K hK => ?_) ?_
            · go_simp
              refine hK _ _ ?_
              clear hK K
              refine wpAnyIn_ready (rs := [5]) (by kernel_rfl) (by simp) ?_
              refine AllReadyIn.cons rfl (fun K hK => ?_) ?_
              · go_simp
                refine hK _ _ ?_
                clear hK K
                refine wpAnyIn_ready (rs := [6]) (by kernel_rfl) (by simp) ?_
                refine AllReadyIn.cons rfl (fun K hK => ?_) ?_
                · refine stepIn_app_int rfl (.tmp 9) (.tmp 14) rfl w.heap.size v _ _ rfl rfl hr2 (by rw [len_flK]; omega) (Nat.le_trans hB.size b2.size) ?_
                  intro v3 w3 hr3 hg3
                  obtain ⟨g4, c4, rfl⟩ := ownsRow_succ (k := k) (show w3.ownsRow w.heap.size 3 1 v3 (k + 1) ((flK T k ++ [((fl T k : Nat) : Int)]).map (Value.int .i64)) from by have := hr3; unfold ARow at this; simpa [len_flK] using this)
                  have hv3 : Boxed w3 (w.heap.size + 1) 25 v := (hv2.alloc _).kept hg3 (hv2.not_row (by decide) hr2)
                  have hc3 := hv3.cell
                  have hf3 := hv3.frozen
                  refine hK _ _ ?_
                  clear hK K
                  refine wpAnyIn_ready (rs := [7]) (by kernel_rfl) (by simp) ?_
                  refine AllReadyIn.cons rfl (fun K hK => ?_) ?_
                  · go_simp
                    refine hK _ _ ?_
                    clear hK K
                    refine wpAnyIn_done (by kernel_rfl) ?_ _
                    exact hFin.out w2 _ _ b2 hv2 hr2 hr3 hg3
                  exact AllReadyIn.nil
                exact AllReadyIn.nil
              exact AllReadyIn.nil
            exact AllReadyIn.nil
          exact AllReadyIn.nil
        exact AllReadyIn.nil
      exact AllReadyIn.nil
    refine AllReadyIn.cons rfl (fun K hK => ?_) ?_
    · go_simp
      refine hK _ _ ?_
      clear hK K
      refine wpAnyIn_ready (rs := [0, 2]) (by kernel_rfl) (by simp) ?_
      refine AllReadyIn.cons rfl (fun K hK => ?_) ?_
      · go_simp
        refine hK _ _ ?_
        clear hK K
        refine wpAnyIn_ready (rs := [2]) (by kernel_rfl) (by simp) ?_
        refine AllReadyIn.cons rfl (fun K hK => ?_) ?_
        · go_simp
          refine ⟨trivial, ?_⟩
          refine (CallsIn.inRound _ (callsIn_wide.2 (thingsIn_any _ _ hs))).mono ?_
          rintro e w2 ⟨A3, c3, rfl, b2d, hR, _, _⟩
          have b2 : Below W.heap.size W w2 := ⟨b2d.os, b2d.tape, b2d.output, b2d.size, b2d.block⟩
          clear b2d
          obtain ⟨bq, oq, rfl, _, _, hq⟩ := hR 0 F1.out
          rw [f2, Nat.add_zero] at hq
          rw [← HL.out]
          have hv2 : Boxed w2 (w.heap.size + 1) 25 v := (b2.block _ hv.lt).trans hv
          have hc2 := Boxed.cell hv2
          have hc2a := (hv2.alloc (.cells #[.int .i64 (fl T k : Nat)] 3)).cell
          have hr2 : ARow w.heap.size w2 v (flK T k) := hrow.below b2
          clear hR
          refine hK _ _ ?_
          clear hK K
          refine wpAnyIn_ready (rs := [3]) (by kernel_rfl) (by simp) ?_
          refine AllReadyIn.cons rfl (fun K hK => ?_) ?_
          · go_simp
            try (rw [if_pos f3]; go_simp)
            refine hK _ _ ?_
            clear hK K
            refine wpAnyIn_ready (rs := [4]) (by kernel_rfl) (by simp) ?_
            refine AllReadyIn.cons rfl (fun K hK => ?_) ?_
            · go_simp
              refine hK _ _ ?_
              clear hK K
              refine wpAnyIn_ready (rs := [5]) (by kernel_rfl) (by simp) ?_
              refine AllReadyIn.cons rfl (fun K hK => ?_) ?_
              · go_simp
                refine hK _ _ ?_
                clear hK K
                refine wpAnyIn_ready (rs := [6]) (by kernel_rfl) (by simp) ?_
                refine AllReadyIn.cons rfl (fun K hK => ?_) ?_
                · refine stepIn_app_int rfl (.tmp 9) (.tmp 14) rfl w.heap.size v _ _ rfl rfl hr2 (by rw [len_flK]; omega) (Nat.le_trans hB.size b2.size) ?_
                  intro v3 w3 hr3 hg3
                  obtain ⟨g4, c4, rfl⟩ := ownsRow_succ (k := k) (show w3.ownsRow w.heap.size 3 1 v3 (k + 1) ((flK T k ++ [((fl T k : Nat) : Int)]).map (Value.int .i64)) from by have := hr3; unfold ARow at this; simpa [len_flK] using this)
                  have hv3 : Boxed w3 (w.heap.size + 1) 25 v := (hv2.alloc _).kept hg3 (hv2.not_row (by decide) hr2)
                  have hc3 := hv3.cell
                  have hf3 := hv3.frozen
                  refine hK _ _ ?_
                  clear hK K
                  refine wpAnyIn_ready (rs := [7]) (by kernel_rfl) (by simp) ?_
                  refine AllReadyIn.cons rfl (fun K hK => ?_) ?_
                  · go_simp
                    refine hK _ _ ?_
                    clear hK K
                    refine wpAnyIn_done (by kernel_rfl) ?_ _
                    exact hFin.out w2 _ _ b2 hv2 hr2 hr3 hg3
                  exact AllReadyIn.nil
                exact AllReadyIn.nil
              exact AllReadyIn.nil
            exact AllReadyIn.nil
          exact AllReadyIn.nil
        exact AllReadyIn.nil
      refine AllReadyIn.cons rfl (fun K hK => ?_) ?_
      · go_simp
        refine ⟨trivial, ?_⟩
        refine (CallsIn.inRound _ (callsIn_wide.2 (thingsIn_any _ _ hs))).mono ?_
        rintro e w2 ⟨A3, c3, rfl, b2d, hR, _, _⟩
        have b2 : Below W.heap.size W w2 := ⟨b2d.os, b2d.tape, b2d.output, b2d.size, b2d.block⟩
        clear b2d
        obtain ⟨bq, oq, rfl, _, _, hq⟩ := hR 0 F1.out
        rw [f2, Nat.add_zero] at hq
        rw [← HL.out]
        have hv2 : Boxed w2 (w.heap.size + 1) 25 v := (b2.block _ hv.lt).trans hv
        have hc2 := Boxed.cell hv2
        have hc2a := (hv2.alloc (.cells #[.int .i64 (fl T k : Nat)] 3)).cell
        have hr2 : ARow w.heap.size w2 v (flK T k) := hrow.below b2
        clear hR
        refine hK _ _ ?_
        clear hK K
        refine wpAnyIn_ready (rs := [0, 3]) (by kernel_rfl) (by simp) ?_
        refine AllReadyIn.cons rfl (fun K hK => ?_) ?_
        · go_simp
          refine hK _ _ ?_
          clear hK K
          refine wpAnyIn_ready (rs := [3]) (by kernel_rfl) (by simp) ?_
          refine AllReadyIn.cons rfl (fun K hK => ?_) ?_
          · go_simp
            try (rw [if_pos f3]; go_simp)
            refine hK _ _ ?_
            clear hK K
            refine wpAnyIn_ready (rs := [4]) (by kernel_rfl) (by simp) ?_
            refine AllReadyIn.cons rfl (fun K hK => ?_) ?_
            · go_simp
              refine hK _ _ ?_
              clear hK K
              refine wpAnyIn_ready (rs := [5]) (by kernel_rfl) (by simp) ?_
              refine AllReadyIn.cons rfl (fun K hK => ?_) ?_
              · go_simp
                refine hK _ _ ?_
                clear hK K
                refine wpAnyIn_ready (rs := [6]) (by kernel_rfl) (by simp) ?_
                refine AllReadyIn.cons rfl (fun K hK => ?_) ?_
                · refine stepIn_app_int rfl (.tmp 9) (.tmp 14) rfl w.heap.size v _ _ rfl rfl hr2 (by rw [len_flK]; omega) (Nat.le_trans hB.size b2.size) ?_
                  intro v3 w3 hr3 hg3
                  obtain ⟨g4, c4, rfl⟩ := ownsRow_succ (k := k) (show w3.ownsRow w.heap.size 3 1 v3 (k + 1) ((flK T k ++ [((fl T k : Nat) : Int)]).map (Value.int .i64)) from by have := hr3; unfold ARow at this; simpa [len_flK] using this)
                  have hv3 : Boxed w3 (w.heap.size + 1) 25 v := (hv2.alloc _).kept hg3 (hv2.not_row (by decide) hr2)
                  have hc3 := hv3.cell
                  have hf3 := hv3.frozen
                  refine hK _ _ ?_
                  clear hK K
                  refine wpAnyIn_ready (rs := [7]) (by kernel_rfl) (by simp) ?_
                  refine AllReadyIn.cons rfl (fun K hK => ?_) ?_
                  · go_simp
                    refine hK _ _ ?_
                    clear hK K
                    refine wpAnyIn_done (by kernel_rfl) ?_ _
                    exact hFin.out w2 _ _ b2 hv2 hr2 hr3 hg3
                  exact AllReadyIn.nil
                exact AllReadyIn.nil
              exact AllReadyIn.nil
            exact AllReadyIn.nil
          exact AllReadyIn.nil
        refine AllReadyIn.cons rfl (fun K hK => ?_) ?_
        · go_simp
          try (rw [if_pos f3]; go_simp)
          refine hK _ _ ?_
          clear hK K
          refine wpAnyIn_ready (rs := [0, 4]) (by kernel_rfl) (by simp) ?_
          refine AllReadyIn.cons rfl (fun K hK => ?_) ?_
          · go_simp
            refine hK _ _ ?_
            clear hK K
            refine wpAnyIn_ready (rs := [4]) (by kernel_rfl) (by simp) ?_
            refine AllReadyIn.cons rfl (fun K hK => ?_) ?_
            · go_simp
              refine hK _ _ ?_
              clear hK K
              refine wpAnyIn_ready (rs := [5]) (by kernel_rfl) (by simp) ?_
              refine AllReadyIn.cons rfl (fun K hK => ?_) ?_
              · go_simp
                refine hK _ _ ?_
                clear hK K
                refine wpAnyIn_ready (rs := [6]) (by kernel_rfl) (by simp) ?_
                refine AllReadyIn.cons rfl (fun K hK => ?_) ?_
                · refine stepIn_app_int rfl (.tmp 9) (.tmp 14) rfl w.heap.size v _ _ rfl rfl hr2 (by rw [len_flK]; omega) (Nat.le_trans hB.size b2.size) ?_
                  intro v3 w3 hr3 hg3
                  obtain ⟨g4, c4, rfl⟩ := ownsRow_succ (k := k) (show w3.ownsRow w.heap.size 3 1 v3 (k + 1) ((flK T k ++ [((fl T k : Nat) : Int)]).map (Value.int .i64)) from by have := hr3; unfold ARow at this; simpa [len_flK] using this)
                  have hv3 : Boxed w3 (w.heap.size + 1) 25 v := (hv2.alloc _).kept hg3 (hv2.not_row (by decide) hr2)
                  have hc3 := hv3.cell
                  have hf3 := hv3.frozen
                  refine hK _ _ ?_
                  clear hK K
                  refine wpAnyIn_ready (rs := [7]) (by kernel_rfl) (by simp) ?_
                  refine AllReadyIn.cons rfl (fun K hK => ?_) ?_
                  · go_simp
                    refine hK _ _ ?_
                    clear hK K
                    refine wpAnyIn_done (by kernel_rfl) ?_ _
                    exact hFin.out w2 _ _ b2 hv2 hr2 hr3 hg3
                  exact AllReadyIn.nil
                exact AllReadyIn.nil
              exact AllReadyIn.nil
            exact AllReadyIn.nil
          refine AllReadyIn.cons rfl (fun K hK => ?_) ?_
          · go_simp
            refine hK _ _ ?_
            clear hK K
            refine wpAnyIn_ready (rs := [0, 5]) (by kernel_rfl) (by simp) ?_
            refine AllReadyIn.cons rfl (fun K hK => ?_) ?_
            · go_simp
              refine hK _ _ ?_
              clear hK K
              refine wpAnyIn_ready (rs := [5]) (by kernel_rfl) (by simp) ?_
              refine AllReadyIn.cons rfl (fun K hK => ?_) ?_
              · go_simp
                refine hK _ _ ?_
                clear hK K
                refine wpAnyIn_ready (rs := [6]) (by kernel_rfl) (by simp) ?_
                refine AllReadyIn.cons rfl (fun K hK => ?_) ?_
                · refine stepIn_app_int rfl (.tmp 9) (.tmp 14) rfl w.heap.size v _ _ rfl rfl hr2 (by rw [len_flK]; omega) (Nat.le_trans hB.size b2.size) ?_
                  intro v3 w3 hr3 hg3
                  obtain ⟨g4, c4, rfl⟩ := ownsRow_succ (k := k) (show w3.ownsRow w.heap.size 3 1 v3 (k + 1) ((flK T k ++ [((fl T k : Nat) : Int)]).map (Value.int .i64)) from by have := hr3; unfold ARow at this; simpa [len_flK] using this)
                  have hv3 : Boxed w3 (w.heap.size + 1) 25 v := (hv2.alloc _).kept hg3 (hv2.not_row (by decide) hr2)
                  have hc3 := hv3.cell
                  have hf3 := hv3.frozen
                  refine hK _ _ ?_
                  clear hK K
                  refine wpAnyIn_ready (rs := [7]) (by kernel_rfl) (by simp) ?_
                  refine AllReadyIn.cons rfl (fun K hK => ?_) ?_
                  · go_simp
                    refine hK _ _ ?_
                    clear hK K
                    refine wpAnyIn_done (by kernel_rfl) ?_ _
                    exact hFin.out w2 _ _ b2 hv2 hr2 hr3 hg3
                  exact AllReadyIn.nil
                exact AllReadyIn.nil
              exact AllReadyIn.nil
            refine AllReadyIn.cons rfl (fun K hK => ?_) ?_
            · go_simp
              refine hK _ _ ?_
              clear hK K
              refine wpAnyIn_ready (rs := [0]) (by kernel_rfl) (by simp) ?_
              refine AllReadyIn.cons rfl (fun K hK => ?_) ?_
              · go_simp
                refine hK _ _ ?_
                clear hK K
                refine wpAnyIn_ready (rs := [6]) (by kernel_rfl) (by simp) ?_
                refine AllReadyIn.cons rfl (fun K hK => ?_) ?_
                · refine stepIn_app_int rfl (.tmp 9) (.tmp 14) rfl w.heap.size v _ _ rfl rfl hr2 (by rw [len_flK]; omega) (Nat.le_trans hB.size b2.size) ?_
                  intro v3 w3 hr3 hg3
                  obtain ⟨g4, c4, rfl⟩ := ownsRow_succ (k := k) (show w3.ownsRow w.heap.size 3 1 v3 (k + 1) ((flK T k ++ [((fl T k : Nat) : Int)]).map (Value.int .i64)) from by have := hr3; unfold ARow at this; simpa [len_flK] using this)
                  have hv3 : Boxed w3 (w.heap.size + 1) 25 v := (hv2.alloc _).kept hg3 (hv2.not_row (by decide) hr2)
                  have hc3 := hv3.cell
                  have hf3 := hv3.frozen
                  refine hK _ _ ?_
                  clear hK K
                  refine wpAnyIn_ready (rs := [7]) (by kernel_rfl) (by simp) ?_
                  refine AllReadyIn.cons rfl (fun K hK => ?_) ?_
                  · go_simp
                    refine hK _ _ ?_
                    clear hK K
                    refine wpAnyIn_done (by kernel_rfl) ?_ _
                    exact hFin.out w2 _ _ b2 hv2 hr2 hr3 hg3
                  exact AllReadyIn.nil
                exact AllReadyIn.nil
              exact AllReadyIn.nil
            exact AllReadyIn.nil
          exact AllReadyIn.nil
        exact AllReadyIn.nil
      exact AllReadyIn.nil
    exact AllReadyIn.nil
  case done =>
    rintro W ⟨hB, v, hv, hrow⟩ hD
    have hc := hv.cell
    obtain ⟨A4, c4, rfl, l1, l2, ho⟩ := hrow.orow
    gi_wp2
    refine ⟨by simp, .inl ⟨_, _, rfl, run_takeDeferred hD, ?_⟩⟩
    refine ⟨_, results_tmp rfl _ _ _, A4, c4, rfl, hB.trans (below_put _ (by omega)), ?_, l1, l2⟩
    rw [World.putObj_size]
    rcases ho with e0 | ⟨g, e, g1, g2, hcs⟩
    · exact .inl e0
    · refine .inr ⟨g, e, g1, g2, fun j hj => ?_⟩
      have hne : g ≠ w1.heap.size := fun e' => by
        have := (hcs j hj).1
        rw [e'] at this
        unfold World.cell? at this
        rw [show W.heap[(⟨w1.heap.size, j, none⟩ : Addr).block]? = _ from hD] at this
        simp at this
      exact ⟨(World.cell?_of_block (w := W) (World.putObj_heap_other hne)).trans (hcs j hj).1, (World.frozen?_of_block (w := W) (World.putObj_heap_other hne)).trans (hcs j hj).2⟩
  case stop =>
    rintro k W _ hx
    exact hx.elim
end Go.Proofs.Ytcegjiiondmchad
