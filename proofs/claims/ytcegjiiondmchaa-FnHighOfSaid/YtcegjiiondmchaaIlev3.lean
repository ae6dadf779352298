
/- The first things of levels, collected from the iterator: the program's. -/
import Derived.Test.YtcegjiiondmchaaIlevR
import Derived.Test.YtcegjiiondmchaaIlev2
import Derived.Test.YtcegjiiondmchaaSltab
import Derived.Maps.AppendAt
namespace Go.Proofs.Ytcegjiiondmchaa
open Go.RowKit
set_option linter.unusedVariables false


attribute [local go_sem] Oper.semAt_some

/-- The first things of the first k levels. -/
def flK (T : List (List Int)) (k : Nat) : List Int := (List.range k).map fun v => ((fl T v : Nat) : Int)
theorem flK_succ (T : List (List Int)) (k : Nat) : flK T k ++ [((fl T k : Nat) : Int)] = flK T (k + 1) := by simp [flK, List.range_succ]
theorem len_flK (T : List (List Int)) (k : Nat) : (flK T k).length = k := by simp [flK]
theorem el_flK {T : List (List Int)} {k v : Nat} (h : v < k) : el (flK T k) v = ((fl T v : Nat) : Int) := by simp [flK, el, List.getD, h]
theorem cnt_zero {s : Nat} : ∀ z, (∀ b, b < z → s.testBit b = false) → cnt s z = 0
  | 0, _ => rfl
  | z + 1, h => by
    simp only [cnt]
    rw [cnt_zero z fun b hb => h b (by omega), h z (by omega)]
    simp
/-- The first thing of a level's set. -/
theorem el_first {T : List (List Int)} (hb : bandT T = true) {v : Nat} (h : v < nL T) : 0 < (thk (levB T v) 9).length ∧ el (thk (levB T v) 9) 0 = ((fl T v : Nat) : Int) := by
  obtain ⟨h1, h2, h3⟩ := fl_ok h
  have k9 := (band_tab hb).hi
  have hbit : (levB T v).testBit (fl T v) = true := levB_bit.2 ⟨h1, h2⟩
  have hz : cnt (levB T v) (fl T v) = 0 := cnt_zero _ fun b hb => by
    cases e : (levB T v).testBit b with
    | false => rfl
    | true => exact absurd (levB_bit.1 e).2 (h3 b hb)
  have h4 := el_cnt hbit 9 (by omega)
  have h5 := cnt_bit hbit 9 (by omega)
  rw [hz] at h4 h5
  rw [len_thk_cnt]
  exact ⟨h5, h4⟩

/-- 'row = append(row, q)' in a round, inside a region that draws its order. -/
theorem stepIn_app_int {F : Fence} {n : Nat} {ops : Array Oper} {o : Oper} {a : Act} {K : Act → World → Prop} {Q : Exit → Act → World → Prop} {E : Prop} {w : World} (hgd : o.guard = none) (s x : Operand)
    (ho : o.op = .call { callee := .builtin .append, args := #[s, x], argTypes := #[30, 30] }) (base : Nat) (v : Value) (xs : List Int) (q : Int) (hs : a.eval s = v) (hx : a.eval x = .slice (some ⟨w.heap.size, 0, none⟩) 1 1)
    (hown : ARow base w v xs) (hn : xs.length ≤ 1048576) (hb : base ≤ w.heap.size)
    (h : ∀ v' w', ARow base w' v' (xs ++ [q]) → (w.alloc (.cells #[.int .i64 q] 3)).grownBy w' v.ownBlock → K (a.put o.dst v') w') :
    if Region.wanted o (yielded ops a.tmps) = true then Oper.wpIn F n Try.prog o a (w.alloc (.cells #[.int .i64 q] 3)) K Q else E := by
  have hw : Region.wanted o (yielded ops a.tmps) = true := by simp [Region.wanted, hgd]
  rw [if_pos hw]
  obtain ⟨i0, hi0, hz0, hz1, hz2⟩ := info_parts info_int
  obtain ⟨v', w', hrun, r1, r2, _⟩ := run_append_own (P := Try.prog) (w.alloc (.cells #[.int .i64 q] 3)) base 30 o.type 3 i0 (.int .i64 0) 1 8 Try.underlying30 hi0 hz0 hz1 hz2 rfl (by decide) v xs.length _ (hown.alloc _) ⟨w.heap.size, 0, none⟩ 1 1 [.int .i64 q] rfl
    (World.news_of_block (cs := #[.int .i64 q]) (t := 3) (fr := (0, 0)) (heap_alloc_new _ _)) (by simp [Value.oneCell']) (by rw [maxLen_is]; omega) (by omega) (by simp; omega)
  unfold Oper.wpIn
  refine ⟨?_, ?_⟩
  · simp [Oper.about, ho, resolve, Target.leads, Sem.run_pure]
  · rw [Oper.semAt_plain F _ _ (by rw [ho]; intro c hc'; cases hc')]
    simp [execOp, ho, resolve, invoke, builtin, hs, hx, hrun, Result.andThen]
    exact h v' w' (by unfold ARow; simpa using r1) r2
/-- The store of a grown row keeps boxes of tables. -/
theorem boxes_app {W w2 w3 : World} {n0 B k b : Nat} {v u v' : Value} {xs : List Value} {tmp : Obj} (h1 : Below W.heap.size W w2) (hv : Boxed w2 B 30 v) (hrow : w2.ownsRow n0 3 1 v k xs)
    (hg : (w2.alloc tmp).grownBy w3 v.ownBlock) (hb : Boxed W b 52 u) : Boxed (w3.setCell ⟨B, 0, none⟩ v') b 52 u := by
  have hb2 : Boxed w2 b 52 u := (h1.block b hb.lt).trans hb
  have hb3 : Boxed w3 b 52 u := (hb2.alloc tmp).kept hg (hb2.not_row (by decide) hrow)
  refine hb3.kept (grownBy_setCell' w3 B v') fun e => ?_
  obtain rfl : b = B := by simpa using e
  have := (show w2.heap[b]? = _ from hb2).symm.trans hv
  simp at this

end Go.Proofs.Ytcegjiiondmchaa
