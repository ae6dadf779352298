
/- The table of words, and their values: the specification's. -/
import Derived.Test.YthllbekoidogpaaSfree
import Derived.BigQuiet
import Derived.Maps.AppendAt
namespace Go.Proofs.Ythllbekoidogpaa
open Go.RowKit
set_option linter.unusedVariables false


/-- 'table = append(table, row)', and where the table lies then. -/
theorem wp_app_row_at {ops : Array Oper} {rest : List Oper} {o : Oper} {a : Act} {Q : Exit → Act → World → Prop} {w : World} (hgd : o.guard = none) (s x : Operand)
    (ho : o.op = .call { callee := .builtin .append, args := #[s, x], argTypes := #[23, 23] }) (base : Nat) (v u : Value) (T : List (List Int)) (xs : List Int) (c : Nat) (hs : a.eval s = v) (hx : a.eval x = .slice (some ⟨w.heap.size, 0, none⟩) 1 c)
    (hown : ATab base w v T) (hrow : ARow base w u xs) (hn : T.length ≤ 1048576) (hb : base ≤ w.heap.size)
    (h : ∀ v' w', ATab base w' v' (T ++ [xs]) → w.grownBy w' v.ownBlock → (v'.ownBlock = v.ownBlock ∨ v'.ownBlock = some (w.heap.size + 1)) → wpList Try.prog ops Q rest (a.put o.dst v') w') : wpList Try.prog ops Q (o :: rest) a (w.alloc (.cells #[u] 58)) := by
  obtain ⟨i0, hi0, hz0, hz1, hz2⟩ := info_parts info_row
  obtain ⟨vs, ho1, ho2⟩ := hown
  have hu1 : u.oneCell' = true := by
    obtain ⟨A, c, rfl, _⟩ := hrow.val
    rfl
  refine wpList_append_own_at _ hgd s x 23 ho base 58 i0 (.slice none 0 0) 1 24 Try.underlying23 hi0 hz0 hz1 hz2 rfl (by decide) v _ _ hs (ho1.alloc _) ⟨w.heap.size, 0, none⟩ 1 c [u] hx rfl
    (World.news_of_block (cs := #[u]) (t := 58) (fr := (0, 0)) (heap_alloc_new _ _)) (by intro y hy; simp at hy; subst hy; exact hu1) (by rw [maxLen_is]; omega) (by omega) (by simp; omega) ?_
  intro v' w' h1 h2 _ h4
  have e : (w.alloc (.cells #[u] 58)).heap.size = w.heap.size + 1 := by simp
  rw [e] at h4
  have hg := grown_alloc _ h2
  have keep : ∀ {u' : Value} {ys : List Int}, ARow base w u' ys → ARow base w' u' ys := fun hr => World.ownsRow.kept hr hg (own_ne hr ho1 (by decide))
  refine h v' w' ⟨vs ++ [u], by simpa using h1, fun i hi => ?_⟩ hg h4
  have hl : vs.length = T.length := by have := ho1.1; simpa using this
  by_cases e : i < T.length
  · obtain ⟨u', hu', hr⟩ := ho2 i e
    refine ⟨u', by rw [List.getElem?_append_left (by omega)]; exact hu', ?_⟩
    have : rw_ (T ++ [xs]) i = rw_ T i := by simp [rw_, List.getD, List.getElem?_append_left e]
    rw [this]; exact keep hr
  · have ei : i = T.length := by simp at hi; omega
    subst ei
    refine ⟨u, by rw [← hl]; simp, ?_⟩
    have : rw_ (T ++ [xs]) T.length = xs := by simp [rw_, List.getD]
    rw [this]; exact keep hrow
theorem OutOf.next {v v' : Value} {lo hi n : Nat} (h : OutOf v lo hi) (hn : hi ≤ n) (e : v'.ownBlock = v.ownBlock ∨ v'.ownBlock = some n) : OutOf v' lo hi := fun b hb => by
  rcases e with e | e
  · exact h b (e ▸ hb)
  · rw [e] at hb
    injection hb with hb
    omega

set_option maxRecDepth 20000 in
set_option maxHeartbeats 8000000 in
theorem sFreeTable_any (m : Int) (w : World) : Calls Try.prog 47 #[.int .i64 m] w (NewTab w (freeT m)) := by
  have bn := (Below.refl w.heap.size w).alloc (Nat.le_refl _) (.cells #[] 58)
  have zn : (w.alloc (.cells #[] 58)).heap.size = w.heap.size + 1 := by simp
  cases hc : (decide (1 ≤ m) && decide (m ≤ 2))
  · have HE := hide (freeT_not hc)
    go_enter Try.func47, Try.ntmps47
    go_wp2_with fail
    refine (l1In_any m 1 2 _).mono ?_
    rw [hc]
    rintro e w' ⟨rfl, rfl⟩
    go_wp2
    go_ret
    rw [HE.out]
    exact ⟨_, 0, rfl, bn, Mat.nil _ _ _ _⟩
  · have HE := hide (freeT_ok hc)
    have hF := freeOk hc
    have T0 : ATab w.heap.size (w.alloc (.cells #[] 58)) (.slice (some ⟨w.heap.size, 0, none⟩) 0 0) [] := ATab.made (Nat.le_refl _)
    have HM := hide (fun W => sAllWords_any m W)
    obtain ⟨L, hL⟩ : ∃ L, L = allW m := ⟨_, rfl⟩
    rw [← hL] at HE hF HM
    clear hL
    have HF := hide hF
    obtain ⟨l1, l6⟩ := hF.len
    clear hF
    go_enter Try.func47, Try.ntmps47
    go_wp2_with fail
    refine (l1In_any m 1 2 _).mono ?_
    rw [hc]
    rintro e w' ⟨rfl, rfl⟩
    go_wp2_with fail
    refine (HM.out _).mono ?_
    intro e w1 hN
    obtain ⟨b, of, c, rfl, b1, hR, c1, c2⟩ := hN.at_ l1
    rw [zn] at hR b1
    have T1 := T0.below (by rw [zn]; exact b1)
    have B1 := bn.trans (b1.mono (by omega))
    have z1 := b1.size
    rw [zn] at z1
    have O1 : OutOf (.slice (some ⟨w.heap.size, 0, none⟩) 0 0) (w.heap.size + 1) w1.heap.size := fun x hx => by
      have : w.heap.size = x := by simpa [Value.ownBlock] using hx
      omega
    obtain ⟨H, hH⟩ : ∃ H, H = w1.heap.size := ⟨_, rfl⟩
    rw [← hH] at hR O1
    have hHz : H ≤ w1.heap.size := by omega
    have hwH : w.heap.size ≤ H := by omega
    clear hN T0 b1 bn zn hH
    go_wp2
    go_loopg [5, 3] L.length (fun g i v wr => ∃ k : Nat, k ≤ L.length ∧ Hid (g = L.length - k) ∧ i = .int .i64 k ∧ ATab w.heap.size wr v (rowsX L k) ∧ Below w.heap.size w wr ∧ Srow wr (w.heap.size + 1) H (some ⟨b, of, none⟩) L ∧ OutOf v (w.heap.size + 1) H ∧ H ≤ wr.heap.size)
    case atStart => exact ⟨0, Nat.zero_le _, rfl, rfl, T1, B1, hR, O1, hHz⟩
    case round =>
      clear T1 B1 hR O1 hHz z1
      obtain ⟨k, hk, hgk, rfl, hA, hB, hR, hO, hHz⟩ := hrel
      by_cases hkt : k < L.length
      · obtain ⟨wo, rfl⟩ : ∃ wo : World, wo = wr := ⟨_, rfl⟩
        have hki : (k : Int) < (L.length : Int) := by omega
        have hb1 := (Below.refl wo.heap.size wo).alloc (Nat.le_refl _) (.cells #[] 3)
        have hr0 := ARow.made (w := wo) (Nat.le_refl _)
        go_wp2
        go_loopg [7, 6] L.length (fun g i u wi => ∃ j : Nat, j ≤ L.length ∧ Hid (g = L.length - j) ∧ i = .int .i64 j ∧ ARow wo.heap.size wi u (rowX L k j) ∧ Below wo.heap.size wo wi)
        case atStart => exact ⟨0, Nat.zero_le _, rfl, rfl, hr0, hb1⟩
        case round =>
          clear hb1 hr0
          obtain ⟨j, hj, hgk2, rfl, hR2, hW⟩ := hrel
          by_cases hjt : j < L.length
          · have hji : (j : Int) < (L.length : Int) := by omega
            have hRi := hR.below hW (by omega)
            obtain ⟨b', o', e', _, _, gk'⟩ := hRi k hkt
            injection e' with e'
            injection e' with e1 e2 _
            subst e1 e2
            obtain ⟨b', o', e', _, hbH, gj'⟩ := hRi j hjt
            injection e' with e'
            injection e' with e1 e2 _
            subst e1 e2
            obtain ⟨wk, lk⟩ := HF.out.word k hkt
            obtain ⟨wj, lj⟩ := HF.out.word j hjt
            have hix := HF.out.ix k j hkt hjt
            have HU := hide (fun i (hi : i < L.length) => HF.out.uniq i k j hi hkt hjt)
            have hok : okE (sl L k ++ sl L j) := .inr (okW_app wk wj (by omega))
            have hadd := fun w => add_bs (P := Try.prog) (sl L k) (sl L j) (by omega) w
            have HX := hide (rowX_succ L k j)
            obtain ⟨ix, hixe⟩ : ∃ ix, ix = ixP L k j := ⟨_, rfl⟩
            rw [← hixe] at hix HU HX
            obtain ⟨x, hx⟩ : ∃ x, x = sl L k ++ sl L j := ⟨_, rfl⟩
            rw [← hx] at hok hadd HU
            have HMD := hide (fun W => sl7Made_any x.length x W (Nat.le_refl _) hok)
            obtain ⟨y, hy⟩ : ∃ y, y = made x := ⟨_, rfl⟩
            rw [← hy] at HMD HU
            clear hixe hx hy hok wk wj
            go_wp2
            go_quiet ((go_at_call 74; exact quiet_at (HMD.out _)))
            have hR3 : ARow wo.heap.size (wr.drewN nq) u6 (rowX L k j) := hR2
            go_wp2
            go_loopg [9, 6] L.length (fun g i u wi => ∃ i' : Nat, i' ≤ L.length ∧ Hid (g = L.length - i') ∧ i = .int .i64 i' ∧ ARow wo.heap.size wi u (if ix < i' then rowX L k (j + 1) else rowX L k j) ∧ Below wo.heap.size wo wi)
            case atStart => exact ⟨0, Nat.zero_le _, rfl, rfl, by rw [if_neg (Nat.not_lt_zero _)]; exact hR2, Below.drewN_ hW _⟩
            case round =>
              clear hR3 hR2
              obtain ⟨i', hi', hgk3, rfl, hR4, hW4⟩ := hrel
              have hs4 := hW4.size
              by_cases hit : i' < L.length
              · have hii : (i' : Int) < (L.length : Int) := by omega
                obtain ⟨b', o', e', _, _, gi'⟩ := (hR.below hW4 (by omega)) i' hit
                injection e' with e'
                injection e' with e1 e2 _
                subst e1 e2
                have hq := eq_bs (sl L i') y
                rw [HU.out i' hit] at hq
                obtain ⟨z, hz⟩ : ∃ z, z = sl L i' := ⟨_, rfl⟩
                rw [← hz] at hq gi'
                clear hz gk' gj'
                by_cases hxe : i' = ix
                · subst hxe
                  rw [decide_eq_true rfl] at hq
                  rw [if_neg (Nat.lt_irrefl _)] at hR4
                  have hl' : (rowX L k j).length ≤ 1048576 := by rw [len_rowX]; omega
                  go_wp2_with (at_builtin; refine wp_app_int rfl (.tmp 52) (.tmp 54) rfl wo.heap.size _ _ _ _ rfl rfl hR4 hl' hs4 ?_; intro v2 w3 hown2 hg2)
                  go_roundg (L.length - (i' + 1))
                  case measure => go_light; have := hgk3.out; omega
                  case rel => go_light; exact ⟨i' + 1, by omega, rfl, by go_num, by rw [if_pos (Nat.lt_succ_self _), ← HX.out]; exact hown2, hW4.trans (hR4.belowOf hg2 (Nat.le_refl _) hs4)⟩
                · rw [decide_eq_false hxe] at hq
                  have HXE := hide hxe
                  go_wp2
                  go_roundg (L.length - (i' + 1))
                  case measure => go_light; have := hgk3.out; omega
                  case rel => go_light; exact ⟨i' + 1, by omega, rfl, by go_num, by
                    have := HXE.out
                    by_cases h2 : ix < i'
                    · rw [if_pos h2] at hR4; rw [if_pos (by omega)]; exact hR4
                    · rw [if_neg h2] at hR4; rw [if_neg (by omega)]; exact hR4, hW4⟩
              · obtain rfl : i' = L.length := by omega
                rw [if_pos hix] at hR4
                go_wp2
                go_roundg (L.length - (j + 1))
                case measure => go_light; have := hgk2.out; omega
                case rel => go_light; exact ⟨j + 1, by omega, rfl, by go_num, hR4, hW4⟩
          · obtain rfl : j = L.length := by omega
            have hA2 := hA.below hW
            obtain ⟨Ar, cr, hAr, _, _, _⟩ := hR2.val
            rw [len_rowX] at hAr
            subst hAr
            have hwi := hB.size
            have hl' : (rowsX L k).length ≤ 1048576 := by rw [len_rowsX]; omega
            have hs2 : w.heap.size ≤ wr.heap.size := Nat.le_trans hwi hW.size
            have hRW := hR.below hW (by omega)
            have hHr : H ≤ wr.heap.size := Nat.le_trans hHz hW.size
            go_wp2_with (at_builtin; refine wp_app_row_at rfl (.tmp 56) (.tmp 58) rfl w.heap.size _ _ _ _ _ rfl rfl hA2 (hR2.mono hwi) hl' hs2 ?_; intro v1 w3 hown1 hg1 ho1)
            go_roundg (L.length - (k + 1))
            case measure => go_light; have := hgk.out; omega
            case rel => go_light; exact ⟨k + 1, by omega, rfl, by go_num, by rw [← rowsX_succ]; exact hown1, (hB.trans (hW.mono hwi)).trans (hA2.belowOf hg1 (Nat.le_refl _) hs2), hRW.grown hg1 hO hHr, hO.next (n := wr.heap.size + 1) (by omega) ho1, Nat.le_trans hHr hg1.size⟩
      · obtain rfl : k = L.length := by omega
        obtain ⟨A', c', hv, _, _, hM⟩ := hA.val
        rw [len_rowsX] at hv
        subst hv
        go_wp2
        go_ret
        rw [HE.out]
        exact ⟨A', c', ret_slice (by rw [len_rowsX]), hB, hM⟩

end Go.Proofs.Ythllbekoidogpaa
