
/- Sides and names of rectangles: the specification's. -/
import Derived.Test.YtcegjiiondmchacSrows
import Derived.Deep.RegionHeld3
namespace Go.Proofs.Ytcegjiiondmchac
open Go.RowKit
set_option linter.unusedVariables false


set_option maxHeartbeats 1000000 in
theorem sColumnsOf_any (A : Option Addr) (c lo hi : Nat) (T : List (List Int)) (w : World) (h : Mat w lo hi A T) (hh : hi ≤ w.heap.size) (hS : Small T) :
    Calls Try.prog 34 #[.slice A T.length c] w (NewRow w (colsL T)) := by
  go_enter Try.func34, Try.ntmps34
  go_wp2_with fail
  refine (sTurnedOf_any A c lo hi T w h hh hS).mono ?_
  rintro e w1 ⟨A1, c1, rfl, b1, o1⟩
  go_wp2_with fail
  refine (sRowsOf_any A1 c1 _ _ (turnT T) w1 o1 (Nat.le_refl _) small_turnT).mono ?_
  rintro e w2 ⟨A2, c2, rfl, b2, hR, hc1, hc2⟩
  go_wp2
  go_ret
  exact ⟨A2, c2, rfl, b1.trans (b2.mono b1.size), hR.mono b1.size (Nat.le_refl _), hc1, hc2⟩

set_option maxRecDepth 20000 in
set_option maxHeartbeats 4000000 in
theorem sSidesOf_any (A : Option Addr) (c lo hi : Nat) (T : List (List Int)) (w : World) (h : Mat w lo hi A T) (hh : hi ≤ w.heap.size) (hS : Small T) :
    Calls Try.prog 36 #[.slice A T.length c] w fun e w' => e = .returned (.tuple #[.int .i64 (sidesR T), .int .i64 (sidesC T), .bool (rectT T)]) ∧ Below w.heap.size w w' := by
  have hlT := hS.len
  cases hr : rectT T
  · have HR := hide (show sidesR T = -1 from by unfold sidesR; rw [hr]; rfl)
    have HC := hide (show sidesC T = -1 from by unfold sidesC; rw [hr]; rfl)
    go_enter Try.func36, Try.ntmps36
    go_wp2_with (go_at_call 25; refine (sRectangularOk_any _ _ _ _ _ _ h hS).mono ?_; rw [hr]; rintro e w1 ⟨rfl, q1⟩)
    go_ret3
    rw [HR.out, HC.out]
    exact ⟨rfl, q1.below _⟩
  · have k := rect_tab hr
    have k9 := k.hi
    have ER := rect_eqvR hr
    have EC := rect_eqvC hr
    have HR := hide (show sidesR T = (ct (inRow T) T.length : Nat) from by unfold sidesR; rw [hr]; rfl)
    have HC := hide (show sidesC T = (ct (inRow (turnT T)) T.length : Nat) from by unfold sidesC; rw [hr]; rfl)
    go_enter Try.func36, Try.ntmps36
    go_wp2_with fail
    refine (sRectangularOk_any _ _ _ _ _ _ h hS).mono ?_
    rw [hr]
    rintro e w1 ⟨rfl, q1⟩
    have B1 := q1.below w.heap.size
    have m1 := h.below B1 hh
    have z1 := B1.size
    go_wp2_with fail
    refine (sRowsOf_any _ _ _ _ T w1 m1 (by omega) hS).mono ?_
    rintro e w2 ⟨A2, c2, rfl, b2, hR2, _, _⟩
    have B2 := B1.trans (b2.mono z1)
    have m2 := m1.below b2 (by omega)
    have z2 := b2.size
    go_wp2_with fail
    refine (sColumnsOf_any _ _ _ _ T w2 m2 (by omega) hS).mono ?_
    rintro e w3 ⟨A3, c3, rfl, b3, hR3, _, _⟩
    have B3 := B2.trans (b3.mono B2.size)
    have hR2' := hR2.below b3 (Nat.le_refl _)
    rw [len_rowsL hr, len_colsL hr]
    go_wp2
    go_loopg [9, 7, 8] T.length (fun g i x y wr => ∃ a : Nat, a ≤ T.length ∧ Hid (g = T.length - a) ∧ i = .int .i64 a ∧ x = .int .i64 (ct (inRow T) a : Nat) ∧ y = .int .i64 (ct (inRow (turnT T)) a : Nat) ∧ w3 = wr)
    case atStart => exact ⟨0, Nat.zero_le _, rfl, rfl, rfl, rfl, rfl⟩
    case round =>
      obtain ⟨a, ha, hgk, rfl, rfl, rfl, rfl⟩ := hrel
      by_cases hlt : a < T.length
      · obtain ⟨bx, ox, rfl, _, _, hc2⟩ := hR2' a (by rw [len_rowsL hr]; exact hlt)
        obtain ⟨by_, oy, rfl, _, _, hc3⟩ := hR3 a (by rw [len_colsL hr]; exact hlt)
        rw [el_rowsL hr hlt] at hc2
        rw [el_colsL hr hlt] at hc3
        have n1 := ER.num_lt hlt (show a < a + 1 by omega)
        have n2 := EC.num_lt hlt (show a < a + 1 by omega)
        have n3 := ct_le_ (inRow T) (a + 1)
        have n4 := ct_le_ (inRow (turnT T)) (a + 1)
        have n5 := ct_le_ (inRow T) a
        have n6 := ct_le_ (inRow (turnT T)) a
        have hna : num (inRow T) a ≤ 9 := by omega
        have hnb : num (inRow (turnT T)) a ≤ 9 := by omega
        have hca : ct (inRow T) a ≤ 9 := by omega
        have hcb : ct (inRow (turnT T)) a ≤ 9 := by omega
        clear n1 n2 n3 n4 n5 n6
        have HX := hide (show ct (inRow T) (a + 1) = if num (inRow T) a + 1 ≤ ct (inRow T) a then ct (inRow T) a else num (inRow T) a + 1 from by
          rw [← ER.next hlt]
          split <;> omega)
        have HY := hide (show ct (inRow (turnT T)) (a + 1) = if num (inRow (turnT T)) a + 1 ≤ ct (inRow (turnT T)) a then ct (inRow (turnT T)) a else num (inRow (turnT T)) a + 1 from by
          rw [← EC.next hlt]
          split <;> omega)
        by_cases hm : num (inRow T) a + 1 ≤ ct (inRow T) a
        all_goals
          by_cases hm2 : num (inRow (turnT T)) a + 1 ≤ ct (inRow (turnT T)) a
          all_goals
            go_wp2
            go_roundg (T.length - (a + 1))
            case measure => go_light; have := hgk.out; omega
            case rel => go_light; exact ⟨a + 1, by omega, rfl, by go_num, congrArg (Value.int .i64) (by rw [HX.out]; simp [hm]), congrArg (Value.int .i64) (by rw [HY.out]; simp [hm2]), rfl⟩
      · obtain rfl : T.length = a := by omega
        go_wp2
        go_ret3
        rw [HR.out, HC.out]
        exact ⟨rfl, B3⟩

/-- 'row = append(row, q)' inside a region that draws its order, and where the row then lies. -/
theorem step_app_int_at {ops : Array Oper} {o : Oper} {a : Act} {K : Act → World → Prop} {Q : Exit → Act → World → Prop} {E : Prop} {w : World} (hgd : o.guard = none) (s x : Operand)
    (ho : o.op = .call { callee := .builtin .append, args := #[s, x], argTypes := #[37, 37] }) (base : Nat) (v : Value) (xs : List Int) (q : Int) (c : Nat) (hs : a.eval s = v) (hx : a.eval x = .slice (some ⟨w.heap.size, 0, none⟩) 1 c)
    (hown : ARow base w v xs) (hn : xs.length ≤ 1048576) (hb : base ≤ w.heap.size)
    (h : ∀ v' w', ARow base w' v' (xs ++ [q]) → w.grownBy w' v.ownBlock → (v'.ownBlock = v.ownBlock ∨ v'.ownBlock = some (w.heap.size + 1)) → K (a.put o.dst v') w') :
    if Region.wanted o (yielded ops a.tmps) = true then Oper.wp Try.prog o a (w.alloc (.cells #[.int .i64 q] 3)) K Q else E := by
  have hw : Region.wanted o (yielded ops a.tmps) = true := by simp [Region.wanted, hgd]
  rw [if_pos hw]
  obtain ⟨i0, hi0, hz0, hz1, hz2⟩ := info_parts info_int
  refine wp_append_lies _ s x 37 ho base 3 i0 (.int .i64 0) 1 8 Try.underlying37 hi0 hz0 hz1 hz2 rfl (by decide) v _ _ hs (hown.alloc _) ⟨w.heap.size, 0, none⟩ 1 c [.int .i64 q] hx rfl
    (World.news_of_block (cs := #[.int .i64 q]) (t := 3) (fr := (0, 0)) (heap_alloc_new _ _)) (by simp [Value.oneCell']) (by decide) (by rw [maxLen_is]; omega) (by omega) (by simp; omega) (w.heap.size + 1) (by simp) ?_
  intro g cap w' h1 h2 h3 _
  exact h _ w' (by unfold ARow; simpa using h1) (grown_alloc _ h2) (h3.imp (fun e => e.symm) (fun e => by rw [e]; rfl))
theorem step_app_drew_at {ops : Array Oper} {o : Oper} {a : Act} {K : Act → World → Prop} {Q : Exit → Act → World → Prop} {E : Prop} {w : World} (hgd : o.guard = none) (s x : Operand)
    (ho : o.op = .call { callee := .builtin .append, args := #[s, x], argTypes := #[37, 37] }) (base : Nat) (v : Value) (xs : List Int) (q : Int) (c : Nat) (hs : a.eval s = v) (hx : a.eval x = .slice (some ⟨w.heap.size, 0, none⟩) 1 c)
    (hown : ARow base w v xs) (hn : xs.length ≤ 1048576) (hb : base ≤ w.heap.size)
    (h : ∀ v' w', ARow base w' v' (xs ++ [q]) → w.grownBy w' v.ownBlock → (v'.ownBlock = v.ownBlock ∨ v'.ownBlock = some (w.heap.size + 1)) → K (a.put o.dst v') w') :
    if Region.wanted o (yielded ops a.tmps) = true then Oper.wp Try.prog o a (w.alloc (.cells #[.int .i64 q] 3)).drew K Q else E :=
  step_app_int_at (w := w.drew) hgd s x ho base v xs q c hs hx hown hn hb fun v' w' h1 h2 h3 => h v' w' h1 ⟨h2.os, h2.tape, h2.output, h2.size, h2.block⟩ h3

/-- The names under way. -/
noncomputable def namK (T : List (List Int)) (k : Nat) : List Int := (List.range k).map fun a => ((num (inRow T) a * nC T + num (inRow (turnT T)) a : Nat) : Int)
theorem namK_succ (T : List (List Int)) (k : Nat) : namK T k ++ [((num (inRow T) k * nC T + num (inRow (turnT T)) k : Nat) : Int)] = namK T (k + 1) := by simp [namK, List.range_succ]
theorem len_namK (T : List (List Int)) (k : Nat) : (namK T k).length = k := by simp [namK]

set_option maxRecDepth 20000 in
set_option maxHeartbeats 8000000 in
theorem sNamedAs_any (A : Option Addr) (c lo hi : Nat) (T : List (List Int)) (w : World) (h : Mat w lo hi A T) (hh : hi ≤ w.heap.size) (hS : Small T) :
    Calls Try.prog 39 #[.slice A T.length c] w (NewRow w (namesL T)) := by
  have hlT := hS.len
  have b0 := (Below.refl w.heap.size w).alloc (Nat.le_refl _) (.cells #[] 3)
  have hz0 : (w.alloc (.cells #[] 3)).heap.size = w.heap.size + 1 := by simp
  have h' := h.below b0 hh
  have r0 : ARow w.heap.size (w.alloc (.cells #[] 3)) (.slice (some ⟨w.heap.size, 0, none⟩) 0 0) [] := ARow.made (Nat.le_refl _)
  have HZ := hide hz0
  have hh' : hi ≤ (w.alloc (.cells #[] 3)).heap.size := by omega
  clear hz0
  go_enter Try.func39, Try.ntmps39
  go_wp2_with fail
  refine (sSidesOf_any _ _ _ _ T _ h' hh' hS).mono ?_
  rintro e w1 ⟨rfl, b1⟩
  have B1 := b0.trans (b1.mono b0.size)
  have m1 := h.below B1 hh
  have r1 := r0.below b1
  have z1 := B1.size
  go_wp2_with fail
  refine (sRowsOf_any _ _ _ _ T w1 m1 (by omega) hS).mono ?_
  rintro e w2 ⟨A2, c2, rfl, b2, hR2, _, _⟩
  have B2 := B1.trans (b2.mono z1)
  have m2 := m1.below b2 (by omega)
  have r2 := r1.below b2
  have z2 := b2.size
  go_wp2_with fail
  refine (sColumnsOf_any _ _ _ _ T w2 m2 (by omega) hS).mono ?_
  rintro e w3 ⟨A3, c3, rfl, b3, hR3, _, _⟩
  have B3 := B2.trans (b3.mono B2.size)
  have hR2' := hR2.below b3 (Nat.le_refl _)
  have r3 := r2.below b3
  have z3 := b3.size
  have zb : w.heap.size + 1 ≤ w1.heap.size := by have := b1.size; have := HZ.out; omega
  clear r0 r1 r2 b0 b1 b2 b3 h' hh' m1 m2 hR2
  cases hr : rectT T
  · have HF : Hid (NewRow w (namesL T) (.returned (.slice (some ⟨w.heap.size, 0, none⟩) 0 0)) w3) := by
      rw [namesL_not hr]; exact ⟨_, 0, rfl, B3, Row.nil _ _ _ _, by simp, by omega⟩
    by_cases hz : (0 : Int) < (T.length : Int)
    all_goals
      go_wp2
      go_loopg [9, 3] 1 (fun g i v wr => i = .int .i64 0 ∧ v = .slice (some ⟨w.heap.size, 0, none⟩) 0 0 ∧ w3 = wr)
      case atStart => exact ⟨rfl, rfl, rfl⟩
      case round =>
        obtain ⟨rfl, rfl, rfl⟩ := hrel
        go_wp2
        go_ret
        exact HF.out
  · have k := rect_tab hr
    have k9 := k.hi
    have ER := rect_eqvR hr
    have EC := rect_eqvC hr
    have HE := hide (show namesL T = namK T T.length from namesL_ok hr)
    have hsc : sidesC T = (nC T : Nat) := by unfold sidesC; rw [hr]; rfl
    have hnC : nC T ≤ 9 := by have := ct_le_ (inRow (turnT T)) T.length; unfold nC; omega
    rw [hsc, len_rowsL hr, len_colsL hr]
    clear hsc
    go_wp2
    go_loopg [9, 3] T.length (fun g i v wr => ∃ a : Nat, a ≤ T.length ∧ Hid (g = T.length - a) ∧ i = .int .i64 a ∧ ARow w.heap.size wr v (namK T a) ∧ Below w.heap.size w wr ∧ Row wr w1.heap.size w2.heap.size A2 (rowsL T) ∧ Row wr w2.heap.size w3.heap.size A3 (colsL T) ∧ Hid (v.ownBlock = some w.heap.size ∨ ∃ q, v.ownBlock = some q ∧ w3.heap.size ≤ q) ∧ Hid (w3.heap.size ≤ wr.heap.size))
    case atStart => exact ⟨0, Nat.zero_le _, rfl, rfl, r3, B3, hR2', hR3, .inl rfl, Nat.le_refl _⟩
    case round =>
      clear r3 hR2' hR3
      obtain ⟨a, ha, hgk, rfl, hA, hB, hR2, hR3, hO, hZ⟩ := hrel
      by_cases hlt : a < T.length
      · obtain ⟨bx, ox, rfl, _, hlx, hc2⟩ := hR2 a (by rw [len_rowsL hr]; exact hlt)
        obtain ⟨by_, oy, rfl, _, hly, hc3⟩ := hR3 a (by rw [len_colsL hr]; exact hlt)
        rw [el_rowsL hr hlt] at hc2
        rw [el_colsL hr hlt] at hc3
        have n1 := ER.num_lt hlt (show a < a + 1 by omega)
        have n2 := EC.num_lt hlt (show a < a + 1 by omega)
        have n3 := ct_le_ (inRow T) (a + 1)
        have n4 := ct_le_ (inRow (turnT T)) (a + 1)
        have hna : num (inRow T) a ≤ 9 := by omega
        have hnb : num (inRow (turnT T)) a ≤ 9 := by omega
        clear n1 n2 n3 n4
        obtain ⟨y0, y1⟩ := mulB (by omega : (0 : Int) ≤ ((num (inRow T) a : Nat) : Int)) (by omega) (by omega : (0 : Int) ≤ ((nC T : Nat) : Int)) (by omega)
        have HW := hide (show IntKind.i64.wrap (IntKind.i64.wrap (((num (inRow T) a : Nat) : Int) * ((nC T : Nat) : Int)) + ((num (inRow (turnT T)) a : Nat) : Int)) = ((num (inRow T) a * nC T + num (inRow (turnT T)) a : Nat) : Int) from (wrap2 y0 y1 (by omega) (by omega)).trans (by simp))
        have hl' : (namK T a).length ≤ 1048576 := by rw [len_namK]; omega
        have hs := hB.size
        have zr := hZ.out
        have lx : bx < wr.heap.size := World.block_lt_of_cell? _ _ hc2
        have ly : by_ < wr.heap.size := World.block_lt_of_cell? _ _ hc3
        have MK := hide (fun (W : World) (hW : wr.heap.size ≤ W.heap.size ∧ W.heap[bx]? = wr.heap[bx]? ∧ W.heap[by_]? = wr.heap[by_]?) =>
          (⟨(World.cell?_of_block (a := ⟨bx, ox + a, none⟩) hW.2.1).trans hc2, (World.cell?_of_block (a := ⟨by_, oy + a, none⟩) hW.2.2).trans hc3, hW⟩ :
            W.cell? ⟨bx, ox + a, none⟩ = some (.int .i64 (num (inRow T) a : Nat)) ∧ W.cell? ⟨by_, oy + a, none⟩ = some (.int .i64 (num (inRow (turnT T)) a : Nat)) ∧ wr.heap.size ≤ W.heap.size ∧ W.heap[bx]? = wr.heap[bx]? ∧ W.heap[by_]? = wr.heap[by_]?))
        have hnx : some bx ≠ Value.ownBlock u3 ∧ some by_ ≠ Value.ownBlock u3 := by
          rcases hO.out with e | ⟨q, e, hq⟩
          · rw [e]; exact ⟨fun h => by injection h with h; omega, fun h => by injection h with h; omega⟩
          · rw [e]; exact ⟨fun h => by injection h with h; omega, fun h => by injection h with h; omega⟩
        obtain ⟨hnx1, hnx2⟩ := hnx
        clear hc2 hc3
        go_wp2
        go_region_held3 (fun W => W.cell? ⟨bx, ox + a, none⟩ = some (.int .i64 (num (inRow T) a : Nat)) ∧ W.cell? ⟨by_, oy + a, none⟩ = some (.int .i64 (num (inRow (turnT T)) a : Nat)) ∧ wr.heap.size ≤ W.heap.size ∧ W.heap[bx]? = wr.heap[bx]? ∧ W.heap[by_]? = wr.heap[by_]?)
          (first
            | exact MK.out _ ⟨Nat.le_refl _, rfl, rfl⟩
            | exact MK.out _ ⟨by simp, Below.heap_alloc _ _ _ lx, Below.heap_alloc _ _ _ ly⟩
            | exact MK.out _ ⟨World.grownBy.size (by assumption), World.grownBy.block (by assumption) _ lx hnx1, World.grownBy.block (by assumption) _ ly hnx2⟩)
          (first
            | (refine step_app_drew_at (by rfl) (.tmp 30) (.tmp 42) (by rfl) w.heap.size _ (namK T a) _ 1 (by rfl) (by rfl) hA hl' hs ?_
               intro v1 w4 hown1 hg1 hat1))
        have hbb := hA.belowOf (base0 := w.heap.size) hg1 (Nat.le_refl _) hs
        have keepR : ∀ {lo hi : Nat} {A : Option Addr} {xs : List Int}, Row wr lo hi A xs → w1.heap.size ≤ lo → hi ≤ w3.heap.size → Row w4 lo hi A xs := fun {lo hi A xs} h h1 h2 => h.keep fun q hq1 hq2 => hg1.block q (by omega) (by
          rcases hO.out with e | ⟨q', e, hq'⟩
          · rw [e]; exact fun h => by injection h with h; omega
          · rw [e]; exact fun h => by injection h with h; omega)
        go_wp2
        go_roundg (T.length - (a + 1))
        case measure => go_light; have := hgk.out; omega
        case rel => go_light; exact ⟨a + 1, by omega, rfl, by go_num, by rw [← namK_succ, ← HW.out]; exact hown1, hB.trans hbb, keepR hR2 (Nat.le_refl _) z3, keepR hR3 z2 (Nat.le_refl _), (by
          rcases hat1 with e | e
          · rw [e]; exact hO.out
          · exact .inr ⟨_, e, by omega⟩), Nat.le_trans zr hg1.size⟩
      · obtain rfl : T.length = a := by omega
        obtain ⟨Ao, co, rfl, hc1, hc2, hRo⟩ := hA.val
        go_wp2
        go_ret
        rw [HE.out]
        exact ⟨Ao, co, rfl, hB, hRo, hc1, hc2⟩
end Go.Proofs.Ytcegjiiondmchac
