
/- The table of a part: the specification's. -/
import Derived.Test.YthllbekoidogpaaPartP
import Derived.Test.YthllbekoidogpaaMadeS
import Derived.Test.YthllbekoidogpaaFill
import Derived.Test.YthllbekoidogpaaPureX
import Derived.Maps.AppendAt
import Derived.Deep.RegionHeld3
namespace Go.Proofs.Ythllbekoidogpaa
open Go.RowKit
set_option linter.unusedVariables false


/-- 'row = append(row, q)', and where the row then lies. -/
theorem wp_app_int_at {ops : Array Oper} {rest : List Oper} {o : Oper} {a : Act} {Q : Exit → Act → World → Prop} {w : World} (hgd : o.guard = none) (s x : Operand)
    (ho : o.op = .call { callee := .builtin .append, args := #[s, x], argTypes := #[58, 58] }) (base : Nat) (v : Value) (xs : List Int) (q : Int) (c : Nat) (hs : a.eval s = v) (hx : a.eval x = .slice (some ⟨w.heap.size, 0, none⟩) 1 c)
    (hown : ARow base w v xs) (hn : xs.length ≤ 1048576) (hb : base ≤ w.heap.size)
    (h : ∀ v' w', ARow base w' v' (xs ++ [q]) → w.grownBy w' v.ownBlock → (v'.ownBlock = v.ownBlock ∨ v'.ownBlock = some (w.heap.size + 1)) → wpList Try.prog ops Q rest (a.put o.dst v') w') : wpList Try.prog ops Q (o :: rest) a (w.alloc (.cells #[.int .i64 q] 3)) := by
  obtain ⟨i0, hi0, hz0, hz1, hz2⟩ := info_parts info_int
  refine wpList_append_own_at _ hgd s x 58 ho base 3 i0 (.int .i64 0) 1 8 Try.underlying58 hi0 hz0 hz1 hz2 rfl (by decide) v _ _ hs (hown.alloc _) ⟨w.heap.size, 0, none⟩ 1 c [.int .i64 q] hx rfl
    (World.news_of_block (cs := #[.int .i64 q]) (t := 3) (fr := (0, 0)) (heap_alloc_new _ _)) (by simp [Value.oneCell']) (by rw [maxLen_is]; omega) (by omega) (by simp; omega) ?_
  intro v' w' h1 h2 _ h4
  have e : (w.alloc (.cells #[.int .i64 q] 3)).heap.size = w.heap.size + 1 := by simp
  rw [e] at h4
  exact h v' w' (by unfold ARow; simpa using h1) (grown_alloc _ h2) h4

/-- The places of things, below k. -/
def atL (s k : Nat) : List Int := (List.range k).map fun j => ((cnt s j : Nat) : Int)
theorem len_atL (s k : Nat) : (atL s k).length = k := by simp [atL]
theorem atL_succ (s k : Nat) : atL s k ++ [((cnt s k : Nat) : Int)] = atL s (k + 1) := by simp [atL, List.range_succ]
theorem el_atL {s k j : Nat} (h : j < k) : el (atL s k) j = ((cnt s j : Nat) : Int) := by simp [atL, el, List.getD, h]
theorem thk_ge {s n : Nat} (h : s < 2 ^ n) : ∀ j, thk s (n + j) = thk s n
  | 0 => rfl
  | j + 1 => by
    have e : s.testBit (n + j) = false := by
      cases e : s.testBit (n + j) with
      | false => rfl
      | true => have := bit_lt h e; omega
    rw [← Nat.add_assoc, thk_succ, thk_ge h j, e]; simp
theorem thk_9 {s n : Nat} (h : s < 2 ^ n) (hn : n ≤ 9) : thk s 9 = thk s n := by
  have := thk_ge h (9 - n)
  rwa [show n + (9 - n) = 9 from by omega] at this

theorem ATab.keepRow {base base' : Nat} {w w1 : World} {v u : Value} {T : List (List Int)} {xs : List Int} (h : ATab base w v T) (hr : ARow base' w u xs) (hg : w.grownBy w1 v.ownBlock) : ARow base' w1 u xs := by
  obtain ⟨vs, h1, _⟩ := h
  exact World.ownsRow.kept hr hg (own_ne hr h1 (by decide))

/-- Both rows under way, in blocks of their own. -/
structure Both (base : Nat) (wr : World) (s k : Nat) (v6 v7 : Value) : Prop where
  a : ARow base wr v6 (atL s k)
  l : ARow base wr v7 (thk s k)
  ne : v6.ownBlock ≠ v7.ownBlock
theorem own_lt {base : Nat} {w : World} {v : Value} {xs : List Int} (h : ARow base w v xs) {k : Nat} (e : v.ownBlock = some k) : k < w.heap.size := (h.lt k e).2
theorem Both.at_ {base s k : Nat} {wr w1 : World} {v6 v7 v1 : Value} (h : Both base wr s k v6 v7) (h1 : ARow base w1 v1 (atL s k ++ [((cnt s k : Nat) : Int)])) (hg : wr.grownBy w1 v6.ownBlock) (ho : v1.ownBlock = v6.ownBlock ∨ v1.ownBlock = some (wr.heap.size + 1)) :
    ARow base w1 v1 (atL s (k + 1)) ∧ ARow base w1 v7 (thk s k) ∧ v1.ownBlock ≠ v7.ownBlock := by
  refine ⟨by rw [← atL_succ]; exact h1, World.ownsRow.kept h.l hg (.inr fun e => h.ne e.symm), fun e => ?_⟩
  rcases ho with ho | ho
  · exact h.ne (ho.symm.trans e)
  · have := own_lt h.l (e.symm.trans ho); omega
theorem Both.list_ {base s k : Nat} {wr w1 : World} {v6 v7 v1 : Value} (ha : ARow base wr v6 (atL s (k + 1))) (hl : ARow base wr v7 (thk s k)) (hne : v6.ownBlock ≠ v7.ownBlock) (hb : s.testBit k = true) (h1 : ARow base w1 v1 (thk s k ++ [(k : Int)])) (hg : wr.grownBy w1 v7.ownBlock) (ho : v1.ownBlock = v7.ownBlock ∨ v1.ownBlock = some (wr.heap.size + 1)) :
    Both base w1 s (k + 1) v6 v1 := by
  refine ⟨World.ownsRow.kept ha hg (.inr hne), by rw [thk_succ, hb]; exact h1, fun e => ?_⟩
  rcases ho with ho | ho
  · exact hne (e.trans ho)
  · have := own_lt ha (e.trans ho); omega
theorem Both.skip {base s k : Nat} {wr : World} {v6 v7 : Value} (ha : ARow base wr v6 (atL s (k + 1))) (hl : ARow base wr v7 (thk s k)) (hne : v6.ownBlock ≠ v7.ownBlock) (hb : s.testBit k = false) : Both base wr s (k + 1) v6 v7 :=
  ⟨ha, by rw [thk_succ, hb]; simpa using hl, hne⟩
/-- The specification's table under way. -/
def rowQ (T : List (List Int)) (s x k : Nat) : List Int := (List.range k).map fun y => partM T s x y
def rowsQ (T : List (List Int)) (s L k : Nat) : List (List Int) := (List.range k).map fun x => rowQ T s x L
theorem rowQ_succ (T : List (List Int)) (s x k : Nat) : rowQ T s x k ++ [partM T s x k] = rowQ T s x (k + 1) := by simp [rowQ, List.range_succ]
theorem rowsQ_succ (T : List (List Int)) (s L k : Nat) : rowsQ T s L k ++ [rowQ T s k L] = rowsQ T s L (k + 1) := by simp [rowsQ, List.range_succ]
theorem len_rowQ (T : List (List Int)) (s x k : Nat) : (rowQ T s x k).length = k := by simp [rowQ]
theorem len_rowsQ (T : List (List Int)) (s L k : Nat) : (rowsQ T s L k).length = k := by simp [rowsQ]

set_option maxRecDepth 20000 in
set_option maxHeartbeats 8000000 in
theorem sPartOf_any (A : Option Addr) (c lo hi : Nat) (T : List (List Int)) (s : Int) (w : World) (h : Mat w lo hi A T) (hh : hi ≤ w.heap.size) (hS : Small T) :
    Calls Try.prog 19 #[.slice A T.length c, .int .i64 s] w (NewTab w (partT T s)) := by
  have hlT := hS.len
  have b0 := (Below.refl w.heap.size w).alloc (Nat.le_refl _) (.cells #[] 58)
  have h' := h.below b0 hh
  by_cases hp : 1 ≤ s ∧ madeT T s = s
  · obtain ⟨n, rfl, kP⟩ := isP_of hp.1 hp.2
    have k := okT_iff.1 kP.ok
    have k9 := k.hi
    have hp9 := pow_le9 k9
    have hlt := kP.lt
    have hn1 : ¬ (n : Int) < 1 := by omega
    have hmade := kP.made
    have HE := hide (show partT T (n : Nat) = rowsQ T n (thk n T.length).length (thk n T.length).length from by rw [kP.part, thk_9 hlt k9]; rfl)
    have h9 := thk_9 hlt k9
    have H9 := hide h9
    clear hp h9
    go_enter Try.func19, Try.ntmps19
    go_wp2_with (go_at_call 20; refine (sMadeBy_any _ _ _ _ _ _ _ h' hS).mono ?_; rw [hmade]; rintro e w1 ⟨rfl, q1⟩)
    have zq : w.heap.size + 1 ≤ w1.heap.size := by rw [q1.heap]; simp
    have B1 : Below w.heap.size w w1 := b0.trans (q1.below _)
    have T1 : ATab w.heap.size w1 (.slice (some ⟨w.heap.size, 0, none⟩) 0 0) [] := (ATab.made (Nat.le_refl _)).below (q1.below _)
    have c1 := (Below.refl w1.heap.size w1).alloc (Nat.le_refl _) (.cells #[] 3)
    have c2 := (Below.refl w1.heap.size w1).alloc (Nat.le_refl _) (.cells #[] 3) |>.alloc (by simp) (.cells #[] 3)
    have zc : (w1.alloc (.cells #[] 3)).heap.size = w1.heap.size + 1 := by simp
    have a0 := ((ARow.made (w := w1) (base := w1.heap.size) (Nat.le_refl _)).below ((Below.refl _ _).alloc (Nat.le_refl _) (.cells #[] 3)))
    have l0 := ARow.made (w := w1.alloc (.cells #[] 3)) (base := w1.heap.size) (by rw [zc]; omega)
    rw [zc] at l0
    have both0 : Both w1.heap.size ((w1.alloc (.cells #[] 3)).alloc (.cells #[] 3)) n 0 (.slice (some ⟨w1.heap.size, 0, none⟩) 0 0) (.slice (some ⟨w1.heap.size + 1, 0, none⟩) 0 0) := ⟨a0, l0, by simp [Value.ownBlock]⟩
    clear a0 l0 zc c1 b0 h' hmade
    go_loopg [8, 6, 7] T.length (fun g i v6 v7 wr => ∃ p : Nat, p ≤ T.length ∧ Hid (g = T.length - p) ∧ i = .int .i64 p ∧ Both w1.heap.size wr n p v6 v7 ∧ Below w1.heap.size w1 wr)
    case atStart => exact ⟨0, Nat.zero_le _, rfl, rfl, both0, c2⟩
    case round =>
      obtain ⟨p, hp, hgk, rfl, hBo, hB⟩ := hrel
      clear both0 c2
      by_cases hpt : p < T.length
      · obtain ⟨A7, c7, rfl, _, _, _⟩ := hBo.l.val
        have hl6 : (atL n p).length ≤ 1048576 := by rw [len_atL]; omega
        have hs : w1.heap.size ≤ wr.heap.size := hB.size
        have HL := hide (len_thk_cnt n p)
        have hl7 : (thk n p).length ≤ 1048576 := by have := len_thk n p; omega
        cases hb : n.testBit p
        · have hbit := bit_zero hb
          go_wp2_with (at_builtin; refine wp_app_int_at rfl (.tmp 31) (.tmp 34) rfl w1.heap.size _ _ _ _ rfl rfl hBo.a hl6 hs ?_; intro v2 w2 hown2 hg2 ho2)
          rw [HL.out] at hown2
          obtain ⟨e1, e2, e3⟩ := hBo.at_ hown2 hg2 ho2
          have bb := hB.trans (hBo.a.belowOf (base0 := w1.heap.size) hg2 (Nat.le_refl _) hs)
          go_roundg (T.length - (p + 1))
          case measure => go_light; have := hgk.out; omega
          case rel => go_light; exact ⟨p + 1, by omega, rfl, by go_num, Both.skip e1 e2 e3 hb, bb⟩
        · have hbit := bit_one hb
          go_wp2_with (first
            | (at_builtin; refine wp_app_int_at rfl (.tmp 31) (.tmp 34) rfl w1.heap.size _ _ _ _ rfl rfl hBo.a hl6 hs ?_; intro v2 w2 hown2 hg2 ho2; rw [HL.out] at hown2; obtain ⟨e1, e2, e3⟩ := hBo.at_ hown2 hg2 ho2; have hs2 : w1.heap.size ≤ w2.heap.size := Nat.le_trans hs hg2.size)
            | (at_builtin; refine wp_app_int_at rfl (.tmp 41) (.tmp 43) rfl w1.heap.size _ _ _ _ rfl rfl e2 hl7 hs2 ?_; intro v3 w3 hown3 hg3 ho3))
          have bb := hB.trans (hBo.a.belowOf (base0 := w1.heap.size) hg2 (Nat.le_refl _) hs)
          go_roundg (T.length - (p + 1))
          case measure => go_light; have := hgk.out; omega
          case rel => go_light; exact ⟨p + 1, by omega, rfl, by go_num, Both.list_ e1 e2 e3 hb hown3 hg3 ho3, bb.trans (e2.belowOf (base0 := w1.heap.size) hg3 (Nat.le_refl _) hs2)⟩
      · obtain rfl : T.length = p := by omega
        obtain ⟨hA6, hA7, _⟩ := hBo
        have hT2 := T1.below hB
        have hB2 := B1.trans (hB.mono B1.size)
        obtain ⟨A7, c7, rfl, _, _, _⟩ := hA7.val
        obtain ⟨A6, c6, rfl, _, _, _⟩ := hA6.val
        clear T1 hB
        obtain ⟨L, hL⟩ : ∃ L, L = (thk n T.length).length := ⟨_, rfl⟩
        have hL9 : L ≤ 9 := by rw [hL]; have := len_thk n T.length; omega
        have HLL := hide hL
        rw [← hL] at HE hA7 ⊢
        rw [len_atL] at hA6 ⊢
        clear hL
        go_wp2
        go_loopg [9, 5] L (fun g i v wr => ∃ x : Nat, x ≤ L ∧ Hid (g = L - x) ∧ i = .int .i64 x ∧ ATab w.heap.size wr v (rowsQ T n L x) ∧ Below w.heap.size w wr ∧ ARow w1.heap.size wr (.slice A6 T.length c6) (atL n T.length) ∧ ARow w1.heap.size wr (.slice A7 L c7) (thk n T.length))
        case atStart => exact ⟨0, Nat.zero_le _, rfl, rfl, hT2, hB2, hA6, hA7⟩
        case round =>
          clear hT2 hB2 hA6 hA7
          obtain ⟨x, hx, hgk, rfl, hA, hB, hA6, hA7⟩ := hrel
          by_cases hxt : x < L
          · obtain ⟨wo, rfl⟩ : ∃ wo : World, wo = wr := ⟨_, rfl⟩
            have hxi : (x : Int) < (L : Int) := by omega
            go_wp2
            have hb1 := (Below.refl wo.heap.size wo).alloc (Nat.le_refl _) (.cells #[] 3)
            have hr0 := ARow.made (w := wo) (Nat.le_refl _)
            go_loopg [11, 10] L (fun g i u wi => ∃ y : Nat, y ≤ L ∧ Hid (g = L - y) ∧ i = .int .i64 y ∧ ARow wo.heap.size wi u (rowQ T n x y) ∧ Below wo.heap.size wo wi)
            case atStart => exact ⟨0, Nat.zero_le _, rfl, rfl, hr0, hb1⟩
            case round =>
              clear hb1 hr0
              obtain ⟨y, hy, hgk2, rfl, hR, hW⟩ := hrel
              have hwi : w.heap.size ≤ wo.heap.size := hB.size
              by_cases hyt : y < L
              · have hyi : (y : Int) < (L : Int) := by omega
                have hl' : (rowQ T n x y).length ≤ 1048576 := by rw [len_rowQ]; omega
                have hs := hW.size
                obtain ⟨xa, xb, z, ea, eb, ez, _, _, _, xa1, xb1, z1, em, _, _⟩ := kP.prod (a := x) (b := y) (by rw [H9.out, ← HLL.out]; exact hxt) (by rw [H9.out, ← HLL.out]; exact hyt)
                rw [H9.out] at ea eb
                obtain ⟨A7', c7', e7, _, _, hR7⟩ := hA7.val
                injection e7 with e7 e71 e72
                clear e71 e72
                subst e7
                obtain ⟨A6', c6', e6, _, _, hR6⟩ := hA6.val
                injection e6 with e6 e61 e62
                clear e61 e62
                subst e6
                obtain ⟨b7, o7, rfl, _, hl7, g1⟩ := hR7 x (by rw [← HLL.out]; exact hxt)
                obtain ⟨b7', o7', e7, _, _, g2⟩ := hR7 y (by rw [← HLL.out]; exact hyt)
                obtain ⟨rfl, rfl⟩ : b7 = b7' ∧ o7 = o7' := by simpa using e7
                obtain ⟨b6, o6, rfl, _, hl6, g3⟩ := hR6 z (by rw [len_atL]; exact z1)
                obtain ⟨bt, ot, b2, o2, c', rfl, _, hbl, g4, _, hbl2, g5⟩ := (h.below hB hh).at_ k (x := (xa : Nat)) (y := (xb : Nat)) (by omega) (by omega) (by omega) (by omega)
                rw [ea] at g1
                rw [eb] at g2
                rw [el_atL z1] at g3
                rw [Int.toNat_natCast] at g4 g5
                rw [ez] at g5
                have EM := hide em
                clear ea eb ez em
                have MK := hide (fun (W : World) (hW' : Below wo.heap.size wo W) =>
                  (⟨(hW'.cell (p := ⟨b7, o7 + x, none⟩) hl7).trans g1, (hW'.cell (p := ⟨b7, o7 + y, none⟩) hl7).trans g2, (hW'.cell (p := ⟨bt, ot + xa, none⟩) (by show bt < _; omega)).trans g4, (hW'.cell (p := ⟨b2, o2 + xb, none⟩) (by show b2 < _; omega)).trans g5, (hW'.cell (p := ⟨b6, o6 + z, none⟩) hl6).trans g3, hW'⟩ :
                    W.cell? ⟨b7, o7 + x, none⟩ = some (.int .i64 (xa : Nat)) ∧ W.cell? ⟨b7, o7 + y, none⟩ = some (.int .i64 (xb : Nat)) ∧ W.cell? ⟨bt, ot + xa, none⟩ = some (.slice (some ⟨b2, o2, none⟩) T.length c') ∧ W.cell? ⟨b2, o2 + xb, none⟩ = some (.int .i64 (z : Nat)) ∧ W.cell? ⟨b6, o6 + z, none⟩ = some (.int .i64 (cnt n z : Nat)) ∧ Below wo.heap.size wo W))
                have xai : (xa : Int) < (T.length : Int) := by omega
                have xbi : (xb : Int) < (T.length : Int) := by omega
                have zi : (z : Int) < (T.length : Int) := by omega
                clear g1 g2 g3 g4 g5
                go_wp2
                go_region_held3 (fun W => W.cell? ⟨b7, o7 + x, none⟩ = some (.int .i64 (xa : Nat)) ∧ W.cell? ⟨b7, o7 + y, none⟩ = some (.int .i64 (xb : Nat)) ∧ W.cell? ⟨bt, ot + xa, none⟩ = some (.slice (some ⟨b2, o2, none⟩) T.length c') ∧ W.cell? ⟨b2, o2 + xb, none⟩ = some (.int .i64 (z : Nat)) ∧ W.cell? ⟨b6, o6 + z, none⟩ = some (.int .i64 (cnt n z : Nat)) ∧ Below wo.heap.size wo W)
                  (first
                    | exact MK.out _ hW.drew
                    | (go_split_ands
                       exact MK.out _ (Below.alloc (by assumption) (Below.size (by assumption)) _))
                    | (go_split_ands
                       exact MK.out _ (Below.trans hW (by assumption))))
                  (first
                    | (refine step_app_drew (by rfl) (.tmp 58) (.tmp 75) (by rfl) wo.heap.size _ (rowQ T n x y) _ 1 (by rfl) (by rfl) hR hl' hs ?_
                       intro v1 w3 hown1 hg1
                       have hb1 : Below wo.heap.size wr w3 := ARow.belowOf hR hg1 (Nat.le_refl _) hs))
                go_wp2
                go_roundg (L - (y + 1))
                case measure => go_light; have := hgk2.out; omega
                case rel => go_light; exact ⟨y + 1, by omega, rfl, by go_num, by rw [← rowQ_succ, EM.out]; exact hown1, hW.trans (hR.belowOf hg1 (Nat.le_refl _) hs)⟩
              · obtain rfl : L = y := by omega
                have hA2 := hA.below hW
                obtain ⟨Ar, cr, hAr, _, _, _⟩ := hR.val
                rw [len_rowQ] at hAr
                subst hAr
                have hl' : (rowsQ T n L x).length ≤ 1048576 := by rw [len_rowsQ]; omega
                have hs2 : w.heap.size ≤ wr.heap.size := Nat.le_trans hwi hW.size
                have h62 := hA6.below hW
                have h72 := hA7.below hW
                go_wp2_with (at_builtin; refine wp_app_row rfl (.tmp 77) (.tmp 79) rfl w.heap.size _ _ _ _ _ rfl rfl hA2 (hR.mono hwi) hl' hs2 ?_; intro v1 w3 hown1 hg1)
                go_roundg (L - (x + 1))
                case measure => go_light; have := hgk.out; omega
                case rel => go_light; exact ⟨x + 1, by omega, rfl, by go_num, by rw [← rowsQ_succ]; exact hown1, (hB.trans (hW.mono hwi)).trans (hA2.belowOf hg1 (Nat.le_refl _) hs2), hA2.keepRow h62 hg1, hA2.keepRow h72 hg1⟩
          · obtain rfl : L = x := by omega
            obtain ⟨A', c', hv, _, _, hM⟩ := hA.val
            rw [len_rowsQ] at hv
            subst hv
            go_wp2
            go_ret
            rw [HE.out]
            exact ⟨A', c', ret_slice (by rw [len_rowsQ]), hB, hM⟩
  · have HF : Hid (NewTab w (partT T s) (.returned (.slice (some ⟨w.heap.size, 0, none⟩) 0 0)) (w.alloc (.cells #[] 58))) := by
      rw [partT_not hp]; exact ⟨_, 0, rfl, b0, Mat.nil _ _ _ _⟩
    by_cases h1 : s < 1
    · go_enter Try.func19, Try.ntmps19
      go_wp2
      go_ret
      exact HF.out
    · have hne : madeT T s ≠ s := fun e => hp ⟨by omega, e⟩
      have hnb : (madeT T s != s) = true := by simpa using hne
      go_enter Try.func19, Try.ntmps19
      go_wp2_with (go_at_call 20; refine (sMadeBy_any _ _ _ _ _ _ _ h' hS).mono ?_; rintro e w1 ⟨rfl, q1⟩)
      go_ret
      obtain ⟨A2, c2, e2, hb2, hm2⟩ := HF.out
      exact ⟨A2, c2, e2, hb2.trans (q1.below _), (hm2.quiet q1).mono (Nat.le_refl _) (q1.below 0).size⟩
end Go.Proofs.Ythllbekoidogpaa
