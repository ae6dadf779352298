/-  -/
import Derived.Test.YthllbekoidogpaaAlw01
import Derived.Test.YthllbekoidogpaaAlw05
import Derived.Test.YthllbekoidogpaaAlw10
import Derived.BigQuiet
import Derived.Test.YthllbekoidogpaaAlw04
import Derived.Test.YthllbekoidogpaaAlw02
import Derived.Test.YthllbekoidogpaaAlw03
import Derived.Maps.AppendAt
import Derived.Deep.RegionHeld3
import Derived.Test.YthllbekoidogpaaAlw06
import Derived.Laws.IdiomStrings
namespace Go.Proofs.Ythllbekoidogpaa
open Go.RowKit
set_option linter.unusedVariables false


/-- n numbers from k on. -/
def marks (n : Nat) (k : Int) : List Int := (List.range n).map fun i => k + (i : Nat)
theorem len_marks (n : Nat) (k : Int) : (marks n k).length = n := by simp [marks]
/-- How many numbers the first i rows have. -/
def off (T : List (List Int)) : Nat → Nat
  | 0 => 0
  | i + 1 => off T i + (rw_ T i).length
/-- The table with its first p rows marked from k on. -/
def mixT (T : List (List Int)) (k : Int) (p : Nat) : List (List Int) := (List.range T.length).map fun i => if i < p then marks (rw_ T i).length (k + off T i) else rw_ T i
theorem len_mixT (T : List (List Int)) (k : Int) (p : Nat) : (mixT T k p).length = T.length := by simp [mixT]
theorem row_mixT {T : List (List Int)} {k : Int} {p i : Nat} (h : i < T.length) : rw_ (mixT T k p) i = if i < p then marks (rw_ T i).length (k + off T i) else rw_ T i := by
  simp [mixT, rw_, List.getD, h]
theorem rowlen_mixT {T : List (List Int)} {k : Int} {p i : Nat} (h : i < T.length) : (rw_ (mixT T k p) i).length = (rw_ T i).length := by
  rw [row_mixT h]; split
  · rw [len_marks]
  · rfl
theorem cell_set_same {w : World} {p : Addr} {u v : Value} (h : w.cell? p = some u) : (w.setCell p v).cell? p = some v := by
  have hs := World.cell?_spot h
  simp only [World.cell?, World.setCell, Array.getElem?_modify, if_true] at h ⊢
  cases e : w.heap[p.block]? with
  | none => simp [e] at h
  | some o =>
    cases o <;> simp [e, hs] at h ⊢
    rw [Array.getElem?_setIfInBounds, if_pos rfl]
    obtain ⟨hlt, _⟩ := Array.getElem?_eq_some_iff.1 h
    rw [if_pos hlt]
theorem frozen_set (w : World) (p q : Addr) (v : Value) : (w.setCell p v).frozen? q = w.frozen? q := by
  simp only [World.frozen?, World.setCell, Array.getElem?_modify]
  by_cases e : p.block = q.block
  · rw [if_pos e]
    cases w.heap[q.block]? with
    | none => rfl
    | some o => cases o <;> rfl
  · rw [if_neg e]

theorem OMat.marked {w w' : World} {lo hi : Nat} {A : Option Addr} {T : List (List Int)} {k : Int} {p : Nat} {b o : Nat} {g C : Nat → Nat} (hp : p < T.length)
    (h1 : ∀ i, i < (mixT T k p).length → A = some ⟨b, o, none⟩ ∧ lo ≤ b ∧ b < hi ∧ g i ≠ b ∧ lo ≤ g i ∧ g i < hi ∧
      w.cell? ⟨b, o + i, none⟩ = some (.slice (some ⟨g i, 0, none⟩) (rw_ (mixT T k p) i).length (C i)) ∧ Cells w (g i) (rw_ (mixT T k p) i)) (h2 : ∀ i j, i < (mixT T k p).length → j < (mixT T k p).length → i ≠ j → g i ≠ g j)
    (hs : hi ≤ w.heap.size) (hO : Only (g p) (g p + 1) w w') (hC : Cells w' (g p) (marks (rw_ T p).length (k + off T p))) : OMat w' lo hi A (mixT T k (p + 1)) := by
  rw [len_mixT] at h1 h2
  refine ⟨b, o, g, C, fun i hi' => ?_, fun i j hi' hj hne => ?_⟩
  · rw [len_mixT] at hi'
    obtain ⟨e, a1, a2, a3, a4, a5, a6, a7⟩ := h1 i hi'
    obtain ⟨_, _, _, c3, c4, c5, _, _⟩ := h1 p hp
    refine ⟨e, a1, a2, a3, a4, a5, ?_, ?_⟩
    · rw [rowlen_mixT hi'] at a6 ⊢
      exact (World.cell?_of_block (w := w) (hO.block b (by omega) (by omega))).trans a6
    · by_cases ei : i = p
      · subst ei
        rw [row_mixT hi', if_pos (by omega)]; exact hC
      · have hne := h2 i p hi' hp ei
        rw [row_mixT hi'] at a7 ⊢
        have : (if i < p + 1 then marks (rw_ T i).length (k + off T i) else rw_ T i) = if i < p then marks (rw_ T i).length (k + off T i) else rw_ T i := by
          by_cases hlt : i < p
          · rw [if_pos hlt, if_pos (by omega)]
          · rw [if_neg hlt, if_neg (by omega)]
        rw [this]
        exact a7.keep (hO.block _ (by omega) (by omega))
  · rw [len_mixT] at hi' hj
    exact h2 i j hi' hj hne

end Go.Proofs.Ythllbekoidogpaa

namespace Go.Proofs.Ythllbekoidogpaa
open Go.RowKit
set_option linter.unusedVariables false


/-- 'append(row, texts...)'. -/
theorem wp_app_strs {ops : Array Oper} {rest : List Oper} {o : Oper} {a : Act} {Q : Exit → Act → World → Prop} {w : World} (hgd : o.guard = none) (s x : Operand)
    (ho : o.op = .call { callee := .builtin .append, args := #[s, x], argTypes := #[69, 69] }) (base : Nat) (v : Value) (L M : List (List UInt8)) (b of c lo hi : Nat) (hs : a.eval s = v) (hx : a.eval x = .slice (some ⟨b, of, none⟩) M.length c)
    (hown : AStr base w v L) (hM : Srow w lo hi (some ⟨b, of, none⟩) M) (hn : L.length + M.length ≤ 1048576) (hb : base ≤ w.heap.size)
    (h : ∀ v' w', AStr base w' v' (L ++ M) → w.grownBy w' v.ownBlock → wpList Try.prog ops Q rest (a.put o.dst v') w') : wpList Try.prog ops Q (o :: rest) a w := by
  obtain ⟨i0, hi0, hz0, hz1, hz2⟩ := info_parts info_str
  refine wpList_append_own _ hgd s x 69 ho base 9 i0 (.string ⟨#[]⟩) 1 16 Try.underlying69 hi0 hz0 hz1 hz2 rfl (by decide) v _ _ hs hown ⟨b, of, none⟩ M.length c (M.map fun u => Value.string (bs u)) hx (by simp)
    (fun j u hu => ?_) (fun u hu => ?_) (by rw [maxLen_is]; omega) (by omega) hb ?_
  · rw [List.getElem?_map] at hu
    cases e : M[j]? with
    | none => rw [e] at hu; cases hu
    | some y =>
      rw [e] at hu
      obtain ⟨hj, ey⟩ := List.getElem?_eq_some_iff.1 e
      obtain ⟨b', o', e1, _, _, hc⟩ := hM j hj
      obtain ⟨e2, e3⟩ : b = b' ∧ of = o' := by simpa using e1
      subst e2 e3
      rw [sl_at hj, ey] at hc
      have : u = Value.string (bs y) := by simpa using hu.symm
      rw [this]
      rw [Addr.add_lit]
      exact hc
  · obtain ⟨y, _, rfl⟩ := List.mem_map.1 hu
    rfl
  · intro v' w' h1 h2 _
    exact h v' w' (by unfold AStr; simpa using h1) h2
theorem SCells.put {w : World} {g : Nat} {L : List (List UInt8)} (h : SCells w g L) {j : Nat} (hj : j < L.length) (z : List UInt8) : SCells (w.setCell ⟨g, j, none⟩ (.string (bs z))) g (L.set j z) := fun i hi => by
  rw [List.length_set] at hi
  rw [sl_set hj]
  by_cases e : i = j
  · subst e
    rw [if_pos rfl]
    exact ⟨cell_set_same (h i hi).1, by rw [frozen_set]; exact (h i hi).2⟩
  · rw [if_neg e]
    exact ⟨by rw [World.cell?_setCell_other _ _ _ _ (fun e2 => e (by injection e2 with _ h2 _; exact h2.symm))]; exact (h i hi).1, by rw [frozen_set]; exact (h i hi).2⟩
theorem SCells.swap {w : World} {g : Nat} {L : List (List UInt8)} (h : SCells w g L) {j : Nat} (hj : j + 1 < L.length) :
    SCells ((w.setCell ⟨g, j + 1, none⟩ (.string (bs (sl L j)))).setCell ⟨g, j, none⟩ (.string (bs (sl L (j + 1))))) g (swp L j) :=
  (h.put hj _).put (by rw [List.length_set]; omega) _

set_option maxRecDepth 20000 in
set_option maxHeartbeats 4000000 in
theorem l8Sorted_any (b of c lo hi : Nat) (L : List (List UInt8)) (w : World) (h : Srow w lo hi (some ⟨b, of, none⟩) L) (hh : hi ≤ w.heap.size) (hn : L.length ≤ 1048576) :
    Calls Try.prog 90 #[.slice (some ⟨b, of, none⟩) L.length c] w (NewStr w (srt L)) := by
  have bn := (Below.refl w.heap.size w).alloc (Nat.le_refl _) (.cells #[] 9)
  have hM := h.below bn hh
  have hA := AStr.made (w := w) (Nat.le_refl _)
  have hz0 : w.heap.size ≤ (w.alloc (.cells #[] 9)).heap.size := by simp
  go_enter Try.func90, Try.ntmps90
  go_wp2_with (at_builtin; refine wp_app_strs rfl (.tmp 7) (.tmp 8) rfl w.heap.size _ [] L b of c lo hi rfl rfl hA hM (by simpa using hn) hz0 ?_; intro v1 w1 hown1 hg1)
  rw [List.nil_append] at hown1
  have hB1 := bn.trans ((hA.belowOf hg1 (Nat.le_refl _) hz0))
  obtain ⟨A1, c1, rfl, l1, m1, hO⟩ := hown1.ostr
  clear hown1 hg1 hA hM h bn
  rcases hO with h0 | ⟨g, rfl, g1, g2, hC⟩
  · have hx : L = [] := List.eq_nil_of_length_eq_zero h0
    subst hx
    go_wp2
    go_loopg [4] 1 (fun g i wr => i = .int .i64 1 ∧ w1 = wr)
    case atStart => exact ⟨rfl, rfl⟩
    case round =>
      obtain ⟨rfl, rfl⟩ := hrel
      go_wp2
      go_ret
      exact ⟨A1, c1, rfl, hB1, Srow.nil _ _ _ _, by simp [srt, srtK], m1⟩
  · by_cases hl0 : L.length = 0
    · have hx : L = [] := List.eq_nil_of_length_eq_zero hl0
      subst hx
      go_wp2
      go_loopg [4] 1 (fun g i wr => i = .int .i64 1 ∧ w1 = wr)
      case atStart => exact ⟨rfl, rfl⟩
      case round =>
        obtain ⟨rfl, rfl⟩ := hrel
        go_wp2
        go_ret
        exact ⟨_, c1, rfl, hB1, Srow.nil _ _ _ _, by simp [srt, srtK], m1⟩
    · go_wp2
      go_loopg [4] L.length (fun m i wr => ∃ k : Nat, 1 ≤ k ∧ k ≤ L.length ∧ Hid (m + k = L.length + 1) ∧ i = .int .i64 k ∧ SCells wr g (srtK L k) ∧ Below w.heap.size w wr ∧ g < wr.heap.size)
      case atStart => exact ⟨1, Nat.le_refl _, by omega, (show _ = _ from by omega), rfl, hC, hB1, g2⟩
      case round =>
        clear hC hB1 g2
        obtain ⟨k, hk1, hk, hgk, rfl, hC, hB, g2⟩ := hrel
        by_cases hlt : k < L.length
        · have HK := hide (show inn (srtK L k) k = srtK L (k + 1) from rfl)
          have HL := hide (len_srtK (L := L) (k := k) (by omega))
          go_wp2
          go_loopg [5] k (fun m i wr => ∃ (j : Nat) (M : List (List UInt8)), j ≤ k ∧ Hid (m = j) ∧ i = .int .i64 j ∧ Hid (M.length = L.length) ∧ SCells wr g M ∧ Hid (inn M j = srtK L (k + 1)) ∧ Below w.heap.size w wr ∧ g < wr.heap.size)
          case atStart => exact ⟨k, srtK L k, Nat.le_refl _, rfl, rfl, HL.out, hC, HK.out, hB, g2⟩
          case round =>
            clear hC hB g2 HK HL
            obtain ⟨j, M, hj, hgk2, rfl, hML, hC, hI, hB, g2⟩ := hrel
            cases j with
            | zero =>
              have hd : decide (((0 : Nat) : Int) > 0) = false := by decide
              go_wp2
              go_quiet (fail)
              go_wp2
              go_roundg (L.length - k)
              case measure => go_light; have := hgk.out; omega
              case rel => go_light; exact ⟨k + 1, by omega, by omega, (show _ = _ from by omega), by go_num, by rw [← hI.out]; exact hC, Below.drewN_ hB _, g2⟩
            | succ j =>
              have hd : decide (((j + 1 : Nat) : Int) > 0) = true := by simp
              obtain ⟨c1', f1'⟩ := hC (j + 1) (by rw [hML.out]; omega)
              obtain ⟨c0', f0'⟩ := hC j (by rw [hML.out]; omega)
              have HI := hide hI.out
              have hj1 : ((j + 1 : Nat) : Int) - 1 = (j : Int) := by omega
              obtain ⟨x1, hx1⟩ : ∃ x1, x1 = sl M (j + 1) := ⟨_, rfl⟩
              obtain ⟨x0, hx0⟩ : ∃ x0, x0 = sl M j := ⟨_, rfl⟩
              have HS := hide (hC.swap (j := j) (by rw [hML.out]; omega))
              rw [← hx1] at c1' HS
              rw [← hx0] at c0' HS
              have hls : Op.bytesLess (bs x1).toList (bs x0).toList = lsB x1 x0 := by rw [toList_bs, toList_bs]; rfl
              cases hb : lsB x1 x0
              · have HE := hide (show inn M (j + 1) = M from by unfold inn; rw [← hx1, ← hx0, hb]; rfl)
                rw [hb] at hls
                clear hx1 hx0 HS hI
                go_wp2
                go_quiet (fail)
                go_wp2
                go_roundg (L.length - k)
                case measure => go_light; have := hgk.out; omega
                case rel => go_light; exact ⟨k + 1, by omega, by omega, (show _ = _ from by omega), by go_num, by rw [← HI.out, HE.out]; exact hC, Below.drewN_ hB _, g2⟩
              · have HE := hide (show inn (swp M j) j = srtK L (k + 1) from by rw [← HI.out]; show _ = inn M (j + 1); rw [show inn M (j + 1) = if lsB (sl M (j + 1)) (sl M j) = true then inn (swp M j) j else M from rfl, ← hx1, ← hx0, hb]; rfl)
                have HL2 := hide (show (swp M j).length = L.length from (len_swp j).trans hML.out)
                rw [hb] at hls
                have HB := hide (fun v1 v2 => (hB.setCell (p := ⟨g, j + 1, none⟩) (by show w.heap.size ≤ g; omega) v1).setCell (p := ⟨g, j, none⟩) (by show w.heap.size ≤ g; omega) v2)
                clear hx1 hx0 hI hC
                go_wp2
                go_quiet (fail)
                go_wp2
                go_roundg j
                case measure => go_light; have := hgk2.out; omega
                case rel => go_light; exact ⟨j, swp M j, by omega, rfl, by go_num, HL2.out, HS.out, HE.out, Below.drewN_ (HB.out _ _) _, by simpa [World.setCell] using g2⟩
        · obtain rfl : k = L.length := by omega
          go_wp2
          go_ret
          have e : (Ending.returned (.slice (some ⟨g, 0, none⟩) L.length c1)) = .returned (.slice (some ⟨g, 0, none⟩) (srt L).length c1) := by rw [len_srt]
          have hC2 : SCells wr g (srt L) := hC
          exact ⟨some ⟨g, 0, none⟩, c1, e, hB, fun j hj => ⟨g, 0, rfl, g1, g2, by rw [Nat.zero_add]; exact (hC2 j hj).1⟩, by rw [len_srt]; exact l1, m1⟩
end Go.Proofs.Ythllbekoidogpaa

namespace Go.Proofs.Ythllbekoidogpaa
open Go.RowKit
set_option linter.unusedVariables false


/-- The places of things, below k. -/
def atL (s k : Nat) : List Int := (List.range k).map fun j => ((cnt s j : Nat) : Int)
theorem atL_succ (s k : Nat) : atL s k ++ [((cnt s k : Nat) : Int)] = atL s (k + 1) := by simp [atL, List.range_succ]
/-- Both rows under way, in blocks of their own. -/
structure Both (base : Nat) (wr : World) (s k : Nat) (v6 v7 : Value) : Prop where
  a : ARow base wr v6 (atL s k)
  l : ARow base wr v7 (thk s k)
  ne : v6.ownBlock ≠ v7.ownBlock
theorem own_lt {base : Nat} {w : World} {v : Value} {xs : List Int} (h : ARow base w v xs) {k : Nat} (e : v.ownBlock = some k) : k < w.heap.size := (h.lt k e).2
theorem Both.at_ {base s k : Nat} {wr w1 : World} {v6 v7 v1 : Value} (h : Both base wr s k v6 v7) (h1 : ARow base w1 v1 (atL s k ++ [((cnt s k : Nat) : Int)])) (hg : wr.grownBy w1 v6.ownBlock) (ho : v1.ownBlock = v6.ownBlock ∨ v1.ownBlock = some (wr.heap.size + 1)) :
    ARow base w1 v1 (atL s (k + 1)) ∧ ARow base w1 v7 (thk s k) ∧ v1.ownBlock ≠ v7.ownBlock := by
  refine ⟨by rw [← atL_succ]; exact h1, World.ownsRow.kept h.l hg (.inr fun e => h.ne e.symm), fun e => ?_⟩
  rcases ho with ho | ho
  · exact h.ne (ho.symm.trans e)
  · have := own_lt h.l (e.symm.trans ho); omega
end Go.Proofs.Ythllbekoidogpaa

namespace Go.Proofs.Ythllbekoidogpaa
open Go.RowKit
set_option linter.unusedVariables false


theorem NewStr.at_ {w : World} {L : List (List UInt8)} {e : Ending} {w' : World} (h : NewStr w L e w') (h1 : 1 ≤ L.length) :
    ∃ b of c, e = .returned (.slice (some ⟨b, of, none⟩) L.length c) ∧ Below w.heap.size w w' ∧ Srow w' w.heap.size w'.heap.size (some ⟨b, of, none⟩) L ∧ L.length ≤ c ∧ c ≤ 9223372036854775807 := by
  obtain ⟨A, c, rfl, hb, hR, h2, h3⟩ := h
  obtain ⟨b, o, rfl, _⟩ := hR 0 (by omega)
  exact ⟨b, o, c, rfl, hb, hR, h2, h3⟩
theorem NewStr.after {w w1 : World} {L : List (List UInt8)} {e : Ending} {w' : World} (hb : Below w.heap.size w w1) (h : NewStr w1 L e w') : NewStr w L e w' := by
  obtain ⟨A, c, e, b, hR, h2, h3⟩ := h
  exact ⟨A, c, e, hb.trans (b.mono hb.size), hR.mono hb.size (Nat.le_refl _), h2, h3⟩
theorem l8Sorted_nil (b of c : Nat) (w : World) : Calls Try.prog 90 #[.slice (some ⟨b, of, none⟩) 0 c] w (NewStr w []) :=
  l8Sorted_any b of c 0 0 [] w (Srow.nil _ _ _ _) (Nat.zero_le _) (Nat.zero_le _)
set_option maxRecDepth 20000 in
set_option maxHeartbeats 4000000 in
theorem sAllWords1 (G : List (List UInt8)) (hG : allC (2 - 1) = G) (hG1 : 1 ≤ G.length) (hG2 : G.length ≤ 159) (w : World) : Calls Try.prog 73 #[.int .i64 1] w (NewStr w (srt G)) := by
  have HG := hide hG
  clear hG
  have bn := (Below.refl w.heap.size w).alloc (Nat.le_refl _) (.cells #[] 9)
  have hA0 := AStr.made (w := w) (Nat.le_refl _)
  go_enter Try.func73, Try.ntmps73
  go_wp2
  go_loopg [4, 3] 1 (fun g i v wr => ∃ k : Nat, 1 ≤ k ∧ k ≤ 2 ∧ Hid (g = 2 - k) ∧ i = .int .i64 k ∧ AStr w.heap.size wr v (allC (k - 1)) ∧ Below w.heap.size w wr)
  case atStart => exact ⟨1, Nat.le_refl _, by omega, rfl, rfl, hA0, bn⟩
  case round =>
    clear hA0 bn
    obtain ⟨k, k1, kN, hgk, rfl, hA, hB⟩ := hrel
    by_cases hlt : k < 2
    · have HN := hide (full_ne (s := k) k1 (by omega))
      have HL := hide (full_len (s := k) (by omega))
      have HP := hide (pc_le (s := k) (by omega))
      have HC := hide (len_allC (k - 1) (by omega))
      have HS := hide (show allC (k - 1) ++ fullF 3 k = allC k from by
        obtain ⟨j, rfl⟩ : ∃ j, k = j + 1 := ⟨k - 1, by omega⟩
        rfl)
      have hs := hB.size
      go_wp2_with (first
        | (go_at_call 59; refine (l1In_any 1 1 3 _).mono ?_; rintro e w' ⟨rfl, rfl⟩)
        | fail)
      refine (l8Full_any 3 (by decide) k _ k1 (by omega) HP.out).mono ?_
      intro e w1 hNS
      obtain ⟨b, of, c, rfl, b1, hR, l1, m1⟩ := hNS.at_ HN.out
      clear hNS
      have hA1 := hA.below b1
      have hs1 := Nat.le_trans hs b1.size
      have hll : (allC (k - 1)).length + (fullF 3 k).length ≤ 1048576 := by have := HC.out; have := HL.out; omega
      go_wp2_with (at_builtin; refine wp_app_strs rfl (.tmp 16) (.tmp 18) rfl w.heap.size _ _ _ b of c _ _ rfl rfl hA1 hR hll hs1 ?_; intro v2 w2 hown2 hg2)
      go_roundg (2 - (k + 1))
      case measure => go_light; have := hgk.out; omega
      case rel => go_light; exact ⟨k + 1, by omega, by omega, rfl, by go_num, by rw [Nat.add_sub_cancel, ← HS.out]; exact hown2, (hB.trans (b1.mono hs)).trans (hA1.belowOf hg2 (Nat.le_refl _) hs1)⟩
    · obtain rfl : k = 2 := by omega
      rw [HG.out] at hA
      obtain ⟨A3, c3, rfl, l3, m3, hR⟩ := hA.val
      obtain ⟨b, of, rfl, _⟩ := hR 0 (by omega)
      go_wp2_with (first
        | (go_at_call 59; refine (l1In_any 1 1 3 _).mono ?_; rintro e w' ⟨rfl, rfl⟩)
        | fail)
      refine (l8Sorted_any b of c3 _ _ G _ hR (Nat.le_refl _) (by omega)).mono ?_
      intro e w2 hN
      obtain ⟨A2, c2, rfl, b2, hR2, l2, m2⟩ := hN.after hB
      go_wp2
      go_ret
      exact ⟨A2, c2, rfl, b2, hR2, l2, m2⟩
set_option maxRecDepth 20000 in
set_option maxHeartbeats 4000000 in
theorem sAllWords2 (G : List (List UInt8)) (hG : allC (4 - 1) = G) (hG1 : 1 ≤ G.length) (hG2 : G.length ≤ 159) (w : World) : Calls Try.prog 73 #[.int .i64 2] w (NewStr w (srt G)) := by
  have HG := hide hG
  clear hG
  have bn := (Below.refl w.heap.size w).alloc (Nat.le_refl _) (.cells #[] 9)
  have hA0 := AStr.made (w := w) (Nat.le_refl _)
  go_enter Try.func73, Try.ntmps73
  go_wp2
  go_loopg [4, 3] 3 (fun g i v wr => ∃ k : Nat, 1 ≤ k ∧ k ≤ 4 ∧ Hid (g = 4 - k) ∧ i = .int .i64 k ∧ AStr w.heap.size wr v (allC (k - 1)) ∧ Below w.heap.size w wr)
  case atStart => exact ⟨1, Nat.le_refl _, by omega, rfl, rfl, hA0, bn⟩
  case round =>
    clear hA0 bn
    obtain ⟨k, k1, kN, hgk, rfl, hA, hB⟩ := hrel
    by_cases hlt : k < 4
    · have HN := hide (full_ne (s := k) k1 (by omega))
      have HL := hide (full_len (s := k) (by omega))
      have HP := hide (pc_le (s := k) (by omega))
      have HC := hide (len_allC (k - 1) (by omega))
      have HS := hide (show allC (k - 1) ++ fullF 3 k = allC k from by
        obtain ⟨j, rfl⟩ : ∃ j, k = j + 1 := ⟨k - 1, by omega⟩
        rfl)
      have hs := hB.size
      go_wp2_with (first
        | (go_at_call 59; refine (l1In_any 2 1 3 _).mono ?_; rintro e w' ⟨rfl, rfl⟩)
        | fail)
      refine (l8Full_any 3 (by decide) k _ k1 (by omega) HP.out).mono ?_
      intro e w1 hNS
      obtain ⟨b, of, c, rfl, b1, hR, l1, m1⟩ := hNS.at_ HN.out
      clear hNS
      have hA1 := hA.below b1
      have hs1 := Nat.le_trans hs b1.size
      have hll : (allC (k - 1)).length + (fullF 3 k).length ≤ 1048576 := by have := HC.out; have := HL.out; omega
      go_wp2_with (at_builtin; refine wp_app_strs rfl (.tmp 16) (.tmp 18) rfl w.heap.size _ _ _ b of c _ _ rfl rfl hA1 hR hll hs1 ?_; intro v2 w2 hown2 hg2)
      go_roundg (4 - (k + 1))
      case measure => go_light; have := hgk.out; omega
      case rel => go_light; exact ⟨k + 1, by omega, by omega, rfl, by go_num, by rw [Nat.add_sub_cancel, ← HS.out]; exact hown2, (hB.trans (b1.mono hs)).trans (hA1.belowOf hg2 (Nat.le_refl _) hs1)⟩
    · obtain rfl : k = 4 := by omega
      rw [HG.out] at hA
      obtain ⟨A3, c3, rfl, l3, m3, hR⟩ := hA.val
      obtain ⟨b, of, rfl, _⟩ := hR 0 (by omega)
      go_wp2_with (first
        | (go_at_call 59; refine (l1In_any 2 1 3 _).mono ?_; rintro e w' ⟨rfl, rfl⟩)
        | fail)
      refine (l8Sorted_any b of c3 _ _ G _ hR (Nat.le_refl _) (by omega)).mono ?_
      intro e w2 hN
      obtain ⟨A2, c2, rfl, b2, hR2, l2, m2⟩ := hN.after hB
      go_wp2
      go_ret
      exact ⟨A2, c2, rfl, b2, hR2, l2, m2⟩
set_option maxRecDepth 20000 in
set_option maxHeartbeats 4000000 in
theorem sAllWords3 (G : List (List UInt8)) (hG : allC (8 - 1) = G) (hG1 : 1 ≤ G.length) (hG2 : G.length ≤ 159) (w : World) : Calls Try.prog 73 #[.int .i64 3] w (NewStr w (srt G)) := by
  have HG := hide hG
  clear hG
  have bn := (Below.refl w.heap.size w).alloc (Nat.le_refl _) (.cells #[] 9)
  have hA0 := AStr.made (w := w) (Nat.le_refl _)
  go_enter Try.func73, Try.ntmps73
  go_wp2
  go_loopg [4, 3] 7 (fun g i v wr => ∃ k : Nat, 1 ≤ k ∧ k ≤ 8 ∧ Hid (g = 8 - k) ∧ i = .int .i64 k ∧ AStr w.heap.size wr v (allC (k - 1)) ∧ Below w.heap.size w wr)
  case atStart => exact ⟨1, Nat.le_refl _, by omega, rfl, rfl, hA0, bn⟩
  case round =>
    clear hA0 bn
    obtain ⟨k, k1, kN, hgk, rfl, hA, hB⟩ := hrel
    by_cases hlt : k < 8
    · have HN := hide (full_ne (s := k) k1 (by omega))
      have HL := hide (full_len (s := k) (by omega))
      have HP := hide (pc_le (s := k) (by omega))
      have HC := hide (len_allC (k - 1) (by omega))
      have HS := hide (show allC (k - 1) ++ fullF 3 k = allC k from by
        obtain ⟨j, rfl⟩ : ∃ j, k = j + 1 := ⟨k - 1, by omega⟩
        rfl)
      have hs := hB.size
      go_wp2_with (first
        | (go_at_call 59; refine (l1In_any 3 1 3 _).mono ?_; rintro e w' ⟨rfl, rfl⟩)
        | fail)
      refine (l8Full_any 3 (by decide) k _ k1 (by omega) HP.out).mono ?_
      intro e w1 hNS
      obtain ⟨b, of, c, rfl, b1, hR, l1, m1⟩ := hNS.at_ HN.out
      clear hNS
      have hA1 := hA.below b1
      have hs1 := Nat.le_trans hs b1.size
      have hll : (allC (k - 1)).length + (fullF 3 k).length ≤ 1048576 := by have := HC.out; have := HL.out; omega
      go_wp2_with (at_builtin; refine wp_app_strs rfl (.tmp 16) (.tmp 18) rfl w.heap.size _ _ _ b of c _ _ rfl rfl hA1 hR hll hs1 ?_; intro v2 w2 hown2 hg2)
      go_roundg (8 - (k + 1))
      case measure => go_light; have := hgk.out; omega
      case rel => go_light; exact ⟨k + 1, by omega, by omega, rfl, by go_num, by rw [Nat.add_sub_cancel, ← HS.out]; exact hown2, (hB.trans (b1.mono hs)).trans (hA1.belowOf hg2 (Nat.le_refl _) hs1)⟩
    · obtain rfl : k = 8 := by omega
      rw [HG.out] at hA
      obtain ⟨A3, c3, rfl, l3, m3, hR⟩ := hA.val
      obtain ⟨b, of, rfl, _⟩ := hR 0 (by omega)
      go_wp2_with (first
        | (go_at_call 59; refine (l1In_any 3 1 3 _).mono ?_; rintro e w' ⟨rfl, rfl⟩)
        | fail)
      refine (l8Sorted_any b of c3 _ _ G _ hR (Nat.le_refl _) (by omega)).mono ?_
      intro e w2 hN
      obtain ⟨A2, c2, rfl, b2, hR2, l2, m2⟩ := hN.after hB
      go_wp2
      go_ret
      exact ⟨A2, c2, rfl, b2, hR2, l2, m2⟩
set_option maxRecDepth 20000 in
set_option maxHeartbeats 4000000 in
theorem sAllWords_any (m : Int) (w : World) : Calls Try.prog 73 #[.int .i64 m] w (NewStr w (allW m)) := by
  cases hc : (decide (1 ≤ m) && decide (m ≤ 3))
  · have HE := hide (allW_not hc)
    have bn := (Below.refl w.heap.size w).alloc (Nat.le_refl _) (.cells #[] 9)
    go_enter Try.func73, Try.ntmps73
    go_wp2
    go_loopg [4, 3] 1 (fun g i v wr => i = .int .i64 1 ∧ v = .slice (some ⟨w.heap.size, 0, none⟩) 0 0 ∧ Below w.heap.size w wr)
    case atStart => exact ⟨rfl, rfl, bn⟩
    case round =>
      clear bn
      obtain ⟨rfl, rfl, hB⟩ := hrel
      go_wp2_with (first
        | (go_at_call 59; refine (l1In_any m 1 3 _).mono ?_; rw [hc]; rintro e w' ⟨rfl, rfl⟩)
        | fail)
      refine (l8Sorted_nil w.heap.size 0 0 _).mono ?_
      intro e w2 hN
      obtain ⟨A2, c2, rfl, b2, hR2, l2, m2⟩ := hN.after hB
      go_wp2
      go_ret
      rw [HE.out]
      exact ⟨A2, c2, rfl, b2, hR2, l2, m2⟩
  · have h13 : 1 ≤ m ∧ m ≤ 3 := by simpa using hc
    have e1 := allW_ok (m := 1) (by omega) (by omega)
    have e2 := allW_ok (m := 2) (by omega) (by omega)
    have e3 := allW_ok (m := 3) (by omega) (by omega)
    have k1 : 1 ≤ (allC (2 - 1)).length ∧ 1 ≤ (allC (4 - 1)).length ∧ 1 ≤ (allC (8 - 1)).length := by decide +kernel
    obtain rfl | rfl | rfl : m = 1 ∨ m = 2 ∨ m = 3 := by omega
    · show Calls _ _ _ _ (NewStr w (allW ((1 : Nat) : Int)))
      rw [e1]
      exact sAllWords1 _ rfl k1.1 (len_allC _ (by omega)) w
    · show Calls _ _ _ _ (NewStr w (allW ((2 : Nat) : Int)))
      rw [e2]
      exact sAllWords2 _ rfl k1.2.1 (len_allC _ (by omega)) w
    · show Calls _ _ _ _ (NewStr w (allW ((3 : Nat) : Int)))
      rw [e3]
      exact sAllWords3 _ rfl k1.2.2 (len_allC _ (by omega)) w

end Go.Proofs.Ythllbekoidogpaa

namespace Go.Proofs.Ythllbekoidogpaa
open Go.RowKit
set_option linter.unusedVariables false


/-- 'table = append(table, row)', and where the table lies then. -/
theorem wp_app_row_at {ops : Array Oper} {rest : List Oper} {o : Oper} {a : Act} {Q : Exit → Act → World → Prop} {w : World} (hgd : o.guard = none) (s x : Operand)
    (ho : o.op = .call { callee := .builtin .append, args := #[s, x], argTypes := #[23, 23] }) (base : Nat) (v u : Value) (T : List (List Int)) (xs : List Int) (c : Nat) (hs : a.eval s = v) (hx : a.eval x = .slice (some ⟨w.heap.size, 0, none⟩) 1 c)
    (hown : ATab base w v T) (hrow : ARow base w u xs) (hn : T.length ≤ 1048576) (hb : base ≤ w.heap.size)
    (h : ∀ v' w', ATab base w' v' (T ++ [xs]) → w.grownBy w' v.ownBlock → (v'.ownBlock = v.ownBlock ∨ v'.ownBlock = some (w.heap.size + 1)) → wpList Try.prog ops Q rest (a.put o.dst v') w') : wpList Try.prog ops Q (o :: rest) a (w.alloc (.cells #[u] 58)) := by
  obtain ⟨i0, hi0, hz0, hz1, hz2⟩ := info_parts info_row
  obtain ⟨vs, ho1, ho2⟩ := hown
  have hu1 : u.oneCell' = true := by
    obtain ⟨A, c, rfl, _⟩ := hrow.val
    rfl
  refine wpList_append_own_at _ hgd s x 23 ho base 58 i0 (.slice none 0 0) 1 24 Try.underlying23 hi0 hz0 hz1 hz2 rfl (by decide) v _ _ hs (ho1.alloc _) ⟨w.heap.size, 0, none⟩ 1 c [u] hx rfl
    (World.news_of_block (cs := #[u]) (t := 58) (fr := (0, 0)) (heap_alloc_new _ _)) (by intro y hy; simp at hy; subst hy; exact hu1) (by rw [maxLen_is]; omega) (by omega) (by simp; omega) ?_
  intro v' w' h1 h2 _ h4
  have e : (w.alloc (.cells #[u] 58)).heap.size = w.heap.size + 1 := by simp
  rw [e] at h4
  have hg := grown_alloc _ h2
  have keep : ∀ {u' : Value} {ys : List Int}, ARow base w u' ys → ARow base w' u' ys := fun hr => World.ownsRow.kept hr hg (own_ne hr ho1 (by decide))
  refine h v' w' ⟨vs ++ [u], by simpa using h1, fun i hi => ?_⟩ hg h4
  have hl : vs.length = T.length := by have := ho1.1; simpa using this
  by_cases e : i < T.length
  · obtain ⟨u', hu', hr⟩ := ho2 i e
    refine ⟨u', by rw [List.getElem?_append_left (by omega)]; exact hu', ?_⟩
    have : rw_ (T ++ [xs]) i = rw_ T i := by simp [rw_, List.getD, List.getElem?_append_left e]
    rw [this]; exact keep hr
  · have ei : i = T.length := by simp at hi; omega
    subst ei
    refine ⟨u, by rw [← hl]; simp, ?_⟩
    have : rw_ (T ++ [xs]) T.length = xs := by simp [rw_, List.getD]
    rw [this]; exact keep hrow
theorem OutOf.next {v v' : Value} {lo hi n : Nat} (h : OutOf v lo hi) (hn : hi ≤ n) (e : v'.ownBlock = v.ownBlock ∨ v'.ownBlock = some n) : OutOf v' lo hi := fun b hb => by
  rcases e with e | e
  · exact h b (e ▸ hb)
  · rw [e] at hb
    injection hb with hb
    omega

set_option maxRecDepth 20000 in
set_option maxHeartbeats 8000000 in
theorem sFreeTable_any (m : Int) (w : World) : Calls Try.prog 47 #[.int .i64 m] w (NewTab w (freeT m)) := by
  have bn := (Below.refl w.heap.size w).alloc (Nat.le_refl _) (.cells #[] 58)
  have zn : (w.alloc (.cells #[] 58)).heap.size = w.heap.size + 1 := by simp
  cases hc : (decide (1 ≤ m) && decide (m ≤ 2))
  · have HE := hide (freeT_not hc)
    go_enter Try.func47, Try.ntmps47
    go_wp2_with fail
    refine (l1In_any m 1 2 _).mono ?_
    rw [hc]
    rintro e w' ⟨rfl, rfl⟩
    go_wp2
    go_ret
    rw [HE.out]
    exact ⟨_, 0, rfl, bn, Mat.nil _ _ _ _⟩
  · have HE := hide (freeT_ok hc)
    have hF := freeOk hc
    have T0 : ATab w.heap.size (w.alloc (.cells #[] 58)) (.slice (some ⟨w.heap.size, 0, none⟩) 0 0) [] := ATab.made (Nat.le_refl _)
    have HM := hide (fun W => sAllWords_any m W)
    obtain ⟨L, hL⟩ : ∃ L, L = allW m := ⟨_, rfl⟩
    rw [← hL] at HE hF HM
    clear hL
    have HF := hide hF
    obtain ⟨l1, l6⟩ := hF.len
    clear hF
    go_enter Try.func47, Try.ntmps47
    go_wp2_with fail
    refine (l1In_any m 1 2 _).mono ?_
    rw [hc]
    rintro e w' ⟨rfl, rfl⟩
    go_wp2_with fail
    refine (HM.out _).mono ?_
    intro e w1 hN
    obtain ⟨b, of, c, rfl, b1, hR, c1, c2⟩ := hN.at_ l1
    rw [zn] at hR b1
    have T1 := T0.below (by rw [zn]; exact b1)
    have B1 := bn.trans (b1.mono (by omega))
    have z1 := b1.size
    rw [zn] at z1
    have O1 : OutOf (.slice (some ⟨w.heap.size, 0, none⟩) 0 0) (w.heap.size + 1) w1.heap.size := fun x hx => by
      have : w.heap.size = x := by simpa [Value.ownBlock] using hx
      omega
    obtain ⟨H, hH⟩ : ∃ H, H = w1.heap.size := ⟨_, rfl⟩
    rw [← hH] at hR O1
    have hHz : H ≤ w1.heap.size := by omega
    have hwH : w.heap.size ≤ H := by omega
    clear hN T0 b1 bn zn hH
    go_wp2
    go_loopg [5, 3] L.length (fun g i v wr => ∃ k : Nat, k ≤ L.length ∧ Hid (g = L.length - k) ∧ i = .int .i64 k ∧ ATab w.heap.size wr v (rowsX L k) ∧ Below w.heap.size w wr ∧ Srow wr (w.heap.size + 1) H (some ⟨b, of, none⟩) L ∧ OutOf v (w.heap.size + 1) H ∧ H ≤ wr.heap.size)
    case atStart => exact ⟨0, Nat.zero_le _, rfl, rfl, T1, B1, hR, O1, hHz⟩
    case round =>
      clear T1 B1 hR O1 hHz z1
      obtain ⟨k, hk, hgk, rfl, hA, hB, hR, hO, hHz⟩ := hrel
      by_cases hkt : k < L.length
      · obtain ⟨wo, rfl⟩ : ∃ wo : World, wo = wr := ⟨_, rfl⟩
        have hki : (k : Int) < (L.length : Int) := by omega
        have hb1 := (Below.refl wo.heap.size wo).alloc (Nat.le_refl _) (.cells #[] 3)
        have hr0 := ARow.made (w := wo) (Nat.le_refl _)
        go_wp2
        go_loopg [7, 6] L.length (fun g i u wi => ∃ j : Nat, j ≤ L.length ∧ Hid (g = L.length - j) ∧ i = .int .i64 j ∧ ARow wo.heap.size wi u (rowX L k j) ∧ Below wo.heap.size wo wi)
        case atStart => exact ⟨0, Nat.zero_le _, rfl, rfl, hr0, hb1⟩
        case round =>
          clear hb1 hr0
          obtain ⟨j, hj, hgk2, rfl, hR2, hW⟩ := hrel
          by_cases hjt : j < L.length
          · have hji : (j : Int) < (L.length : Int) := by omega
            have hRi := hR.below hW (by omega)
            obtain ⟨b', o', e', _, _, gk'⟩ := hRi k hkt
            injection e' with e'
            injection e' with e1 e2 _
            subst e1 e2
            obtain ⟨b', o', e', _, hbH, gj'⟩ := hRi j hjt
            injection e' with e'
            injection e' with e1 e2 _
            subst e1 e2
            obtain ⟨wk, lk⟩ := HF.out.word k hkt
            obtain ⟨wj, lj⟩ := HF.out.word j hjt
            have hix := HF.out.ix k j hkt hjt
            have HU := hide (fun i (hi : i < L.length) => HF.out.uniq i k j hi hkt hjt)
            have hok : okE (sl L k ++ sl L j) := .inr (okW_app wk wj (by omega))
            have hadd := fun w => add_bs (P := Try.prog) (sl L k) (sl L j) (by omega) w
            have HX := hide (rowX_succ L k j)
            obtain ⟨ix, hixe⟩ : ∃ ix, ix = ixP L k j := ⟨_, rfl⟩
            rw [← hixe] at hix HU HX
            obtain ⟨x, hx⟩ : ∃ x, x = sl L k ++ sl L j := ⟨_, rfl⟩
            rw [← hx] at hok hadd HU
            have HMD := hide (fun W => sl7Made_any x.length x W (Nat.le_refl _) hok)
            obtain ⟨y, hy⟩ : ∃ y, y = made x := ⟨_, rfl⟩
            rw [← hy] at HMD HU
            clear hixe hx hy hok wk wj
            go_wp2
            go_quiet ((go_at_call 74; exact quiet_at (HMD.out _)))
            have hR3 : ARow wo.heap.size (wr.drewN nq) u6 (rowX L k j) := hR2
            go_wp2
            go_loopg [9, 6] L.length (fun g i u wi => ∃ i' : Nat, i' ≤ L.length ∧ Hid (g = L.length - i') ∧ i = .int .i64 i' ∧ ARow wo.heap.size wi u (if ix < i' then rowX L k (j + 1) else rowX L k j) ∧ Below wo.heap.size wo wi)
            case atStart => exact ⟨0, Nat.zero_le _, rfl, rfl, by rw [if_neg (Nat.not_lt_zero _)]; exact hR2, Below.drewN_ hW _⟩
            case round =>
              clear hR3 hR2
              obtain ⟨i', hi', hgk3, rfl, hR4, hW4⟩ := hrel
              have hs4 := hW4.size
              by_cases hit : i' < L.length
              · have hii : (i' : Int) < (L.length : Int) := by omega
                obtain ⟨b', o', e', _, _, gi'⟩ := (hR.below hW4 (by omega)) i' hit
                injection e' with e'
                injection e' with e1 e2 _
                subst e1 e2
                have hq := eq_bs (sl L i') y
                rw [HU.out i' hit] at hq
                obtain ⟨z, hz⟩ : ∃ z, z = sl L i' := ⟨_, rfl⟩
                rw [← hz] at hq gi'
                clear hz gk' gj'
                by_cases hxe : i' = ix
                · subst hxe
                  rw [decide_eq_true rfl] at hq
                  rw [if_neg (Nat.lt_irrefl _)] at hR4
                  have hl' : (rowX L k j).length ≤ 1048576 := by rw [len_rowX]; omega
                  go_wp2_with (at_builtin; refine wp_app_int rfl (.tmp 52) (.tmp 54) rfl wo.heap.size _ _ _ _ rfl rfl hR4 hl' hs4 ?_; intro v2 w3 hown2 hg2)
                  go_roundg (L.length - (i' + 1))
                  case measure => go_light; have := hgk3.out; omega
                  case rel => go_light; exact ⟨i' + 1, by omega, rfl, by go_num, by rw [if_pos (Nat.lt_succ_self _), ← HX.out]; exact hown2, hW4.trans (hR4.belowOf hg2 (Nat.le_refl _) hs4)⟩
                · rw [decide_eq_false hxe] at hq
                  have HXE := hide hxe
                  go_wp2
                  go_roundg (L.length - (i' + 1))
                  case measure => go_light; have := hgk3.out; omega
                  case rel => go_light; exact ⟨i' + 1, by omega, rfl, by go_num, by
                    have := HXE.out
                    by_cases h2 : ix < i'
                    · rw [if_pos h2] at hR4; rw [if_pos (by omega)]; exact hR4
                    · rw [if_neg h2] at hR4; rw [if_neg (by omega)]; exact hR4, hW4⟩
              · obtain rfl : i' = L.length := by omega
                rw [if_pos hix] at hR4
                go_wp2
                go_roundg (L.length - (j + 1))
                case measure => go_light; have := hgk2.out; omega
                case rel => go_light; exact ⟨j + 1, by omega, rfl, by go_num, hR4, hW4⟩
          · obtain rfl : j = L.length := by omega
            have hA2 := hA.below hW
            obtain ⟨Ar, cr, hAr, _, _, _⟩ := hR2.val
            rw [len_rowX] at hAr
            subst hAr
            have hwi := hB.size
            have hl' : (rowsX L k).length ≤ 1048576 := by rw [len_rowsX]; omega
            have hs2 : w.heap.size ≤ wr.heap.size := Nat.le_trans hwi hW.size
            have hRW := hR.below hW (by omega)
            have hHr : H ≤ wr.heap.size := Nat.le_trans hHz hW.size
            go_wp2_with (at_builtin; refine wp_app_row_at rfl (.tmp 56) (.tmp 58) rfl w.heap.size _ _ _ _ _ rfl rfl hA2 (hR2.mono hwi) hl' hs2 ?_; intro v1 w3 hown1 hg1 ho1)
            go_roundg (L.length - (k + 1))
            case measure => go_light; have := hgk.out; omega
            case rel => go_light; exact ⟨k + 1, by omega, rfl, by go_num, by rw [← rowsX_succ]; exact hown1, (hB.trans (hW.mono hwi)).trans (hA2.belowOf hg1 (Nat.le_refl _) hs2), hRW.grown hg1 hO hHr, hO.next (n := wr.heap.size + 1) (by omega) ho1, Nat.le_trans hHr hg1.size⟩
      · obtain rfl : k = L.length := by omega
        obtain ⟨A', c', hv, _, _, hM⟩ := hA.val
        rw [len_rowsX] at hv
        subst hv
        go_wp2
        go_ret
        rw [HE.out]
        exact ⟨A', c', ret_slice (by rw [len_rowsX]), hB, hM⟩

end Go.Proofs.Ythllbekoidogpaa

namespace Go.Proofs.Ythllbekoidogpaa
set_option linter.unusedVariables false

section
variable {u v w h : List UInt8} {x y : UInt8}
end
section
variable {T : List (List Int)} {f : UInt8 → Int} {u : List UInt8} {y : UInt8}
end
/-- The product of two rows of two signs, by their numbers. -/
def sgE (k j : Nat) : Nat := 3 * (if k / 3 = 0 then j / 3 else k / 3) + (if k % 3 = 0 then j % 3 else k % 3)
def sgR (k j : Nat) : List Int := (List.range j).map fun y => ((sgE k y : Nat) : Int)
def sgM (n k : Nat) : List (List Int) := (List.range k).map fun x => sgR x n
def sgN (m : Int) : Nat := if m = 1 then 3 else 9
def sgT (m : Int) : List (List Int) := if (decide (1 ≤ m) && decide (m ≤ 2)) = true then sgM (sgN m) (sgN m) else []
theorem sgT_not {m : Int} (h : (decide (1 ≤ m) && decide (m ≤ 2)) = false) : sgT m = [] := by unfold sgT; rw [h]; rfl
theorem sgR_succ (k j : Nat) : sgR k j ++ [((sgE k j : Nat) : Int)] = sgR k (j + 1) := by simp [sgR, List.range_succ]
theorem sgM_succ (n k : Nat) : sgM n k ++ [sgR k n] = sgM n (k + 1) := by simp [sgM, List.range_succ]
theorem len_sgR (k j : Nat) : (sgR k j).length = j := by simp [sgR]
theorem len_sgM (n k : Nat) : (sgM n k).length = k := by simp [sgM]
theorem rw_sgM {n k i : Nat} (h : i < k) : rw_ (sgM n k) i = sgR i n := by simp [sgM, rw_, List.getD, h]
theorem small_sgT (m : Int) : Small (sgT m) := by
  unfold sgT
  split
  · have hn : sgN m ≤ 9 := by unfold sgN; split <;> omega
    exact ⟨by rw [len_sgM]; omega, fun i hi => by rw [len_sgM] at hi; rw [rw_sgM hi, len_sgR]; omega⟩
  · exact ⟨by simp, fun i hi => by simp at hi⟩
theorem sg1_tab : IsT (sgT 1) := okT_iff.1 (by decide +kernel)
theorem sg1_left : leftT (sgT 1) = true := by
  refine leftT_iff.2 ⟨⟨grpT_iff.1 (grpT_all sg1_tab fun x hx y hy z hz => ?_), fun x x0 x1 => ?_⟩, fun x y x0 x1 y0 y1 => ?_⟩
  · have h : ∀ x y z : Fin 3, assoc (sgT 1) (x : Nat) (y : Nat) (z : Nat) = true := by decide +kernel
    exact h ⟨x, hx⟩ ⟨y, hy⟩ ⟨z, hz⟩
  · have h : ∀ x : Fin 3, mul (sgT 1) ((x : Nat) : Int) ((x : Nat) : Int) = ((x : Nat) : Int) := by decide +kernel
    obtain ⟨n, rfl⟩ : ∃ n : Nat, x = n := ⟨x.toNat, by omega⟩
    exact h ⟨n, by have : (sgT 1).length = 3 := rfl; omega⟩
  · have h : ∀ x y : Fin 3, mul (sgT 1) (mul (sgT 1) ((x : Nat) : Int) ((y : Nat) : Int)) ((x : Nat) : Int) = mul (sgT 1) ((x : Nat) : Int) ((y : Nat) : Int) := by decide +kernel
    have hl : (sgT 1).length = 3 := rfl
    obtain ⟨n, rfl⟩ : ∃ n : Nat, x = n := ⟨x.toNat, by omega⟩
    obtain ⟨m, rfl⟩ : ∃ n : Nat, y = n := ⟨y.toNat, by omega⟩
    exact h ⟨n, by omega⟩ ⟨m, by omega⟩
end Go.Proofs.Ythllbekoidogpaa
