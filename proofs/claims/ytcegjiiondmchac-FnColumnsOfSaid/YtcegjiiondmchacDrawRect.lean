
/- The drawn rectangles. -/
import Derived.Test.YtcegjiiondmchacDrawAll
import Derived.Test.YtcegjiiondmchacDrawBands
import Derived.Test.YtcegjiiondmchacSsides
import Derived.Test.YtcegjiiondmchacORow
import Derived.Deep.RegionHeld3
namespace Go.Proofs.Ytcegjiiondmchac
open Go.RowKit
set_option linter.unusedVariables false


/-- Numbers of things. -/
def InB (N : Nat) (xs : List Int) : Prop := ∀ x ∈ xs, 0 ≤ x ∧ x < N
theorem InB.at_ {N : Nat} {xs : List Int} (h : InB N xs) {j : Nat} (hj : j < xs.length) : 0 ≤ el xs j ∧ el xs j < N := by
  rw [el_eq hj]; exact h _ (List.getElem_mem hj)
theorem InB.snoc {N : Nat} {xs : List Int} (h : InB N xs) {z : Int} (z0 : 0 ≤ z) (z1 : z < N) : InB N (xs ++ [z]) := fun x hx => by
  rw [List.mem_append, List.mem_singleton] at hx
  rcases hx with hx | rfl
  · exact h x hx
  · exact ⟨z0, z1⟩
theorem InB.set {N : Nat} {xs : List Int} (h : InB N xs) {y : Nat} {z : Int} (z0 : 0 ≤ z) (z1 : z < N) : InB N (xs.set y z) := fun x hx => by
  rcases List.mem_or_eq_of_mem_set hx with hx | rfl
  · exact h x hx
  · exact ⟨z0, z1⟩
theorem InB.zeros {N : Nat} (h : 1 ≤ N) (k : Nat) : InB N (List.replicate k 0) := fun x hx => by
  rw [List.mem_replicate] at hx
  rw [hx.2]; omega
theorem ARow.set_at {base g y L c : Nat} {z : Int} {w : World} {xs : List Int} (h : ARow base w (.slice (some ⟨g, 0, none⟩) L c) xs) : ARow base (w.setCell ⟨g, y, none⟩ (.int .i64 z)) (.slice (some ⟨g, 0, none⟩) L c) (xs.set y z) := by
  obtain ⟨h1, h2⟩ := h
  rcases h2 with ⟨h2, _⟩ | ⟨g', cap, cur, hv, hg, hh, hc, hm, hs, ht⟩
  · cases h2
  · have e : g' = g := by injection hv with e _ _; injection e with e; injection e with e _ _; exact e.symm
    subst e
    refine ⟨by simp, .inr ⟨g', cap, cur.setIfInBounds y (.int .i64 z), by rw [hv]; simp, hg, ?_, by simpa using hc, hm, by simpa using hs, ?_⟩⟩
    · simp [World.setCell, Array.getElem?_modify, hh]
    · rw [Nat.mul_one] at ht
      simp only [Nat.mul_one, List.length_set, Array.toList_setIfInBounds, List.map_set]
      rw [List.take_set, ht]
theorem ARow.other {base b y : Nat} {v u : Value} {w : World} {xs : List Int} (h : ARow base w v xs) (hb : v.ownBlock ≠ some b) : ARow base (w.setCell ⟨b, y, none⟩ u) v xs := by
  obtain ⟨h1, h2⟩ := h
  refine ⟨h1, h2.imp id ?_⟩
  rintro ⟨g, cap, cur, rfl, hg, hh, r⟩
  exact ⟨g, cap, cur, rfl, hg, (Below.heap_setCell _ _ _ _ (by show g ≠ b; exact fun e => hb (by rw [e]; rfl))).trans hh, r⟩
theorem ARow.zeros {base n : Nat} {w : World} (hb : base ≤ w.heap.size) (hn : n ≤ 9) : ARow base (w.alloc (.cells (madeCells #[.int .i64 0] n) 3)) (.slice (some ⟨w.heap.size, 0, none⟩) n n) (List.replicate n 0) := by
  refine ⟨by simp, .inr ⟨w.heap.size, n, madeCells #[.int .i64 0] n, by simp, hb, heap_alloc_new w _, by simp, by simp [maxLen]; omega, ?_, ?_⟩⟩
  · rw [size_madeCells]; omega
  · apply List.ext_getElem
    · simp [madeCells]
    · intro i h1 h2
      simp [madeCells, Nat.mod_one]
theorem ARow.cellsAt {base g L c : Nat} {w : World} {xs : List Int} (h : ARow base w (.slice (some ⟨g, 0, none⟩) L c) xs) : Cells w g xs ∧ base ≤ g ∧ g < w.heap.size := by
  rcases h.2 with ⟨h2, _⟩ | ⟨g', cap, cur, hv, hg, hh, _⟩
  · cases h2
  · have e : g' = g := by injection hv with e _ _; injection e with e; injection e with e _ _; exact e.symm
    subst e
    refine ⟨fun j hj => ⟨?_, ?_⟩, hg, (Array.getElem?_eq_some_iff.1 hh).1⟩
    · have := h.cells (g := g') rfl j (.int .i64 (el xs j)) (by simp [hj, el, List.getD])
      simpa [Addr.add_lit] using this
    · simp [World.frozen?, hh]
/-- An own row's block, cells, and that they may be written. -/
theorem ARow.open_ {base : Nat} {w : World} {v : Value} {xs : List Int} (h : ARow base w v xs) (hn : 1 ≤ xs.length) : ∃ g c, v = .slice (some ⟨g, 0, none⟩) xs.length c ∧ base ≤ g ∧ g < w.heap.size ∧ Cells w g xs := by
  obtain ⟨A, c, rfl, _, _, h4⟩ := h.orow
  rcases h4 with h4 | ⟨g, rfl, h5, h6, h7⟩
  · omega
  · exact ⟨g, c, rfl, h5, h6, h7⟩

set_option maxRecDepth 20000 in
set_option maxHeartbeats 16000000 in
theorem rect_st {w : World} {B g n c : Nat} {A : Option Addr} (m : Int) (s : St w w B g 0 A n c) (hm0 : 1 ≤ m) (hm : m ≤ 1000) :
    Calls Try.prog 58 #[.pointer (some ⟨g, 0, none⟩), .int .i64 m] w (DrawAny w B g 100 A n c) := by
  have hg := s.lt
  go_enter Try.func58, Try.ntmps58
  go_wp2_with fail
  refine (pick_st 3 s (by omega) (by omega) (by omega)).mono ?_
  rintro e w1 ⟨k1, rfl, hk1, s1, o1⟩
  by_cases h0 : k1 = 0
  · subst h0
    go_wp2_with fail
    refine (table_st m s1 (by omega) (by omega) (by omega)).mono ?_
    rintro e w2 ⟨A2, c2, T, P2, rfl, hM, hS, s2, hP2, h9⟩
    go_wp2
    go_ret
    exact ⟨A2, c2, T, P2, rfl, hM, hS, s2, by omega, h9⟩
  · have hkb : ((k1 : Int) == 0) = false := beq_eq_false_iff_ne.2 (by omega)
    go_wp2_with fail
    refine (pick_st 3 s1 (by omega) (by omega) (by omega)).mono ?_
    rintro e w2 ⟨k2, rfl, hk2, s2, o2⟩
    go_wp2_with fail
    refine (pick_st 3 s2 (by omega) (by omega) (by omega)).mono ?_
    rintro e w3 ⟨k3, rfl, hk3, s3, o3⟩
    have hcan : canR ((1 + k2 : Nat) : Int) ((1 + k3 : Nat) : Int) = true := canR_iff.2 ⟨1 + k2, 1 + k3, rfl, rfl, by omega, by omega, by omega, by omega, by
      have : (1 + k2) * (1 + k3) ≤ 3 * 3 := Nat.mul_le_mul (by omega) (by omega)
      omega⟩
    have E2 := hide (show (1 : Int) + (k2 : Int) = ((1 + k2 : Nat) : Int) from by simp)
    have E3 := hide (show (1 : Int) + (k3 : Int) = ((1 + k3 : Nat) : Int) from by simp)
    have HCAN := hide hcan
    clear hcan
    go_wp2_with fail
    rw [E2.out, E3.out]
    refine (sRectangleOf_any _ _ w3).mono ?_
    rw [HCAN.out]
    rintro e w4 ⟨A4, c4, rfl, b4, m4⟩
    have k := isT_rectOf HCAN.out
    obtain ⟨T, hT⟩ : ∃ T, T = rectOf ((1 + k2 : Nat) : Int) ((1 + k3 : Nat) : Int) := ⟨_, rfl⟩
    rw [← hT] at k m4 ⊢
    clear hT HCAN E2 E3
    have k1_ := k.lo
    have k9 := k.hi
    have s4 := s3.below b4
    have z4 := b4.size
    have z3 := s3.only.size
    have hg4 : g < w3.heap.size := by omega
    clear s1 s2 s3 o1 o2 o3 s
    obtain ⟨N, hN⟩ : ∃ N, N = T.length := ⟨_, rfl⟩
    have HN := hide hN
    rw [← hN] at k1_ k9 ⊢
    clear hN
    have r0 := ARow.made (w := w4) (base := w4.heap.size) (Nat.le_refl _)
    have s5 := s4.below ((Below.refl w4.heap.size w4).alloc (Nat.le_refl _) (.cells #[] 3))
    have m5 := m4.below ((Below.refl w4.heap.size w4).alloc (Nat.le_refl _) (.cells #[] 3)) (Nat.le_refl _)
    have z5 : w4.heap.size ≤ (w4.alloc (.cells #[] 3)).heap.size := by simp
    go_wp2
    go_loopg [8, 7] N (fun gk i v wr => ∃ (p P' : Nat) (xs : List Int), p ≤ N ∧ Hid (gk = N - p) ∧ i = .int .i64 p ∧ ARow w4.heap.size wr v xs ∧ xs.length = p ∧ InB N xs ∧ St w wr B g P' A n c ∧ P' ≤ 3 + p ∧ Mat wr w3.heap.size w4.heap.size A4 T ∧ Hid (w4.heap.size ≤ wr.heap.size))
    case atStart => exact ⟨0, 3, [], Nat.zero_le _, rfl, rfl, r0, rfl, fun x hx => by simp at hx, s5, by omega, m5, z5⟩
    case round =>
      clear r0 s5 m5 z5 s4 m4
      obtain ⟨p, P', xs, hp, hgk, rfl, hR, hl, hI, sr, hP', mr, hZ⟩ := hrel
      have hZo := hZ.out
      by_cases hlt : p < N
      · go_wp2_with fail
        refine (pick_st _ sr (by omega) (by omega) (by omega)).mono ?_
        rintro e w6 ⟨at_, rfl, hat, s6, o6⟩
        have hR6 := hR.low o6 (by omega)
        have m6 := mr.only o6 (by omega) (.inr (by omega))
        have z6 := o6.size
        have hl' : xs.length ≤ 1048576 := by omega
        have HL := hide hl
        clear hl
        go_wp2_with (at_builtin; refine wp_app_int rfl (.tmp 44) (.tmp 46) rfl w4.heap.size _ _ _ _ rfl rfl hR6 hl' (by omega) ?_; intro v7 w7 hown7 hg7)
        have hb7 := hR6.belowOf (base0 := w4.heap.size) hg7 (Nat.le_refl _) (by omega)
        have s7 : St w w7 B g (P' + 1) A n c := ⟨s6.rd.belowM hb7 (by omega), s6.only.thenBelow hb7 (by omega), hg⟩
        have m7 := m6.below hb7 (Nat.le_refl _)
        have z7 := hg7.size
        have hI7 := hI.snoc (z := (p : Int)) (by omega) (by omega)
        obtain ⟨g7, c7, rfl, hg71, hg72, hC7⟩ := hown7.open_ (by simp)
        have hl7 : (xs ++ [(p : Int)]).length = p + 1 := by simp [HL.out]
        rw [hl7] at hown7 ⊢
        obtain ⟨ys, hys⟩ : ∃ ys, ys = xs ++ [(p : Int)] := ⟨_, rfl⟩
        rw [← hys] at hown7 hI7 hl7
        clear hys hC7 hR6 hR mr s6 sr m6
        go_loopg [10] p (fun gk i wr => ∃ (j : Nat) (ys : List Int), at_ ≤ j ∧ j ≤ p ∧ Hid (gk = j) ∧ i = .int .i64 j ∧ ARow w4.heap.size wr (.slice (some ⟨g7, 0, none⟩) (p + 1) c7) ys ∧ Hid (ys.length = p + 1) ∧ InB N ys ∧ St w wr B g (P' + 1) A n c ∧ Mat wr w3.heap.size w4.heap.size A4 T ∧ Hid (w4.heap.size ≤ wr.heap.size))
        case atStart => exact ⟨p, ys, by omega, Nat.le_refl _, rfl, rfl, hown7, hl7, hI7, s7, m7, by show _ ≤ _; omega⟩
        case round =>
          clear hown7 hl7 hI7 s7 m7
          obtain ⟨j, ys, hj1, hj2, hgj, rfl, hR, hly, hI, sr, mr, hZ⟩ := hrel
          obtain ⟨hC, hg7a, hg7b⟩ := hR.cellsAt
          have hlyo := hly.out
          by_cases hj : at_ < j
          · obtain ⟨d1, f1⟩ := hC (j - 1) (by omega)
            obtain ⟨d2, f2⟩ := hC j (by omega)
            obtain ⟨i0, i1⟩ := hI.at_ (j := j - 1) (by omega)
            have e1 : ((j : Int) - 1).toNat = j - 1 := by omega
            have hji : (at_ : Int) < (j : Int) := by omega
            clear hC hlyo
            go_wp2
            go_roundg (j - 1)
            case measure => go_light; have := hgj.out; omega
            case rel => go_light; exact ⟨j - 1, ys.set j (el ys (j - 1)), by omega, by omega, rfl, congrArg (Value.int .i64) (by omega), hR.set_at, by show _ = _; rw [List.length_set]; exact hly.out, hI.set i0 i1, sr.set (by omega), mr.below (B := w4.heap.size) ((Below.refl _ _).setCell (by show _ ≤ g7; omega) _) (Nat.le_refl _), by show _ ≤ _; have := hZ.out; simpa [World.setCell] using this⟩
          · obtain rfl : at_ = j := by omega
            obtain ⟨d2, f2⟩ := hC at_ (by omega)
            clear hC hlyo
            go_wp2
            go_roundg (N - (p + 1))
            case measure => go_light; have := hgk.out; omega
            case rel => go_light; exact ⟨p + 1, P' + 1, ys.set at_ (p : Int), by omega, rfl, by go_num, hR.set_at, by rw [List.length_set]; exact hly.out, hI.set (by omega) (by omega), sr.set (by omega), by omega, mr.below (B := w4.heap.size) ((Below.refl _ _).setCell (by show _ ≤ g7; omega) _) (Nat.le_refl _), by show _ ≤ _; have := hZ.out; simpa [World.setCell] using this⟩
      · obtain rfl : N = p := by omega
        obtain ⟨wo, rfl⟩ : ∃ wo : World, wo = wr := ⟨_, rfl⟩
        obtain ⟨g7, c7, rfl, hg7a, hg7b, hC7⟩ := hR.open_ (by omega)
        rw [hl] at hR ⊢
        have hmk := run_make_row' (P := Try.prog) 37 3 (.int .i64 0) 8 Try.underlying37 info_int rfl .i64 .i64 N (by omega) (by omega)
        have y0 := ARow.zeros (base := wo.heap.size) (w := wo) (n := N) (Nat.le_refl _) k9
        have hI0 := InB.zeros k1_ N
        have b0 := (Below.refl wo.heap.size wo).alloc (Nat.le_refl _) (.cells (madeCells #[.int .i64 0] N) 3)
        have HL := hide hl
        have HG := hide hg7b
        clear hl
        go_wp2
        clear hmk
        go_loopg [12] N (fun gk i wr => ∃ (q : Nat) (ys : List Int), q ≤ N ∧ Hid (gk = N - q) ∧ i = .int .i64 q ∧ ARow wo.heap.size wr (.slice (some ⟨wo.heap.size, 0, none⟩) N N) ys ∧ Hid (ys.length = N) ∧ InB N ys ∧ Below wo.heap.size wo wr)
        case atStart => exact ⟨0, List.replicate N 0, Nat.zero_le _, rfl, rfl, y0, by show _ = _; simp, hI0, b0⟩
        case round =>
          clear y0 hI0 b0
          obtain ⟨q, ys, hq, hgq, rfl, hY, hly, hIy, hB⟩ := hrel
          by_cases hqt : q < N
          · obtain ⟨d1, _⟩ := hC7 q (by rw [HL.out]; exact hqt)
            obtain ⟨z0, z1⟩ := hI.at_ (j := q) (by rw [HL.out]; exact hqt)
            obtain ⟨z, hz⟩ : ∃ z : Nat, el xs q = (z : Int) := ⟨(el xs q).toNat, by omega⟩
            rw [hz] at d1 z1
            have d1' := (hB.cell (p := ⟨g7, q, none⟩) HG.out).trans d1
            obtain ⟨d2, f2⟩ := hY.cellsAt.1 z (by rw [hly.out]; omega)
            have hqi : (q : Int) < (N : Int) := by omega
            clear d1 hz z0
            go_wp2
            go_roundg (N - (q + 1))
            case measure => go_light; have := hgq.out; omega
            case rel => go_light; exact ⟨q + 1, ys.set z (q : Int), by omega, rfl, by go_num, hY.set_at, by show _ = _; rw [List.length_set]; exact hly.out, hIy.set (by omega) (by omega), hB.setCell (Nat.le_refl _) _⟩
          · obtain rfl : N = q := by omega
            obtain ⟨wy, rfl⟩ : ∃ wy : World, wy = wr := ⟨_, rfl⟩
            have sy := sr.below hB
            have my := mr.below hB hZo
            have hCy := hY.cellsAt.1
            have ly := hY.cellsAt.2.2
            have hC7y := hC7.below hB HG.out
            have zy := hB.size
            have zw := sy.only.size
            have HLY := hide hly.out
            have t0 := ATab.made (w := wy) (base := wy.heap.size) (Nat.le_refl _)
            have bt := (Below.refl wy.heap.size wy).alloc (Nat.le_refl _) (.cells #[] 37)
            have hg7y : g7 < wy.heap.size := by have := HG.out; omega
            have h4y : w4.heap.size ≤ wy.heap.size := by omega
            clear hB hY sr mr hC7 hR
            go_wp2
            go_loopg [14, 13] N (fun gk i v wr => ∃ (p : Nat) (T' : List (List Int)), p ≤ N ∧ Hid (gk = N - p) ∧ i = .int .i64 p ∧ ATab wy.heap.size wr v T' ∧ Rect T' p N ∧ Below wy.heap.size wy wr)
            case atStart => exact ⟨0, [], Nat.zero_le _, rfl, rfl, t0, Rect.nil_ _, bt⟩
            case round =>
              clear t0 bt
              obtain ⟨p, T', hp, hgp, rfl, hA, hT', hB⟩ := hrel
              by_cases hpt : p < N
              · obtain ⟨wz, rfl⟩ : ∃ wz : World, wz = wr := ⟨_, rfl⟩
                have hpi : (p : Int) < (N : Int) := by omega
                go_wp2
                have hb1 := (Below.refl wz.heap.size wz).alloc (Nat.le_refl _) (.cells #[] 3)
                have hr0 := ARow.made (w := wz) (Nat.le_refl _)
                go_loopg [16, 15] N (fun gk i u wr => ∃ (q : Nat) (xr : List Int), q ≤ N ∧ Hid (gk = N - q) ∧ i = .int .i64 q ∧ ARow wz.heap.size wr u xr ∧ xr.length = q ∧ Below wz.heap.size wz wr)
                case atStart => exact ⟨0, [], Nat.zero_le _, rfl, rfl, hr0, rfl, hb1⟩
                case round =>
                  clear hb1 hr0
                  obtain ⟨q, xr, hq, hgq2, rfl, hR, hlr, hW⟩ := hrel
                  have hwz : wy.heap.size ≤ wz.heap.size := hB.size
                  by_cases hqt : q < N
                  · have hqi : (q : Int) < (N : Int) := by omega
                    obtain ⟨d1, _⟩ := hC7y p (by rw [HL.out]; exact hpt)
                    obtain ⟨d2, _⟩ := hC7y q (by rw [HL.out]; exact hqt)
                    obtain ⟨a0, a1⟩ := hI.at_ (j := p) (by rw [HL.out]; exact hpt)
                    obtain ⟨b0, b1⟩ := hI.at_ (j := q) (by rw [HL.out]; exact hqt)
                    obtain ⟨xa, hxa⟩ : ∃ z : Nat, el xs p = (z : Int) := ⟨(el xs p).toNat, by omega⟩
                    obtain ⟨xb, hxb⟩ : ∃ z : Nat, el xs q = (z : Int) := ⟨(el xs q).toNat, by omega⟩
                    rw [hxa] at d1 a1
                    rw [hxb] at d2 b1
                    obtain ⟨m0, m1⟩ := k.mul (x := (xa : Nat)) (y := (xb : Nat)) (by omega) (by rw [← HN.out]; exact a1) (by omega) (by rw [← HN.out]; exact b1)
                    obtain ⟨zz, hzz⟩ : ∃ z : Nat, mul T xa xb = (z : Int) := ⟨(mul T xa xb).toNat, by omega⟩
                    obtain ⟨bt, ot, b2, o2, c', rfl, _, hbl, g4, _, hbl2, g5⟩ := my.at_ k (x := (xa : Nat)) (y := (xb : Nat)) (by omega) (by rw [← HN.out]; exact a1) (by omega) (by rw [← HN.out]; exact b1)
                    rw [Int.toNat_natCast] at g4 g5
                    rw [hzz] at g5 m1
                    rw [← HN.out] at g4 m1
                    obtain ⟨d3, _⟩ := hCy zz (by rw [HLY.out]; omega)
                    have BK := fun (W : World) (hW' : Below wz.heap.size wz W) => hB.trans (hW'.mono hwz)
                    have MK := hide (fun (W : World) (hW' : Below wz.heap.size wz W) =>
                      (⟨((BK W hW').cell (p := ⟨g7, p, none⟩) hg7y).trans d1, ((BK W hW').cell (p := ⟨g7, q, none⟩) hg7y).trans d2, ((BK W hW').cell (p := ⟨bt, ot + xa, none⟩) (by show bt < _; omega)).trans g4, ((BK W hW').cell (p := ⟨b2, o2 + xb, none⟩) (by show b2 < _; omega)).trans g5, ((BK W hW').cell (p := ⟨wo.heap.size, zz, none⟩) ly).trans d3, hW'⟩ :
                        W.cell? ⟨g7, p, none⟩ = some (.int .i64 (xa : Nat)) ∧ W.cell? ⟨g7, q, none⟩ = some (.int .i64 (xb : Nat)) ∧ W.cell? ⟨bt, ot + xa, none⟩ = some (.slice (some ⟨b2, o2, none⟩) N c') ∧ W.cell? ⟨b2, o2 + xb, none⟩ = some (.int .i64 (zz : Nat)) ∧ W.cell? ⟨wo.heap.size, zz, none⟩ = some (.int .i64 (el ys zz)) ∧ Below wz.heap.size wz W))
                    have hl' : xr.length ≤ 1048576 := by omega
                    have HLR := hide hlr
                    have hs := hW.size
                    clear g4 g5 d1 d2 d3 hxa hxb hzz m0 a0 b0 BK hlr
                    go_wp2
                    go_region_held3 (fun W => W.cell? ⟨g7, p, none⟩ = some (.int .i64 (xa : Nat)) ∧ W.cell? ⟨g7, q, none⟩ = some (.int .i64 (xb : Nat)) ∧ W.cell? ⟨bt, ot + xa, none⟩ = some (.slice (some ⟨b2, o2, none⟩) N c') ∧ W.cell? ⟨b2, o2 + xb, none⟩ = some (.int .i64 (zz : Nat)) ∧ W.cell? ⟨wo.heap.size, zz, none⟩ = some (.int .i64 (el ys zz)) ∧ Below wz.heap.size wz W)
                      (first
                        | exact MK.out _ hW.drew
                        | (go_split_ands
                           exact MK.out _ (Below.alloc (by assumption) (Below.size (by assumption)) _))
                        | (go_split_ands
                           exact MK.out _ (Below.trans hW (by assumption))))
                      (first
                        | (refine step_app_drew (by rfl) (.tmp 96) (.tmp 113) (by rfl) wz.heap.size _ xr _ 1 (by rfl) (by rfl) hR hl' hs ?_
                           intro v1 w8 hown1 hg1
                           have hb1 : Below wz.heap.size wr w8 := ARow.belowOf hR hg1 (Nat.le_refl _) hs))
                    go_wp2
                    go_roundg (N - (q + 1))
                    case measure => go_light; have := hgq2.out; omega
                    case rel => go_light; exact ⟨q + 1, _, by omega, rfl, by go_num, hown1, by rw [List.length_append]; simp [HLR.out], hW.trans (hR.belowOf hg1 (Nat.le_refl _) hs)⟩
                  · obtain rfl : N = q := by omega
                    have hA2 := hA.below hW
                    obtain ⟨Ar, cr, hAr, _, _, _⟩ := hR.val
                    have hl' : T'.length ≤ 1048576 := by rw [hT'.len]; omega
                    have hs2 : wy.heap.size ≤ wr.heap.size := Nat.le_trans hwz hW.size
                    have HLR := hide hlr
                    rw [hlr] at hAr
                    subst hAr
                    clear hlr
                    go_wp2_with (at_builtin; refine wp_app_row rfl (.tmp 115) (.tmp 117) rfl wy.heap.size _ _ _ _ _ rfl rfl hA2 (hR.mono hwz) hl' hs2 ?_; intro v1 w8 hown1 hg1)
                    go_roundg (N - (p + 1))
                    case measure => go_light; have := hgp.out; omega
                    case rel => go_light; exact ⟨p + 1, _, by omega, rfl, by go_num, hown1, hT'.snoc HLR.out, (hB.trans (hW.mono hwz)).trans (hA2.belowOf hg1 (Nat.le_refl _) hs2)⟩
              · obtain rfl : N = p := by omega
                obtain ⟨A', c', rfl, _, _, hM⟩ := hA.val
                have sz := sy.below hB
                go_wp2
                go_ret
                exact ⟨A', c', T', _, rfl, hM.mono (by omega) (Nat.le_refl _), hT'.small k9 k9, sz, by omega, by rw [hT'.len]; exact k9⟩
end Go.Proofs.Ytcegjiiondmchac
