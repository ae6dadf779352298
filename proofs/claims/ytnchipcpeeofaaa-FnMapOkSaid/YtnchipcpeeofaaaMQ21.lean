/-  -/
import Derived.Deep.RegionHeld3
import Derived.Test.YtnchipcpeeofaaaMQ20
import Derived.Test.YtnchipcpeeofaaaMQ08
namespace Go.Proofs.Ytnchipcpeeofaaa
open Go.RowKit
set_option linter.unusedVariables false


def DrawTwo (w : World) (g : Nat) (e : Ending) (w' : World) : Prop := ∃ A' c' T, ∃ x y : Int, e = .returned (.tuple #[.slice A' T.length c', .int .i64 x, .int .i64 y]) ∧ Mat w' w.heap.size w'.heap.size A' T ∧ Small T ∧ Only g (g + 1) w w'
set_option maxRecDepth 20000 in
set_option maxHeartbeats 4000000 in
theorem two_any (B g P : Nat) (A : Option Addr) (n c : Nat) (w : World) (h : Rd w B g P A n c) (hP : P ≤ 100) :
    Calls Try.prog 75 #[.pointer (some ⟨g, 0, none⟩)] w (DrawTwo w g) := by
  go_enter Try.func75, Try.ntmps75
  go_wp2_with fail
  refine (band_any _ _ _ _ _ _ 12 _ h (by omega) (by omega) (by omega)).mono ?_
  rintro e w2 ⟨A2, c2, T, P2, rfl, m2, hS, s2, hP2, hT9⟩
  have hlT := hS.len
  have z2 := s2.only.size
  by_cases h0 : T.length = 0
  · have hb : bandT T = false := bandT_ok (okT_size (.inl (by omega)))
    have hi : (1 : Int) > (T.length : Int) := by omega
    have hi2 : ¬ (T.length : Int) > 1 := by omega
    clear h0
    go_wp2_with fail
    refine (pick_st 1 s2 (by omega) (by omega) (by omega)).mono ?_
    rintro e_ w3 ⟨x, rfl, hk3, s3, o3⟩
    have z3 := o3.size
    have m3 := m2.only o3 (by omega) (by have := h.lt; omega)
    go_wp2_with fail
    refine (pick_st 1 s3 (by omega) (by omega) (by omega)).mono ?_
    rintro e_ w4 ⟨y, rfl, hk4, s4, o4⟩
    have z4 := o4.size
    have m4 := m3.only o4 (by omega) (by have := h.lt; omega)
    go_wp2_with fail
    refine (sBandOk_any _ _ _ _ _ _ m4 hS).mono ?_
    rw [hb]
    rintro e w5 ⟨rfl, qq⟩
    have s5 := s4.below (qq.below _)
    have m5 := m4.quiet qq
    have z5 := qq.below 0 |>.size
    go_wp2_with fail
    refine (pick_st 40 s5 (by omega) (by omega) (by omega)).mono ?_
    rintro e_ w6 ⟨x1, rfl, hk6, s6, o6⟩
    have z6 := o6.size
    have m6 := m5.only o6 (by omega) (by have := h.lt; omega)
    go_wp2_with fail
    refine (pick_st 50 s6 (by omega) (by omega) (by omega)).mono ?_
    rintro e_ w7 ⟨x2, rfl, hk7, s7, o7⟩
    have z7 := o7.size
    have m7 := m6.only o7 (by omega) (by have := h.lt; omega)
    obtain ⟨q1, q2, q3, q4⟩ := wrapQ (x1 : Int) 39 (by omega) (by omega) (by omega)
    obtain ⟨r1, r2, r3, r4⟩ := wrapQ (x2 : Int) 49 (by omega) (by omega) (by omega)
    have q5 : 0 ≤ (x1 : Int) / 39 := by omega
    have q6 : (x1 : Int) / 39 ≤ 1 := by omega
    have r5 : 0 ≤ (x2 : Int) / 49 := by omega
    have r6 : (x2 : Int) / 49 ≤ 1 := by omega
    have fin : DrawTwo w g (.returned (.tuple #[.slice A2 T.length c2, .int .i64 ((x : Int) + (x1 : Int) / 39 * 9), .int .i64 ((y : Int) - (x2 : Int) / 49 * 9)])) w7 :=
      ⟨A2, c2, T, _, _, rfl, m7.mono (Nat.le_refl _) (by omega), hS, s7.only⟩
    have FIN := hide fin
    clear fin
    go_wp2
    refine bodyPost_ret (results_tmp3 rfl _ _ _) rfl ?_
    exact FIN.out
  · have hi : ¬ (1 : Int) > (T.length : Int) := by omega
    have h1 : 1 ≤ T.length := by omega
    clear h0
    go_wp2_with fail
    refine (pick_st (T.length : Int) s2 (by omega) (by omega) (by omega)).mono ?_
    rintro e_ w3 ⟨x, rfl, hk3, s3, o3⟩
    have z3 := o3.size
    have m3 := m2.only o3 (by omega) (by have := h.lt; omega)
    go_wp2_with fail
    refine (pick_st (T.length : Int) s3 (by omega) (by omega) (by omega)).mono ?_
    rintro e_ w4 ⟨y, rfl, hk4, s4, o4⟩
    have z4 := o4.size
    have m4 := m3.only o4 (by omega) (by have := h.lt; omega)
    go_wp2_with fail
    refine (sBandOk_any _ _ _ _ _ _ m4 hS).mono ?_
    cases hb : bandT T
    · rintro e w5 ⟨rfl, qq⟩
      have s5 := s4.below (qq.below _)
      have m5 := m4.quiet qq
      have z5 := qq.below 0 |>.size
      go_wp2_with fail
      refine (pick_st 40 s5 (by omega) (by omega) (by omega)).mono ?_
      rintro e_ w6 ⟨x1, rfl, hk6, s6, o6⟩
      have z6 := o6.size
      have m6 := m5.only o6 (by omega) (by have := h.lt; omega)
      go_wp2_with fail
      refine (pick_st 50 s6 (by omega) (by omega) (by omega)).mono ?_
      rintro e_ w7 ⟨x2, rfl, hk7, s7, o7⟩
      have z7 := o7.size
      have m7 := m6.only o7 (by omega) (by have := h.lt; omega)
      obtain ⟨q1, q2, q3, q4⟩ := wrapQ (x1 : Int) 39 (by omega) (by omega) (by omega)
      obtain ⟨r1, r2, r3, r4⟩ := wrapQ (x2 : Int) 49 (by omega) (by omega) (by omega)
      have q5 : 0 ≤ (x1 : Int) / 39 := by omega
      have q6 : (x1 : Int) / 39 ≤ 1 := by omega
      have r5 : 0 ≤ (x2 : Int) / 49 := by omega
      have r6 : (x2 : Int) / 49 ≤ 1 := by omega
      have fin : DrawTwo w g (.returned (.tuple #[.slice A2 T.length c2, .int .i64 ((x : Int) + (x1 : Int) / 39 * 9), .int .i64 ((y : Int) - (x2 : Int) / 49 * 9)])) w7 :=
        ⟨A2, c2, T, _, _, rfl, m7.mono (Nat.le_refl _) (by omega), hS, s7.only⟩
      have FIN := hide fin
      clear fin
      go_wp2
      refine bodyPost_ret (results_tmp3 rfl _ _ _) rfl ?_
      exact FIN.out
    · rintro e w5 ⟨rfl, qq⟩
      have s5 := s4.below (qq.below _)
      have m5 := m4.quiet qq
      have z5 := qq.below 0 |>.size
      go_wp2_with fail
      refine (pick_st 3 s5 (by omega) (by omega) (by omega)).mono ?_
      rintro e_ w6 ⟨x0, rfl, hk6, s6, o6⟩
      have z6 := o6.size
      have m6 := m5.only o6 (by omega) (by have := h.lt; omega)
      by_cases hx : x0 = 0
      · subst hx
        have k := band_tab hb
        have hx1 : x < T.length := by omega
        have hy1 : y < T.length := by omega
        obtain ⟨p, hp, p1⟩ := mul_nat k hy1 hx1
        obtain ⟨bb, oo, rfl, _, _, hcell⟩ := m6.head k
        obtain ⟨bx1, ox1, cx1, hcx1, _, _, v1⟩ := hcell (y : Nat) (by omega) (by omega)
        obtain ⟨bx2, ox2, cx2, hcx2, _, _, v2⟩ := hcell (p : Nat) (by omega) (by omega)
        have v1 := v1 (x : Nat) (by omega) (by omega)
        have v2 := v2 (y : Nat) (by omega) (by omega)
        rw [hp] at v1
        rw [Int.toNat_natCast] at hcx1 v1 hcx2 v2
        clear hcell
        have fin : ∀ a c' W, QD w6 W → DrawTwo w g (.returned (.tuple #[.slice (some ⟨bb, oo, none⟩) T.length c2, .int .i64 a, .int .i64 c'])) W := fun a c' W hW =>
          ⟨_, c2, T, a, c', rfl, (m6.quiet hW).mono (Nat.le_refl _) (by rw [hW.heap]; omega), hS, s6.only.trans (Only.of_below (hW.below _))⟩
        have FIN := hide fin
        have MK := hide (fun (W : World) (hW : QD w6 W) => (⟨(World.cell?_of_block (w := w6) (by rw [hW.heap])).trans hcx1, (World.cell?_of_block (w := w6) (by rw [hW.heap])).trans v1, (World.cell?_of_block (w := w6) (by rw [hW.heap])).trans hcx2, (World.cell?_of_block (w := w6) (by rw [hW.heap])).trans v2, hW⟩ :
          W.cell? ⟨bb, oo + y, none⟩ = some (.slice (some ⟨bx1, ox1, none⟩) T.length cx1) ∧ W.cell? ⟨bx1, ox1 + x, none⟩ = some (.int .i64 (p : Nat)) ∧ W.cell? ⟨bb, oo + p, none⟩ = some (.slice (some ⟨bx2, ox2, none⟩) T.length cx2) ∧ W.cell? ⟨bx2, ox2 + y, none⟩ = some (.int .i64 (mul T (p : Int) (y : Int))) ∧ QD w6 W))
        clear fin hcx1 v1 hcx2 v2 hp
        go_wp2
        go_region_held3 (fun W => W.cell? ⟨bb, oo + y, none⟩ = some (.slice (some ⟨bx1, ox1, none⟩) T.length cx1) ∧ W.cell? ⟨bx1, ox1 + x, none⟩ = some (.int .i64 (p : Nat)) ∧ W.cell? ⟨bb, oo + p, none⟩ = some (.slice (some ⟨bx2, ox2, none⟩) T.length cx2) ∧ W.cell? ⟨bx2, ox2 + y, none⟩ = some (.int .i64 (mul T (p : Int) (y : Int))) ∧ QD w6 W)
          (exact MK.out _ (QD.refl _).drew)
          (fail)
        rename_i hHeld
        obtain ⟨_, _, _, _, hQ⟩ := hHeld
        go_wp2
        refine bodyPost_ret (results_tmp3 rfl _ _ _) rfl ?_
        exact FIN.out _ _ _ hQ
      · have hxi : ¬ ((x0 : Nat) : Int) = 0 := by omega
        go_wp2_with fail
        refine (pick_st 40 s6 (by omega) (by omega) (by omega)).mono ?_
        rintro e_ w7 ⟨x1, rfl, hk7, s7, o7⟩
        have z7 := o7.size
        have m7 := m6.only o7 (by omega) (by have := h.lt; omega)
        go_wp2_with fail
        refine (pick_st 50 s7 (by omega) (by omega) (by omega)).mono ?_
        rintro e_ w8 ⟨x2, rfl, hk8, s8, o8⟩
        have z8 := o8.size
        have m8 := m7.only o8 (by omega) (by have := h.lt; omega)
        obtain ⟨q1, q2, q3, q4⟩ := wrapQ (x1 : Int) 39 (by omega) (by omega) (by omega)
        obtain ⟨r1, r2, r3, r4⟩ := wrapQ (x2 : Int) 49 (by omega) (by omega) (by omega)
        have q5 : 0 ≤ (x1 : Int) / 39 := by omega
        have q6 : (x1 : Int) / 39 ≤ 1 := by omega
        have r5 : 0 ≤ (x2 : Int) / 49 := by omega
        have r6 : (x2 : Int) / 49 ≤ 1 := by omega
        have fin : DrawTwo w g (.returned (.tuple #[.slice A2 T.length c2, .int .i64 ((x : Int) + (x1 : Int) / 39 * 9), .int .i64 ((y : Int) - (x2 : Int) / 49 * 9)])) w8 :=
          ⟨A2, c2, T, _, _, rfl, m8.mono (Nat.le_refl _) (by omega), hS, s8.only⟩
        have FIN := hide fin
        clear fin
        go_wp2
        refine bodyPost_ret (results_tmp3 rfl _ _ _) rfl ?_
        exact FIN.out

theorem drawTwo3 (w w1 : World) {e : Ending} {w2 : World} (b1 : Below w.heap.size w w1) (h : DrawTwo w1 w.heap.size e w2) : ∃ A' c' T, ∃ x y : Int, e = .returned (.tuple #[.slice A' T.length c', .int .i64 x, .int .i64 y]) ∧ Below w.heap.size w w2 ∧ Mat w2 w.heap.size w2.heap.size A' T ∧ Small T := by
  obtain ⟨A', c', T, x, y, e, hM, hS, hO⟩ := h
  exact ⟨A', c', T, x, y, e, b1.trans (hO.below (Nat.le_refl _) b1.size), hM.mono b1.size (Nat.le_refl _), hS⟩
end Go.Proofs.Ytnchipcpeeofaaa
