
/- The table of levels: the program's. -/
import Derived.Test.YtcegjiiondmchadIlev3
import Derived.Deep.RegionHeld3
namespace Go.Proofs.Ytcegjiiondmchad
open Go.RowKit
set_option linter.unusedVariables false


set_option maxRecDepth 20000 in
set_option maxHeartbeats 4000000 in
theorem lt1_any (A AL AF : Option Addr) (c cl cf lo hi ll lh pl ph g1 g2 g3 : Nat) (T : List (List Int)) (a b : Nat) (w : World) (h : Mat w lo hi A T) (hh : hi ≤ w.heap.size) (hb : bandT T = true) (hl : Row w ll lh AL (levsL T)) (hlh : lh ≤ w.heap.size)
    (hf : Row w pl ph AF (flK T (nL T))) (hfh : ph ≤ w.heap.size) (q1 : w.cell? ⟨g1, 0, none⟩ = some (.slice AL T.length cl)) (q2 : w.cell? ⟨g2, 0, none⟩ = some (.slice A T.length c)) (q3 : w.cell? ⟨g3, 0, none⟩ = some (.slice AF (nL T) cf)) (ha : a < nL T) (hbb : b < nL T) :
    Calls Try.prog 54 #[.int .i64 a, .int .i64 b, .pointer (some ⟨g1, 0, none⟩), .pointer (some ⟨g2, 0, none⟩), .pointer (some ⟨g3, 0, none⟩)] w fun e w' => e = .returned (.int .i64 (levM T a b)) ∧ Below w.heap.size w w' := by
  have kT := band_tab hb
  have t9 := kT.hi
  have hL9 := nL_le T
  obtain ⟨x1, _, _⟩ := fl_ok ha
  obtain ⟨y1, _, _⟩ := fl_ok hbb
  obtain ⟨z, hz, z1⟩ := mul_nat kT x1 y1
  have em : levM T a b = ((num (inLev T) z : Nat) : Int) := by unfold levM; rw [hz, Int.toNat_natCast]
  obtain ⟨bf, of, rfl, _, hbf, hc1⟩ := hf a (by rw [len_flK]; exact ha)
  obtain ⟨bf', of', e', _, _, hc2⟩ := hf b (by rw [len_flK]; exact hbb)
  obtain ⟨rfl, rfl⟩ : bf = bf' ∧ of = of' := by simpa using e'
  clear e'
  obtain ⟨bl, ol, rfl, _, hbl, hc3⟩ := hl z (by rw [len_levsL hb]; exact z1)
  rw [el_flK ha] at hc1
  rw [el_flK hbb] at hc2
  rw [el_levsL hb z1] at hc3
  have EM := hide em
  obtain ⟨x, hx⟩ : ∃ x, x = fl T a := ⟨_, rfl⟩
  obtain ⟨y, hy⟩ : ∃ y, y = fl T b := ⟨_, rfl⟩
  rw [← hx] at hc1 hz x1
  rw [← hy] at hc2 hz y1
  obtain ⟨u, hu⟩ : ∃ u, u = num (inLev T) z := ⟨_, rfl⟩
  rw [← hu] at hc3
  have HU := hide hu
  have EZ := hide hz
  clear hx hy hz em hu
  have l1 := World.block_lt_of_cell? _ _ q1
  have l2 := World.block_lt_of_cell? _ _ q2
  have l3 := World.block_lt_of_cell? _ _ q3
  have hbf' : bf < w.heap.size := by omega
  have hbl' : bl < w.heap.size := by omega
  obtain ⟨L, hL⟩ : ∃ L, L = nL T := ⟨_, rfl⟩
  rw [← hL] at ha hbb q3
  clear hL hL9
  have hai : (a : Int) < (L : Int) := by omega
  have hbi : (b : Int) < (L : Int) := by omega
  have MK := hide (fun (W : World) (hW' : Below w.heap.size w W) =>
    (⟨(hW'.cell (p := ⟨g1, 0, none⟩) l1).trans q1, (hW'.cell (p := ⟨g2, 0, none⟩) l2).trans q2, (hW'.cell (p := ⟨g3, 0, none⟩) l3).trans q3, (hW'.cell (p := ⟨bf, of + a, none⟩) hbf').trans hc1, (hW'.cell (p := ⟨bf, of + b, none⟩) hbf').trans hc2, (hW'.cell (p := ⟨bl, ol + z, none⟩) hbl').trans hc3, hW'⟩ :
      W.cell? ⟨g1, 0, none⟩ = some (.slice (some ⟨bl, ol, none⟩) T.length cl) ∧ W.cell? ⟨g2, 0, none⟩ = some (.slice A T.length c) ∧ W.cell? ⟨g3, 0, none⟩ = some (.slice (some ⟨bf, of, none⟩) L cf) ∧ W.cell? ⟨bf, of + a, none⟩ = some (.int .i64 (x : Nat)) ∧ W.cell? ⟨bf, of + b, none⟩ = some (.int .i64 (y : Nat)) ∧ W.cell? ⟨bl, ol + z, none⟩ = some (.int .i64 (u : Nat)) ∧ Below w.heap.size w W))
  clear q1 q2 q3 hc1 hc2 hc3 hf hl
  go_enter Try.func54, Try.ntmps54
  go_wp2_with fail
  go_region_held3 (fun W => W.cell? ⟨g1, 0, none⟩ = some (.slice (some ⟨bl, ol, none⟩) T.length cl) ∧ W.cell? ⟨g2, 0, none⟩ = some (.slice A T.length c) ∧ W.cell? ⟨g3, 0, none⟩ = some (.slice (some ⟨bf, of, none⟩) L cf) ∧ W.cell? ⟨bf, of + a, none⟩ = some (.int .i64 (x : Nat)) ∧ W.cell? ⟨bf, of + b, none⟩ = some (.int .i64 (y : Nat)) ∧ W.cell? ⟨bl, ol + z, none⟩ = some (.int .i64 (u : Nat)) ∧ Below w.heap.size w W)
    (first
      | exact MK.out _ ((Below.refl _ _).drew)
      | (go_split_ands
         exact MK.out _ (Below.trans (by assumption) (Below.mono (by assumption) (Below.size (by assumption))))))
    (first
      | (go_at_call 55
         refine (product_any _ _ lo hi T _ _ _ ?_ ?_ kT (by omega) (by omega) (by omega) (by omega)).mono ?_
         · go_split_ands
           exact h.below (B := w.heap.size) (by assumption) hh
         · go_split_ands
           exact Nat.le_trans hh (Below.size (by assumption))
         rw [EZ.out]
         rintro e wj ⟨rfl, hbj⟩))
  rename_i hHeld
  obtain ⟨_, _, _, _, _, _, hB1⟩ := hHeld
  go_wp2
  go_ret
  exact ⟨ret_int (by rw [EM.out, HU.out]), hB1⟩

set_option maxRecDepth 20000 in
set_option maxHeartbeats 4000000 in
theorem iLevelTable_any (A : Option Addr) (c lo hi : Nat) (T : List (List Int)) (w : World) (h : Mat w lo hi A T) (hh : hi ≤ w.heap.size) (hS : Small T) :
    Calls Try.prog 25 #[.slice A T.length c] w (OwnTab w (levelT T)) := by
  cases hb : bandT T
  · have HE := hide (levelT_not hb)
    go_enter Try.func25, Try.ntmps25
    go_wp2_with fail
    refine (iBandOk_any A c lo hi T w h hh hS).mono ?_
    rw [hb]
    rintro e w1 ⟨rfl, b1⟩
    go_wp2
    go_ret
    rw [HE.out]
    exact ⟨none, 0, rfl, b1, OMat.nil _ _ _ _⟩
  · have k := band_tab hb
    have k9 := k.hi
    have hL9 := nL_le T
    have HB := hide hb
    have HE := hide (levelT_ok hb)
    have hcf : ∀ (args : Array Value) (w : World), (callFunc 54 args).run Try.prog w = .ok (.enter 54 args) w := fun args w => by kernel_rfl
    have HCF := hide hcf
    clear hcf
    go_enter Try.func25, Try.ntmps25
    go_wp2_with fail
    refine (iBandOk_any A c lo hi T w h hh hS).mono ?_
    rw [hb]
    rintro e w1 ⟨rfl, b1⟩
    go_wp2_with fail
    refine (iLevelsOf_any A c lo hi T w1 (h.below b1 hh) (Nat.le_trans hh b1.size) hS).mono ?_
    rintro e w2 ⟨AL, cl, rfl, b2, oL, _, _⟩
    rw [len_levsL HB.out]
    have B2 := b1.trans (b2.mono b1.size)
    have hL2 := oL.row
    have b3 := ((Below.refl w2.heap.size w2).alloc (Nat.le_refl _) (.cells #[.slice A T.length c] 44)).alloc (by simp) (.cells #[.slice AL T.length cl] 25)
    obtain ⟨t1, t2⟩ := two_cells w2 (.slice A T.length c) (.slice AL T.length cl) 44 25
    obtain ⟨w3, hw3⟩ : ∃ w3, w3 = (w2.alloc (.cells #[.slice A T.length c] 44)).alloc (.cells #[.slice AL T.length cl] 25) := ⟨_, rfl⟩
    have z3 : w3.heap.size = w2.heap.size + 2 := by rw [hw3]; simp
    rw [← hw3] at b3 t1 t2
    have HW3 := hide hw3
    have B3 := B2.trans (b3.mono B2.size)
    have hL3 := hL2.below b3 (Nat.le_refl _)
    clear hw3 oL hL2
    go_wp2_with fail
    rw [← HW3.out]
    refine (firsts_any A c lo hi T w3 (h.below B3 hh) (Nat.le_trans hh B3.size) HB.out hS).mono ?_
    rintro e w4 ⟨AF, cf, rfl, b4, oF, _, _⟩
    rw [len_flK]
    have B4 := B3.trans (b4.mono B3.size)
    have hF4 := oF.row
    have hL4 := hL3.below b4 (Nat.le_trans (by have := b3.size; omega) (Nat.le_refl _))
    have s1 : w4.cell? ⟨w2.heap.size, 0, none⟩ = some (.slice A T.length c) := (b4.cell (p := ⟨w2.heap.size, 0, none⟩) (by show w2.heap.size < _; omega)).trans t1
    have s2 : w4.cell? ⟨w2.heap.size + 1, 0, none⟩ = some (.slice AL T.length cl) := (b4.cell (p := ⟨w2.heap.size + 1, 0, none⟩) (by show w2.heap.size + 1 < _; omega)).trans t2
    have b5 := (Below.refl w4.heap.size w4).alloc (Nat.le_refl _) (.cells #[.slice AF (nL T) cf] 25)
    have s3 : (w4.alloc (.cells #[.slice AF (nL T) cf] 25)).cell? ⟨w4.heap.size, 0, none⟩ = some (.slice AF (nL T) cf) := by simp
    have z4 := b4.size
    obtain ⟨w5, hw5⟩ : ∃ w5, w5 = w4.alloc (.cells #[.slice AF (nL T) cf] 25) := ⟨_, rfl⟩
    have z5 : w5.heap.size = w4.heap.size + 1 := by rw [hw5]; simp
    rw [← hw5] at b5 s3
    have HW5 := hide hw5
    have B5 := B4.trans (b5.mono B4.size)
    have hF5 := hF4.below b5 (Nat.le_refl _)
    have hL5 := hL4.below b5 (by omega)
    have CE := hide (show ∀ wr, Below w5.heap.size w5 wr → wr.cell? ⟨w2.heap.size + 1, 0, none⟩ = some (.slice AL T.length cl) ∧ wr.cell? ⟨w2.heap.size, 0, none⟩ = some (.slice A T.length c) ∧ wr.cell? ⟨w4.heap.size, 0, none⟩ = some (.slice AF (nL T) cf) from fun wr hbr =>
      ⟨(hbr.cell (p := ⟨w2.heap.size + 1, 0, none⟩) (by show w2.heap.size + 1 < _; omega)).trans ((b5.cell (p := ⟨w2.heap.size + 1, 0, none⟩) (by show w2.heap.size + 1 < _; omega)).trans s2),
       (hbr.cell (p := ⟨w2.heap.size, 0, none⟩) (by show w2.heap.size < _; omega)).trans ((b5.cell (p := ⟨w2.heap.size, 0, none⟩) (by show w2.heap.size < _; omega)).trans s1),
       (hbr.cell (p := ⟨w4.heap.size, 0, none⟩) (by show w4.heap.size < _; omega)).trans s3⟩)
    have hmf : ∀ (fn : Fn) (first cap : Array Value) (w : World), (Instr.makeFunc fn first cap).run Try.prog w = .ok (.func fn first cap) w := fun _ _ _ _ => rfl
    clear t1 t2 s1 s2 hL3 hL4 hF4 oF hw5
    go_wp2_with fail
    rw [← HW5.out]
    refine (filledRows_any 54 #[.pointer (some ⟨w2.heap.size + 1, 0, none⟩), .pointer (some ⟨w2.heap.size, 0, none⟩), .pointer (some ⟨w4.heap.size, 0, none⟩)] (nL T) (levM T) w5 (by omega) HCF.out (fun wr a b ha hbb hbl => ?_)).mono ?_
    · obtain ⟨d1, d2, d3⟩ := CE.out wr hbl
      have bw := B5.trans (hbl.mono B5.size)
      have zr := hbl.size
      exact lt1_any A AL AF c cl cf lo hi _ _ _ _ _ _ _ T a b wr (h.below bw hh) (Nat.le_trans hh bw.size) HB.out (hL5.below hbl (by omega)) (by omega) (hF5.below hbl (by omega)) (by omega) d1 d2 d3 ha hbb
    · have zz := B5.size
      rintro e w6 ⟨rfl, b6, o6⟩
      rw [z5] at o6 zz
      go_wp2
      go_ret
      rw [HE.out]
      exact ⟨some ⟨w4.heap.size + 1, 0, none⟩, nL T, ret_slice (by rw [len_tabOf]), B5.trans (b6.mono B5.size), o6.mono zz (Nat.le_refl _)⟩
end Go.Proofs.Ytcegjiiondmchad
