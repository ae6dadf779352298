/-  -/
import Derived.Test.YtcegjiiondmchadPartP
import Derived.Test.YtcegjiiondmchadMadeS
import Derived.Test.YtcegjiiondmchadFill
import Derived.Test.YtcegjiiondmchadPureX
import Derived.Deep.RegionHeld3
namespace Go.Proofs.Ytcegjiiondmchad
open Go.RowKit
set_option linter.unusedVariables false


theorem and_low {s z : Nat} (hs : s < 1024) (hz : z ≤ 9) : bits .and .i64 (s : Int) ((2 : Int) ^ z - 1) = ((s % 2 ^ z : Nat) : Int) := by
  have h := pow_le9 hz
  have e : (2 : Int) ^ z - 1 = ((2 ^ z - 1 : Nat) : Int) := by
    rw [Int.natCast_sub h.1]; simp
  rw [e, (bits_i64 hs (by omega)).1, Nat.and_two_pow_sub_one_eq_mod]

/-- How many bits, summed side by side. -/
def p1 (u : Int) : Int := IntKind.u64.wrap (bits .and .u64 (u / 2) 6148914691236517205 + bits .and .u64 u 6148914691236517205)
def p2 (a : Int) : Int := IntKind.u64.wrap (bits .and .u64 (a / 4) 3689348814741910323 + bits .and .u64 a 3689348814741910323)
def p3 (a : Int) : Int := bits .and .u64 (a / 16 + a) 1085102592571150095
def p4 (a : Int) : Int := a + a / 256
def p5 (a : Int) : Int := a + a / 65536
def p6 (a : Int) : Int := a + a / 4294967296
def small_ (a : Int) : Bool := decide (0 ≤ a) && decide (a ≤ 100000)
theorem pc_all : ∀ u : Fin 512, (small_ (p1 (u.val : Nat)) && small_ (p2 (p1 (u.val : Nat))) && small_ (p3 (p2 (p1 (u.val : Nat)))) && small_ (p4 (p3 (p2 (p1 (u.val : Nat))))) && small_ (p5 (p4 (p3 (p2 (p1 (u.val : Nat)))))) && small_ (p6 (p5 (p4 (p3 (p2 (p1 (u.val : Nat)))))))
    && decide (bits .and .i64 (p6 (p5 (p4 (p3 (p2 (p1 (u.val : Nat))))))) 127 = ((cnt u.val 9 : Nat) : Int))) = true := by decide +kernel
theorem pc_steps (u : Nat) (hu : u < 512) : ∃ a1 a2 a3 a4 a5 a6 : Int, p1 u = a1 ∧ p2 a1 = a2 ∧ p3 a2 = a3 ∧ p4 a3 = a4 ∧ p5 a4 = a5 ∧ p6 a5 = a6 ∧ bits .and .i64 a6 127 = ((cnt u 9 : Nat) : Int) ∧
    (0 ≤ a1 ∧ a1 ≤ 100000) ∧ (0 ≤ a2 ∧ a2 ≤ 100000) ∧ (0 ≤ a3 ∧ a3 ≤ 100000) ∧ (0 ≤ a4 ∧ a4 ≤ 100000) ∧ (0 ≤ a5 ∧ a5 ≤ 100000) ∧ (0 ≤ a6 ∧ a6 ≤ 100000) := by
  have h := pc_all ⟨u, hu⟩
  simp only [Bool.and_eq_true, decide_eq_true_iff, small_] at h
  obtain ⟨⟨⟨⟨⟨⟨h1, h2⟩, h3⟩, h4⟩, h5⟩, h6⟩, h7⟩ := h
  exact ⟨_, _, _, _, _, _, rfl, rfl, rfl, rfl, rfl, rfl, h7, h1, h2, h3, h4, h5, h6⟩

set_option maxHeartbeats 1000000 in
theorem ones64_any (u : Nat) (w : World) (hu : u < 512) :
    Calls Try.prog 96 #[.int .u64 u] w fun e w' => e = .returned (.int .i64 (cnt u 9 : Nat)) ∧ w = w' := by
  obtain ⟨a1, a2, a3, a4, a5, a6, e1, e2, e3, e4, e5, e6, e7, ⟨l1, u1⟩, ⟨l2, u2⟩, ⟨l3, u3⟩, ⟨l4, u4⟩, ⟨l5, u5⟩, l6, u6⟩ := pc_steps u hu
  simp only [p1, p2, p3, p4, p5, p6] at e1 e2 e3 e4 e5 e6
  go_enter Try.func96, Try.ntmps96
  go_wp2
  go_ret
  exact ⟨rfl, rfl⟩

set_option maxHeartbeats 1000000 in
theorem ones_any (u : Nat) (w : World) (hu : u < 512) :
    Calls Try.prog 94 #[.int .u64 u] w fun e w' => e = .returned (.int .i64 (cnt u 9 : Nat)) ∧ w = w' := by
  go_enter Try.func94, Try.ntmps94
  go_wp2_with (go_at_call 96; refine (ones64_any u _ hu).mono ?_; rintro e w' ⟨rfl, rfl⟩)
  go_ret
  exact ⟨rfl, rfl⟩

set_option maxHeartbeats 1000000 in
theorem placeIn_any (s z : Nat) (w : World) (hs : s < 512) (hz : z ≤ 9) :
    Calls Try.prog 93 #[.int .i64 s, .int .i64 z] w fun e w' => e = .returned (.int .i64 (cnt s z : Nat)) ∧ w = w' := by
  obtain ⟨h1, h2⟩ := pow_int hz
  have hand := and_low (by omega : s < 1024) hz
  have hlt : s % 2 ^ z < 512 := Nat.lt_of_le_of_lt (Nat.mod_le _ _) hs
  obtain ⟨m, hm⟩ : ∃ m, m = s % 2 ^ z := ⟨_, rfl⟩
  rw [← hm] at hand hlt
  have HC := hide (show cnt m 9 = cnt s z from by rw [hm, cnt_mod, Nat.min_eq_right hz])
  clear hm
  go_enter Try.func93, Try.ntmps93
  go_wp2_with (go_at_call 94; refine (ones_any m _ hlt).mono ?_; rintro e w' ⟨rfl, rfl⟩)
  go_ret
  exact ⟨ret_int (by rw [HC.out]), rfl⟩
end Go.Proofs.Ytcegjiiondmchad

namespace Go.Proofs.Ytcegjiiondmchad
open Go.RowKit
set_option linter.unusedVariables false


set_option maxRecDepth 20000 in
set_option maxHeartbeats 4000000 in
theorem part1_any (A A3 : Option Addr) (c c3 lo hi lo3 hi3 g1 g2 g3 : Nat) (T : List (List Int)) (s x y : Nat) (w : World) (h : Mat w lo hi A T) (hh : hi ≤ w.heap.size) (k : IsP T s) (h3 : Row w lo3 hi3 A3 (thk s 9)) (hh3 : hi3 ≤ w.heap.size)
    (q1 : w.cell? ⟨g1, 0, none⟩ = some (.int .i64 s)) (q2 : w.cell? ⟨g2, 0, none⟩ = some (.slice A T.length c)) (q3 : w.cell? ⟨g3, 0, none⟩ = some (.slice A3 (thk s 9).length c3)) (hx : x < (thk s 9).length) (hy : y < (thk s 9).length) :
    Calls Try.prog 92 #[.int .i64 x, .int .i64 y, .pointer (some ⟨g1, 0, none⟩), .pointer (some ⟨g2, 0, none⟩), .pointer (some ⟨g3, 0, none⟩)] w fun e w' => e = .returned (.int .i64 (partM T s x y)) ∧ Below w.heap.size w w' := by
  have kT := okT_iff.1 k.ok
  have t9 := kT.hi
  have s9 : s < 512 := Nat.lt_of_lt_of_le k.lt (pow_le9 t9).2
  obtain ⟨xa, xb, z, ea, eb, ez, _, _, _, xa1, xb1, z1, em, _, _⟩ := k.prod hx hy
  obtain ⟨b, o, rfl, _, hb, hc1⟩ := h3 x hx
  obtain ⟨b', o', e', _, _, hc2⟩ := h3 y hy
  obtain ⟨rfl, rfl⟩ : b = b' ∧ o = o' := by simpa using e'
  clear e'
  rw [ea] at hc1
  rw [eb] at hc2
  have l1 := World.block_lt_of_cell? _ _ q1
  have l2 := World.block_lt_of_cell? _ _ q2
  have l3 := World.block_lt_of_cell? _ _ q3
  have hb' : b < w.heap.size := by omega
  have EM := hide em
  have EZ := hide ez
  clear ea eb ez em
  obtain ⟨L, hL⟩ : ∃ L, L = (thk s 9).length := ⟨_, rfl⟩
  have hL9 : L ≤ 9 := by rw [hL]; exact len_thk s 9
  rw [← hL] at hx hy q3
  clear hL
  have hxi : (x : Int) < (L : Int) := by omega
  have hyi : (y : Int) < (L : Int) := by omega
  have MK := hide (fun (W : World) (hW' : Below w.heap.size w W) =>
    (⟨(hW'.cell (p := ⟨g1, 0, none⟩) l1).trans q1, (hW'.cell (p := ⟨g2, 0, none⟩) l2).trans q2, (hW'.cell (p := ⟨g3, 0, none⟩) l3).trans q3, (hW'.cell (p := ⟨b, o + x, none⟩) hb').trans hc1, (hW'.cell (p := ⟨b, o + y, none⟩) hb').trans hc2, hW'⟩ :
      W.cell? ⟨g1, 0, none⟩ = some (.int .i64 s) ∧ W.cell? ⟨g2, 0, none⟩ = some (.slice A T.length c) ∧ W.cell? ⟨g3, 0, none⟩ = some (.slice (some ⟨b, o, none⟩) L c3) ∧ W.cell? ⟨b, o + x, none⟩ = some (.int .i64 (xa : Nat)) ∧ W.cell? ⟨b, o + y, none⟩ = some (.int .i64 (xb : Nat)) ∧ Below w.heap.size w W))
  clear q1 q2 q3 hc1 hc2 h3
  go_enter Try.func92, Try.ntmps92
  go_wp2_with fail
  go_region_held3 (fun W => W.cell? ⟨g1, 0, none⟩ = some (.int .i64 s) ∧ W.cell? ⟨g2, 0, none⟩ = some (.slice A T.length c) ∧ W.cell? ⟨g3, 0, none⟩ = some (.slice (some ⟨b, o, none⟩) L c3) ∧ W.cell? ⟨b, o + x, none⟩ = some (.int .i64 (xa : Nat)) ∧ W.cell? ⟨b, o + y, none⟩ = some (.int .i64 (xb : Nat)) ∧ Below w.heap.size w W)
    (first
      | exact MK.out _ ((Below.refl _ _).drew)
      | (go_split_ands
         exact MK.out _ (Below.trans (by assumption) (Below.mono (by assumption) (Below.size (by assumption))))))
    (first
      | (go_at_call 55
         refine (product_any _ _ lo hi T _ _ _ ?_ ?_ kT (by omega) (by omega) (by omega) (by omega)).mono ?_
         · go_split_ands
           exact h.below (B := w.heap.size) (by assumption) hh
         · go_split_ands
           exact Nat.le_trans hh (Below.size (by assumption))
         rintro e wj ⟨rfl, hbj⟩)
      | (go_at_call 93
         rw [EZ.out]
         refine (placeIn_any s z _ s9 (by omega)).mono ?_
         rintro e wk ⟨rfl, hek⟩
         have hbk : Below wk.heap.size wk wk := Below.refl _ _
         subst hek))
  rename_i hHeld
  obtain ⟨_, _, _, _, _, hB1⟩ := hHeld
  go_wp2
  go_ret
  exact ⟨ret_int EM.out.symm, hB1⟩

theorem two_cells (w : World) (u v : Value) (t1 t2 : TypeId) : (((w.alloc (.cells #[u] t1)).alloc (.cells #[v] t2)).cell? ⟨w.heap.size, 0, none⟩ = some u) ∧ (((w.alloc (.cells #[u] t1)).alloc (.cells #[v] t2)).cell? ⟨w.heap.size + 1, 0, none⟩ = some v) := by
  have e := heap_alloc_new w (.cells #[u] t1)
  have e1 := (Below.heap_alloc (w.alloc (.cells #[u] t1)) (.cells #[v] t2) w.heap.size (by simp)).trans e
  have e2 := heap_alloc_new (w.alloc (.cells #[u] t1)) (.cells #[v] t2)
  have hs : (w.alloc (.cells #[u] t1)).heap.size = w.heap.size + 1 := by simp
  rw [hs] at e2
  exact ⟨by rw [cell_of_row _ _ _ _ _ _ e1]; rfl, by rw [cell_of_row _ _ _ _ _ _ e2]; rfl⟩

set_option maxRecDepth 20000 in
set_option maxHeartbeats 4000000 in
theorem iPartOf_any (A : Option Addr) (c lo hi : Nat) (T : List (List Int)) (s : Int) (w : World) (h : Mat w lo hi A T) (hh : hi ≤ w.heap.size) (hS : Small T) :
    Calls Try.prog 84 #[.slice A T.length c, .int .i64 s] w (OwnTab w (partT T s)) := by
  have b0 := (Below.refl w.heap.size w).alloc (Nat.le_refl _) (.cells #[.int .i64 s] 3)
  have e0 := heap_alloc_new w (.cells #[.int .i64 s] 3)
  have hz0 : (w.alloc (.cells #[.int .i64 s] 3)).heap.size = w.heap.size + 1 := by simp
  have MK := hide (fun (W : World) (hW : Below (w.heap.size + 1) (w.alloc (.cells #[.int .i64 s] 3)) W) =>
    (⟨by rw [cell_of_row W w.heap.size 0 _ _ _ ((hW.block w.heap.size (by omega)).trans e0)]; rfl, hW⟩ : W.cell? ⟨w.heap.size, 0, none⟩ = some (.int .i64 s) ∧ Below (w.heap.size + 1) (w.alloc (.cells #[.int .i64 s] 3)) W))
  have HZ := hide hz0
  have h0 := h.below b0 hh
  have hh0 : hi ≤ (w.alloc (.cells #[.int .i64 s] 3)).heap.size := by omega
  clear e0 hz0
  by_cases h1 : s < 1
  · have HF : Hid (∀ w', Below w.heap.size w w' → OwnTab w (partT T s) (.returned (.slice none 0 0)) w') := fun w' hb => by
      rw [partT_not (fun hx => by omega)]; exact ⟨none, 0, rfl, hb, OMat.nil _ _ _ _⟩
    go_enter Try.func84, Try.ntmps84
    go_wp2_with fail
    go_quiet (fail)
    go_wp2
    go_ret
    exact HF.out _ (Below.drewN_ b0 _)
  · by_cases hp : madeT T s = s
    · obtain ⟨n, rfl, kP⟩ := isP_of (by omega) hp
      have kT := okT_iff.1 kP.ok
      have t9 := kT.hi
      have s9 : n < 512 := Nat.lt_of_lt_of_le kP.lt (pow_le9 t9).2
      have HE := hide (show partT T (n : Nat) = tabOf (thk n 9).length (partM T n) from kP.part)
      have hcf : ∀ (args : Array Value) (w : World), (callFunc 92 args).run Try.prog w = .ok (.enter 92 args) w := fun args w => by kernel_rfl
      have HCF := hide hcf
      have HP := hide hp
      have hd : decide ((n : Int) < 1) = false := by simpa using h1
      clear hcf hp
      go_enter Try.func84, Try.ntmps84
      go_wp2_with fail
      go_region_held3 (fun W => W.cell? ⟨w.heap.size, 0, none⟩ = some (.int .i64 (n : Nat)) ∧ Below (w.heap.size + 1) (w.alloc (.cells #[.int .i64 (n : Nat)] 3)) W)
        (first
          | exact MK.out _ ((Below.refl _ _).drew)
          | (go_split_ands
             exact MK.out _ (Below.trans (by assumption) (Below.mono (by assumption) (Nat.le_trans (Nat.le_of_eq HZ.out.symm) (Below.size (by assumption)))))))
        (first
          | (go_at_call 31
             refine (iMadeBy_any _ _ lo hi T _ _ ?_ ?_ hS).mono ?_
             · go_split_ands
               exact h0.below (B := w.heap.size + 1) (by assumption) (by omega)
             · go_split_ands
               exact Nat.le_trans hh0 (Below.size (by assumption))
             rw [HP.out]
             rintro e wj ⟨rfl, hbj⟩))
      rename_i hHeld
      obtain ⟨hc1, hB1⟩ := hHeld
      have B1 := b0.trans (hB1.mono (by omega))
      go_wp2_with fail
      refine (thingsIn_any n _ (by omega)).mono ?_
      rintro e w2 ⟨A3, c3, rfl, b2, hR, hc3, hc4⟩
      have B2 := B1.trans (b2.mono B1.size)
      have z1 : w.heap.size < w2.heap.size := by have := hB1.size; have := b2.size; have := HZ.out; omega
      have hc2 : w2.cell? ⟨w.heap.size, 0, none⟩ = some (.int .i64 (n : Nat)) := (b2.cell (p := ⟨w.heap.size, 0, none⟩) (World.block_lt_of_cell? _ _ hc1)).trans hc1
      have b3 := ((Below.refl w2.heap.size w2).alloc (Nat.le_refl _) (.cells #[.slice A T.length c] 44)).alloc (by simp) (.cells #[.slice A3 (thk n 9).length c3] 25)
      obtain ⟨t1, t2⟩ := two_cells w2 (.slice A T.length c) (.slice A3 (thk n 9).length c3) 44 25
      have es : ((w2.alloc (.cells #[.slice A T.length c] 44)).alloc (.cells #[.slice A3 (thk n 9).length c3] 25)).heap.size = w2.heap.size + 2 := by simp
      have ES := hide es
      clear es hc1
      have t0 := (b3.cell (p := ⟨w.heap.size, 0, none⟩) z1).trans hc2
      have B3 := B2.trans (b3.mono B2.size)
      have hR3 := hR.below b3 (Nat.le_refl _)
      have hL9 := len_thk n 9
      have CE := hide (show ∀ wr, Below (w2.heap.size + 2) ((w2.alloc (.cells #[.slice A T.length c] 44)).alloc (.cells #[.slice A3 (thk n 9).length c3] 25)) wr →
        wr.cell? ⟨w.heap.size, 0, none⟩ = some (.int .i64 (n : Nat)) ∧ wr.cell? ⟨w2.heap.size, 0, none⟩ = some (.slice A T.length c) ∧ wr.cell? ⟨w2.heap.size + 1, 0, none⟩ = some (.slice A3 (thk n 9).length c3) from fun wr hb =>
        ⟨(hb.cell (p := ⟨w.heap.size, 0, none⟩) (by show w.heap.size < _; omega)).trans t0, (hb.cell (p := ⟨w2.heap.size, 0, none⟩) (by show w2.heap.size < _; omega)).trans t1, (hb.cell (p := ⟨w2.heap.size + 1, 0, none⟩) (by show w2.heap.size + 1 < _; omega)).trans t2⟩)
      clear t0 t1 t2 hc2
      go_wp2_with fail
      refine (filledRows_any 92 #[.pointer (some ⟨w.heap.size, 0, none⟩), .pointer (some ⟨w2.heap.size, 0, none⟩), .pointer (some ⟨w2.heap.size + 1, 0, none⟩)] (thk n 9).length (partM T n) _ hL9 HCF.out (fun wr a b ha hb hbl => ?_)).mono ?_
      · rw [ES.out] at hbl
        obtain ⟨d1, d2, d3⟩ := CE.out wr hbl
        have bw := B3.trans (hbl.mono (by omega))
        have z3 := hbl.size
        exact part1_any A A3 c c3 lo hi _ _ _ _ _ T n a b wr (h.below bw hh) (Nat.le_trans hh bw.size) kP (hR3.below hbl (by omega)) (by rw [ES.out] at z3; omega) d1 d2 d3 ha hb
      · rw [ES.out]
        rintro e w4 ⟨rfl, b4, o4⟩
        go_wp2
        go_ret
        rw [HE.out]
        exact ⟨some ⟨w2.heap.size + 2, 0, none⟩, (thk n 9).length, ret_slice (by rw [len_tabOf]), B3.trans (b4.mono (by omega)), o4.mono (by omega) (Nat.le_refl _)⟩
    · have HP := hide hp
      have HF : Hid (∀ w', Below w.heap.size w w' → OwnTab w (partT T s) (.returned (.slice none 0 0)) w') := fun w' hb => by
        rw [partT_not (fun hx => hp hx.2)]; exact ⟨none, 0, rfl, hb, OMat.nil _ _ _ _⟩
      have hne : (madeT T s != s) = true := by simpa using hp
      have hd : decide (s < 1) = false := by simpa using h1
      clear hp
      go_enter Try.func84, Try.ntmps84
      go_wp2_with fail
      go_region_held3 (fun W => W.cell? ⟨w.heap.size, 0, none⟩ = some (.int .i64 s) ∧ Below (w.heap.size + 1) (w.alloc (.cells #[.int .i64 s] 3)) W)
        (first
          | exact MK.out _ ((Below.refl _ _).drew)
          | (go_split_ands
             exact MK.out _ (Below.trans (by assumption) (Below.mono (by assumption) (Nat.le_trans (Nat.le_of_eq HZ.out.symm) (Below.size (by assumption)))))))
        (first
          | (go_at_call 31
             refine (iMadeBy_any _ _ lo hi T _ _ ?_ ?_ hS).mono ?_
             · go_split_ands
               exact h0.below (B := w.heap.size + 1) (by assumption) (by omega)
             · go_split_ands
               exact Nat.le_trans hh0 (Below.size (by assumption))
             rintro e wj ⟨rfl, hbj⟩))
      rename_i hHeld
      obtain ⟨_, hB1⟩ := hHeld
      go_wp2
      go_ret
      exact HF.out _ (b0.trans (hB1.mono (by omega)))
end Go.Proofs.Ytcegjiiondmchad
