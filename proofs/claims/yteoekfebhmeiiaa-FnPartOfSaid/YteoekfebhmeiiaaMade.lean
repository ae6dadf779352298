
/- The least closed set: plain mathematics, and one step of the program's. -/
import Derived.Test.YteoekfebhmeiiaaSet
import Derived.Test.YteoekfebhmeiiaaSgrp
namespace Go.Proofs.Yteoekfebhmeiiaa
open Go.RowKit
set_option linter.unusedVariables false


theorem bit_lt {s n a : Nat} (hs : s < 2 ^ n) (h : s.testBit a = true) : a < n := by
  rcases Nat.lt_or_ge a n with h1 | h1
  · exact h1
  · have : s.testBit a = false := Nat.testBit_lt_two_pow (Nat.lt_of_lt_of_le hs (Nat.pow_le_pow_right (by omega) h1))
    rw [h] at this; cases this
theorem thk_mem {s : Nat} {j : Nat} (hj : j < (thk s 9).length) : ∃ a : Nat, el (thk s 9) j = (a : Int) ∧ s.testBit a = true ∧ a < 9 := by
  rw [el_eq hj]
  have := List.getElem_mem hj
  unfold thk at this ⊢
  rw [List.mem_map] at this
  obtain ⟨a, ha, e⟩ := this
  rw [List.mem_filter, List.mem_range] at ha
  exact ⟨a, e.symm, ha.2, ha.1⟩
theorem thk_of {s a : Nat} (h : s.testBit a = true) (h9 : a < 9) : ∃ j, j < (thk s 9).length ∧ el (thk s 9) j = (a : Int) := by
  have : (a : Int) ∈ thk s 9 := by
    unfold thk
    rw [List.mem_map]
    exact ⟨a, by rw [List.mem_filter, List.mem_range]; exact ⟨h9, h⟩, rfl⟩
  obtain ⟨j, hj, e⟩ := List.getElem_of_mem this
  exact ⟨j, hj, by rw [el_eq hj]; exact e⟩
/-- A set that has the products of its things. -/
def Clos (T : List (List Int)) (m : Nat) : Prop := ∀ a b : Nat, m.testBit a = true → m.testBit b = true → m.testBit (mul T a b).toNat = true
/-- m is s and the products of its things, all or some; nothing else. -/
structure Grown (T : List (List Int)) (s m : Nat) : Prop where
  lt : m < 2 ^ T.length
  sub : ∀ x, s.testBit x = true → m.testBit x = true
  only : ∀ x, m.testBit x = true → s.testBit x = true ∨ ∃ a b : Nat, s.testBit a = true ∧ s.testBit b = true ∧ x = (mul T a b).toNat
theorem Grown.refl {T : List (List Int)} {s : Nat} (h : s < 2 ^ T.length) : Grown T s s := ⟨h, fun _ hx => hx, fun _ hx => .inl hx⟩
theorem Grown.add {T : List (List Int)} {s m : Nat} (h : Grown T s m) (k : IsT T) (hs : s < 2 ^ T.length) {a b : Nat} (ha : s.testBit a = true) (hb : s.testBit b = true) : Grown T s (m ||| 2 ^ (mul T a b).toNat) := by
  have a1 := bit_lt hs ha
  have b1 := bit_lt hs hb
  obtain ⟨p0, p1⟩ := k.mul (x := (a : Nat)) (y := (b : Nat)) (by omega) (by omega) (by omega) (by omega)
  refine ⟨Nat.or_lt_two_pow h.lt (Nat.pow_lt_pow_right (by omega) (by omega)), fun x hx => ?_, fun x hx => ?_⟩
  · rw [Nat.testBit_or, h.sub x hx]; rfl
  · rw [Nat.testBit_or, Bool.or_eq_true, Nat.testBit_two_pow, decide_eq_true_iff] at hx
    rcases hx with hx | hx
    · exact h.only x hx
    · exact .inr ⟨a, b, ha, hb, hx.symm⟩
/-- The least set with all products. -/
structure Made (T : List (List Int)) (s m : Nat) : Prop where
  lt : m < 2 ^ T.length
  sub : ∀ x, s.testBit x = true → m.testBit x = true
  clos : Clos T m
  least : ∀ q, Clos T q → (∀ x, s.testBit x = true → q.testBit x = true) → ∀ x, m.testBit x = true → q.testBit x = true
theorem Made.unique {T : List (List Int)} {s m m' : Nat} (h : Made T s m) (h' : Made T s m') : m = m' := by
  apply Nat.eq_of_testBit_eq
  intro i
  have h1 := h.least m' h'.clos h'.sub i
  have h2 := h'.least m h.clos h.sub i
  cases e : m.testBit i <;> cases e' : m'.testBit i
  · rfl
  · rw [h2 e'] at e; cases e
  · rw [h1 e] at e'; cases e'
  · rfl

/-- What a call of withProducts answers: all products are there. -/
def Step (T : List (List Int)) (s : Nat) (w : World) (e : Ending) (w' : World) : Prop :=
  ∃ m : Nat, e = .returned (.int .i64 (m : Nat)) ∧ Grown T s m ∧ (∀ a b : Nat, s.testBit a = true → s.testBit b = true → m.testBit (mul T a b).toNat = true) ∧ Below w.heap.size w w'

set_option maxHeartbeats 2000000 in
theorem withProducts_any (A : Option Addr) (c lo hi : Nat) (T : List (List Int)) (s : Nat) (w : World) (h : Mat w lo hi A T) (hh : hi ≤ w.heap.size) (k : IsT T) (hs : s < 2 ^ T.length) :
    Calls Try.prog 62 #[.agg #[.slice A T.length c], .int .i64 s] w (Step T s w) := by
  have k9 := k.hi
  have hp9 := pow_le9 k9
  have hs1 : s < 1024 := by omega
  have b0 := (Below.refl w.heap.size w).alloc (Nat.le_refl _) (.cells #[.slice A T.length c] 47)
  have e0 := heap_alloc_new w (.cells #[.slice A T.length c] 47)
  have MK := hide (fun (W : World) (hW : Below (w.heap.size + 1) (w.alloc (.cells #[.slice A T.length c] 47)) W) =>
    (show W.cell? ⟨w.heap.size, 0, none⟩ = some (.slice A T.length c) from by
      rw [cell_of_row W w.heap.size 0 _ _ _ ((hW.block w.heap.size (by omega)).trans e0)]; rfl))
  have hz0 : (w.alloc (.cells #[.slice A T.length c] 47)).heap.size = w.heap.size + 1 := by simp
  have HZ := hide hz0
  clear e0 hz0
  go_enter Try.func62, Try.ntmps62
  go_wp2_with fail
  refine (thingsIn_any s _ hs1).mono ?_
  rintro e w1 ⟨A1, c1, rfl, b1, hR, hc1, hc2⟩
  rw [HZ.out] at b1 hR
  have hL := len_thk s 9
  obtain ⟨L, hLe⟩ : ∃ L, L = (thk s 9).length := ⟨_, rfl⟩
  rw [← hLe] at hL hc1 ⊢
  have HLE := hide hLe
  clear hLe
  have B1 := b0.trans (b1.mono (by omega))
  go_wp2
  go_loopg [16, 6] L (fun g i v wr => ∃ p m : Nat, p ≤ L ∧ Hid (g = L - p) ∧ i = .int .i64 p ∧ v = .int .i64 (m : Nat) ∧ Grown T s m ∧ Below w1.heap.size w1 wr ∧ Hid (∀ i j, i < p → j < L → m.testBit (mul T (el (thk s 9) i) (el (thk s 9) j)).toNat = true))
  case atStart => exact ⟨0, s, Nat.zero_le _, rfl, rfl, rfl, Grown.refl hs, Below.refl _ _, fun i j hi => absurd hi (Nat.not_lt_zero _)⟩
  case round =>
    obtain ⟨p, m, hp, hgk, rfl, rfl, hG, hB, hH⟩ := hrel
    by_cases hlt : p < L
    · obtain ⟨b, o, rfl, _, hbh, hc⟩ := (hR.below hB (Nat.le_refl _)) p (by rw [← HLE.out]; exact hlt)
      obtain ⟨x, hx, hsx, _⟩ := thk_mem (s := s) (j := p) (by rw [← HLE.out]; exact hlt)
      rw [hx] at hc
      have HX := hide hx
      clear hx
      have hpi : (p : Int) < (L : Int) := by omega
      obtain ⟨wo, rfl⟩ : ∃ wo : World, wo = wr := ⟨_, rfl⟩
      go_wp2
      go_loopg [22, 6] L (fun g i v wr => ∃ q m2 : Nat, q ≤ L ∧ Hid (g = L - q) ∧ i = .int .i64 q ∧ v = .int .i64 (m2 : Nat) ∧ Grown T s m2 ∧ Below w1.heap.size w1 wr ∧ Hid (∀ i j, (i < p ∧ j < L ∨ i = p ∧ j < q) → m2.testBit (mul T (el (thk s 9) i) (el (thk s 9) j)).toNat = true))
      case atStart => exact ⟨0, m, Nat.zero_le _, rfl, rfl, rfl, hG, hB, fun i j hij => by
        rcases hij with hij | hij
        · exact hH i j hij.1 hij.2
        · omega⟩
      case round =>
        clear hc
        obtain ⟨q, m2, hq, hgk2, rfl, rfl, hG2, hB2, hH2⟩ := hrel
        by_cases hqt : q < L
        · obtain ⟨b', o', e', _, _, hc2'⟩ := (hR.below hB2 (Nat.le_refl _)) q (by rw [← HLE.out]; exact hqt)
          obtain ⟨rfl, rfl⟩ : b = b' ∧ o = o' := by simpa using e'
          clear e'
          obtain ⟨y, hy, hsy, _⟩ := thk_mem (s := s) (j := q) (by rw [← HLE.out]; exact hqt)
          rw [hy] at hc2'
          have HY := hide hy
          clear hy
          have hqi : (q : Int) < (L : Int) := by omega
          have hx1 := bit_lt hs hsx
          have hy1 := bit_lt hs hsy
          have hBw := b1.trans (hB2.mono (by have := b1.size; rw [HZ.out] at this; exact this))
          have hcell := MK.out _ hBw
          have BW := B1.trans (hB2.mono B1.size)
          go_wp2_with fail
          refine (product_any _ _ lo hi T _ _ _ (h.below BW hh) (Nat.le_trans hh BW.size) k (by omega) (by omega) (by omega) (by omega)).mono ?_
          rintro e w3 ⟨rfl, b3⟩
          obtain ⟨v0, v1⟩ := k.mul (x := (x : Nat)) (y := (y : Nat)) (by omega) (by omega) (by omega) (by omega)
          have hGn := hG2.add k hs hsx hsy
          obtain ⟨z, hz⟩ : ∃ z : Nat, mul T (x : Nat) (y : Nat) = (z : Nat) := ⟨(mul T (x : Nat) (y : Nat)).toNat, by omega⟩
          rw [hz, Int.toNat_natCast] at hGn
          rw [hz] at v1 ⊢
          have HZZ := hide hz
          clear hz v0
          have hz9 : z ≤ 9 := by omega
          obtain ⟨g1, g2⟩ := pow_int hz9
          have hm1 : m2 < 1024 := by have := hG2.lt; omega
          have hor := or_pow hm1 hz9
          have HOR := hide hor
          clear hor
          have hB3 := hB2.trans (b3.mono hB2.size)
          go_wp2
          go_roundg (L - (q + 1))
          case measure => go_light; have := hgk2.out; omega
          case rel => go_light; exact ⟨q + 1, m2 ||| 2 ^ z, by omega, rfl, by go_num, by rw [HOR.out], hGn, hB3, fun i j hij => by
            rw [Nat.testBit_or, Bool.or_eq_true]
            by_cases e : i = p ∧ j = q
            · right
              obtain ⟨rfl, rfl⟩ := e
              rw [HX.out, HY.out, HZZ.out, Int.toNat_natCast, Nat.testBit_two_pow]
              simp
            · left
              exact hH2 i j (by omega)⟩
        · obtain rfl : L = q := by omega
          go_wp2
          go_roundg (L - (p + 1))
          case measure => go_light; have := hgk.out; omega
          case rel => go_light; exact ⟨p + 1, m2, by omega, rfl, by go_num, rfl, hG2, hB2, fun i j hi hj => hH2 i j (by omega)⟩
    · obtain rfl : L = p := by omega
      go_wp2
      go_ret
      refine ⟨m, rfl, hG, fun a b ha hb => ?_, B1.trans (hB.mono B1.size)⟩
      obtain ⟨i, hi, ei⟩ := thk_of ha (by have := bit_lt hs ha; omega)
      obtain ⟨j, hj, ej⟩ := thk_of hb (by have := bit_lt hs hb; omega)
      have := hH i j (by rw [HLE.out]; exact hi) (by rw [HLE.out]; exact hj)
      rw [ei, ej] at this
      exact this
end Go.Proofs.Yteoekfebhmeiiaa
