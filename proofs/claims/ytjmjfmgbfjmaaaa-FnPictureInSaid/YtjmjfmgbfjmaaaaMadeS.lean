/-  -/
import Derived.Test.YtjmjfmgbfjmaaaaFill
import Derived.Test.YtjmjfmgbfjmaaaaGrp
import Derived.Test.YtjmjfmgbfjmaaaaSgrp
import Derived.Test.YtjmjfmgbfjmaaaaTab
namespace Go.Proofs.Ytjmjfmgbfjmaaaa
open Go.RowKit
set_option linter.unusedVariables false


theorem bits_i64 {a b : Nat} (ha : a < 1024) (hb : b < 1024) : bits .and .i64 (a : Int) (b : Int) = ((a &&& b : Nat) : Int) ∧ bits .or .i64 (a : Int) (b : Int) = ((a ||| b : Nat) : Int) :=
  bits_nat .i64 10 (by decide) (fun n h0 h1 => IntWalk.i64_in _ ⟨by omega, by omega⟩) a b ha hb
theorem pow_le9 {p : Nat} (hp : p ≤ 9) : 1 ≤ 2 ^ p ∧ 2 ^ p ≤ 512 := ⟨Nat.one_le_two_pow, by have : 2 ^ p ≤ 2 ^ 9 := Nat.pow_le_pow_right (by omega) hp; omega⟩
theorem pow_int {p : Nat} (hp : p ≤ 9) : (1 : Int) ≤ (2 : Int) ^ p ∧ (2 : Int) ^ p ≤ 512 := by
  have h := pow_le9 hp
  have e : (2 : Int) ^ p = ((2 ^ p : Nat) : Int) := by simp
  rw [e]; omega
theorem and_two (s p : Nat) : s &&& 2 ^ p = if s.testBit p = true then 2 ^ p else 0 := by
  apply Nat.eq_of_testBit_eq
  intro i
  rw [Nat.testBit_and, Nat.testBit_two_pow]
  by_cases e : p = i
  · subst e
    cases h : s.testBit p <;> simp
  · have e2 : ((if s.testBit p = true then 2 ^ p else 0) : Nat).testBit i = false := by
      split
      · rw [Nat.testBit_two_pow]; simp [e]
      · simp
    rw [e2]; simp [e]
theorem and_pow {s p : Nat} (hs : s < 1024) (hp : p ≤ 9) : bits .and .i64 (s : Int) ((2 : Int) ^ p) = if s.testBit p = true then (2 : Int) ^ p else 0 := by
  have h := pow_le9 hp
  have e : (2 : Int) ^ p = ((2 ^ p : Nat) : Int) := by simp
  rw [e, (bits_i64 hs (by omega)).1, and_two]
  cases s.testBit p <;> simp
theorem or_pow {s p : Nat} (hs : s < 1024) (hp : p ≤ 9) : bits .or .i64 (s : Int) ((2 : Int) ^ p) = ((s ||| 2 ^ p : Nat) : Int) := by
  have h := pow_le9 hp
  have e : (2 : Int) ^ p = ((2 ^ p : Nat) : Int) := by simp
  rw [e, (bits_i64 hs (by omega)).2]

/-- The things of a set, below k. -/
def thk (s k : Nat) : List Int := List.map (fun p : Nat => (p : Int)) ((List.range k).filter fun p => s.testBit p)
theorem thk_succ (s k : Nat) : thk s (k + 1) = thk s k ++ (if s.testBit k = true then [(k : Int)] else []) := by
  unfold thk
  rw [List.range_succ, List.filter_append, List.map_append]
  by_cases h : s.testBit k = true <;> simp [h]
theorem len_thk (s k : Nat) : (thk s k).length ≤ k := by
  unfold thk
  rw [List.length_map]
  have := List.length_filter_le (fun p => s.testBit p) (List.range k)
  simpa using this

set_option maxHeartbeats 1000000 in
theorem setOk_any (s : Int) (n : Nat) (w : World) (hn : n ≤ 9) :
    Calls Try.prog 70 #[.int .i64 s, .int .i64 n] w fun e w' => e = .returned (.bool (decide (0 ≤ s) && decide (s < 2 ^ n))) ∧ w = w' := by
  obtain ⟨h1, h2⟩ := pow_int hn
  by_cases h0 : 0 ≤ s
  · go_enter Try.func70, Try.ntmps70
    go_wp2
    go_ret
    exact ⟨ret_bool (by simp [h0]), rfl⟩
  · go_enter Try.func70, Try.ntmps70
    go_wp2
    go_ret
    exact ⟨ret_bool (by have : decide (0 ≤ s) = false := by simpa using h0
                        rw [this]; rfl), rfl⟩

/-- A call that returns a new row. -/
def NewRow (w : World) (xs : List Int) (e : Ending) (w' : World) : Prop := ∃ A c, e = .returned (.slice A xs.length c) ∧ Below w.heap.size w w' ∧ Row w' w.heap.size w'.heap.size A xs ∧ xs.length ≤ c ∧ c ≤ 9223372036854775807
set_option maxHeartbeats 1000000 in
theorem thingsIn_any (s : Nat) (w : World) (hs : s < 1024) : Calls Try.prog 84 #[.int .i64 s] w (NewRow w (thk s 9)) := by
  go_enter Try.func84, Try.ntmps84
  go_wp2
  go_loopg [5, 3] 9 (fun g i v wr => ∃ p : Nat, p ≤ 9 ∧ Hid (g = 9 - p) ∧ i = .int .i64 p ∧ ARow w.heap.size wr v (thk s p) ∧ Below w.heap.size w wr)
  case atStart => exact ⟨0, Nat.zero_le _, rfl, rfl, ARow.nil_ _ _, Below.refl _ _⟩
  case round =>
    obtain ⟨p, hp, hgk, rfl, hA, hB⟩ := hrel
    by_cases hlt : p < 9
    · have hpi : (p : Int) < 9 := by omega
      obtain ⟨h1, h2⟩ := pow_int hp
      have hl := len_thk s p
      have hl' : (thk s p).length ≤ 1048576 := by omega
      have hand := and_pow hs hp
      have hsz := hB.size
      cases hb : s.testBit p
      · rw [hb] at hand
        have hand2 : bits .and .i64 (s : Int) ((2 : Int) ^ p) = 0 := by simpa using hand
        have HS := hide (thk_succ s p)
        clear hand
        go_wp2
        go_roundg (9 - (p + 1))
        case measure => go_light; have := hgk.out; omega
        case rel => go_light; exact ⟨p + 1, by omega, rfl, by go_num, by rw [HS.out, hb]; simpa using hA, hB⟩
      · rw [hb] at hand
        have hand2 : bits .and .i64 (s : Int) ((2 : Int) ^ p) = (2 : Int) ^ p := by simpa using hand
        have hne : ((2 : Int) ^ p == 0) = false := beq_eq_false_iff_ne.2 (by omega)
        have hne2 : ((2 : Int) ^ p != 0) = true := by rw [bne, hne]; rfl
        have HS := hide (thk_succ s p)
        clear hand
        go_wp2_with (at_builtin; refine wp_app_int rfl (.tmp 13) (.tmp 15) rfl w.heap.size _ _ _ _ rfl rfl hA hl' hsz ?_; intro v1 w1 hown1 hg1)
        go_roundg (9 - (p + 1))
        case measure => go_light; have := hgk.out; omega
        case rel => go_light; exact ⟨p + 1, by omega, rfl, by go_num, by rw [HS.out, hb]; simpa using hown1, hB.trans (hA.belowOf hg1 (Nat.le_refl _) hsz)⟩
    · obtain rfl : 9 = p := by omega
      obtain ⟨A', c', rfl, h1, h2, hR⟩ := hA.val
      go_wp2
      go_ret
      exact ⟨A', c', rfl, hB, hR, h1, h2⟩
end Go.Proofs.Ytjmjfmgbfjmaaaa

namespace Go.Proofs.Ytjmjfmgbfjmaaaa
open Go.RowKit
set_option linter.unusedVariables false


theorem bit_lt {s n a : Nat} (hs : s < 2 ^ n) (h : s.testBit a = true) : a < n := by
  rcases Nat.lt_or_ge a n with h1 | h1
  · exact h1
  · have : s.testBit a = false := Nat.testBit_lt_two_pow (Nat.lt_of_lt_of_le hs (Nat.pow_le_pow_right (by omega) h1))
    rw [h] at this; cases this
theorem thk_mem {s : Nat} {j : Nat} (hj : j < (thk s 9).length) : ∃ a : Nat, el (thk s 9) j = (a : Int) ∧ s.testBit a = true ∧ a < 9 := by
  rw [el_eq hj]
  have := List.getElem_mem hj
  unfold thk at this ⊢
  rw [List.mem_map] at this
  obtain ⟨a, ha, e⟩ := this
  rw [List.mem_filter, List.mem_range] at ha
  exact ⟨a, e.symm, ha.2, ha.1⟩
theorem thk_of {s a : Nat} (h : s.testBit a = true) (h9 : a < 9) : ∃ j, j < (thk s 9).length ∧ el (thk s 9) j = (a : Int) := by
  have : (a : Int) ∈ thk s 9 := by
    unfold thk
    rw [List.mem_map]
    exact ⟨a, by rw [List.mem_filter, List.mem_range]; exact ⟨h9, h⟩, rfl⟩
  obtain ⟨j, hj, e⟩ := List.getElem_of_mem this
  exact ⟨j, hj, by rw [el_eq hj]; exact e⟩
/-- A set that has the products of its things. -/
def Clos (T : List (List Int)) (m : Nat) : Prop := ∀ a b : Nat, m.testBit a = true → m.testBit b = true → m.testBit (mul T a b).toNat = true
/-- m is s and the products of its things, all or some; nothing else. -/
structure Grown (T : List (List Int)) (s m : Nat) : Prop where
  lt : m < 2 ^ T.length
  sub : ∀ x, s.testBit x = true → m.testBit x = true
  only : ∀ x, m.testBit x = true → s.testBit x = true ∨ ∃ a b : Nat, s.testBit a = true ∧ s.testBit b = true ∧ x = (mul T a b).toNat
theorem Grown.refl {T : List (List Int)} {s : Nat} (h : s < 2 ^ T.length) : Grown T s s := ⟨h, fun _ hx => hx, fun _ hx => .inl hx⟩
theorem Grown.add {T : List (List Int)} {s m : Nat} (h : Grown T s m) (k : IsT T) (hs : s < 2 ^ T.length) {a b : Nat} (ha : s.testBit a = true) (hb : s.testBit b = true) : Grown T s (m ||| 2 ^ (mul T a b).toNat) := by
  have a1 := bit_lt hs ha
  have b1 := bit_lt hs hb
  obtain ⟨p0, p1⟩ := k.mul (x := (a : Nat)) (y := (b : Nat)) (by omega) (by omega) (by omega) (by omega)
  refine ⟨Nat.or_lt_two_pow h.lt (Nat.pow_lt_pow_right (by omega) (by omega)), fun x hx => ?_, fun x hx => ?_⟩
  · rw [Nat.testBit_or, h.sub x hx]; rfl
  · rw [Nat.testBit_or, Bool.or_eq_true, Nat.testBit_two_pow, decide_eq_true_iff] at hx
    rcases hx with hx | hx
    · exact h.only x hx
    · exact .inr ⟨a, b, ha, hb, hx.symm⟩
/-- The least set with all products. -/
structure Made (T : List (List Int)) (s m : Nat) : Prop where
  lt : m < 2 ^ T.length
  sub : ∀ x, s.testBit x = true → m.testBit x = true
  clos : Clos T m
  least : ∀ q, Clos T q → (∀ x, s.testBit x = true → q.testBit x = true) → ∀ x, m.testBit x = true → q.testBit x = true
theorem Made.unique {T : List (List Int)} {s m m' : Nat} (h : Made T s m) (h' : Made T s m') : m = m' := by
  apply Nat.eq_of_testBit_eq
  intro i
  have h1 := h.least m' h'.clos h'.sub i
  have h2 := h'.least m h.clos h.sub i
  cases e : m.testBit i <;> cases e' : m'.testBit i
  · rfl
  · rw [h2 e'] at e; cases e
  · rw [h1 e] at e'; cases e'
  · rfl

/-- What a call of withProducts answers: all products are there. -/
def Step (T : List (List Int)) (s : Nat) (w : World) (e : Ending) (w' : World) : Prop :=
  ∃ m : Nat, e = .returned (.int .i64 (m : Nat)) ∧ Grown T s m ∧ (∀ a b : Nat, s.testBit a = true → s.testBit b = true → m.testBit (mul T a b).toNat = true) ∧ Below w.heap.size w w'

set_option maxHeartbeats 2000000 in
theorem withProducts_any (A : Option Addr) (c lo hi : Nat) (T : List (List Int)) (s : Nat) (w : World) (h : Mat w lo hi A T) (hh : hi ≤ w.heap.size) (k : IsT T) (hs : s < 2 ^ T.length) :
    Calls Try.prog 71 #[.agg #[.slice A T.length c], .int .i64 s] w (Step T s w) := by
  have k9 := k.hi
  have hp9 := pow_le9 k9
  have hs1 : s < 1024 := by omega
  have b0 := (Below.refl w.heap.size w).alloc (Nat.le_refl _) (.cells #[.slice A T.length c] 72)
  have e0 := heap_alloc_new w (.cells #[.slice A T.length c] 72)
  have MK := hide (fun (W : World) (hW : Below (w.heap.size + 1) (w.alloc (.cells #[.slice A T.length c] 72)) W) =>
    (show W.cell? ⟨w.heap.size, 0, none⟩ = some (.slice A T.length c) from by
      rw [cell_of_row W w.heap.size 0 _ _ _ ((hW.block w.heap.size (by omega)).trans e0)]; rfl))
  have hz0 : (w.alloc (.cells #[.slice A T.length c] 72)).heap.size = w.heap.size + 1 := by simp
  have HZ := hide hz0
  clear e0 hz0
  go_enter Try.func71, Try.ntmps71
  go_wp2_with fail
  refine (thingsIn_any s _ hs1).mono ?_
  rintro e w1 ⟨A1, c1, rfl, b1, hR, hc1, hc2⟩
  rw [HZ.out] at b1 hR
  have hL := len_thk s 9
  obtain ⟨L, hLe⟩ : ∃ L, L = (thk s 9).length := ⟨_, rfl⟩
  rw [← hLe] at hL hc1 ⊢
  have HLE := hide hLe
  clear hLe
  have B1 := b0.trans (b1.mono (by omega))
  go_wp2
  go_loopg [16, 6] L (fun g i v wr => ∃ p m : Nat, p ≤ L ∧ Hid (g = L - p) ∧ i = .int .i64 p ∧ v = .int .i64 (m : Nat) ∧ Grown T s m ∧ Below w1.heap.size w1 wr ∧ Hid (∀ i j, i < p → j < L → m.testBit (mul T (el (thk s 9) i) (el (thk s 9) j)).toNat = true))
  case atStart => exact ⟨0, s, Nat.zero_le _, rfl, rfl, rfl, Grown.refl hs, Below.refl _ _, fun i j hi => absurd hi (Nat.not_lt_zero _)⟩
  case round =>
    obtain ⟨p, m, hp, hgk, rfl, rfl, hG, hB, hH⟩ := hrel
    by_cases hlt : p < L
    · obtain ⟨b, o, rfl, _, hbh, hc⟩ := (hR.below hB (Nat.le_refl _)) p (by rw [← HLE.out]; exact hlt)
      obtain ⟨x, hx, hsx, _⟩ := thk_mem (s := s) (j := p) (by rw [← HLE.out]; exact hlt)
      rw [hx] at hc
      have HX := hide hx
      clear hx
      have hpi : (p : Int) < (L : Int) := by omega
      obtain ⟨wo, rfl⟩ : ∃ wo : World, wo = wr := ⟨_, rfl⟩
      go_wp2
      go_loopg [22, 6] L (fun g i v wr => ∃ q m2 : Nat, q ≤ L ∧ Hid (g = L - q) ∧ i = .int .i64 q ∧ v = .int .i64 (m2 : Nat) ∧ Grown T s m2 ∧ Below w1.heap.size w1 wr ∧ Hid (∀ i j, (i < p ∧ j < L ∨ i = p ∧ j < q) → m2.testBit (mul T (el (thk s 9) i) (el (thk s 9) j)).toNat = true))
      case atStart => exact ⟨0, m, Nat.zero_le _, rfl, rfl, rfl, hG, hB, fun i j hij => by
        rcases hij with hij | hij
        · exact hH i j hij.1 hij.2
        · omega⟩
      case round =>
        clear hc
        obtain ⟨q, m2, hq, hgk2, rfl, rfl, hG2, hB2, hH2⟩ := hrel
        by_cases hqt : q < L
        · obtain ⟨b', o', e', _, _, hc2'⟩ := (hR.below hB2 (Nat.le_refl _)) q (by rw [← HLE.out]; exact hqt)
          obtain ⟨rfl, rfl⟩ : b = b' ∧ o = o' := by simpa using e'
          clear e'
          obtain ⟨y, hy, hsy, _⟩ := thk_mem (s := s) (j := q) (by rw [← HLE.out]; exact hqt)
          rw [hy] at hc2'
          have HY := hide hy
          clear hy
          have hqi : (q : Int) < (L : Int) := by omega
          have hx1 := bit_lt hs hsx
          have hy1 := bit_lt hs hsy
          have hBw := b1.trans (hB2.mono (by have := b1.size; rw [HZ.out] at this; exact this))
          have hcell := MK.out _ hBw
          have BW := B1.trans (hB2.mono B1.size)
          go_wp2_with fail
          refine (product_any _ _ lo hi T _ _ _ (h.below BW hh) (Nat.le_trans hh BW.size) k (by omega) (by omega) (by omega) (by omega)).mono ?_
          rintro e w3 ⟨rfl, b3⟩
          obtain ⟨v0, v1⟩ := k.mul (x := (x : Nat)) (y := (y : Nat)) (by omega) (by omega) (by omega) (by omega)
          have hGn := hG2.add k hs hsx hsy
          obtain ⟨z, hz⟩ : ∃ z : Nat, mul T (x : Nat) (y : Nat) = (z : Nat) := ⟨(mul T (x : Nat) (y : Nat)).toNat, by omega⟩
          rw [hz, Int.toNat_natCast] at hGn
          rw [hz] at v1 ⊢
          have HZZ := hide hz
          clear hz v0
          have hz9 : z ≤ 9 := by omega
          obtain ⟨g1, g2⟩ := pow_int hz9
          have hm1 : m2 < 1024 := by have := hG2.lt; omega
          have hor := or_pow hm1 hz9
          have HOR := hide hor
          clear hor
          have hB3 := hB2.trans (b3.mono hB2.size)
          go_wp2
          go_roundg (L - (q + 1))
          case measure => go_light; have := hgk2.out; omega
          case rel => go_light; exact ⟨q + 1, m2 ||| 2 ^ z, by omega, rfl, by go_num, by rw [HOR.out], hGn, hB3, fun i j hij => by
            rw [Nat.testBit_or, Bool.or_eq_true]
            by_cases e : i = p ∧ j = q
            · right
              obtain ⟨rfl, rfl⟩ := e
              rw [HX.out, HY.out, HZZ.out, Int.toNat_natCast, Nat.testBit_two_pow]
              simp
            · left
              exact hH2 i j (by omega)⟩
        · obtain rfl : L = q := by omega
          go_wp2
          go_roundg (L - (p + 1))
          case measure => go_light; have := hgk.out; omega
          case rel => go_light; exact ⟨p + 1, m2, by omega, rfl, by go_num, rfl, hG2, hB2, fun i j hi hj => hH2 i j (by omega)⟩
    · obtain rfl : L = p := by omega
      go_wp2
      go_ret
      refine ⟨m, rfl, hG, fun a b ha hb => ?_, B1.trans (hB.mono B1.size)⟩
      obtain ⟨i, hi, ei⟩ := thk_of ha (by have := bit_lt hs ha; omega)
      obtain ⟨j, hj, ej⟩ := thk_of hb (by have := bit_lt hs hb; omega)
      have := hH i j (by rw [HLE.out]; exact hi) (by rw [HLE.out]; exact hj)
      rw [ei, ej] at this
      exact this
end Go.Proofs.Ytjmjfmgbfjmaaaa

namespace Go.Proofs.Ytjmjfmgbfjmaaaa
open Go.RowKit
set_option linter.unusedVariables false


/-- On the way to the least closed set. -/
structure Way (T : List (List Int)) (s m : Nat) : Prop where
  lt : m < 2 ^ T.length
  sub : ∀ x, s.testBit x = true → m.testBit x = true
  least : ∀ q, Clos T q → (∀ x, s.testBit x = true → q.testBit x = true) → ∀ x, m.testBit x = true → q.testBit x = true
theorem Way.refl {T : List (List Int)} {s : Nat} (h : s < 2 ^ T.length) : Way T s s := ⟨h, fun _ hx => hx, fun _ _ hq x hx => hq x hx⟩
theorem Way.grown {T : List (List Int)} {s m m' : Nat} (h : Way T s m) (g : Grown T m m') : Way T s m' := by
  refine ⟨g.lt, fun x hx => g.sub x (h.sub x hx), fun q hq hs x hx => ?_⟩
  rcases g.only x hx with h1 | ⟨a, b, ha, hb, rfl⟩
  · exact h.least q hq hs x h1
  · exact hq a b (h.least q hq hs a ha) (h.least q hq hs b hb)
theorem Way.made {T : List (List Int)} {s m : Nat} (h : Way T s m) (g : Clos T m) : Made T s m := ⟨h.lt, h.sub, g, h.least⟩
theorem Grown.le {T : List (List Int)} {s m : Nat} (g : Grown T s m) : s ≤ m := by
  have : s ||| m = m := by
    apply Nat.eq_of_testBit_eq
    intro i
    rw [Nat.testBit_or]
    cases e : s.testBit i
    · rfl
    · rw [g.sub i e]; rfl
  rw [← this]
  exact Nat.left_le_or
open Classical in
/-- What MadeBy answers. -/
noncomputable def madeT (T : List (List Int)) (s : Int) : Int := if h : (okT T = true ∧ 0 ≤ s ∧ s < 2 ^ T.length) ∧ ∃ m : Nat, Made T s.toNat m then ((Classical.choose h.2 : Nat) : Int) else -1
theorem madeT_of {T : List (List Int)} {s m : Nat} (hk : okT T = true) (h1 : s < 2 ^ T.length) (hm : Made T s m) : madeT T s = (m : Int) := by
  have hs : (s : Int) < 2 ^ T.length := by
    have : (s : Int) < ((2 ^ T.length : Nat) : Int) := by omega
    simpa using this
  have h : (okT T = true ∧ 0 ≤ (s : Int) ∧ (s : Int) < 2 ^ T.length) ∧ ∃ m : Nat, Made T (s : Int).toNat m := ⟨⟨hk, by omega, hs⟩, m, by simpa using hm⟩
  unfold madeT
  rw [dif_pos h]
  have := Classical.choose_spec h.2
  have hm' : Made T (s : Int).toNat m := by simpa using hm
  exact congrArg _ (this.unique hm')
theorem madeT_not {T : List (List Int)} {s : Int} (h : ¬ (okT T = true ∧ 0 ≤ s ∧ s < 2 ^ T.length)) : madeT T s = -1 := by
  unfold madeT
  rw [dif_neg]
  exact fun hx => h hx.1

set_option maxHeartbeats 2000000 in
theorem iMadeBy_any (A : Option Addr) (c lo hi : Nat) (T : List (List Int)) (s : Int) (w : World) (h : Mat w lo hi A T) (hh : hi ≤ w.heap.size) (hS : Small T) :
    Calls Try.prog 32 #[.slice A T.length c, .int .i64 s] w fun e w' => e = .returned (.int .i64 (madeT T s)) ∧ Below w.heap.size w w' := by
  have hlT := hS.len
  cases hk : okT T
  · go_enter Try.func32, Try.ntmps32
    go_wp2_with (go_at_call 56; refine (iTableOk_any _ _ _ _ _ _ h hS).mono ?_; rintro e w' ⟨rfl, rfl⟩; rw [hk])
    go_ret
    exact ⟨ret_int (madeT_not (fun hx => by rw [hk] at hx; cases hx.1)).symm, Below.refl _ _⟩
  · have k := okT_iff.1 hk
    have k9 := k.hi
    have hp9 := pow_le9 k9
    by_cases hs : 0 ≤ s ∧ s < 2 ^ T.length
    · obtain ⟨n, rfl⟩ : ∃ n : Nat, s = n := ⟨s.toNat, by omega⟩
      have hb : (decide (0 ≤ (n : Int)) && decide ((n : Int) < 2 ^ T.length)) = true := by simp [hs.2]
      have hn : n < 2 ^ T.length := by
        have h2 : (n : Int) < ((2 ^ T.length : Nat) : Int) := by simpa using hs.2
        omega
      clear hs
      have b0 := (Below.refl w.heap.size w).alloc (Nat.le_refl _) (.cells #[.slice A T.length c] 72)
      have e0 := heap_alloc_new w (.cells #[.slice A T.length c] 72)
      have MK := hide (fun (W : World) (hW : Below (w.heap.size + 1) (w.alloc (.cells #[.slice A T.length c] 72)) W) =>
        (show W.cell? ⟨w.heap.size, 0, none⟩ = some (.slice A T.length c) from by
          rw [cell_of_row W w.heap.size 0 _ _ _ ((hW.block w.heap.size (by omega)).trans e0)]; rfl))
      have hz0 : (w.alloc (.cells #[.slice A T.length c] 72)).heap.size = w.heap.size + 1 := by simp
      have HZ := hide hz0
      clear e0 hz0
      go_enter Try.func32, Try.ntmps32
      go_wp2_with (first
        | (go_at_call 56; refine (iTableOk_any _ _ _ _ _ _ h hS).mono ?_; rintro e w' ⟨rfl, rfl⟩; rw [hk])
        | (go_at_call 70; refine (setOk_any _ _ _ k9).mono ?_; rintro e w' ⟨rfl, rfl⟩; rw [hb]))
      go_loopg [1] (512 - n) (fun g v wr => ∃ m : Nat, Hid (g = 512 - m) ∧ v = .int .i64 (m : Nat) ∧ Way T n m ∧ Below (w.heap.size + 1) (w.alloc (.cells #[.slice A T.length c] 72)) wr)
      case atStart => exact ⟨n, rfl, rfl, Way.refl hn, Below.refl _ _⟩
      case round =>
        obtain ⟨m, hgk, rfl, hW, hB⟩ := hrel
        have hcell := MK.out _ hB
        have hBw := b0.trans (hB.mono (by omega))
        have hml := hW.lt
        go_wp2_with fail
        refine (withProducts_any _ _ lo hi T _ _ (h.below hBw hh) (Nat.le_trans hh hBw.size) k hW.lt).mono ?_
        rintro e w3 ⟨m', rfl, hG, hP, b3⟩
        have hle := hG.le
        have hml' := hG.lt
        have hB3 := hB.trans (b3.mono (by have := hB.size; rw [HZ.out] at this; exact this))
        by_cases hme : m' = m
        · subst hme
          go_wp2
          go_ret
          exact ⟨ret_int (madeT_of hk hn (hW.made hP)).symm, b0.trans (hB3.mono (by omega))⟩
        · have hne : ((m' : Int) == (m : Int)) = false := beq_eq_false_iff_ne.2 (by omega)
          go_wp2
          go_roundg (512 - m')
          case measure => go_light; have := hgk.out; omega
          case rel => go_light; exact ⟨m', rfl, rfl, hW.grown hG, hB3⟩
    · have hb : (decide (0 ≤ s) && decide (s < 2 ^ T.length)) = false := by
        by_cases h0 : 0 ≤ s
        · have : ¬ s < 2 ^ T.length := fun h1 => hs ⟨h0, h1⟩
          simp [this]
        · simp [h0]
      go_enter Try.func32, Try.ntmps32
      go_wp2_with (first
        | (go_at_call 56; refine (iTableOk_any _ _ _ _ _ _ h hS).mono ?_; rintro e w' ⟨rfl, rfl⟩; rw [hk])
        | (go_at_call 70; refine (setOk_any _ _ _ k9).mono ?_; rintro e w' ⟨rfl, rfl⟩; rw [hb]))
      go_ret
      exact ⟨ret_int (madeT_not (fun hx => hs hx.2)).symm, Below.refl _ _⟩
end Go.Proofs.Ytjmjfmgbfjmaaaa

namespace Go.Proofs.Ytjmjfmgbfjmaaaa
open Go.RowKit
set_option linter.unusedVariables false


/-- How many things below k. -/
def cnt (m : Nat) : Nat → Nat
  | 0 => 0
  | k + 1 => cnt m k + (if m.testBit k = true then 1 else 0)
theorem cnt_mono {m m' : Nat} (h : ∀ x, m.testBit x = true → m'.testBit x = true) : ∀ k, cnt m k ≤ cnt m' k
  | 0 => Nat.le_refl _
  | k + 1 => by
    have := cnt_mono h k
    have hk := h k
    simp only [cnt]
    cases e : m.testBit k
    · simp; omega
    · rw [hk e]; simp; omega
theorem cnt_lt {m m' : Nat} (h : ∀ x, m.testBit x = true → m'.testBit x = true) {x : Nat} (hx : m'.testBit x = true) (hn : m.testBit x = false) : ∀ k, x < k → cnt m k < cnt m' k
  | 0, h0 => absurd h0 (Nat.not_lt_zero _)
  | k + 1, hk => by
    simp only [cnt]
    by_cases e : x = k
    · subst e
      rw [hx, hn]
      have := cnt_mono h x
      simp; omega
    · have := cnt_lt h hx hn k (by omega)
      have hk' := h k
      cases e2 : m.testBit k
      · simp; omega
      · rw [hk' e2]; simp; omega
theorem cnt_le (m : Nat) : ∀ k, cnt m k ≤ k
  | 0 => Nat.le_refl _
  | k + 1 => by
    have := cnt_le m k
    simp only [cnt]
    split <;> omega
theorem cnt_full {m x : Nat} (hn : m.testBit x = false) : ∀ k, x < k → cnt m k < k
  | 0, h0 => absurd h0 (Nat.not_lt_zero _)
  | k + 1, hk => by
    simp only [cnt]
    by_cases e : x = k
    · subst e
      rw [hn]
      have := cnt_le m x
      simp; omega
    · have := cnt_full hn k (by omega)
      split <;> omega
theorem Way.trans {T : List (List Int)} {s m m' : Nat} (h : Way T s m) (g : Way T m m') : Way T s m' :=
  ⟨g.lt, fun x hx => g.sub x (h.sub x hx), fun q hq hs x hx => g.least q hq (h.least q hq hs) x hx⟩
theorem Way.add {T : List (List Int)} {s m : Nat} (h : Way T s m) (k : IsT T) {a b : Nat} (ha : m.testBit a = true) (hb : m.testBit b = true) : Way T s (m ||| 2 ^ (mul T a b).toNat) :=
  h.grown ((Grown.refl h.lt).add k h.lt ha hb)
/-- After r rounds: closed, or r things at least. -/
theorem round_step {T : List (List Int)} {m m' r : Nat} (hW : Way T m m') (hP : ∀ a b : Nat, m.testBit a = true → m.testBit b = true → m'.testBit (mul T a b).toNat = true) (h : Clos T m ∨ r ≤ cnt m T.length) : Clos T m' ∨ r + 1 ≤ cnt m' T.length := by
  by_cases e : m' = m
  · subst e; exact .inl hP
  · obtain ⟨x, hx, hn⟩ : ∃ x, m'.testBit x = true ∧ m.testBit x = false := by
      refine Classical.byContradiction fun hc => e (Nat.eq_of_testBit_eq fun i => ?_)
      cases e1 : m'.testBit i <;> cases e2 : m.testBit i
      · rfl
      · rw [hW.sub i e2] at e1; cases e1
      · exact absurd ⟨i, e1, e2⟩ hc
      · rfl
    rcases h with h | h
    · have := hW.least m h (fun _ hx => hx) x hx
      rw [hn] at this; cases this
    · right
      have := cnt_lt hW.sub hx hn T.length (bit_lt hW.lt hx)
      omega
theorem round_end {T : List (List Int)} {m : Nat} (k : IsT T) (hm : m < 2 ^ T.length) (h : Clos T m ∨ T.length ≤ cnt m T.length) : Clos T m := by
  rcases h with h | h
  · exact h
  · intro a b ha hb
    have a1 := bit_lt hm ha
    have b1 := bit_lt hm hb
    obtain ⟨p0, p1⟩ := k.mul (x := (a : Nat)) (y := (b : Nat)) (by omega) (by omega) (by omega) (by omega)
    cases e : m.testBit (mul T a b).toNat
    · have := cnt_full e T.length (by omega)
      omega
    · rfl
theorem bit_tm (m a : Nat) : ((m : Int) / 2 ^ a).tmod 2 = ((m / 2 ^ a % 2 : Nat) : Int) := by
  have h : (m : Int) / 2 ^ a = ((m / 2 ^ a : Nat) : Int) := by simp
  rw [h, Int.tmod_eq_emod_of_nonneg (Int.natCast_nonneg _)]
  rfl
theorem bit_one {m a : Nat} (h : m.testBit a = true) : ((m : Int) / 2 ^ a).tmod 2 = 1 := by
  rw [Nat.testBit_eq_decide_div_mod_eq, decide_eq_true_iff] at h
  rw [bit_tm, h]; rfl
theorem bit_zero {m a : Nat} (h : m.testBit a = false) : ((m : Int) / 2 ^ a).tmod 2 = 0 := by
  rw [Nat.testBit_eq_decide_div_mod_eq, decide_eq_false_iff_not] at h
  rw [bit_tm, show m / 2 ^ a % 2 = 0 from by omega]; rfl

end Go.Proofs.Ytjmjfmgbfjmaaaa
