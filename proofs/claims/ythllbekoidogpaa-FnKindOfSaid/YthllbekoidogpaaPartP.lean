
/- The table of a part: plain mathematics. -/
import Derived.Test.YthllbekoidogpaaMadeS
import Derived.Test.YthllbekoidogpaaPureX
namespace Go.Proofs.Ythllbekoidogpaa
set_option linter.unusedVariables false

/-- What MadeBy answers: -1, or the least set. -/
theorem madeT_or (T : List (List Int)) (s : Int) : madeT T s = -1 ∨ ∃ n m : Nat, s = n ∧ okT T = true ∧ n < 2 ^ T.length ∧ Made T n m ∧ madeT T s = (m : Int) := by
  by_cases h : (okT T = true ∧ 0 ≤ s ∧ s < 2 ^ T.length) ∧ ∃ m : Nat, Made T s.toNat m
  · right
    have := Classical.choose_spec h.2
    refine ⟨s.toNat, Classical.choose h.2, by omega, h.1.1, ?_, this, ?_⟩
    · have h3 := h.1.2.2
      have e : (2 : Int) ^ T.length = ((2 ^ T.length : Nat) : Int) := by simp
      rw [e] at h3
      omega
    · unfold madeT; rw [dif_pos h]
  · left
    unfold madeT; rw [dif_neg h]
theorem made_self {T : List (List Int)} {s : Int} (h1 : 0 ≤ s) (h : madeT T s = s) : ∃ n : Nat, s = n ∧ okT T = true ∧ n < 2 ^ T.length ∧ Clos T n := by
  rcases madeT_or T s with e | ⟨n, m, rfl, hk, hn, hm, e⟩
  · omega
  · rw [h] at e
    have : n = m := by omega
    subst this
    exact ⟨n, rfl, hk, hn, hm.clos⟩
theorem clos_made {T : List (List Int)} {n : Nat} (hk : okT T = true) (hn : n < 2 ^ T.length) (h : Clos T n) : madeT T n = n := madeT_of hk hn ⟨hn, fun _ hx => hx, h, fun q _ hs x hx => hs x hx⟩
theorem made_again {T : List (List Int)} {n m : Nat} (hk : okT T = true) (h : Made T n m) : madeT T m = m := clos_made hk h.lt h.clos
theorem made_none {T : List (List Int)} (hk : okT T = true) : madeT T 0 = 0 := clos_made (n := 0) hk (Nat.two_pow_pos _) (fun a b ha _ => by simp at ha)
theorem full_bit {n a : Nat} (h : a < n) : (2 ^ n - 1).testBit a = true := by rw [Nat.testBit_two_pow_sub_one]; simpa using h
theorem made_full {T : List (List Int)} (hk : okT T = true) : madeT T ((2 ^ T.length - 1 : Nat) : Int) = ((2 ^ T.length - 1 : Nat) : Int) := by
  have k := okT_iff.1 hk
  have hp := Nat.two_pow_pos T.length
  refine clos_made hk (by omega) fun a b ha hb => ?_
  have a1 := bit_lt (n := T.length) (by omega) ha
  have b1 := bit_lt (n := T.length) (by omega) hb
  obtain ⟨p0, p1⟩ := k.mul (x := (a : Nat)) (y := (b : Nat)) (by omega) (by omega) (by omega) (by omega)
  exact full_bit (by omega)

theorem len_thk_cnt (s : Nat) : ∀ k, (thk s k).length = cnt s k
  | 0 => by simp [thk, cnt]
  | k + 1 => by
    rw [thk_succ, List.length_append, len_thk_cnt s k]
    simp only [cnt]
    split <;> simp
theorem cnt_bit {s z : Nat} (h : s.testBit z = true) : ∀ k, z < k → cnt s z < cnt s k
  | 0, h0 => absurd h0 (Nat.not_lt_zero _)
  | k + 1, hk => by
    simp only [cnt]
    by_cases e : z = k
    · subst e; rw [h]; simp
    · have := cnt_bit h k (by omega); omega
theorem el_app_left {xs ys : List Int} {j : Nat} (h : j < xs.length) : el (xs ++ ys) j = el xs j := by simp [el, List.getD, List.getElem?_append_left h]
theorem el_app_last {xs : List Int} {k : Int} : el (xs ++ [k]) xs.length = k := by simp [el, List.getD]
/-- The thing at its place. -/
theorem el_cnt {s z : Nat} (h : s.testBit z = true) : ∀ k, z < k → el (thk s k) (cnt s z) = (z : Int)
  | 0, h0 => absurd h0 (Nat.not_lt_zero _)
  | k + 1, hk => by
    rw [thk_succ]
    by_cases e : z = k
    · subst e
      rw [h, ← len_thk_cnt]
      exact el_app_last
    · rw [el_app_left (by rw [len_thk_cnt]; exact cnt_bit h k (by omega))]
      exact el_cnt h k (by omega)
theorem cnt_mod (s z : Nat) : ∀ k, cnt (s % 2 ^ z) k = cnt s (min k z)
  | 0 => by simp [cnt]
  | k + 1 => by
    simp only [cnt]
    rw [cnt_mod s z k, Nat.testBit_mod_two_pow]
    by_cases e : k < z
    · rw [Nat.min_eq_left (by omega : k ≤ z), Nat.min_eq_left (by omega : k + 1 ≤ z)]
      simp [e, cnt]
    · rw [Nat.min_eq_right (by omega : z ≤ k), Nat.min_eq_right (by omega : z ≤ k + 1)]
      simp [e]
/-- The place of a thing in a set. -/
def plc (s : Nat) (z : Int) : Int := (cnt s z.toNat : Nat)
def partM (T : List (List Int)) (s a b : Nat) : Int := plc s (mul T (el (thk s 9) a) (el (thk s 9) b))
noncomputable def partT (T : List (List Int)) (s : Int) : List (List Int) := if 1 ≤ s ∧ madeT T s = s then tabOf (thk s.toNat 9).length (partM T s.toNat) else []
theorem partT_not {T : List (List Int)} {s : Int} (h : ¬ (1 ≤ s ∧ madeT T s = s)) : partT T s = [] := by unfold partT; rw [if_neg h]
theorem partT_ok {T : List (List Int)} {n : Nat} (h1 : 1 ≤ n) (h : madeT T n = n) : partT T n = tabOf (thk n 9).length (partM T n) := by unfold partT; rw [if_pos ⟨by omega, h⟩]; rfl
/-- A set of one thing or more that has all its products. -/
structure IsP (T : List (List Int)) (n : Nat) : Prop where
  one : 1 ≤ n
  ok : okT T = true
  lt : n < 2 ^ T.length
  clos : Clos T n
theorem isP_of {T : List (List Int)} {s : Int} (h1 : 1 ≤ s) (h : madeT T s = s) : ∃ n : Nat, s = n ∧ IsP T n := by
  obtain ⟨n, rfl, hk, hn, hc⟩ := made_self (by omega) h
  exact ⟨n, rfl, by omega, hk, hn, hc⟩
theorem IsP.made {T : List (List Int)} {n : Nat} (h : IsP T n) : madeT T n = n := clos_made h.ok h.lt h.clos
theorem IsP.part {T : List (List Int)} {n : Nat} (h : IsP T n) : partT T n = tabOf (thk n 9).length (partM T n) := partT_ok h.one h.made
theorem IsP.pos {T : List (List Int)} {n : Nat} (h : IsP T n) : 1 ≤ (thk n 9).length := by
  obtain ⟨i, hi⟩ := Nat.exists_testBit_of_ne_zero (x := n) (by have := h.one; omega)
  have := bit_lt h.lt hi
  have k9 := (okT_iff.1 h.ok).hi
  have := cnt_bit hi 9 (by omega)
  rw [len_thk_cnt]; omega
/-- A thing of the part, and what it stands for. -/
theorem IsP.thing {T : List (List Int)} {n : Nat} (h : IsP T n) {a : Nat} (ha : a < (thk n 9).length) : ∃ x : Nat, el (thk n 9) a = (x : Int) ∧ n.testBit x = true ∧ x < T.length := by
  obtain ⟨x, e, hb, _⟩ := thk_mem ha
  exact ⟨x, e, hb, bit_lt h.lt hb⟩
theorem IsP.prod {T : List (List Int)} {n : Nat} (h : IsP T n) {a b : Nat} (ha : a < (thk n 9).length) (hb : b < (thk n 9).length) :
    ∃ x y z : Nat, el (thk n 9) a = (x : Int) ∧ el (thk n 9) b = (y : Int) ∧ mul T x y = (z : Int) ∧ n.testBit x = true ∧ n.testBit y = true ∧ n.testBit z = true ∧ x < T.length ∧ y < T.length ∧ z < T.length ∧ partM T n a b = (cnt n z : Nat) ∧ cnt n z < (thk n 9).length ∧ el (thk n 9) (cnt n z) = (z : Int) := by
  obtain ⟨x, ex, hx, x1⟩ := h.thing ha
  obtain ⟨y, ey, hy, y1⟩ := h.thing hb
  have k := okT_iff.1 h.ok
  obtain ⟨p0, p1⟩ := k.mul (x := (x : Nat)) (y := (y : Nat)) (by omega) (by omega) (by omega) (by omega)
  have hz := h.clos x y hx hy
  obtain ⟨z, ez⟩ : ∃ z : Nat, mul T x y = (z : Int) := ⟨(mul T x y).toNat, by omega⟩
  rw [ez, Int.toNat_natCast] at hz
  have z1 : z < T.length := by omega
  refine ⟨x, y, z, ex, ey, ez, hx, hy, hz, x1, y1, z1, ?_, ?_, el_cnt hz 9 (by have := k.hi; omega)⟩
  · unfold partM plc; rw [ex, ey, ez, Int.toNat_natCast]
  · rw [len_thk_cnt]; exact cnt_bit hz 9 (by have := k.hi; omega)
theorem len_part {T : List (List Int)} {n : Nat} (h : IsP T n) : (partT T n).length = (thk n 9).length := by rw [h.part, len_tabOf]
theorem isT_part {T : List (List Int)} {n : Nat} (h : IsP T n) : IsT (partT T n) := by
  have hl := len_part h
  refine ⟨by rw [hl]; exact h.pos, by rw [hl]; exact len_thk n 9, fun i hi => ?_, fun i j hi hj => ?_⟩
  · rw [hl] at hi ⊢
    rw [h.part, rowlen_tabOf hi]
  · rw [hl] at hi hj ⊢
    rw [h.part, el_tabOf hi hj]
    obtain ⟨x, y, z, _, _, _, _, _, _, _, _, _, e, c1, _⟩ := h.prod hi hj
    rw [e]
    omega
theorem mul_part {T : List (List Int)} {n : Nat} (h : IsP T n) {a b : Nat} (ha : a < (thk n 9).length) (hb : b < (thk n 9).length) : mul (partT T n) a b = partM T n a b := by
  rw [h.part]
  unfold mul
  rw [Int.toNat_natCast, Int.toNat_natCast, el_tabOf ha hb]
theorem isG_part {T : List (List Int)} {n : Nat} (h : IsP T n) (g : IsG T) : IsG (partT T n) := by
  refine ⟨isT_part h, fun x y z x0 x1 y0 y1 z0 z1 => ?_⟩
  rw [len_part h] at x1 y1 z1
  obtain ⟨a, rfl⟩ : ∃ a : Nat, x = a := ⟨x.toNat, by omega⟩
  obtain ⟨b, rfl⟩ : ∃ b : Nat, y = b := ⟨y.toNat, by omega⟩
  obtain ⟨c, rfl⟩ : ∃ c : Nat, z = c := ⟨z.toNat, by omega⟩
  have ha : a < (thk n 9).length := by omega
  have hb : b < (thk n 9).length := by omega
  have hc : c < (thk n 9).length := by omega
  obtain ⟨p, q, r, e1, e2, e3, _, _, _, p1, q1, r1, m1, l1, i1⟩ := h.prod ha hb
  obtain ⟨q', u, v, e4, e5, e6, _, _, _, _, u1, v1, m2, l2, i2⟩ := h.prod hb hc
  rw [mul_part h ha hb, mul_part h hb hc, m1, m2, mul_part h l1 hc, mul_part h ha l2]
  unfold partM
  rw [i1, i2, e1, e5, ← e3, ← e6, ← e4, e2]
  rw [g.grp p q u (by omega) (by omega) (by omega) (by omega) (by omega) (by omega)]
theorem cnt_full_ {n : Nat} : ∀ k, k ≤ n → cnt (2 ^ n - 1) k = k
  | 0, _ => rfl
  | k + 1, hk => by
    simp only [cnt]
    rw [full_bit (by omega), cnt_full_ k (by omega)]; simp
theorem part_full {T : List (List Int)} (hk : okT T = true) : partT T ((2 ^ T.length - 1 : Nat) : Int) = T := by
  have k := okT_iff.1 hk
  have k9 := k.hi
  have hp := pow_le9 k9
  have hp1 : 2 ^ 1 ≤ 2 ^ T.length := Nat.pow_le_pow_right (by omega) k.lo
  have h : IsP T (2 ^ T.length - 1) := ⟨by omega, hk, by omega, (made_self (by omega) (made_full hk)).elim fun m hm => by
    obtain ⟨e, _, _, hc⟩ := hm
    have : 2 ^ T.length - 1 = m := by omega
    rw [this]; exact hc⟩
  have hL : (thk (2 ^ T.length - 1) 9).length = T.length := by
    rw [len_thk_cnt]
    have e : ∀ j, cnt (2 ^ T.length - 1) (T.length + j) = T.length := fun j => by
      induction j with
      | zero => exact cnt_full_ _ (Nat.le_refl _)
      | succ j ih =>
        show cnt (2 ^ T.length - 1) (T.length + j) + (if (2 ^ T.length - 1).testBit (T.length + j) = true then 1 else 0) = T.length
        rw [ih]
        have : (2 ^ T.length - 1).testBit (T.length + j) = false := by rw [Nat.testBit_two_pow_sub_one]; simp
        rw [this]; simp
    have := e (9 - T.length)
    rwa [show T.length + (9 - T.length) = 9 from by omega] at this
  have hel : ∀ j, j < T.length → el (thk (2 ^ T.length - 1) 9) j = (j : Int) := fun j hj => by
    have := el_cnt (full_bit hj) 9 (by omega)
    rwa [cnt_full_ j (by omega)] at this
  rw [h.part]
  apply List.ext_getElem
  · rw [len_tabOf, hL]
  · intro i hi1 hi2
    rw [len_tabOf] at hi1
    rw [← rw_eq (by rw [len_tabOf]; exact hi1), ← rw_eq hi2, row_tabOf hi1, hL]
    have hl := k.len i hi2
    apply List.ext_getElem
    · simp [hl]
    · intro j hj1 hj2
      have hj : j < T.length := by simpa using hj1
      rw [← el_eq hj2]
      simp only [List.getElem_map, List.getElem_range]
      unfold partM plc
      rw [hel i hi2, hel j hj]
      obtain ⟨p0, p1⟩ := k.mul (x := (i : Nat)) (y := (j : Nat)) (by omega) (by omega) (by omega) (by omega)
      rw [cnt_full_ _ (by omega), Int.toNat_of_nonneg p0]
      rfl
theorem small_part {T : List (List Int)} {s : Int} : Small (partT T s) := by
  by_cases h : 1 ≤ s ∧ madeT T s = s
  · obtain ⟨n, rfl, hp⟩ := isP_of h.1 h.2
    exact (isT_part hp).small
  · rw [partT_not h]; exact ⟨by simp, fun i hi => absurd hi (Nat.not_lt_zero _)⟩
end Go.Proofs.Ythllbekoidogpaa
