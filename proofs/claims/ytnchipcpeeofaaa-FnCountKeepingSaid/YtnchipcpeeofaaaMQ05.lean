/-  -/
import Derived.Test.YtnchipcpeeofaaaMQ04
import Derived.Test.YtnchipcpeeofaaaMQ02
namespace Go.Proofs.Ytnchipcpeeofaaa
open Go.RowKit
set_option linter.unusedVariables false


/-- On the way to the least closed set. -/
structure Way (T : List (List Int)) (s m : Nat) : Prop where
  lt : m < 2 ^ T.length
  sub : ∀ x, s.testBit x = true → m.testBit x = true
  least : ∀ q, Clos T q → (∀ x, s.testBit x = true → q.testBit x = true) → ∀ x, m.testBit x = true → q.testBit x = true
theorem Way.refl {T : List (List Int)} {s : Nat} (h : s < 2 ^ T.length) : Way T s s := ⟨h, fun _ hx => hx, fun _ _ hq x hx => hq x hx⟩
theorem Way.grown {T : List (List Int)} {s m m' : Nat} (h : Way T s m) (g : Grown T m m') : Way T s m' := by
  refine ⟨g.lt, fun x hx => g.sub x (h.sub x hx), fun q hq hs x hx => ?_⟩
  rcases g.only x hx with h1 | ⟨a, b, ha, hb, rfl⟩
  · exact h.least q hq hs x h1
  · exact hq a b (h.least q hq hs a ha) (h.least q hq hs b hb)
theorem Way.made {T : List (List Int)} {s m : Nat} (h : Way T s m) (g : Clos T m) : Made T s m := ⟨h.lt, h.sub, g, h.least⟩
theorem Grown.le {T : List (List Int)} {s m : Nat} (g : Grown T s m) : s ≤ m := by
  have : s ||| m = m := by
    apply Nat.eq_of_testBit_eq
    intro i
    rw [Nat.testBit_or]
    cases e : s.testBit i
    · rfl
    · rw [g.sub i e]; rfl
  rw [← this]
  exact Nat.left_le_or
open Classical in
/-- What MadeBy answers. -/
noncomputable def madeT (T : List (List Int)) (s : Int) : Int := if h : (okT T = true ∧ 0 ≤ s ∧ s < 2 ^ T.length) ∧ ∃ m : Nat, Made T s.toNat m then ((Classical.choose h.2 : Nat) : Int) else -1
theorem madeT_of {T : List (List Int)} {s m : Nat} (hk : okT T = true) (h1 : s < 2 ^ T.length) (hm : Made T s m) : madeT T s = (m : Int) := by
  have hs : (s : Int) < 2 ^ T.length := by
    have : (s : Int) < ((2 ^ T.length : Nat) : Int) := by omega
    simpa using this
  have h : (okT T = true ∧ 0 ≤ (s : Int) ∧ (s : Int) < 2 ^ T.length) ∧ ∃ m : Nat, Made T (s : Int).toNat m := ⟨⟨hk, by omega, hs⟩, m, by simpa using hm⟩
  unfold madeT
  rw [dif_pos h]
  have := Classical.choose_spec h.2
  have hm' : Made T (s : Int).toNat m := by simpa using hm
  exact congrArg _ (this.unique hm')
theorem madeT_not {T : List (List Int)} {s : Int} (h : ¬ (okT T = true ∧ 0 ≤ s ∧ s < 2 ^ T.length)) : madeT T s = -1 := by
  unfold madeT
  rw [dif_neg]
  exact fun hx => h hx.1

set_option maxHeartbeats 2000000 in
theorem iMadeBy_any (A : Option Addr) (c lo hi : Nat) (T : List (List Int)) (s : Int) (w : World) (h : Mat w lo hi A T) (hh : hi ≤ w.heap.size) (hS : Small T) :
    Calls Try.prog 27 #[.slice A T.length c, .int .i64 s] w fun e w' => e = .returned (.int .i64 (madeT T s)) ∧ Below w.heap.size w w' := by
  have hlT := hS.len
  cases hk : okT T
  · go_enter Try.func27, Try.ntmps27
    go_wp2_with (go_at_call 51; refine (iTableOk_any _ _ _ _ _ _ h hS).mono ?_; rintro e w' ⟨rfl, rfl⟩; rw [hk])
    go_ret
    exact ⟨ret_int (madeT_not (fun hx => by rw [hk] at hx; cases hx.1)).symm, Below.refl _ _⟩
  · have k := okT_iff.1 hk
    have k9 := k.hi
    have hp9 := pow_le9 k9
    by_cases hs : 0 ≤ s ∧ s < 2 ^ T.length
    · obtain ⟨n, rfl⟩ : ∃ n : Nat, s = n := ⟨s.toNat, by omega⟩
      have hb : (decide (0 ≤ (n : Int)) && decide ((n : Int) < 2 ^ T.length)) = true := by simp [hs.2]
      have hn : n < 2 ^ T.length := by
        have h2 : (n : Int) < ((2 ^ T.length : Nat) : Int) := by simpa using hs.2
        omega
      clear hs
      have b0 := (Below.refl w.heap.size w).alloc (Nat.le_refl _) (.cells #[.slice A T.length c] 53)
      have e0 := heap_alloc_new w (.cells #[.slice A T.length c] 53)
      have MK := hide (fun (W : World) (hW : Below (w.heap.size + 1) (w.alloc (.cells #[.slice A T.length c] 53)) W) =>
        (show W.cell? ⟨w.heap.size, 0, none⟩ = some (.slice A T.length c) from by
          rw [cell_of_row W w.heap.size 0 _ _ _ ((hW.block w.heap.size (by omega)).trans e0)]; rfl))
      have hz0 : (w.alloc (.cells #[.slice A T.length c] 53)).heap.size = w.heap.size + 1 := by simp
      have HZ := hide hz0
      clear e0 hz0
      go_enter Try.func27, Try.ntmps27
      go_wp2_with (first
        | (go_at_call 51; refine (iTableOk_any _ _ _ _ _ _ h hS).mono ?_; rintro e w' ⟨rfl, rfl⟩; rw [hk])
        | (go_at_call 57; refine (setOk_any _ _ _ k9).mono ?_; rintro e w' ⟨rfl, rfl⟩; rw [hb]))
      go_loopg [1] (512 - n) (fun g v wr => ∃ m : Nat, Hid (g = 512 - m) ∧ v = .int .i64 (m : Nat) ∧ Way T n m ∧ Below (w.heap.size + 1) (w.alloc (.cells #[.slice A T.length c] 53)) wr)
      case atStart => exact ⟨n, rfl, rfl, Way.refl hn, Below.refl _ _⟩
      case round =>
        obtain ⟨m, hgk, rfl, hW, hB⟩ := hrel
        have hcell := MK.out _ hB
        have hBw := b0.trans (hB.mono (by omega))
        have hml := hW.lt
        go_wp2_with fail
        refine (withProducts_any _ _ lo hi T _ _ (h.below hBw hh) (Nat.le_trans hh hBw.size) k hW.lt).mono ?_
        rintro e w3 ⟨m', rfl, hG, hP, b3⟩
        have hle := hG.le
        have hml' := hG.lt
        have hB3 := hB.trans (b3.mono (by have := hB.size; rw [HZ.out] at this; exact this))
        by_cases hme : m' = m
        · subst hme
          go_wp2
          go_ret
          exact ⟨ret_int (madeT_of hk hn (hW.made hP)).symm, b0.trans (hB3.mono (by omega))⟩
        · have hne : ((m' : Int) == (m : Int)) = false := beq_eq_false_iff_ne.2 (by omega)
          go_wp2
          go_roundg (512 - m')
          case measure => go_light; have := hgk.out; omega
          case rel => go_light; exact ⟨m', rfl, rfl, hW.grown hG, hB3⟩
    · have hb : (decide (0 ≤ s) && decide (s < 2 ^ T.length)) = false := by
        by_cases h0 : 0 ≤ s
        · have : ¬ s < 2 ^ T.length := fun h1 => hs ⟨h0, h1⟩
          simp [this]
        · simp [h0]
      go_enter Try.func27, Try.ntmps27
      go_wp2_with (first
        | (go_at_call 51; refine (iTableOk_any _ _ _ _ _ _ h hS).mono ?_; rintro e w' ⟨rfl, rfl⟩; rw [hk])
        | (go_at_call 57; refine (setOk_any _ _ _ k9).mono ?_; rintro e w' ⟨rfl, rfl⟩; rw [hb]))
      go_ret
      exact ⟨ret_int (madeT_not (fun hx => hs hx.2)).symm, Below.refl _ _⟩
end Go.Proofs.Ytnchipcpeeofaaa

namespace Go.Proofs.Ytnchipcpeeofaaa
open Go.RowKit
set_option linter.unusedVariables false


/-- How many things below k. -/
def cnt (m : Nat) : Nat → Nat
  | 0 => 0
  | k + 1 => cnt m k + (if m.testBit k = true then 1 else 0)
theorem Way.trans {T : List (List Int)} {s m m' : Nat} (h : Way T s m) (g : Way T m m') : Way T s m' :=
  ⟨g.lt, fun x hx => g.sub x (h.sub x hx), fun q hq hs x hx => g.least q hq (h.least q hq hs) x hx⟩
theorem Way.add {T : List (List Int)} {s m : Nat} (h : Way T s m) (k : IsT T) {a b : Nat} (ha : m.testBit a = true) (hb : m.testBit b = true) : Way T s (m ||| 2 ^ (mul T a b).toNat) :=
  h.grown ((Grown.refl h.lt).add k h.lt ha hb)
theorem bit_tm (m a : Nat) : ((m : Int) / 2 ^ a).tmod 2 = ((m / 2 ^ a % 2 : Nat) : Int) := by
  have h : (m : Int) / 2 ^ a = ((m / 2 ^ a : Nat) : Int) := by simp
  rw [h, Int.tmod_eq_emod_of_nonneg (Int.natCast_nonneg _)]
  rfl
theorem bit_one {m a : Nat} (h : m.testBit a = true) : ((m : Int) / 2 ^ a).tmod 2 = 1 := by
  rw [Nat.testBit_eq_decide_div_mod_eq, decide_eq_true_iff] at h
  rw [bit_tm, h]; rfl
theorem bit_zero {m a : Nat} (h : m.testBit a = false) : ((m : Int) / 2 ^ a).tmod 2 = 0 := by
  rw [Nat.testBit_eq_decide_div_mod_eq, decide_eq_false_iff_not] at h
  rw [bit_tm, show m / 2 ^ a % 2 = 0 from by omega]; rfl

end Go.Proofs.Ytnchipcpeeofaaa

namespace Go.Proofs.Ytnchipcpeeofaaa
set_option linter.unusedVariables false

/-- What MadeBy answers: -1, or the least set. -/
theorem madeT_or (T : List (List Int)) (s : Int) : madeT T s = -1 ∨ ∃ n m : Nat, s = n ∧ okT T = true ∧ n < 2 ^ T.length ∧ Made T n m ∧ madeT T s = (m : Int) := by
  by_cases h : (okT T = true ∧ 0 ≤ s ∧ s < 2 ^ T.length) ∧ ∃ m : Nat, Made T s.toNat m
  · right
    have := Classical.choose_spec h.2
    refine ⟨s.toNat, Classical.choose h.2, by omega, h.1.1, ?_, this, ?_⟩
    · have h3 := h.1.2.2
      have e : (2 : Int) ^ T.length = ((2 ^ T.length : Nat) : Int) := by simp
      rw [e] at h3
      omega
    · unfold madeT; rw [dif_pos h]
  · left
    unfold madeT; rw [dif_neg h]
theorem made_self {T : List (List Int)} {s : Int} (h1 : 0 ≤ s) (h : madeT T s = s) : ∃ n : Nat, s = n ∧ okT T = true ∧ n < 2 ^ T.length ∧ Clos T n := by
  rcases madeT_or T s with e | ⟨n, m, rfl, hk, hn, hm, e⟩
  · omega
  · rw [h] at e
    have : n = m := by omega
    subst this
    exact ⟨n, rfl, hk, hn, hm.clos⟩
theorem clos_made {T : List (List Int)} {n : Nat} (hk : okT T = true) (hn : n < 2 ^ T.length) (h : Clos T n) : madeT T n = n := madeT_of hk hn ⟨hn, fun _ hx => hx, h, fun q _ hs x hx => hs x hx⟩
theorem len_thk_cnt (s : Nat) : ∀ k, (thk s k).length = cnt s k
  | 0 => by simp [thk, cnt]
  | k + 1 => by
    rw [thk_succ, List.length_append, len_thk_cnt s k]
    simp only [cnt]
    split <;> simp
theorem cnt_bit {s z : Nat} (h : s.testBit z = true) : ∀ k, z < k → cnt s z < cnt s k
  | 0, h0 => absurd h0 (Nat.not_lt_zero _)
  | k + 1, hk => by
    simp only [cnt]
    by_cases e : z = k
    · subst e; rw [h]; simp
    · have := cnt_bit h k (by omega); omega
theorem el_app_left {xs ys : List Int} {j : Nat} (h : j < xs.length) : el (xs ++ ys) j = el xs j := by simp [el, List.getD, List.getElem?_append_left h]
theorem el_app_last {xs : List Int} {k : Int} : el (xs ++ [k]) xs.length = k := by simp [el, List.getD]
/-- The thing at its place. -/
theorem el_cnt {s z : Nat} (h : s.testBit z = true) : ∀ k, z < k → el (thk s k) (cnt s z) = (z : Int)
  | 0, h0 => absurd h0 (Nat.not_lt_zero _)
  | k + 1, hk => by
    rw [thk_succ]
    by_cases e : z = k
    · subst e
      rw [h, ← len_thk_cnt]
      exact el_app_last
    · rw [el_app_left (by rw [len_thk_cnt]; exact cnt_bit h k (by omega))]
      exact el_cnt h k (by omega)
theorem cnt_mod (s z : Nat) : ∀ k, cnt (s % 2 ^ z) k = cnt s (min k z)
  | 0 => by simp [cnt]
  | k + 1 => by
    simp only [cnt]
    rw [cnt_mod s z k, Nat.testBit_mod_two_pow]
    by_cases e : k < z
    · rw [Nat.min_eq_left (by omega : k ≤ z), Nat.min_eq_left (by omega : k + 1 ≤ z)]
      simp [e, cnt]
    · rw [Nat.min_eq_right (by omega : z ≤ k), Nat.min_eq_right (by omega : z ≤ k + 1)]
      simp [e]
/-- The place of a thing in a set. -/
def plc (s : Nat) (z : Int) : Int := (cnt s z.toNat : Nat)
def partM (T : List (List Int)) (s a b : Nat) : Int := plc s (mul T (el (thk s 9) a) (el (thk s 9) b))
noncomputable def partT (T : List (List Int)) (s : Int) : List (List Int) := if 1 ≤ s ∧ madeT T s = s then tabOf (thk s.toNat 9).length (partM T s.toNat) else []
theorem partT_not {T : List (List Int)} {s : Int} (h : ¬ (1 ≤ s ∧ madeT T s = s)) : partT T s = [] := by unfold partT; rw [if_neg h]
theorem partT_ok {T : List (List Int)} {n : Nat} (h1 : 1 ≤ n) (h : madeT T n = n) : partT T n = tabOf (thk n 9).length (partM T n) := by unfold partT; rw [if_pos ⟨by omega, h⟩]; rfl
/-- A set of one thing or more that has all its products. -/
structure IsP (T : List (List Int)) (n : Nat) : Prop where
  one : 1 ≤ n
  ok : okT T = true
  lt : n < 2 ^ T.length
  clos : Clos T n
theorem isP_of {T : List (List Int)} {s : Int} (h1 : 1 ≤ s) (h : madeT T s = s) : ∃ n : Nat, s = n ∧ IsP T n := by
  obtain ⟨n, rfl, hk, hn, hc⟩ := made_self (by omega) h
  exact ⟨n, rfl, by omega, hk, hn, hc⟩
theorem IsP.made {T : List (List Int)} {n : Nat} (h : IsP T n) : madeT T n = n := clos_made h.ok h.lt h.clos
theorem IsP.part {T : List (List Int)} {n : Nat} (h : IsP T n) : partT T n = tabOf (thk n 9).length (partM T n) := partT_ok h.one h.made
theorem IsP.pos {T : List (List Int)} {n : Nat} (h : IsP T n) : 1 ≤ (thk n 9).length := by
  obtain ⟨i, hi⟩ := Nat.exists_testBit_of_ne_zero (x := n) (by have := h.one; omega)
  have := bit_lt h.lt hi
  have k9 := (okT_iff.1 h.ok).hi
  have := cnt_bit hi 9 (by omega)
  rw [len_thk_cnt]; omega
/-- A thing of the part, and what it stands for. -/
theorem IsP.thing {T : List (List Int)} {n : Nat} (h : IsP T n) {a : Nat} (ha : a < (thk n 9).length) : ∃ x : Nat, el (thk n 9) a = (x : Int) ∧ n.testBit x = true ∧ x < T.length := by
  obtain ⟨x, e, hb, _⟩ := thk_mem ha
  exact ⟨x, e, hb, bit_lt h.lt hb⟩
theorem IsP.prod {T : List (List Int)} {n : Nat} (h : IsP T n) {a b : Nat} (ha : a < (thk n 9).length) (hb : b < (thk n 9).length) :
    ∃ x y z : Nat, el (thk n 9) a = (x : Int) ∧ el (thk n 9) b = (y : Int) ∧ mul T x y = (z : Int) ∧ n.testBit x = true ∧ n.testBit y = true ∧ n.testBit z = true ∧ x < T.length ∧ y < T.length ∧ z < T.length ∧ partM T n a b = (cnt n z : Nat) ∧ cnt n z < (thk n 9).length ∧ el (thk n 9) (cnt n z) = (z : Int) := by
  obtain ⟨x, ex, hx, x1⟩ := h.thing ha
  obtain ⟨y, ey, hy, y1⟩ := h.thing hb
  have k := okT_iff.1 h.ok
  obtain ⟨p0, p1⟩ := k.mul (x := (x : Nat)) (y := (y : Nat)) (by omega) (by omega) (by omega) (by omega)
  have hz := h.clos x y hx hy
  obtain ⟨z, ez⟩ : ∃ z : Nat, mul T x y = (z : Int) := ⟨(mul T x y).toNat, by omega⟩
  rw [ez, Int.toNat_natCast] at hz
  have z1 : z < T.length := by omega
  refine ⟨x, y, z, ex, ey, ez, hx, hy, hz, x1, y1, z1, ?_, ?_, el_cnt hz 9 (by have := k.hi; omega)⟩
  · unfold partM plc; rw [ex, ey, ez, Int.toNat_natCast]
  · rw [len_thk_cnt]; exact cnt_bit hz 9 (by have := k.hi; omega)
theorem len_part {T : List (List Int)} {n : Nat} (h : IsP T n) : (partT T n).length = (thk n 9).length := by rw [h.part, len_tabOf]
theorem isT_part {T : List (List Int)} {n : Nat} (h : IsP T n) : IsT (partT T n) := by
  have hl := len_part h
  refine ⟨by rw [hl]; exact h.pos, by rw [hl]; exact len_thk n 9, fun i hi => ?_, fun i j hi hj => ?_⟩
  · rw [hl] at hi ⊢
    rw [h.part, rowlen_tabOf hi]
  · rw [hl] at hi hj ⊢
    rw [h.part, el_tabOf hi hj]
    obtain ⟨x, y, z, _, _, _, _, _, _, _, _, _, e, c1, _⟩ := h.prod hi hj
    rw [e]
    omega
theorem mul_part {T : List (List Int)} {n : Nat} (h : IsP T n) {a b : Nat} (ha : a < (thk n 9).length) (hb : b < (thk n 9).length) : mul (partT T n) a b = partM T n a b := by
  rw [h.part]
  unfold mul
  rw [Int.toNat_natCast, Int.toNat_natCast, el_tabOf ha hb]
theorem isG_part {T : List (List Int)} {n : Nat} (h : IsP T n) (g : IsG T) : IsG (partT T n) := by
  refine ⟨isT_part h, fun x y z x0 x1 y0 y1 z0 z1 => ?_⟩
  rw [len_part h] at x1 y1 z1
  obtain ⟨a, rfl⟩ : ∃ a : Nat, x = a := ⟨x.toNat, by omega⟩
  obtain ⟨b, rfl⟩ : ∃ b : Nat, y = b := ⟨y.toNat, by omega⟩
  obtain ⟨c, rfl⟩ : ∃ c : Nat, z = c := ⟨z.toNat, by omega⟩
  have ha : a < (thk n 9).length := by omega
  have hb : b < (thk n 9).length := by omega
  have hc : c < (thk n 9).length := by omega
  obtain ⟨p, q, r, e1, e2, e3, _, _, _, p1, q1, r1, m1, l1, i1⟩ := h.prod ha hb
  obtain ⟨q', u, v, e4, e5, e6, _, _, _, _, u1, v1, m2, l2, i2⟩ := h.prod hb hc
  rw [mul_part h ha hb, mul_part h hb hc, m1, m2, mul_part h l1 hc, mul_part h ha l2]
  unfold partM
  rw [i1, i2, e1, e5, ← e3, ← e6, ← e4, e2]
  rw [g.grp p q u (by omega) (by omega) (by omega) (by omega) (by omega) (by omega)]
theorem small_part {T : List (List Int)} {s : Int} : Small (partT T s) := by
  by_cases h : 1 ≤ s ∧ madeT T s = s
  · obtain ⟨n, rfl, hp⟩ := isP_of h.1 h.2
    exact (isT_part hp).small
  · rw [partT_not h]; exact ⟨by simp, fun i hi => absurd hi (Nat.not_lt_zero _)⟩
end Go.Proofs.Ytnchipcpeeofaaa

namespace Go.Proofs.Ytnchipcpeeofaaa
set_option linter.unusedVariables false

/-- Things of a table. -/
def Th (T : List (List Int)) (x : Int) : Prop := 0 ≤ x ∧ x < T.length
/-- A thing that comes back when another one is between. -/
def leJ (T : List (List Int)) (a b : Int) : Prop := mul T (mul T a b) a = a
section
variable {T : List (List Int)}
theorem IsB.th (b : IsB T) {x y : Int} (hx : Th T x) (hy : Th T y) : Th T (mul T x y) := b.g.tab.mul hx.1 hx.2 hy.1 hy.2
theorem IsB.as (b : IsB T) {x y z : Int} (hx : Th T x) (hy : Th T y) (hz : Th T z) : mul T (mul T x y) z = mul T x (mul T y z) := (b.g.grp x y z hx.1 hx.2 hy.1 hy.2 hz.1 hz.2).symm
theorem IsB.ss (b : IsB T) {x : Int} (hx : Th T x) : mul T x x = x := b.sq x hx.1 hx.2
/-- What lies between two others comes back. -/
theorem IsB.jl (bd : IsB T) {x p c q : Int} (hx : Th T x) (hp : Th T p) (hc : Th T c) (hq : Th T q) (e : x = mul T p (mul T c q)) : leJ T x c := by
  have hcq := bd.th hc hq
  have hy := bd.th hc (bd.th hq hx)
  have hxc := bd.th hx hc
  -- x (c (q x)) = x
  have e1 : mul T x (mul T c (mul T q x)) = x := by
    have h1 : mul T p (mul T c (mul T q x)) = x := by
      rw [← bd.as hc hq hx, ← bd.as hp hcq hx, ← e, bd.ss hx]
    have h2 : mul T (mul T p (mul T c (mul T q x))) (mul T c (mul T q x)) = mul T p (mul T c (mul T q x)) := by
      rw [bd.as hp hy hy, bd.ss hy]
    rw [h1] at h2
    exact h2
  have e2 : mul T c (mul T c (mul T q x)) = mul T c (mul T q x) := by rw [← bd.as hc hc (bd.th hq hx), bd.ss hc]
  have hxcx := bd.th hxc hx
  -- x = (xcx) y
  have e3 : mul T (mul T (mul T x c) x) (mul T c (mul T q x)) = x := by
    have h1 : mul T (mul T x c) (mul T c (mul T q x)) = x := by rw [bd.as hx hc hy, e2, e1]
    have h2 : mul T (mul T (mul T x c) (mul T x c)) (mul T c (mul T q x)) = x := by rw [bd.ss hxc, h1]
    rw [← bd.as hxc hx hc, bd.as hxcx hc hy, e2] at h2
    exact h2
  have e4 : mul T (mul T (mul T x c) x) x = mul T (mul T x c) x := by rw [bd.as hxc hx hx, bd.ss hx]
  have e5 : mul T (mul T (mul T x c) x) x = x := by
    have h : mul T (mul T (mul T x c) x) (mul T (mul T (mul T x c) x) (mul T c (mul T q x))) = mul T (mul T (mul T x c) x) (mul T c (mul T q x)) := by rw [← bd.as hxcx hxcx hy, bd.ss hxcx]
    rw [e3] at h
    exact h
  unfold leJ
  rw [← e4, e5]
theorem IsB.le_trans (bd : IsB T) {a b c : Int} (ha : Th T a) (hb : Th T b) (hc : Th T c) (h1 : leJ T a b) (h2 : leJ T b c) : leJ T a c := by
  refine bd.jl ha (bd.th ha hb) hc (bd.th hb ha) ?_
  have hbc := bd.th hb hc
  unfold leJ at h1 h2
  rw [← bd.as hc hb ha, ← bd.as (bd.th ha hb) (bd.th hc hb) ha, bd.as ha hb (bd.th hc hb), ← bd.as hb hc hb, h2, h1]
theorem IsB.le_left (bd : IsB T) {a b : Int} (ha : Th T a) (hb : Th T b) : leJ T (mul T a b) a := by
  have hab := bd.th ha hb
  refine bd.jl hab ha ha hb ?_
  rw [← bd.as ha ha hb, bd.ss ha]
theorem IsB.le_right (bd : IsB T) {a b : Int} (ha : Th T a) (hb : Th T b) : leJ T (mul T a b) b := by
  have hab := bd.th ha hb
  refine bd.jl hab ha hb hb ?_
  rw [bd.ss hb]
theorem IsB.le_meet (bd : IsB T) {x b c : Int} (hx : Th T x) (hb : Th T b) (hc : Th T c) (h1 : leJ T x b) (h2 : leJ T x c) : leJ T x (mul T b c) := by
  unfold leJ at h1 h2
  have hxb := bd.th hx hb
  have hxc := bd.th hx hc
  have hcb := bd.th hc hb
  have hbc := bd.th hb hc
  have hbx := bd.th hb hx
  have hcx := bd.th hc hx
  have hbxc := bd.th hbx hc
  -- x = x (bxc) x
  have e1 : mul T (mul T x (mul T (mul T b x) c)) x = x := by
    have h : mul T (mul T (mul T x b) x) (mul T (mul T x c) x) = x := by rw [h1, h2, bd.ss hx]
    rw [← bd.as (bd.th hxb hx) hxc hx, ← bd.as (bd.th hxb hx) hx hc, bd.as hxb hx hx, bd.ss hx] at h
    have h3 : mul T (mul T (mul T x b) x) c = mul T x (mul T (mul T b x) c) := by rw [bd.as hx hb hx, bd.as hx hbx hc]
    rw [h3] at h
    exact h
  -- bxc = (bxc)(bxc), so x = x (cb) x
  have e2 : mul T (mul T x (mul T c b)) x = x := by
    have h : mul T (mul T x (mul T (mul T (mul T b x) c) (mul T (mul T b x) c))) x = x := by rw [bd.ss hbxc]; exact e1
    have h3 : mul T x (mul T (mul T (mul T b x) c) (mul T (mul T b x) c)) = mul T (mul T (mul T (mul T x b) x) (mul T c b)) (mul T x c) := by
      rw [bd.as hbx hc hbxc, ← bd.as hc hbx hc, ← bd.as hc hb hx, bd.as hcb hx hc, ← bd.as hx hbx (bd.th hcb hxc), ← bd.as hx hb hx, ← bd.as (bd.th hxb hx) hcb hxc]
    rw [h3, h1, bd.as (bd.th hx hcb) hxc hx, h2] at h
    exact h
  refine bd.jl hx hxc hbc hbx ?_
  have e3 : mul T (mul T x (mul T (mul T c b) (mul T c b))) x = x := by rw [bd.ss hcb]; exact e2
  have h4 : mul T x (mul T (mul T c b) (mul T c b)) = mul T (mul T (mul T x c) (mul T b c)) b := by
    rw [bd.as hc hb hcb, ← bd.as hb hc hb, ← bd.as hx hc (bd.th hbc hb), ← bd.as hxc hbc hb]
  rw [h4, bd.as (bd.th hxc hbc) hb hx, bd.as hxc hbc hbx] at e3
  exact e3.symm

/-- Two things on one level. -/
def inLev (T : List (List Int)) (a b : Nat) : Bool := mul T (mul T (a : Int) (b : Int)) (a : Int) == (a : Int) && mul T (mul T (b : Int) (a : Int)) (b : Int) == (b : Int)
theorem inLev_iff {a b : Nat} : inLev T a b = true ↔ leJ T a b ∧ leJ T b a := by unfold inLev leJ; rw [Bool.and_eq_true, beq_iff_eq, beq_iff_eq]
theorem th_nat {a : Nat} (h : a < T.length) : Th T (a : Int) := ⟨by omega, by omega⟩
theorem IsB.levEqv (bd : IsB T) : Eqv (inLev T) T.length := by
  refine ⟨fun a ha => inLev_iff.2 ?_, fun a b _ _ h => inLev_iff.2 ⟨(inLev_iff.1 h).2, (inLev_iff.1 h).1⟩, fun a b c ha hb hc h1 h2 => inLev_iff.2 ?_⟩
  · have : leJ T a a := by unfold leJ; rw [bd.ss (th_nat ha), bd.ss (th_nat ha)]
    exact ⟨this, this⟩
  · obtain ⟨p1, p2⟩ := inLev_iff.1 h1
    obtain ⟨q1, q2⟩ := inLev_iff.1 h2
    exact ⟨bd.le_trans (th_nat ha) (th_nat hb) (th_nat hc) p1 q1, bd.le_trans (th_nat hc) (th_nat hb) (th_nat ha) q2 p2⟩
/-- Levels are multiplied as their things are. -/
theorem IsB.lev_mul (bd : IsB T) {a a' b b' p p' : Nat} (ha : a < T.length) (ha' : a' < T.length) (hb : b < T.length) (hb' : b' < T.length) (h1 : inLev T a a' = true) (h2 : inLev T b b' = true)
    (hp : mul T (a : Int) (b : Int) = (p : Int)) (hp' : mul T (a' : Int) (b' : Int) = (p' : Int)) : inLev T p p' = true := by
  have key : ∀ {x x' y y' : Nat}, x < T.length → x' < T.length → y < T.length → y' < T.length → leJ T x x' → leJ T y y' → leJ T (mul T x y) (mul T x' y') := fun {x x' y y'} hx hx' hy hy' g1 g2 => by
    have hxy := bd.th (th_nat hx) (th_nat hy)
    exact bd.le_meet hxy (th_nat hx') (th_nat hy') (bd.le_trans hxy (th_nat hx) (th_nat hx') (bd.le_left (th_nat hx) (th_nat hy)) g1) (bd.le_trans hxy (th_nat hy) (th_nat hy') (bd.le_right (th_nat hx) (th_nat hy)) g2)
  obtain ⟨p1, p2⟩ := inLev_iff.1 h1
  obtain ⟨q1, q2⟩ := inLev_iff.1 h2
  rw [inLev_iff, ← hp, ← hp']
  exact ⟨key ha ha' hb hb' p1 q1, key ha' ha hb' hb p2 q2⟩
end
/-- The numbers of levels; how many there are. -/
noncomputable def levsL (T : List (List Int)) : List Int := if bandT T = true then (List.range T.length).map fun a => ((num (inLev T) a : Nat) : Int) else []
def nL (T : List (List Int)) : Nat := ct (inLev T) T.length
section
variable {T : List (List Int)}
theorem band_tab (h : bandT T = true) : IsT T := (bandT_iff.1 h).g.tab
theorem levsL_not (h : bandT T = false) : levsL T = [] := by unfold levsL; rw [if_neg (by rw [h]; exact Bool.false_ne_true)]
theorem levsL_ok (h : bandT T = true) : levsL T = (List.range T.length).map fun a => ((num (inLev T) a : Nat) : Int) := by unfold levsL; rw [if_pos h]
theorem len_levsL (h : bandT T = true) : (levsL T).length = T.length := by rw [levsL_ok h]; simp
theorem el_levsL (h : bandT T = true) {a : Nat} (ha : a < T.length) : el (levsL T) a = ((num (inLev T) a : Nat) : Int) := by rw [levsL_ok h]; simp [el, List.getD, ha]
theorem len_levsL_le (T : List (List Int)) : (levsL T).length ≤ 1048576 := by
  cases h : bandT T
  · rw [levsL_not h]; simp
  · rw [len_levsL h]; have := (band_tab h).hi; omega
theorem band_eqvL (h : bandT T = true) : Eqv (inLev T) T.length := (bandT_iff.1 h).levEqv
theorem nL_pos (h : bandT T = true) : 0 < nL T := ct_pos (by have := (band_tab h).lo; omega)
theorem ct_le (r : Nat → Nat → Bool) : ∀ k, ct r k ≤ k
  | 0 => Nat.le_refl _
  | k + 1 => by
    have := ct_le r k
    simp only [ct]
    split <;> omega
end
end Go.Proofs.Ytnchipcpeeofaaa

namespace Go.Proofs.Ytnchipcpeeofaaa
set_option linter.unusedVariables false

/-- The set of the things of which a rule holds. -/
def msk (p : Nat → Bool) : Nat → Nat
  | 0 => 0
  | k + 1 => msk p k + if p k = true then 2 ^ k else 0
theorem msk_lt (p : Nat → Bool) : ∀ k, msk p k < 2 ^ k
  | 0 => by simp [msk]
  | k + 1 => by
    have := msk_lt p k
    simp only [msk]
    rw [Nat.pow_succ]
    split <;> omega
theorem msk_or (p : Nat → Bool) (k : Nat) : msk p (k + 1) = msk p k ||| (if p k = true then 2 ^ k else 0) := by
  simp only [msk]
  split
  · have := Nat.two_pow_add_eq_or_of_lt (msk_lt p k) 1
    rw [Nat.mul_one] at this
    rw [Nat.or_comm, ← this, Nat.add_comm]
  · simp
theorem msk_bit (p : Nat → Bool) (i : Nat) : ∀ k, (msk p k).testBit i = (decide (i < k) && p i)
  | 0 => by simp [msk]
  | k + 1 => by
    rw [msk_or, Nat.testBit_or, msk_bit p i k]
    by_cases e : i = k
    · subst e
      cases h : p i <;> simp
    · have e' : ((if p k = true then 2 ^ k else 0 : Nat)).testBit i = false := by
        split
        · rw [Nat.testBit_two_pow]; simp; omega
        · simp
      rw [e', Bool.or_false]
      congr 1
      simp only [decide_eq_decide]
      omega
/-- The things of a set, and their places. -/
theorem nodup_thk (s k : Nat) : (thk s k).Nodup := by
  unfold thk
  refine List.Pairwise.map _ (fun a b h => ?_) (List.Pairwise.filter _ (List.nodup_range (n := k)))
  exact fun e => h (by omega)
theorem cnt_el {s a x : Nat} (ha : a < (thk s 9).length) (h : el (thk s 9) a = (x : Int)) : cnt s x = a := by
  obtain ⟨y, ey, hb, h9⟩ := thk_mem ha
  have : x = y := by rw [h] at ey; omega
  subst this
  have h1 := el_cnt hb 9 h9
  have h2 : cnt s x < (thk s 9).length := by rw [len_thk_cnt]; exact cnt_bit hb 9 h9
  rw [el_eq ha] at h
  rw [el_eq h2] at h1
  have hn := List.pairwise_iff_getElem.1 (nodup_thk s 9)
  rcases Nat.lt_trichotomy (cnt s x) a with hl | hl | hl
  · exact absurd (h1.trans h.symm) (hn _ _ h2 ha hl)
  · exact hl
  · exact absurd (h.trans h1.symm) (hn _ _ ha h2 hl)

/-- The first thing of a level; the products of levels. -/
def fl (T : List (List Int)) (v : Nat) : Nat := ((List.range T.length).find? fun a => num (inLev T) a == v).getD 0
def levM (T : List (List Int)) (u v : Nat) : Int := ((num (inLev T) (mul T ((fl T u : Nat) : Int) ((fl T v : Nat) : Int)).toNat : Nat) : Int)
noncomputable def levelT (T : List (List Int)) : List (List Int) := if bandT T = true then tabOf (nL T) (levM T) else []
section
variable {T : List (List Int)}
theorem fl_ok {v : Nat} (h : v < nL T) : fl T v < T.length ∧ num (inLev T) (fl T v) = v ∧ ∀ b, b < fl T v → num (inLev T) b ≠ v := by
  unfold fl
  cases e : (List.range T.length).find? (fun a => num (inLev T) a == v) with
  | none =>
    obtain ⟨a, ha, hv⟩ := num_reach (k := T.length) h
    have := List.find?_eq_none.1 e a (List.mem_range.2 ha)
    simp [hv] at this
  | some a =>
    rw [List.find?_range_eq_some] at e
    obtain ⟨e1, e2, e3⟩ := e
    refine ⟨by simpa using e2, by simpa using e1, fun b hb => ?_⟩
    have := e3 b (by simpa using hb)
    simpa using this
theorem num_ltL (h : bandT T = true) {a : Nat} (ha : a < T.length) : num (inLev T) a < nL T := (band_eqvL h).num_lt ha ha
theorem mul_nat (k : IsT T) {a b : Nat} (ha : a < T.length) (hb : b < T.length) : ∃ p : Nat, mul T (a : Int) (b : Int) = (p : Int) ∧ p < T.length := by
  obtain ⟨p0, p1⟩ := k.mul (x := (a : Nat)) (y := (b : Nat)) (by omega) (by omega) (by omega) (by omega)
  exact ⟨(mul T (a : Int) (b : Int)).toNat, by omega, by omega⟩
theorem levM_of (h : bandT T = true) {a b p : Nat} (ha : a < T.length) (hb : b < T.length) (hp : mul T (a : Int) (b : Int) = (p : Int)) : levM T (num (inLev T) a) (num (inLev T) b) = ((num (inLev T) p : Nat) : Int) := by
  have bd := bandT_iff.1 h
  have E := band_eqvL h
  have k := band_tab h
  obtain ⟨a1, a2, _⟩ := fl_ok (num_ltL h ha)
  obtain ⟨b1, b2, _⟩ := fl_ok (num_ltL h hb)
  obtain ⟨q, hq, q1⟩ := mul_nat k a1 b1
  obtain ⟨p', hp', p1⟩ := mul_nat k ha hb
  have : p = p' := by rw [hp] at hp'; omega
  subst this
  unfold levM
  rw [hq, Int.toNat_natCast]
  rw [E.num_eq q1 p1 (bd.lev_mul a1 ha b1 hb (E.num_ne a1 ha a2) (E.num_ne b1 hb b2) hq hp)]
theorem levM_lt (h : bandT T = true) {u v : Nat} (hu : u < nL T) (hv : v < nL T) : ∃ m : Nat, levM T u v = (m : Int) ∧ m < nL T := by
  have k := band_tab h
  obtain ⟨a1, _, _⟩ := fl_ok hu
  obtain ⟨b1, _, _⟩ := fl_ok hv
  obtain ⟨q, hq, q1⟩ := mul_nat k a1 b1
  refine ⟨num (inLev T) q, ?_, num_ltL h q1⟩
  unfold levM
  rw [hq, Int.toNat_natCast]
theorem nL_le (T : List (List Int)) : nL T ≤ T.length := ct_le _ _
theorem levelT_not (h : bandT T = false) : levelT T = [] := by unfold levelT; rw [if_neg (by rw [h]; exact Bool.false_ne_true)]
theorem levelT_ok (h : bandT T = true) : levelT T = tabOf (nL T) (levM T) := by unfold levelT; rw [if_pos h]
theorem len_levelT (h : bandT T = true) : (levelT T).length = nL T := by rw [levelT_ok h, len_tabOf]
theorem mul_levelT (h : bandT T = true) {u v : Nat} (hu : u < nL T) (hv : v < nL T) : mul (levelT T) (u : Int) (v : Int) = levM T u v := by
  rw [levelT_ok h]
  unfold mul
  rw [Int.toNat_natCast, Int.toNat_natCast, el_tabOf hu hv]
/-- The level of a product is the product of the levels. -/
theorem lev_prod (h : bandT T = true) {a b p : Nat} (ha : a < T.length) (hb : b < T.length) (hp : mul T (a : Int) (b : Int) = (p : Int)) : mul (levelT T) ((num (inLev T) a : Nat) : Int) ((num (inLev T) b : Nat) : Int) = ((num (inLev T) p : Nat) : Int) := by
  rw [mul_levelT h (num_ltL h ha) (num_ltL h hb), levM_of h ha hb hp]
theorem isT_levelT (h : bandT T = true) : IsT (levelT T) := by
  have hl := len_levelT h
  have k := band_tab h
  have h1 := nL_pos h
  have h2 := nL_le T
  have h9 := k.hi
  refine ⟨by rw [hl]; omega, by rw [hl]; omega, fun i hi => ?_, fun i j hi hj => ?_⟩
  · rw [hl] at hi ⊢
    rw [levelT_ok h, rowlen_tabOf hi]
  · rw [hl] at hi hj ⊢
    rw [levelT_ok h, el_tabOf hi hj]
    obtain ⟨m, e, hm⟩ := levM_lt h hi hj
    rw [e]; omega
theorem small_levelT : Small (levelT T) := by
  cases h : bandT T
  · rw [levelT_not h]; exact ⟨by simp, fun i hi => absurd hi (by simp)⟩
  · exact (isT_levelT h).small

end
end Go.Proofs.Ytnchipcpeeofaaa

namespace Go.Proofs.Ytnchipcpeeofaaa
set_option linter.unusedVariables false

/-- Whether a number is a thing's. -/
def inT (T : List (List Int)) (x : Int) : Bool := decide (0 ≤ x) && decide (x ≤ (T.length : Int) - 1)
theorem inT_iff {T : List (List Int)} {x : Int} : inT T x = true ↔ ∃ a : Nat, x = a ∧ a < T.length := by
  unfold inT
  rw [Bool.and_eq_true, decide_eq_true_iff, decide_eq_true_iff]
  exact ⟨fun h => ⟨x.toNat, by omega, by omega⟩, fun ⟨a, e, h⟩ => by omega⟩
/-- One thing below another one. -/
def blw (T : List (List Int)) (a b : Nat) : Bool := mul T (a : Int) (b : Int) == (a : Int) && mul T (b : Int) (a : Int) == (a : Int)
theorem blw_iff {T : List (List Int)} {a b : Nat} : blw T a b = true ↔ mul T (a : Int) (b : Int) = (a : Int) ∧ mul T (b : Int) (a : Int) = (a : Int) := by unfold blw; rw [Bool.and_eq_true, beq_iff_eq, beq_iff_eq]
def undB (T : List (List Int)) (a : Nat) : Nat := msk (fun b => blw T b a) T.length
noncomputable def underS (T : List (List Int)) (x : Int) : Int := if (bandT T && inT T x) = true then ((undB T x.toNat : Nat) : Int) else -1
section
variable {T : List (List Int)}
theorem underS_not {x : Int} (h : (bandT T && inT T x) = false) : underS T x = -1 := by unfold underS; rw [h]; rfl
theorem can1 {x : Int} : (bandT T && inT T x) = true ↔ bandT T = true ∧ ∃ a : Nat, x = a ∧ a < T.length := by rw [Bool.and_eq_true, inT_iff]
theorem underS_of (h : bandT T = true) {a : Nat} (ha : a < T.length) : underS T a = ((undB T a : Nat) : Int) := by
  unfold underS; rw [if_pos (can1.2 ⟨h, a, rfl, ha⟩), Int.toNat_natCast]
theorem IsB.blw_weak (bd : IsB T) {a b : Nat} (ha : a < T.length) (hb : b < T.length) (h : blw T a b = true) : mul T (mul T (a : Int) (b : Int)) (a : Int) = (a : Int) := by
  rw [(blw_iff.1 h).1]; exact bd.ss (th_nat ha)
/-- What is pushed into a thing. -/
theorem IsB.push_below (bd : IsB T) {a b n : Nat} (ha : a < T.length) (hb : b < T.length) (hn : mul T (mul T (a : Int) (b : Int)) (a : Int) = (n : Int)) : blw T n a = true := by
  have ta := th_nat (T := T) ha
  have tb := th_nat (T := T) hb
  have tab := bd.th ta tb
  refine blw_iff.2 ⟨?_, ?_⟩
  · rw [← hn, bd.as tab ta ta, bd.ss ta]
  · rw [← hn, ← bd.as ta tab ta, ← bd.as ta ta tb, bd.ss ta]
theorem meet_push (h : meetT T = true) {a b : Nat} (ha : a < T.length) (hb : b < T.length) : mul T (mul T (a : Int) (b : Int)) (a : Int) = mul T (a : Int) (b : Int) := by
  obtain ⟨bd, hc⟩ := meetT_iff.1 h
  have ta := th_nat (T := T) ha
  have tb := th_nat (T := T) hb
  have tab := bd.th ta tb
  rw [hc _ _ tab.1 tab.2 ta.1 ta.2, ← bd.as ta ta tb, bd.ss ta]
/-- What is under a thing. -/
theorem undB_bit {a b : Nat} : (undB T a).testBit b = true ↔ b < T.length ∧ blw T b a = true := by
  unfold undB
  rw [msk_bit, Bool.and_eq_true, decide_eq_true_iff]
theorem undB_lt (a : Nat) : undB T a < 2 ^ T.length := msk_lt _ _
end
end Go.Proofs.Ytnchipcpeeofaaa

namespace Go.Proofs.Ytnchipcpeeofaaa
set_option linter.unusedVariables false

/-- A row that tells for each thing of a table a thing of another one. -/
def mapB (T U : List (List Int)) (f : List Int) : Bool := okRow U.length f && (okT T && (okT U && decide (f.length = T.length)))
structure IsM (T U : List (List Int)) (f : List Int) : Prop where
  t : IsT T
  u : IsT U
  len : f.length = T.length
  cell : ∀ j, j < T.length → 0 ≤ el f j ∧ el f j < U.length
section
variable {T U : List (List Int)} {f : List Int}
theorem mapB_iff : mapB T U f = true ↔ IsM T U f := by
  unfold mapB
  rw [Bool.and_eq_true, Bool.and_eq_true, Bool.and_eq_true, decide_eq_true_iff, okT_iff, okT_iff, okRow_iff]
  exact ⟨fun ⟨h1, h2, h3, h4⟩ => ⟨h2, h3, h4, fun j hj => h1 j (by omega)⟩, fun h => ⟨fun j hj => h.cell j (by rw [← h.len]; exact hj), h.t, h.u, h.len⟩⟩
theorem IsM.nat (h : IsM T U f) {a : Nat} (ha : a < T.length) : ∃ x : Nat, el f a = (x : Int) ∧ x < U.length := by
  obtain ⟨h0, h1⟩ := h.cell a ha
  exact ⟨(el f a).toNat, by omega, by omega⟩
/-- All to one thing; each to itself. -/
def sameL (n : Nat) (x : Int) : List Int := List.replicate n x
def ownL (n : Nat) : List Int := (List.range n).map fun k : Nat => (k : Int)
theorem len_sameL (n : Nat) (x : Int) : (sameL n x).length = n := List.length_replicate
theorem len_ownL (n : Nat) : (ownL n).length = n := by simp [ownL]
theorem el_sameL {n j : Nat} {x : Int} (h : j < n) : el (sameL n x) j = x := by simp [sameL, el, List.getD, h]
theorem el_ownL {n j : Nat} (h : j < n) : el (ownL n) j = (j : Int) := by simp [ownL, el, List.getD, h]
theorem ownL_succ (n : Nat) : ownL n ++ [(n : Int)] = ownL (n + 1) := by simp [ownL, List.range_succ]
theorem isM_same (kt : IsT T) (ku : IsT U) {x : Nat} (hx : x < U.length) : IsM T U (sameL T.length x) := ⟨kt, ku, len_sameL _ _, fun j hj => by rw [el_sameL hj]; omega⟩
theorem isM_own (kt : IsT T) : IsM T T (ownL T.length) := ⟨kt, kt, len_ownL _, fun j hj => by rw [el_ownL hj]; omega⟩
/-- Whether the product of two things is led to the product. -/
def keepAt (T U : List (List Int)) (f : List Int) (a b : Nat) : Bool := el f (mul T (a : Int) (b : Int)).toNat == mul U (el f a) (el f b)
def keepB (T U : List (List Int)) (f : List Int) : Bool := mapB T U f && allRR T.length (keepAt T U f)
structure IsK (T U : List (List Int)) (f : List Int) : Prop extends IsM T U f where
  keep : ∀ a b p : Nat, a < T.length → b < T.length → mul T (a : Int) (b : Int) = (p : Int) → el f p = mul U (el f a) (el f b)
theorem keepB_iff : keepB T U f = true ↔ IsK T U f := by
  unfold keepB
  rw [Bool.and_eq_true, mapB_iff, allRR_iff]
  constructor
  · rintro ⟨h, hk⟩
    refine ⟨h, fun a b p ha hb hp => ?_⟩
    have := hk a b ha hb
    unfold keepAt at this
    rw [hp, Int.toNat_natCast] at this
    exact beq_iff_eq.1 this
  · intro h
    refine ⟨h.toIsM, fun a b ha hb => ?_⟩
    obtain ⟨p, hp, p1⟩ := mul_nat h.t ha hb
    unfold keepAt
    rw [hp, Int.toNat_natCast, beq_iff_eq]
    exact h.keep a b p ha hb hp
theorem keepB_not (h : mapB T U f = false) : keepB T U f = false := by unfold keepB; rw [h]; rfl
/-- In numbers. -/
theorem IsK.nat (h : IsK T U f) {a b p x y : Nat} (ha : a < T.length) (hb : b < T.length) (hp : mul T (a : Int) (b : Int) = (p : Int)) (hx : el f a = (x : Int)) (hy : el f b = (y : Int)) : el f p = mul U (x : Int) (y : Int) := by
  rw [h.keep a b p ha hb hp, hx, hy]
/-- Levels are led within levels. -/
theorem IsK.lev (h : IsK T U f) {a b x y : Nat} (ha : a < T.length) (hb : b < T.length) (hx : el f a = (x : Int)) (hy : el f b = (y : Int)) (hl : inLev T a b = true) : inLev U x y = true := by
  have half : ∀ {a b x y : Nat}, a < T.length → b < T.length → el f a = (x : Int) → el f b = (y : Int) → leJ T (a : Int) (b : Int) → leJ U (x : Int) (y : Int) := by
    intro a b x y ha hb hx hy hj
    unfold leJ at hj ⊢
    obtain ⟨p, hp, p1⟩ := mul_nat h.t ha hb
    rw [hp] at hj
    obtain ⟨z, hz, z1⟩ := h.toIsM.nat p1
    have e1 := h.nat ha hb hp hx hy
    have e2 := h.nat p1 ha hj hz hx
    rw [hz] at e1
    rw [hx] at e2
    rw [← e1, ← e2]
  obtain ⟨h1, h2⟩ := inLev_iff.1 hl
  exact inLev_iff.2 ⟨half ha hb hx hy h1, half hb ha hy hx h2⟩
/-- Things to their levels. -/
theorem keep_levs (hb : bandT T = true) : keepB T (levelT T) (levsL T) = true := keepB_iff.2 ⟨⟨band_tab hb, isT_levelT hb, len_levsL hb, fun j hj => by
    rw [el_levsL hb hj, len_levelT hb]
    have := num_ltL hb hj
    omega⟩, fun a b p ha hb' hp => by
    obtain ⟨p', hp', p1⟩ := mul_nat (band_tab hb) ha hb'
    have : p = p' := by rw [hp] at hp'; omega
    subst this
    rw [el_levsL hb ha, el_levsL hb hb', el_levsL hb p1, lev_prod hb ha hb' hp]⟩
/-- All to one thing that is its own square. -/
theorem keep_same (kt : IsT T) (ku : IsT U) {x : Nat} (hx : x < U.length) (hs : mul U (x : Int) (x : Int) = (x : Int)) : keepB T U (sameL T.length x) = true := keepB_iff.2 ⟨isM_same kt ku hx, fun a b p ha hb hp => by
    obtain ⟨p', hp', p1⟩ := mul_nat kt ha hb
    have : p = p' := by rw [hp] at hp'; omega
    subst this
    rw [el_sameL ha, el_sameL hb, el_sameL p1, hs]⟩
theorem keep_zero (kt : IsT T) (hb : bandT U = true) : keepB T U (sameL T.length 0) = true := keep_same (x := 0) kt (band_tab hb) (band_tab hb).lo ((bandT_iff.1 hb).ss (th_nat (a := 0) (band_tab hb).lo))
theorem map_zero (kt : IsT T) (ku : IsT U) : mapB T U (sameL T.length 0) = true := mapB_iff.2 (isM_same (x := 0) kt ku ku.lo)
theorem map_own (kt : IsT T) : mapB T T (ownL T.length) = true := mapB_iff.2 (isM_own kt)
end
/-- What is reached. -/
def reachB (f : List Int) : Nat → Nat
  | 0 => 0
  | k + 1 => reachB f k ||| 2 ^ (el f k).toNat
def reachS (T U : List (List Int)) (f : List Int) : Int := if mapB T U f = true then ((reachB f f.length : Nat) : Int) else -1
section
variable {T U : List (List Int)} {f : List Int}
theorem reachS_not (h : mapB T U f = false) : reachS T U f = -1 := by unfold reachS; rw [if_neg (by rw [h]; exact Bool.false_ne_true)]
theorem reachS_ok (h : mapB T U f = true) : reachS T U f = ((reachB f f.length : Nat) : Int) := by unfold reachS; rw [if_pos h]
theorem reachB_bit (f : List Int) (x : Nat) : ∀ k, (reachB f k).testBit x = true ↔ ∃ a, a < k ∧ (el f a).toNat = x
  | 0 => by simp [reachB]
  | k + 1 => by
    unfold reachB
    rw [Nat.testBit_or, Bool.or_eq_true, reachB_bit f x k, Nat.testBit_two_pow, decide_eq_true_iff]
    constructor
    · rintro (⟨a, ha, e⟩ | e)
      · exact ⟨a, by omega, e⟩
      · exact ⟨k, by omega, e⟩
    · rintro ⟨a, ha, e⟩
      by_cases h : a = k
      · subst h; exact .inr e
      · exact .inl ⟨a, by omega, e⟩
theorem reachB_lt (h : IsM T U f) : ∀ k, k ≤ T.length → reachB f k < 2 ^ U.length
  | 0, _ => Nat.two_pow_pos _
  | k + 1, hk => Nat.or_lt_two_pow (reachB_lt h k (by omega)) (Nat.pow_lt_pow_right (by omega) (by have := h.cell k (by omega); omega))
theorem IsM.bit (h : IsM T U f) {x : Nat} : (reachB f f.length).testBit x = true ↔ ∃ a, a < T.length ∧ el f a = (x : Int) := by
  rw [reachB_bit, h.len]
  constructor
  · rintro ⟨a, ha, e⟩
    have := h.cell a ha
    exact ⟨a, ha, by omega⟩
  · rintro ⟨a, ha, e⟩
    exact ⟨a, ha, by omega⟩
theorem reach_pos (h : IsM T U f) : 1 ≤ reachB f f.length := by
  obtain ⟨x, hx, _⟩ := h.nat (a := 0) h.t.lo
  have hb := h.bit.2 ⟨0, h.t.lo, hx⟩
  rcases Nat.eq_zero_or_pos (reachB f f.length) with e | e
  · rw [e] at hb; simp at hb
  · exact e
theorem reach_lt (h : IsM T U f) : reachB f f.length < 2 ^ U.length := reachB_lt h _ (Nat.le_of_eq h.len)
theorem reach_clos (h : IsK T U f) : Clos U (reachB f f.length) := fun x y hx hy => by
  obtain ⟨a, ha, ea⟩ := h.toIsM.bit.1 hx
  obtain ⟨b, hb, eb⟩ := h.toIsM.bit.1 hy
  obtain ⟨p, hp, p1⟩ := mul_nat h.t ha hb
  have e := h.nat ha hb hp ea eb
  obtain ⟨z, hz, z1⟩ := h.toIsM.nat p1
  rw [← e, hz, Int.toNat_natCast]
  exact h.toIsM.bit.2 ⟨p, p1, hz⟩
theorem reach_isP (h : IsK T U f) : IsP U (reachB f f.length) := ⟨reach_pos h.toIsM, okT_iff.2 h.u, reach_lt h.toIsM, reach_clos h⟩
theorem reach_made (h : IsK T U f) : madeT U ((reachB f f.length : Nat) : Int) = ((reachB f f.length : Nat) : Int) := (reach_isP h).made
/-- A part whose things are their own squares is a band. -/
theorem part_band {n : Nat} (hP : IsP T n) (g : IsG T) (hs : ∀ x : Nat, n.testBit x = true → mul T (x : Int) (x : Int) = (x : Int)) : bandT (partT T n) = true := by
  refine bandT_iff.2 ⟨isG_part hP g, fun x x0 x1 => ?_⟩
  rw [len_part hP] at x1
  obtain ⟨a, rfl⟩ : ∃ a : Nat, x = a := ⟨x.toNat, by omega⟩
  have ha : a < (thk n 9).length := by omega
  obtain ⟨p, q, r, e1, e2, e3, b1, _, _, p1, _, _, m1, _, _⟩ := hP.prod ha ha
  have : p = q := by rw [e1] at e2; omega
  subst this
  rw [hs p b1] at e3
  have : p = r := by omega
  subst this
  rw [mul_part hP ha ha, m1, cnt_el ha e1]
theorem reach_band (h : IsK T U f) (hb : bandT T = true) (hg : grpT U = true) : bandT (partT U ((reachB f f.length : Nat) : Int)) = true := part_band (reach_isP h) (grpT_iff.1 hg) fun x hx => by
  obtain ⟨a, ha, ea⟩ := h.toIsM.bit.1 hx
  have := h.nat ha ha ((bandT_iff.1 hb).ss (th_nat ha)) ea ea
  rw [← this, ea]
end
/-- The k-th map of n things to m things: its numbers are the digits of k, the lowest one first. -/
def digL (m n k : Nat) : List Int := (List.range n).map fun j => ((k / m ^ j % m : Nat) : Int)
def cn (p : Nat → Bool) : Nat → Nat
  | 0 => 0
  | k + 1 => cn p k + (if p k = true then 1 else 0)
def canC (T U : List (List Int)) : Bool := okT T && (okT U && (decide (T.length ≤ 4) && decide (U.length ≤ 4)))
def keepN (T U : List (List Int)) (k : Nat) : Nat := cn (fun x => keepB T U (digL U.length T.length x)) k
def countK (T U : List (List Int)) : Int := if canC T U = true then ((keepN T U (U.length ^ T.length) : Nat) : Int) else -1
section
variable {T U : List (List Int)} {m n k : Nat}
theorem canC_iff : canC T U = true ↔ IsT T ∧ IsT U ∧ T.length ≤ 4 ∧ U.length ≤ 4 := by
  unfold canC
  rw [Bool.and_eq_true, Bool.and_eq_true, Bool.and_eq_true, decide_eq_true_iff, decide_eq_true_iff, okT_iff, okT_iff]
theorem countK_not (h : canC T U = false) : countK T U = -1 := by unfold countK; rw [if_neg (by rw [h]; exact Bool.false_ne_true)]
theorem countK_ok (h : canC T U = true) : countK T U = ((keepN T U (U.length ^ T.length) : Nat) : Int) := by unfold countK; rw [if_pos h]
theorem len_digL : (digL m n k).length = n := by simp [digL]
theorem el_digL {j : Nat} (h : j < n) : el (digL m n k) j = ((k / m ^ j % m : Nat) : Int) := by simp [digL, el, List.getD, h]
theorem digL_succ (m n k : Nat) : digL m n k ++ [((k / m ^ n % m : Nat) : Int)] = digL m (n + 1) k := by simp [digL, List.range_succ]
theorem cn_le (p : Nat → Bool) : ∀ k, cn p k ≤ k
  | 0 => Nat.le_refl _
  | k + 1 => by
    have := cn_le p k
    unfold cn
    split <;> omega
theorem cn_all {p : Nat → Bool} : ∀ {k : Nat}, (∀ x, x < k → p x = true) → cn p k = k
  | 0, _ => rfl
  | k + 1, h => by
    unfold cn
    rw [cn_all fun x hx => h x (by omega), if_pos (h k (by omega))]
theorem cn_congr {p q : Nat → Bool} : ∀ {k : Nat}, (∀ x, x < k → p x = q x) → cn p k = cn q k
  | 0, _ => rfl
  | k + 1, h => by
    unfold cn
    rw [cn_congr fun x hx => h x (by omega), h k (by omega)]
theorem pow_le4 (hm : m ≤ 4) (hn : n ≤ 4) : m ^ n ≤ 256 := by
  have h1 : m ^ n ≤ 4 ^ n := Nat.pow_le_pow_left hm n
  have h2 : 4 ^ n ≤ 4 ^ 4 := Nat.pow_le_pow_right (by omega) hn
  omega
theorem isM_dig (kt : IsT T) (ku : IsT U) (x : Nat) : IsM T U (digL U.length T.length x) := ⟨kt, ku, len_digL, fun j hj => by
  rw [el_digL hj]
  have := Nat.mod_lt (x / U.length ^ j) (show 0 < U.length from ku.lo)
  omega⟩
theorem keepN_le (k : Nat) : keepN T U k ≤ k := cn_le _ _
/-- Between one-sided bands each map is one. -/
theorem first_keep (ht : firstT T = true) (hu : firstT U = true) (x : Nat) : keepB T U (digL U.length T.length x) = true := by
  obtain ⟨bt, ft⟩ := firstT_iff.1 ht
  obtain ⟨bu, fu⟩ := firstT_iff.1 hu
  have M := isM_dig bt.g.tab bu.g.tab x
  refine keepB_iff.2 ⟨M, fun a b p ha hb hp => ?_⟩
  rw [ft a b (by omega) (by omega) (by omega) (by omega)] at hp
  have : a = p := by omega
  subst this
  obtain ⟨a0, a1⟩ := M.cell a ha
  obtain ⟨b0, b1⟩ := M.cell b hb
  rw [fu _ _ a0 a1 b0 b1]
theorem first_count (ht : firstT T = true) (hu : firstT U = true) (k : Nat) : keepN T U k = k := cn_all fun x _ => first_keep ht hu x
theorem isT_one : IsT [[0]] := okT_iff.1 (by decide)
/-- To the table of one thing there is one map. -/
theorem to_one (kt : IsT T) : keepN T [[0]] (([[0]] : List (List Int)).length ^ T.length) = 1 := by
  have e : ([[0]] : List (List Int)).length ^ T.length = 1 := by simp
  rw [e]
  show cn _ 1 = 1
  refine cn_all fun x hx => ?_
  have e2 : digL ([[0]] : List (List Int)).length T.length x = sameL T.length ((0 : Nat) : Int) := by
    refine List.ext_getElem (by rw [len_digL, len_sameL]) fun j h1 h2 => ?_
    rw [← el_eq h1, ← el_eq h2]
    rw [len_digL] at h1
    rw [el_digL h1, el_sameL h1]
    simp [Nat.mod_one]
  rw [e2]
  exact keep_same kt isT_one (by simp) (by decide)
/-- Of it there are as many as things that are their own squares. -/
theorem of_one (ku : IsT U) : keepN [[0]] U (U.length ^ ([[0]] : List (List Int)).length) = cn (fun x => mul U (x : Int) (x : Int) == (x : Int)) U.length := by
  have e : U.length ^ ([[0]] : List (List Int)).length = U.length := by simp
  rw [e]
  refine cn_congr fun x hx => ?_
  have M := isM_dig isT_one ku x
  have e0 : el (digL U.length ([[0]] : List (List Int)).length x) 0 = (x : Int) := by
    rw [el_digL (by simp)]
    simp [Nat.mod_eq_of_lt hx]
  rw [Bool.eq_iff_iff, keepB_iff, beq_iff_eq]
  constructor
  · intro h
    have := h.keep 0 0 0 (by simp) (by simp) (by decide)
    rw [e0] at this
    exact this.symm
  · intro h
    refine ⟨M, fun a b p ha hb hp => ?_⟩
    have a0 : a = 0 := by simp at ha; exact ha
    have b0 : b = 0 := by simp at hb; exact hb
    subst a0 b0
    have p0 : p = 0 := by
      have : mul [[0]] ((0 : Nat) : Int) ((0 : Nat) : Int) = 0 := by decide
      rw [this] at hp; omega
    subst p0
    rw [e0, h]
end
/-- What is pushed into a thing. -/
noncomputable def pushL (T : List (List Int)) (x : Int) : List Int := if (bandT T && inT T x) = true then (List.range T.length).map fun b : Nat => mul T (mul T x (b : Int)) x else []
section
variable {T : List (List Int)} {a b : Nat}
theorem pushL_not {x : Int} (h : (bandT T && inT T x) = false) : pushL T x = [] := by unfold pushL; rw [if_neg (by rw [h]; exact Bool.false_ne_true)]
theorem pushL_ok (h : bandT T = true) (ha : a < T.length) : pushL T a = (List.range T.length).map fun b : Nat => mul T (mul T (a : Int) (b : Int)) (a : Int) := by
  unfold pushL
  rw [if_pos (can1.2 ⟨h, a, rfl, ha⟩)]
theorem len_pushL (h : bandT T = true) (ha : a < T.length) : (pushL T a).length = T.length := by rw [pushL_ok h ha]; simp
theorem el_pushL (h : bandT T = true) (ha : a < T.length) (hb : b < T.length) : el (pushL T a) b = mul T (mul T (a : Int) (b : Int)) (a : Int) := by rw [pushL_ok h ha]; simp [el, List.getD, hb]
theorem len_pushL_le (T : List (List Int)) (x : Int) : (pushL T x).length ≤ 1048576 := by
  cases h : (bandT T && inT T x)
  · rw [pushL_not h]; simp
  · obtain ⟨hb, a, rfl, ha⟩ := can1.1 h
    rw [len_pushL hb ha]
    have := (band_tab hb).hi
    omega
/-- What is pushed, in numbers: it is under the thing; what is under it stays. -/
theorem push_nat (h : bandT T = true) (ha : a < T.length) (hb : b < T.length) : ∃ p : Nat, el (pushL T a) b = (p : Int) ∧ p < T.length ∧ (undB T a).testBit p = true := by
  have bd := bandT_iff.1 h
  obtain ⟨q, hq, q1⟩ := mul_nat bd.g.tab ha hb
  obtain ⟨p, hp, p1⟩ := mul_nat bd.g.tab q1 ha
  have e : mul T (mul T (a : Int) (b : Int)) (a : Int) = (p : Int) := by rw [hq, hp]
  exact ⟨p, by rw [el_pushL h ha hb, e], p1, undB_bit.2 ⟨p1, bd.push_below ha hb e⟩⟩
theorem push_stays (h : bandT T = true) (ha : a < T.length) (hb : (undB T a).testBit b = true) : el (pushL T a) b = (b : Int) := by
  obtain ⟨b1, hl⟩ := undB_bit.1 hb
  obtain ⟨e1, e2⟩ := blw_iff.1 hl
  rw [el_pushL h ha b1, e2, e1]
theorem push_map (h : bandT T = true) (ha : a < T.length) : mapB T T (pushL T a) = true := mapB_iff.2 ⟨band_tab h, band_tab h, len_pushL h ha, fun j hj => by
  obtain ⟨p, e, p1, _⟩ := push_nat h ha hj
  rw [e]; omega⟩
theorem push_reach (h : bandT T = true) (ha : a < T.length) : reachS T T (pushL T a) = ((undB T a : Nat) : Int) := by
  have M := mapB_iff.1 (push_map h ha)
  rw [reachS_ok (push_map h ha)]
  congr 1
  apply Nat.eq_of_testBit_eq
  intro x
  rw [Bool.eq_iff_iff, M.bit]
  constructor
  · rintro ⟨b, hb, e⟩
    obtain ⟨p, e2, _, hu⟩ := push_nat h ha hb
    have : x = p := by rw [e] at e2; omega
    rw [this]; exact hu
  · intro hx
    exact ⟨x, (undB_bit.1 hx).1, push_stays h ha hx⟩
/-- In a meeting products are kept. -/
theorem push_keep (h : meetT T = true) (ha : a < T.length) : keepB T T (pushL T a) = true := by
  obtain ⟨bd, hc⟩ := meetT_iff.1 h
  have hb : bandT T = true := bandT_iff.2 bd
  refine keepB_iff.2 ⟨mapB_iff.1 (push_map hb ha), fun b c p hb' hc' hp => ?_⟩
  obtain ⟨p', hp', p1⟩ := mul_nat bd.g.tab hb' hc'
  have : p = p' := by rw [hp] at hp'; omega
  subst this
  have ta := th_nat (T := T) ha
  have tb := th_nat (T := T) hb'
  have tc := th_nat (T := T) hc'
  have tab := bd.th ta tb
  rw [el_pushL hb ha hb', el_pushL hb ha hc', el_pushL hb ha p1, meet_push h ha hb', meet_push h ha hc', meet_push h ha p1, ← hp]
  rw [bd.as ta tb (bd.th ta tc), ← bd.as tb ta tc, hc _ _ tb.1 tb.2 ta.1 ta.2, bd.as ta tb tc, ← bd.as ta ta (bd.th tb tc), bd.ss ta]
end
end Go.Proofs.Ytnchipcpeeofaaa

namespace Go.Proofs.Ytnchipcpeeofaaa
set_option linter.unusedVariables false

/-- One thing strictly below another one. -/
def sbl (T : List (List Int)) (a b : Nat) : Bool := (a != b) && blw T a b
/-- There are k things, each strictly below the next one, the last one strictly below a. -/
def HasH (T : List (List Int)) : Nat → Nat → Prop
  | 0, _ => True
  | k + 1, a => ∃ b, b < T.length ∧ sbl T b a = true ∧ HasH T k b
structure IsHi (T : List (List Int)) (v : Nat) : Prop where
  one : 1 ≤ v
  has : ∃ a, a < T.length ∧ HasH T (v - 1) a
  most : ∀ a k, a < T.length → HasH T k a → k + 1 ≤ v
theorem IsHi.unique {T : List (List Int)} {v v' : Nat} (h : IsHi T v) (h' : IsHi T v') : v = v' := by
  obtain ⟨a, ha, hh⟩ := h.has
  obtain ⟨a', ha', hh'⟩ := h'.has
  have h1 := h'.most a _ ha hh
  have h2 := h.most a' _ ha' hh'
  have := h.one
  have := h'.one
  omega
section
variable {T : List (List Int)}
theorem sbl_iff {a b : Nat} : sbl T a b = true ↔ a ≠ b ∧ blw T a b = true := by unfold sbl; rw [Bool.and_eq_true, bne_iff_ne]
/-- Strictly below is below of levels, strictly. -/
theorem IsB.sbl_lev (bd : IsB T) {a b : Nat} (ha : a < T.length) (hb : b < T.length) (h : sbl T a b = true) : leJ T a b ∧ ¬ leJ T b a := by
  obtain ⟨hne, hbl⟩ := sbl_iff.1 h
  obtain ⟨e1, e2⟩ := blw_iff.1 hbl
  refine ⟨bd.blw_weak ha hb hbl, fun e => hne ?_⟩
  unfold leJ at e
  rw [e2, e1] at e
  omega
theorem chain (bd : IsB T) : ∀ {k a : Nat}, a < T.length → HasH T k a → ∃ c : Nat → Nat, c k = a ∧ (∀ i, i ≤ k → c i < T.length) ∧ ∀ i, i < k → sbl T (c i) (c (i + 1)) = true
  | 0, a, ha, _ => ⟨fun _ => a, rfl, fun _ _ => ha, fun i hi => absurd hi (Nat.not_lt_zero _)⟩
  | k + 1, a, ha, h => by
    obtain ⟨b, hb, hs, hh⟩ := h
    obtain ⟨c, e, h1, h2⟩ := chain bd hb hh
    refine ⟨fun i => if i ≤ k then c i else a, by simp only [show ¬ (k + 1 ≤ k) by omega, if_false], fun i hi => ?_, fun i hi => ?_⟩
    · by_cases e' : i ≤ k
      · simp only [e', if_true]; exact h1 i e'
      · simp only [e', if_false]; exact ha
    · have hi' : i ≤ k := by omega
      simp only [hi', if_true]
      by_cases e' : i + 1 ≤ k
      · simp only [e', if_true]; exact h2 i (by omega)
      · simp only [e', if_false]
        have : i = k := by omega
        subst this
        rw [e]; exact hs
/-- At most as high as levels. -/
theorem HasH.le (h : bandT T = true) {k a : Nat} (ha : a < T.length) (hh : HasH T k a) : k + 1 ≤ nL T := by
  have bd := bandT_iff.1 h
  have E := band_eqvL h
  obtain ⟨c, _, h1, h2⟩ := chain bd ha hh
  have up : ∀ d i, i + d ≤ k → leJ T (c i) (c (i + d)) := fun d => by
    induction d with
    | zero =>
      intro i hi
      have := E.refl (c i) (h1 i (by omega))
      exact (inLev_iff.1 this).1
    | succ d ih =>
      intro i hi
      exact bd.le_trans (th_nat (h1 i (by omega))) (th_nat (h1 (i + d) (by omega))) (th_nat (h1 (i + d + 1) (by omega))) (ih i (by omega)) (bd.sbl_lev (h1 (i + d) (by omega)) (h1 (i + d + 1) (by omega)) (h2 (i + d) (by omega))).1
  have ne : ∀ i j, i < j → j ≤ k → num (inLev T) (c i) ≠ num (inLev T) (c j) := fun i j hij hj e => by
    have hl := (inLev_iff.1 (E.num_ne (h1 i (by omega)) (h1 j hj) e)).2
    have h3 := up (j - (i + 1)) (i + 1) (by omega)
    rw [show i + 1 + (j - (i + 1)) = j by omega] at h3
    exact (bd.sbl_lev (h1 i (by omega)) (h1 (i + 1) (by omega)) (h2 i (by omega))).2 (bd.le_trans (th_nat (h1 (i + 1) (by omega))) (th_nat (h1 j hj)) (th_nat (h1 i (by omega))) h3 hl)
  refine pigeon (nL T) (k + 1) (fun i => num (inLev T) (c i)) (fun i hi => num_ltL h (h1 i (by omega))) fun i j hi hj e => ?_
  rcases Nat.lt_trichotomy i j with hl | hl | hl
  · exact absurd e (ne i j hl (by omega))
  · exact hl
  · exact absurd e.symm (ne j i hl (by omega))
theorem IsHi.levels (h : bandT T = true) {v : Nat} (hv : IsHi T v) : v ≤ nL T := by
  obtain ⟨a, ha, hh⟩ := hv.has
  have := hh.le h ha
  have := hv.one
  omega
end
end Go.Proofs.Ytnchipcpeeofaaa
