/-  -/
import Derived.Test.YthllbekoidogpaaFill
import Derived.Test.YthllbekoidogpaaGrp
import Derived.Test.YthllbekoidogpaaSgrp
import Derived.Test.YthllbekoidogpaaTab
namespace Go.Proofs.Ythllbekoidogpaa
open Go.RowKit
set_option linter.unusedVariables false


theorem bits_i64 {a b : Nat} (ha : a < 1024) (hb : b < 1024) : bits .and .i64 (a : Int) (b : Int) = ((a &&& b : Nat) : Int) ∧ bits .or .i64 (a : Int) (b : Int) = ((a ||| b : Nat) : Int) :=
  bits_nat .i64 10 (by decide) (fun n h0 h1 => IntWalk.i64_in _ ⟨by omega, by omega⟩) a b ha hb
theorem pow_le9 {p : Nat} (hp : p ≤ 9) : 1 ≤ 2 ^ p ∧ 2 ^ p ≤ 512 := ⟨Nat.one_le_two_pow, by have : 2 ^ p ≤ 2 ^ 9 := Nat.pow_le_pow_right (by omega) hp; omega⟩
theorem pow_int {p : Nat} (hp : p ≤ 9) : (1 : Int) ≤ (2 : Int) ^ p ∧ (2 : Int) ^ p ≤ 512 := by
  have h := pow_le9 hp
  have e : (2 : Int) ^ p = ((2 ^ p : Nat) : Int) := by simp
  rw [e]; omega
theorem and_two (s p : Nat) : s &&& 2 ^ p = if s.testBit p = true then 2 ^ p else 0 := by
  apply Nat.eq_of_testBit_eq
  intro i
  rw [Nat.testBit_and, Nat.testBit_two_pow]
  by_cases e : p = i
  · subst e
    cases h : s.testBit p <;> simp
  · have e2 : ((if s.testBit p = true then 2 ^ p else 0) : Nat).testBit i = false := by
      split
      · rw [Nat.testBit_two_pow]; simp [e]
      · simp
    rw [e2]; simp [e]
theorem and_pow {s p : Nat} (hs : s < 1024) (hp : p ≤ 9) : bits .and .i64 (s : Int) ((2 : Int) ^ p) = if s.testBit p = true then (2 : Int) ^ p else 0 := by
  have h := pow_le9 hp
  have e : (2 : Int) ^ p = ((2 ^ p : Nat) : Int) := by simp
  rw [e, (bits_i64 hs (by omega)).1, and_two]
  cases s.testBit p <;> simp
theorem or_pow {s p : Nat} (hs : s < 1024) (hp : p ≤ 9) : bits .or .i64 (s : Int) ((2 : Int) ^ p) = ((s ||| 2 ^ p : Nat) : Int) := by
  have h := pow_le9 hp
  have e : (2 : Int) ^ p = ((2 ^ p : Nat) : Int) := by simp
  rw [e, (bits_i64 hs (by omega)).2]

/-- The things of a set, below k. -/
def thk (s k : Nat) : List Int := List.map (fun p : Nat => (p : Int)) ((List.range k).filter fun p => s.testBit p)
theorem thk_succ (s k : Nat) : thk s (k + 1) = thk s k ++ (if s.testBit k = true then [(k : Int)] else []) := by
  unfold thk
  rw [List.range_succ, List.filter_append, List.map_append]
  by_cases h : s.testBit k = true <;> simp [h]
theorem len_thk (s k : Nat) : (thk s k).length ≤ k := by
  unfold thk
  rw [List.length_map]
  have := List.length_filter_le (fun p => s.testBit p) (List.range k)
  simpa using this

/-- A call that returns a new row. -/
def NewRow (w : World) (xs : List Int) (e : Ending) (w' : World) : Prop := ∃ A c, e = .returned (.slice A xs.length c) ∧ Below w.heap.size w w' ∧ Row w' w.heap.size w'.heap.size A xs ∧ xs.length ≤ c ∧ c ≤ 9223372036854775807
end Go.Proofs.Ythllbekoidogpaa

namespace Go.Proofs.Ythllbekoidogpaa
open Go.RowKit
set_option linter.unusedVariables false


theorem bit_lt {s n a : Nat} (hs : s < 2 ^ n) (h : s.testBit a = true) : a < n := by
  rcases Nat.lt_or_ge a n with h1 | h1
  · exact h1
  · have : s.testBit a = false := Nat.testBit_lt_two_pow (Nat.lt_of_lt_of_le hs (Nat.pow_le_pow_right (by omega) h1))
    rw [h] at this; cases this
theorem thk_mem {s : Nat} {j : Nat} (hj : j < (thk s 9).length) : ∃ a : Nat, el (thk s 9) j = (a : Int) ∧ s.testBit a = true ∧ a < 9 := by
  rw [el_eq hj]
  have := List.getElem_mem hj
  unfold thk at this ⊢
  rw [List.mem_map] at this
  obtain ⟨a, ha, e⟩ := this
  rw [List.mem_filter, List.mem_range] at ha
  exact ⟨a, e.symm, ha.2, ha.1⟩
theorem thk_of {s a : Nat} (h : s.testBit a = true) (h9 : a < 9) : ∃ j, j < (thk s 9).length ∧ el (thk s 9) j = (a : Int) := by
  have : (a : Int) ∈ thk s 9 := by
    unfold thk
    rw [List.mem_map]
    exact ⟨a, by rw [List.mem_filter, List.mem_range]; exact ⟨h9, h⟩, rfl⟩
  obtain ⟨j, hj, e⟩ := List.getElem_of_mem this
  exact ⟨j, hj, by rw [el_eq hj]; exact e⟩
/-- A set that has the products of its things. -/
def Clos (T : List (List Int)) (m : Nat) : Prop := ∀ a b : Nat, m.testBit a = true → m.testBit b = true → m.testBit (mul T a b).toNat = true
/-- m is s and the products of its things, all or some; nothing else. -/
structure Grown (T : List (List Int)) (s m : Nat) : Prop where
  lt : m < 2 ^ T.length
  sub : ∀ x, s.testBit x = true → m.testBit x = true
  only : ∀ x, m.testBit x = true → s.testBit x = true ∨ ∃ a b : Nat, s.testBit a = true ∧ s.testBit b = true ∧ x = (mul T a b).toNat
theorem Grown.refl {T : List (List Int)} {s : Nat} (h : s < 2 ^ T.length) : Grown T s s := ⟨h, fun _ hx => hx, fun _ hx => .inl hx⟩
theorem Grown.add {T : List (List Int)} {s m : Nat} (h : Grown T s m) (k : IsT T) (hs : s < 2 ^ T.length) {a b : Nat} (ha : s.testBit a = true) (hb : s.testBit b = true) : Grown T s (m ||| 2 ^ (mul T a b).toNat) := by
  have a1 := bit_lt hs ha
  have b1 := bit_lt hs hb
  obtain ⟨p0, p1⟩ := k.mul (x := (a : Nat)) (y := (b : Nat)) (by omega) (by omega) (by omega) (by omega)
  refine ⟨Nat.or_lt_two_pow h.lt (Nat.pow_lt_pow_right (by omega) (by omega)), fun x hx => ?_, fun x hx => ?_⟩
  · rw [Nat.testBit_or, h.sub x hx]; rfl
  · rw [Nat.testBit_or, Bool.or_eq_true, Nat.testBit_two_pow, decide_eq_true_iff] at hx
    rcases hx with hx | hx
    · exact h.only x hx
    · exact .inr ⟨a, b, ha, hb, hx.symm⟩
/-- The least set with all products. -/
structure Made (T : List (List Int)) (s m : Nat) : Prop where
  lt : m < 2 ^ T.length
  sub : ∀ x, s.testBit x = true → m.testBit x = true
  clos : Clos T m
  least : ∀ q, Clos T q → (∀ x, s.testBit x = true → q.testBit x = true) → ∀ x, m.testBit x = true → q.testBit x = true
theorem Made.unique {T : List (List Int)} {s m m' : Nat} (h : Made T s m) (h' : Made T s m') : m = m' := by
  apply Nat.eq_of_testBit_eq
  intro i
  have h1 := h.least m' h'.clos h'.sub i
  have h2 := h'.least m h.clos h.sub i
  cases e : m.testBit i <;> cases e' : m'.testBit i
  · rfl
  · rw [h2 e'] at e; cases e
  · rw [h1 e] at e'; cases e'
  · rfl

/-- What a call of withProducts answers: all products are there. -/
def Step (T : List (List Int)) (s : Nat) (w : World) (e : Ending) (w' : World) : Prop :=
  ∃ m : Nat, e = .returned (.int .i64 (m : Nat)) ∧ Grown T s m ∧ (∀ a b : Nat, s.testBit a = true → s.testBit b = true → m.testBit (mul T a b).toNat = true) ∧ Below w.heap.size w w'

end Go.Proofs.Ythllbekoidogpaa

namespace Go.Proofs.Ythllbekoidogpaa
open Go.RowKit
set_option linter.unusedVariables false


/-- On the way to the least closed set. -/
structure Way (T : List (List Int)) (s m : Nat) : Prop where
  lt : m < 2 ^ T.length
  sub : ∀ x, s.testBit x = true → m.testBit x = true
  least : ∀ q, Clos T q → (∀ x, s.testBit x = true → q.testBit x = true) → ∀ x, m.testBit x = true → q.testBit x = true
theorem Way.refl {T : List (List Int)} {s : Nat} (h : s < 2 ^ T.length) : Way T s s := ⟨h, fun _ hx => hx, fun _ _ hq x hx => hq x hx⟩
theorem Way.grown {T : List (List Int)} {s m m' : Nat} (h : Way T s m) (g : Grown T m m') : Way T s m' := by
  refine ⟨g.lt, fun x hx => g.sub x (h.sub x hx), fun q hq hs x hx => ?_⟩
  rcases g.only x hx with h1 | ⟨a, b, ha, hb, rfl⟩
  · exact h.least q hq hs x h1
  · exact hq a b (h.least q hq hs a ha) (h.least q hq hs b hb)
theorem Way.made {T : List (List Int)} {s m : Nat} (h : Way T s m) (g : Clos T m) : Made T s m := ⟨h.lt, h.sub, g, h.least⟩
theorem Grown.le {T : List (List Int)} {s m : Nat} (g : Grown T s m) : s ≤ m := by
  have : s ||| m = m := by
    apply Nat.eq_of_testBit_eq
    intro i
    rw [Nat.testBit_or]
    cases e : s.testBit i
    · rfl
    · rw [g.sub i e]; rfl
  rw [← this]
  exact Nat.left_le_or
open Classical in
/-- What MadeBy answers. -/
noncomputable def madeT (T : List (List Int)) (s : Int) : Int := if h : (okT T = true ∧ 0 ≤ s ∧ s < 2 ^ T.length) ∧ ∃ m : Nat, Made T s.toNat m then ((Classical.choose h.2 : Nat) : Int) else -1
theorem madeT_of {T : List (List Int)} {s m : Nat} (hk : okT T = true) (h1 : s < 2 ^ T.length) (hm : Made T s m) : madeT T s = (m : Int) := by
  have hs : (s : Int) < 2 ^ T.length := by
    have : (s : Int) < ((2 ^ T.length : Nat) : Int) := by omega
    simpa using this
  have h : (okT T = true ∧ 0 ≤ (s : Int) ∧ (s : Int) < 2 ^ T.length) ∧ ∃ m : Nat, Made T (s : Int).toNat m := ⟨⟨hk, by omega, hs⟩, m, by simpa using hm⟩
  unfold madeT
  rw [dif_pos h]
  have := Classical.choose_spec h.2
  have hm' : Made T (s : Int).toNat m := by simpa using hm
  exact congrArg _ (this.unique hm')
theorem madeT_not {T : List (List Int)} {s : Int} (h : ¬ (okT T = true ∧ 0 ≤ s ∧ s < 2 ^ T.length)) : madeT T s = -1 := by
  unfold madeT
  rw [dif_neg]
  exact fun hx => h hx.1

end Go.Proofs.Ythllbekoidogpaa

namespace Go.Proofs.Ythllbekoidogpaa
open Go.RowKit
set_option linter.unusedVariables false


/-- How many things below k. -/
def cnt (m : Nat) : Nat → Nat
  | 0 => 0
  | k + 1 => cnt m k + (if m.testBit k = true then 1 else 0)
theorem cnt_mono {m m' : Nat} (h : ∀ x, m.testBit x = true → m'.testBit x = true) : ∀ k, cnt m k ≤ cnt m' k
  | 0 => Nat.le_refl _
  | k + 1 => by
    have := cnt_mono h k
    have hk := h k
    simp only [cnt]
    cases e : m.testBit k
    · simp; omega
    · rw [hk e]; simp; omega
theorem cnt_lt {m m' : Nat} (h : ∀ x, m.testBit x = true → m'.testBit x = true) {x : Nat} (hx : m'.testBit x = true) (hn : m.testBit x = false) : ∀ k, x < k → cnt m k < cnt m' k
  | 0, h0 => absurd h0 (Nat.not_lt_zero _)
  | k + 1, hk => by
    simp only [cnt]
    by_cases e : x = k
    · subst e
      rw [hx, hn]
      have := cnt_mono h x
      simp; omega
    · have := cnt_lt h hx hn k (by omega)
      have hk' := h k
      cases e2 : m.testBit k
      · simp; omega
      · rw [hk' e2]; simp; omega
theorem cnt_le (m : Nat) : ∀ k, cnt m k ≤ k
  | 0 => Nat.le_refl _
  | k + 1 => by
    have := cnt_le m k
    simp only [cnt]
    split <;> omega
theorem cnt_full {m x : Nat} (hn : m.testBit x = false) : ∀ k, x < k → cnt m k < k
  | 0, h0 => absurd h0 (Nat.not_lt_zero _)
  | k + 1, hk => by
    simp only [cnt]
    by_cases e : x = k
    · subst e
      rw [hn]
      have := cnt_le m x
      simp; omega
    · have := cnt_full hn k (by omega)
      split <;> omega
theorem Way.trans {T : List (List Int)} {s m m' : Nat} (h : Way T s m) (g : Way T m m') : Way T s m' :=
  ⟨g.lt, fun x hx => g.sub x (h.sub x hx), fun q hq hs x hx => g.least q hq (h.least q hq hs) x hx⟩
theorem Way.add {T : List (List Int)} {s m : Nat} (h : Way T s m) (k : IsT T) {a b : Nat} (ha : m.testBit a = true) (hb : m.testBit b = true) : Way T s (m ||| 2 ^ (mul T a b).toNat) :=
  h.grown ((Grown.refl h.lt).add k h.lt ha hb)
/-- After r rounds: closed, or r things at least. -/
theorem round_step {T : List (List Int)} {m m' r : Nat} (hW : Way T m m') (hP : ∀ a b : Nat, m.testBit a = true → m.testBit b = true → m'.testBit (mul T a b).toNat = true) (h : Clos T m ∨ r ≤ cnt m T.length) : Clos T m' ∨ r + 1 ≤ cnt m' T.length := by
  by_cases e : m' = m
  · subst e; exact .inl hP
  · obtain ⟨x, hx, hn⟩ : ∃ x, m'.testBit x = true ∧ m.testBit x = false := by
      refine Classical.byContradiction fun hc => e (Nat.eq_of_testBit_eq fun i => ?_)
      cases e1 : m'.testBit i <;> cases e2 : m.testBit i
      · rfl
      · rw [hW.sub i e2] at e1; cases e1
      · exact absurd ⟨i, e1, e2⟩ hc
      · rfl
    rcases h with h | h
    · have := hW.least m h (fun _ hx => hx) x hx
      rw [hn] at this; cases this
    · right
      have := cnt_lt hW.sub hx hn T.length (bit_lt hW.lt hx)
      omega
theorem round_end {T : List (List Int)} {m : Nat} (k : IsT T) (hm : m < 2 ^ T.length) (h : Clos T m ∨ T.length ≤ cnt m T.length) : Clos T m := by
  rcases h with h | h
  · exact h
  · intro a b ha hb
    have a1 := bit_lt hm ha
    have b1 := bit_lt hm hb
    obtain ⟨p0, p1⟩ := k.mul (x := (a : Nat)) (y := (b : Nat)) (by omega) (by omega) (by omega) (by omega)
    cases e : m.testBit (mul T a b).toNat
    · have := cnt_full e T.length (by omega)
      omega
    · rfl
theorem bit_tm (m a : Nat) : ((m : Int) / 2 ^ a).tmod 2 = ((m / 2 ^ a % 2 : Nat) : Int) := by
  have h : (m : Int) / 2 ^ a = ((m / 2 ^ a : Nat) : Int) := by simp
  rw [h, Int.tmod_eq_emod_of_nonneg (Int.natCast_nonneg _)]
  rfl
theorem bit_one {m a : Nat} (h : m.testBit a = true) : ((m : Int) / 2 ^ a).tmod 2 = 1 := by
  rw [Nat.testBit_eq_decide_div_mod_eq, decide_eq_true_iff] at h
  rw [bit_tm, h]; rfl
theorem bit_zero {m a : Nat} (h : m.testBit a = false) : ((m : Int) / 2 ^ a).tmod 2 = 0 := by
  rw [Nat.testBit_eq_decide_div_mod_eq, decide_eq_false_iff_not] at h
  rw [bit_tm, show m / 2 ^ a % 2 = 0 from by omega]; rfl

set_option maxHeartbeats 2000000 in
theorem sMadeBy_any (A : Option Addr) (c lo hi : Nat) (T : List (List Int)) (s : Int) (w : World) (h : Mat w lo hi A T) (hS : Small T) :
    Calls Try.prog 20 #[.slice A T.length c, .int .i64 s] w fun e w' => e = .returned (.int .i64 (madeT T s)) ∧ QD w w' := by
  have hlT := hS.len
  cases hk : okT T
  · go_enter Try.func20, Try.ntmps20
    go_wp2_with (go_at_call 16; refine (sTableOk_any _ _ _ _ _ _ h hS).mono ?_; rintro e w' ⟨rfl, rfl⟩; rw [hk])
    go_ret
    exact ⟨ret_int (madeT_not (fun hx => by rw [hk] at hx; cases hx.1)).symm, QD.refl _⟩
  · have k := okT_iff.1 hk
    have k9 := k.hi
    have hp9 := pow_le9 k9
    obtain ⟨i1, i2⟩ := pow_int k9
    by_cases hs : 0 ≤ s ∧ s < 2 ^ T.length
    · obtain ⟨n, rfl⟩ : ∃ n : Nat, s = n := ⟨s.toNat, by omega⟩
      have hb : (decide (0 ≤ (n : Int)) && decide ((n : Int) ≤ 2 ^ T.length - 1)) = true := by
        have := hs.2
        simp; omega
      have hn : n < 2 ^ T.length := by
        have h2 : (n : Int) < ((2 ^ T.length : Nat) : Int) := by simpa using hs.2
        omega
      clear hs
      obtain ⟨bb, oo, rfl, _, _, hcell⟩ := h.head k
      go_enter Try.func20, Try.ntmps20
      go_wp2_with (first
        | (go_at_call 16; refine (sTableOk_any _ _ _ _ _ _ h hS).mono ?_; rintro e w' ⟨rfl, rfl⟩; rw [hk])
        | (go_at_call 59; refine (l1In_any _ _ _ _).mono ?_; rintro e w' ⟨rfl, rfl⟩; rw [hb]))
      go_loopg [5, 1] T.length (fun g i v wr => ∃ r m : Nat, r ≤ T.length ∧ Hid (g = T.length - r) ∧ i = .int .i64 r ∧ v = .int .i64 (m : Nat) ∧ Way T n m ∧ QD w wr ∧ Hid (Clos T m ∨ r ≤ cnt m T.length))
      case atStart => exact ⟨0, n, Nat.zero_le _, rfl, rfl, rfl, Way.refl hn, QD.refl _, .inr (Nat.zero_le _)⟩
      case round =>
        obtain ⟨r, m, hr, hgk, rfl, rfl, hW, hq, hH⟩ := hrel
        by_cases hrt : r < T.length
        · go_wp2
          go_loopg [6, 1] T.length (fun g i v wr => ∃ a m1 : Nat, a ≤ T.length ∧ Hid (g = T.length - a) ∧ i = .int .i64 a ∧ v = .int .i64 (m1 : Nat) ∧ Way T m m1 ∧ QD w wr ∧ Hid (∀ i j : Nat, i < a → j < T.length → m.testBit i = true → m.testBit j = true → m1.testBit (mul T i j).toNat = true))
          case atStart => exact ⟨0, m, Nat.zero_le _, rfl, rfl, rfl, Way.refl hW.lt, hq, fun i j hi => absurd hi (Nat.not_lt_zero _)⟩
          case round =>
            clear hq
            obtain ⟨a, m1, ha, hgk1, rfl, rfl, hW1, hq1, hH1⟩ := hrel
            by_cases hat : a < T.length
            · go_wp2
              go_loopg [7, 1] T.length (fun g i v wr => ∃ b m2 : Nat, b ≤ T.length ∧ Hid (g = T.length - b) ∧ i = .int .i64 b ∧ v = .int .i64 (m2 : Nat) ∧ Way T m m2 ∧ QD w wr ∧ Hid (∀ i j : Nat, (i < a ∧ j < T.length ∨ i = a ∧ j < b) → m.testBit i = true → m.testBit j = true → m2.testBit (mul T i j).toNat = true))
              case atStart => exact ⟨0, m1, Nat.zero_le _, rfl, rfl, rfl, hW1, hq1, fun i j hij => by
                rcases hij with hij | hij
                · exact hH1 i j hij.1 hij.2
                · omega⟩
              case round =>
                clear hq1
                obtain ⟨b, m2, hb2, hgk2, rfl, rfl, hW2, hq2, hH2⟩ := hrel
                by_cases hbt : b < T.length
                · have hm2 := hW2.lt
                  by_cases hab : m2.testBit a = true ∧ m2.testBit b = true
                  · obtain ⟨ea, eb⟩ := hab
                    have hA := bit_one ea
                    have hB := bit_one eb
                    have hcw : ∀ a, wr.cell? a = w.cell? a := fun a => by simp [World.cell?, hq2.heap]
                    obtain ⟨bx, ox, cx, hcx, _, _, hvx⟩ := hcell (a : Nat) (by omega) (by omega)
                    have v2 := hvx (b : Nat) (by omega) (by omega)
                    obtain ⟨u0, u1⟩ := k.mul (x := (a : Nat)) (y := (b : Nat)) (by omega) (by omega) (by omega) (by omega)
                    have hGn := hW2.add k ea eb
                    obtain ⟨z, hz⟩ : ∃ z : Nat, mul T (a : Nat) (b : Nat) = (z : Nat) := ⟨(mul T (a : Nat) (b : Nat)).toNat, by omega⟩
                    rw [hz, Int.toNat_natCast] at hGn
                    rw [hz] at v2 u1
                    have HZZ := hide hz
                    rw [← hcw] at hcx v2
                    rw [Int.toNat_natCast] at hcx v2
                    clear hcw hcell hvx hz u0
                    have hz9 : z ≤ 9 := by omega
                    obtain ⟨g1, g2⟩ := pow_int hz9
                    have hm1 : m2 < 1024 := by omega
                    have hor := or_pow hm1 hz9
                    have HOR := hide hor
                    clear hor
                    go_wp2
                    go_roundg (T.length - (b + 1))
                    case measure => go_light; have := hgk2.out; omega
                    case rel => go_light; exact ⟨b + 1, m2 ||| 2 ^ z, by omega, rfl, by go_num, by rw [HOR.out], hGn, hq2, fun i j hij hi hj => by
                      rw [Nat.testBit_or, Bool.or_eq_true]
                      by_cases e : i = a ∧ j = b
                      · right
                        obtain ⟨rfl, rfl⟩ := e
                        rw [HZZ.out, Int.toNat_natCast, Nat.testBit_two_pow]
                        simp
                      · left
                        exact hH2 i j (by omega) hi hj⟩
                  · have hH3 : Hid (∀ i j : Nat, (i < a ∧ j < T.length ∨ i = a ∧ j < b + 1) → m.testBit i = true → m.testBit j = true → m2.testBit (mul T i j).toNat = true) := fun i j hij hi hj => by
                      by_cases e : i = a ∧ j = b
                      · obtain ⟨rfl, rfl⟩ := e
                        exact absurd ⟨hW2.sub _ hi, hW2.sub _ hj⟩ hab
                      · exact hH2 i j (by omega) hi hj
                    by_cases ea : m2.testBit a = true
                    · have eb : m2.testBit b = false := by
                        cases e : m2.testBit b
                        · rfl
                        · exact absurd ⟨ea, e⟩ hab
                      have hA := bit_one ea
                      have hB := bit_zero eb
                      go_wp2
                      go_roundg (T.length - (b + 1))
                      case measure => go_light; have := hgk2.out; omega
                      case rel => go_light; exact ⟨b + 1, m2, by omega, rfl, by go_num, rfl, hW2, hq2, hH3⟩
                    · have eb : m2.testBit a = false := by
                        cases e : m2.testBit a
                        · rfl
                        · exact absurd e ea
                      have hA := bit_zero eb
                      go_wp2
                      go_roundg (T.length - (b + 1))
                      case measure => go_light; have := hgk2.out; omega
                      case rel => go_light; exact ⟨b + 1, m2, by omega, rfl, by go_num, rfl, hW2, hq2, hH3⟩
                · obtain rfl : T.length = b := by omega
                  go_wp2
                  go_roundg (T.length - (a + 1))
                  case measure => go_light; have := hgk1.out; omega
                  case rel => go_light; exact ⟨a + 1, m2, by omega, rfl, by go_num, rfl, hW2, hq2, fun i j hi hj => hH2 i j (by omega)⟩
            · obtain rfl : T.length = a := by omega
              go_wp2
              go_roundg (T.length - (r + 1))
              case measure => go_light; have := hgk.out; omega
              case rel => go_light; exact ⟨r + 1, m1, by omega, rfl, by go_num, rfl, hW.trans hW1, hq1, round_step hW1 (fun i j hi hj => hH1 i j (bit_lt hW.lt hi) (bit_lt hW.lt hj) hi hj) hH⟩
        · obtain rfl : T.length = r := by omega
          go_wp2
          go_ret
          exact ⟨ret_int (madeT_of hk hn (hW.made (round_end k hW.lt hH))).symm, hq⟩
    · have hb : (decide (0 ≤ s) && decide (s ≤ 2 ^ T.length - 1)) = false := by
        by_cases h0 : 0 ≤ s
        · have : ¬ s ≤ 2 ^ T.length - 1 := fun h1 => hs ⟨h0, by omega⟩
          simp [this]
        · simp [h0]
      go_enter Try.func20, Try.ntmps20
      go_wp2_with (first
        | (go_at_call 16; refine (sTableOk_any _ _ _ _ _ _ h hS).mono ?_; rintro e w' ⟨rfl, rfl⟩; rw [hk])
        | (go_at_call 59; refine (l1In_any _ _ _ _).mono ?_; rintro e w' ⟨rfl, rfl⟩; rw [hb]))
      go_ret
      exact ⟨ret_int (madeT_not (fun hx => hs hx.2)).symm, QD.refl _⟩
end Go.Proofs.Ythllbekoidogpaa
