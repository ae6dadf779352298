
/- Orders of bands: plain mathematics. -/
import Derived.Test.YthllbekoidogpaaLevQ
namespace Go.Proofs.Ythllbekoidogpaa
set_option linter.unusedVariables false

/-- Whether a number is a thing's. -/
def inT (T : List (List Int)) (x : Int) : Bool := decide (0 ≤ x) && decide (x ≤ (T.length : Int) - 1)
theorem inT_iff {T : List (List Int)} {x : Int} : inT T x = true ↔ ∃ a : Nat, x = a ∧ a < T.length := by
  unfold inT
  rw [Bool.and_eq_true, decide_eq_true_iff, decide_eq_true_iff]
  exact ⟨fun h => ⟨x.toNat, by omega, by omega⟩, fun ⟨a, e, h⟩ => by omega⟩
theorem inT_false {T : List (List Int)} {x : Int} (h : x < 0 ∨ (T.length : Int) ≤ x) : inT T x = false := by
  cases e : inT T x with
  | false => rfl
  | true => obtain ⟨a, e, h2⟩ := inT_iff.1 e; omega
theorem can2_false {T : List (List Int)} {x y : Int} (h : inT T x = false ∨ inT T y = false) : (bandT T && (inT T x && inT T y)) = false := by
  rcases h with h | h <;> rw [h] <;> simp
/-- One thing below another one. -/
def blw (T : List (List Int)) (a b : Nat) : Bool := mul T (a : Int) (b : Int) == (a : Int) && mul T (b : Int) (a : Int) == (a : Int)
theorem blw_iff {T : List (List Int)} {a b : Nat} : blw T a b = true ↔ mul T (a : Int) (b : Int) = (a : Int) ∧ mul T (b : Int) (a : Int) = (a : Int) := by unfold blw; rw [Bool.and_eq_true, beq_iff_eq, beq_iff_eq]
noncomputable def belowT (T : List (List Int)) (x y : Int) : Bool := bandT T && (inT T x && inT T y) && blw T x.toNat y.toNat
noncomputable def weakT (T : List (List Int)) (x y : Int) : Bool := bandT T && (inT T x && inT T y) && (mul T (mul T x y) x == x)
noncomputable def pushT (T : List (List Int)) (x y : Int) : Int := if (bandT T && (inT T x && inT T y)) = true then mul T (mul T x y) x else -1
def undB (T : List (List Int)) (a : Nat) : Nat := msk (fun b => blw T b a) T.length
noncomputable def underS (T : List (List Int)) (x : Int) : Int := if (bandT T && inT T x) = true then ((undB T x.toNat : Nat) : Int) else -1
section
variable {T : List (List Int)}
theorem can2 {x y : Int} : (bandT T && (inT T x && inT T y)) = true ↔ bandT T = true ∧ ∃ a b : Nat, x = a ∧ y = b ∧ a < T.length ∧ b < T.length := by
  rw [Bool.and_eq_true, Bool.and_eq_true, inT_iff, inT_iff]
  exact ⟨fun ⟨h, ⟨a, e1, h1⟩, ⟨b, e2, h2⟩⟩ => ⟨h, a, b, e1, e2, h1, h2⟩, fun ⟨h, a, b, e1, e2, h1, h2⟩ => ⟨h, ⟨a, e1, h1⟩, ⟨b, e2, h2⟩⟩⟩
theorem belowT_not {x y : Int} (h : (bandT T && (inT T x && inT T y)) = false) : belowT T x y = false := by unfold belowT; rw [h]; rfl
theorem weakT_not {x y : Int} (h : (bandT T && (inT T x && inT T y)) = false) : weakT T x y = false := by unfold weakT; rw [h]; rfl
theorem pushT_not {x y : Int} (h : (bandT T && (inT T x && inT T y)) = false) : pushT T x y = -1 := by unfold pushT; rw [h]; rfl
theorem can2_of (h : bandT T = true) {a b : Nat} (ha : a < T.length) (hb : b < T.length) : (bandT T && (inT T (a : Int) && inT T (b : Int))) = true := can2.2 ⟨h, a, b, rfl, rfl, ha, hb⟩
theorem belowT_of (h : bandT T = true) {a b : Nat} (ha : a < T.length) (hb : b < T.length) : belowT T a b = blw T a b := by unfold belowT; rw [can2_of h ha hb]; rfl
theorem weakT_of (h : bandT T = true) {a b : Nat} (ha : a < T.length) (hb : b < T.length) : weakT T a b = (mul T (mul T (a : Int) (b : Int)) (a : Int) == (a : Int)) := by unfold weakT; rw [can2_of h ha hb]; rfl
theorem pushT_of (h : bandT T = true) {a b : Nat} (ha : a < T.length) (hb : b < T.length) : pushT T a b = mul T (mul T (a : Int) (b : Int)) (a : Int) := by unfold pushT; rw [if_pos (can2_of h ha hb)]
theorem underS_not {x : Int} (h : (bandT T && inT T x) = false) : underS T x = -1 := by unfold underS; rw [h]; rfl
theorem can1 {x : Int} : (bandT T && inT T x) = true ↔ bandT T = true ∧ ∃ a : Nat, x = a ∧ a < T.length := by rw [Bool.and_eq_true, inT_iff]
theorem underS_of (h : bandT T = true) {a : Nat} (ha : a < T.length) : underS T a = ((undB T a : Nat) : Int) := by
  unfold underS; rw [if_pos (can1.2 ⟨h, a, rfl, ha⟩), Int.toNat_natCast]
theorem IsB.blw_refl (bd : IsB T) {a : Nat} (ha : a < T.length) : blw T a a = true := blw_iff.2 ⟨bd.ss (th_nat ha), bd.ss (th_nat ha)⟩
theorem blw_anti {a b : Nat} (h1 : blw T a b = true) (h2 : blw T b a = true) : a = b := by
  have e1 := (blw_iff.1 h1).1
  have e2 := (blw_iff.1 h2).2
  omega
theorem IsB.blw_trans (bd : IsB T) {a b c : Nat} (ha : a < T.length) (hb : b < T.length) (hc : c < T.length) (h1 : blw T a b = true) (h2 : blw T b c = true) : blw T a c = true := by
  obtain ⟨p1, p2⟩ := blw_iff.1 h1
  obtain ⟨q1, q2⟩ := blw_iff.1 h2
  refine blw_iff.2 ⟨?_, ?_⟩
  · have := bd.as (th_nat ha) (th_nat hb) (th_nat hc)
    rw [p1, q1, p1] at this
    exact this
  · have := bd.as (th_nat hc) (th_nat hb) (th_nat ha)
    rw [q2, p2] at this
    exact this.symm
/-- Weakly below is below of levels. -/
theorem IsB.weak_lev (bd : IsB T) (h : bandT T = true) {a b p : Nat} (ha : a < T.length) (hb : b < T.length) (hp_ : p < T.length) (hp : mul T (a : Int) (b : Int) = (p : Int)) :
    (mul T (mul T (a : Int) (b : Int)) (a : Int) == (a : Int)) = (((num (inLev T) p : Nat) : Int) == ((num (inLev T) a : Nat) : Int)) := by
  have E := band_eqvL h
  have ta := th_nat (T := T) ha
  have tb := th_nat (T := T) hb
  rw [Bool.eq_iff_iff, beq_iff_eq, beq_iff_eq]
  constructor
  · intro e
    have : inLev T p a = true := inLev_iff.2 ⟨by rw [← hp]; exact bd.le_left ta tb, by
      unfold leJ
      rw [← hp, ← bd.as ta ta tb, bd.ss ta]
      exact e⟩
    rw [E.num_eq hp_ ha this]
  · intro e
    have := (inLev_iff.1 (E.num_ne hp_ ha (by omega))).2
    unfold leJ at this
    rw [← hp, ← bd.as ta ta tb, bd.ss ta] at this
    exact this
theorem IsB.blw_weak (bd : IsB T) {a b : Nat} (ha : a < T.length) (hb : b < T.length) (h : blw T a b = true) : mul T (mul T (a : Int) (b : Int)) (a : Int) = (a : Int) := by
  rw [(blw_iff.1 h).1]; exact bd.ss (th_nat ha)
/-- What is pushed into a thing. -/
theorem IsB.push_below (bd : IsB T) {a b n : Nat} (ha : a < T.length) (hb : b < T.length) (hn : mul T (mul T (a : Int) (b : Int)) (a : Int) = (n : Int)) : blw T n a = true := by
  have ta := th_nat (T := T) ha
  have tb := th_nat (T := T) hb
  have tab := bd.th ta tb
  refine blw_iff.2 ⟨?_, ?_⟩
  · rw [← hn, bd.as tab ta ta, bd.ss ta]
  · rw [← hn, ← bd.as ta tab ta, ← bd.as ta ta tb, bd.ss ta]
theorem IsB.push_lev (bd : IsB T) (h : bandT T = true) {a b p n : Nat} (ha : a < T.length) (hb : b < T.length) (hp1 : p < T.length) (hn1 : n < T.length) (hp : mul T (a : Int) (b : Int) = (p : Int)) (hn : mul T (p : Int) (a : Int) = (n : Int)) : num (inLev T) n = num (inLev T) p := by
  have E := band_eqvL h
  have ta := th_nat (T := T) ha
  have tb := th_nat (T := T) hb
  have tp := th_nat (T := T) hp1
  refine E.num_eq hn1 hp1 (inLev_iff.2 ⟨by rw [← hn]; exact bd.le_left tp ta, ?_⟩)
  -- p = ab = (ab)(ab) = (aba) b
  refine bd.jl tp tp (by rw [← hn]; exact bd.th tp ta) tb ?_
  rw [← hn, bd.as tp ta tb, hp, bd.ss tp, bd.ss tp]
theorem meet_push (h : meetT T = true) {a b : Nat} (ha : a < T.length) (hb : b < T.length) : mul T (mul T (a : Int) (b : Int)) (a : Int) = mul T (a : Int) (b : Int) := by
  obtain ⟨bd, hc⟩ := meetT_iff.1 h
  have ta := th_nat (T := T) ha
  have tb := th_nat (T := T) hb
  have tab := bd.th ta tb
  rw [hc _ _ tab.1 tab.2 ta.1 ta.2, ← bd.as ta ta tb, bd.ss ta]
/-- What is under a thing. -/
theorem undB_bit {a b : Nat} : (undB T a).testBit b = true ↔ b < T.length ∧ blw T b a = true := by
  unfold undB
  rw [msk_bit, Bool.and_eq_true, decide_eq_true_iff]
theorem undB_lt (a : Nat) : undB T a < 2 ^ T.length := msk_lt _ _
theorem undB_self (bd : IsB T) {a : Nat} (ha : a < T.length) : (undB T a).testBit a = true := undB_bit.2 ⟨ha, bd.blw_refl ha⟩
theorem undB_clos (bd : IsB T) {a : Nat} (ha : a < T.length) : Clos T (undB T a) := fun b c hb hc => by
  obtain ⟨b1, eb⟩ := undB_bit.1 hb
  obtain ⟨c1, ec⟩ := undB_bit.1 hc
  obtain ⟨p, hp, p1⟩ := mul_nat bd.g.tab b1 c1
  obtain ⟨x1, x2⟩ := blw_iff.1 eb
  obtain ⟨y1, y2⟩ := blw_iff.1 ec
  rw [hp, Int.toNat_natCast]
  refine undB_bit.2 ⟨p1, blw_iff.2 ⟨?_, ?_⟩⟩
  · rw [← hp, bd.as (th_nat b1) (th_nat c1) (th_nat ha), y1]
  · rw [← hp, ← bd.as (th_nat ha) (th_nat b1) (th_nat c1), x2]
theorem undB_isP (bd : IsB T) {a : Nat} (ha : a < T.length) : IsP T (undB T a) := by
  refine ⟨?_, okT_iff.2 bd.g.tab, undB_lt a, undB_clos bd ha⟩
  have hb := undB_self bd ha
  rcases Nat.eq_zero_or_pos (undB T a) with e | e
  · rw [e] at hb; simp at hb
  · exact e
/-- What is under a thing of it is within it. -/
theorem undB_sub (bd : IsB T) {a b : Nat} (ha : a < T.length) (hb : (undB T a).testBit b = true) : undB T b &&& undB T a = undB T b := by
  obtain ⟨b1, eb⟩ := undB_bit.1 hb
  apply Nat.eq_of_testBit_eq
  intro i
  rw [Nat.testBit_and]
  cases e : (undB T b).testBit i with
  | false => rfl
  | true =>
    obtain ⟨i1, ei⟩ := undB_bit.1 e
    rw [undB_bit.2 ⟨i1, bd.blw_trans i1 b1 ha ei eb⟩]; rfl
/-- The thing is the one of what is under it. -/
theorem und_one (bd : IsB T) {a : Nat} (ha : a < T.length) : ∃ k : Nat, oneT (partT T ((undB T a : Nat) : Int)) = (k : Int) := by
  have hP := undB_isP bd ha
  have hs := undB_self bd ha
  have k9 := bd.g.tab.hi
  have hl := len_part hP
  have hk : cnt (undB T a) a < (thk (undB T a) 9).length := by rw [len_thk_cnt]; exact cnt_bit hs 9 (by omega)
  have he := el_cnt hs 9 (by omega : a < 9)
  have hone : allR (partT T ((undB T a : Nat) : Int)).length (rOne (partT T ((undB T a : Nat) : Int))) (cnt (undB T a) a) = true := allR_iff.2 fun j hj => by
    rw [hl] at hj
    obtain ⟨x, ex, hx, x1⟩ := hP.thing hj
    obtain ⟨y1, y2⟩ := blw_iff.1 (undB_bit.1 hx).2
    refine rOne_iff.2 ⟨?_, ?_⟩
    · rw [mul_part hP hk hj]
      unfold partM plc
      rw [he, ex, y2, Int.toNat_natCast, cnt_el hj ex]
    · rw [mul_part hP hj hk]
      unfold partM plc
      rw [he, ex, y1, Int.toNat_natCast, cnt_el hj ex]
  have hok : okT (partT T ((undB T a : Nat) : Int)) = true := okT_iff.2 (isT_part hP)
  unfold oneT
  rw [if_pos hok]
  rcases firstK_or (partT T ((undB T a : Nat) : Int)).length (rOne (partT T ((undB T a : Nat) : Int))) with ⟨k, _, e, _⟩ | ⟨_, h⟩
  · exact ⟨k, e⟩
  · have := h _ (by rw [hl]; exact hk)
    rw [hone] at this; cases this
end
end Go.Proofs.Ythllbekoidogpaa
