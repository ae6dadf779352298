/-  -/
import Derived.Test.YthllbekoidogpaaRectP
import Derived.Test.YthllbekoidogpaaPartP
namespace Go.Proofs.Ythllbekoidogpaa
set_option linter.unusedVariables false

/-- Things of a table. -/
def Th (T : List (List Int)) (x : Int) : Prop := 0 ≤ x ∧ x < T.length
/-- A thing that comes back when another one is between. -/
def leJ (T : List (List Int)) (a b : Int) : Prop := mul T (mul T a b) a = a
section
variable {T : List (List Int)}
theorem IsB.th (b : IsB T) {x y : Int} (hx : Th T x) (hy : Th T y) : Th T (mul T x y) := b.g.tab.mul hx.1 hx.2 hy.1 hy.2
theorem IsB.as (b : IsB T) {x y z : Int} (hx : Th T x) (hy : Th T y) (hz : Th T z) : mul T (mul T x y) z = mul T x (mul T y z) := (b.g.grp x y z hx.1 hx.2 hy.1 hy.2 hz.1 hz.2).symm
theorem IsB.ss (b : IsB T) {x : Int} (hx : Th T x) : mul T x x = x := b.sq x hx.1 hx.2
/-- What lies between two others comes back. -/
theorem IsB.jl (bd : IsB T) {x p c q : Int} (hx : Th T x) (hp : Th T p) (hc : Th T c) (hq : Th T q) (e : x = mul T p (mul T c q)) : leJ T x c := by
  have hcq := bd.th hc hq
  have hy := bd.th hc (bd.th hq hx)
  have hxc := bd.th hx hc
  -- x (c (q x)) = x
  have e1 : mul T x (mul T c (mul T q x)) = x := by
    have h1 : mul T p (mul T c (mul T q x)) = x := by
      rw [← bd.as hc hq hx, ← bd.as hp hcq hx, ← e, bd.ss hx]
    have h2 : mul T (mul T p (mul T c (mul T q x))) (mul T c (mul T q x)) = mul T p (mul T c (mul T q x)) := by
      rw [bd.as hp hy hy, bd.ss hy]
    rw [h1] at h2
    exact h2
  have e2 : mul T c (mul T c (mul T q x)) = mul T c (mul T q x) := by rw [← bd.as hc hc (bd.th hq hx), bd.ss hc]
  have hxcx := bd.th hxc hx
  -- x = (xcx) y
  have e3 : mul T (mul T (mul T x c) x) (mul T c (mul T q x)) = x := by
    have h1 : mul T (mul T x c) (mul T c (mul T q x)) = x := by rw [bd.as hx hc hy, e2, e1]
    have h2 : mul T (mul T (mul T x c) (mul T x c)) (mul T c (mul T q x)) = x := by rw [bd.ss hxc, h1]
    rw [← bd.as hxc hx hc, bd.as hxcx hc hy, e2] at h2
    exact h2
  have e4 : mul T (mul T (mul T x c) x) x = mul T (mul T x c) x := by rw [bd.as hxc hx hx, bd.ss hx]
  have e5 : mul T (mul T (mul T x c) x) x = x := by
    have h : mul T (mul T (mul T x c) x) (mul T (mul T (mul T x c) x) (mul T c (mul T q x))) = mul T (mul T (mul T x c) x) (mul T c (mul T q x)) := by rw [← bd.as hxcx hxcx hy, bd.ss hxcx]
    rw [e3] at h
    exact h
  unfold leJ
  rw [← e4, e5]
theorem IsB.le_trans (bd : IsB T) {a b c : Int} (ha : Th T a) (hb : Th T b) (hc : Th T c) (h1 : leJ T a b) (h2 : leJ T b c) : leJ T a c := by
  refine bd.jl ha (bd.th ha hb) hc (bd.th hb ha) ?_
  have hbc := bd.th hb hc
  unfold leJ at h1 h2
  rw [← bd.as hc hb ha, ← bd.as (bd.th ha hb) (bd.th hc hb) ha, bd.as ha hb (bd.th hc hb), ← bd.as hb hc hb, h2, h1]
theorem IsB.le_left (bd : IsB T) {a b : Int} (ha : Th T a) (hb : Th T b) : leJ T (mul T a b) a := by
  have hab := bd.th ha hb
  refine bd.jl hab ha ha hb ?_
  rw [← bd.as ha ha hb, bd.ss ha]
theorem IsB.le_right (bd : IsB T) {a b : Int} (ha : Th T a) (hb : Th T b) : leJ T (mul T a b) b := by
  have hab := bd.th ha hb
  refine bd.jl hab ha hb hb ?_
  rw [bd.ss hb]
theorem IsB.le_meet (bd : IsB T) {x b c : Int} (hx : Th T x) (hb : Th T b) (hc : Th T c) (h1 : leJ T x b) (h2 : leJ T x c) : leJ T x (mul T b c) := by
  unfold leJ at h1 h2
  have hxb := bd.th hx hb
  have hxc := bd.th hx hc
  have hcb := bd.th hc hb
  have hbc := bd.th hb hc
  have hbx := bd.th hb hx
  have hcx := bd.th hc hx
  have hbxc := bd.th hbx hc
  -- x = x (bxc) x
  have e1 : mul T (mul T x (mul T (mul T b x) c)) x = x := by
    have h : mul T (mul T (mul T x b) x) (mul T (mul T x c) x) = x := by rw [h1, h2, bd.ss hx]
    rw [← bd.as (bd.th hxb hx) hxc hx, ← bd.as (bd.th hxb hx) hx hc, bd.as hxb hx hx, bd.ss hx] at h
    have h3 : mul T (mul T (mul T x b) x) c = mul T x (mul T (mul T b x) c) := by rw [bd.as hx hb hx, bd.as hx hbx hc]
    rw [h3] at h
    exact h
  -- bxc = (bxc)(bxc), so x = x (cb) x
  have e2 : mul T (mul T x (mul T c b)) x = x := by
    have h : mul T (mul T x (mul T (mul T (mul T b x) c) (mul T (mul T b x) c))) x = x := by rw [bd.ss hbxc]; exact e1
    have h3 : mul T x (mul T (mul T (mul T b x) c) (mul T (mul T b x) c)) = mul T (mul T (mul T (mul T x b) x) (mul T c b)) (mul T x c) := by
      rw [bd.as hbx hc hbxc, ← bd.as hc hbx hc, ← bd.as hc hb hx, bd.as hcb hx hc, ← bd.as hx hbx (bd.th hcb hxc), ← bd.as hx hb hx, ← bd.as (bd.th hxb hx) hcb hxc]
    rw [h3, h1, bd.as (bd.th hx hcb) hxc hx, h2] at h
    exact h
  refine bd.jl hx hxc hbc hbx ?_
  have e3 : mul T (mul T x (mul T (mul T c b) (mul T c b))) x = x := by rw [bd.ss hcb]; exact e2
  have h4 : mul T x (mul T (mul T c b) (mul T c b)) = mul T (mul T (mul T x c) (mul T b c)) b := by
    rw [bd.as hc hb hcb, ← bd.as hb hc hb, ← bd.as hx hc (bd.th hbc hb), ← bd.as hxc hbc hb]
  rw [h4, bd.as (bd.th hxc hbc) hb hx, bd.as hxc hbc hbx] at e3
  exact e3.symm

/-- Two things on one level. -/
def inLev (T : List (List Int)) (a b : Nat) : Bool := mul T (mul T (a : Int) (b : Int)) (a : Int) == (a : Int) && mul T (mul T (b : Int) (a : Int)) (b : Int) == (b : Int)
theorem inLev_iff {a b : Nat} : inLev T a b = true ↔ leJ T a b ∧ leJ T b a := by unfold inLev leJ; rw [Bool.and_eq_true, beq_iff_eq, beq_iff_eq]
theorem th_nat {a : Nat} (h : a < T.length) : Th T (a : Int) := ⟨by omega, by omega⟩
theorem IsB.levEqv (bd : IsB T) : Eqv (inLev T) T.length := by
  refine ⟨fun a ha => inLev_iff.2 ?_, fun a b _ _ h => inLev_iff.2 ⟨(inLev_iff.1 h).2, (inLev_iff.1 h).1⟩, fun a b c ha hb hc h1 h2 => inLev_iff.2 ?_⟩
  · have : leJ T a a := by unfold leJ; rw [bd.ss (th_nat ha), bd.ss (th_nat ha)]
    exact ⟨this, this⟩
  · obtain ⟨p1, p2⟩ := inLev_iff.1 h1
    obtain ⟨q1, q2⟩ := inLev_iff.1 h2
    exact ⟨bd.le_trans (th_nat ha) (th_nat hb) (th_nat hc) p1 q1, bd.le_trans (th_nat hc) (th_nat hb) (th_nat ha) q2 p2⟩
/-- Levels are multiplied as their things are. -/
theorem IsB.lev_mul (bd : IsB T) {a a' b b' p p' : Nat} (ha : a < T.length) (ha' : a' < T.length) (hb : b < T.length) (hb' : b' < T.length) (h1 : inLev T a a' = true) (h2 : inLev T b b' = true)
    (hp : mul T (a : Int) (b : Int) = (p : Int)) (hp' : mul T (a' : Int) (b' : Int) = (p' : Int)) : inLev T p p' = true := by
  have key : ∀ {x x' y y' : Nat}, x < T.length → x' < T.length → y < T.length → y' < T.length → leJ T x x' → leJ T y y' → leJ T (mul T x y) (mul T x' y') := fun {x x' y y'} hx hx' hy hy' g1 g2 => by
    have hxy := bd.th (th_nat hx) (th_nat hy)
    exact bd.le_meet hxy (th_nat hx') (th_nat hy') (bd.le_trans hxy (th_nat hx) (th_nat hx') (bd.le_left (th_nat hx) (th_nat hy)) g1) (bd.le_trans hxy (th_nat hy) (th_nat hy') (bd.le_right (th_nat hx) (th_nat hy)) g2)
  obtain ⟨p1, p2⟩ := inLev_iff.1 h1
  obtain ⟨q1, q2⟩ := inLev_iff.1 h2
  rw [inLev_iff, ← hp, ← hp']
  exact ⟨key ha ha' hb hb' p1 q1, key ha' ha hb' hb p2 q2⟩
theorem IsB.lev_comm (bd : IsB T) {a b p q : Nat} (ha : a < T.length) (hb : b < T.length) (hp : mul T (a : Int) (b : Int) = (p : Int)) (hq : mul T (b : Int) (a : Int) = (q : Int)) : inLev T p q = true := by
  have h1 := bd.th (th_nat ha) (th_nat hb)
  have h2 := bd.th (th_nat hb) (th_nat ha)
  rw [inLev_iff, ← hp, ← hq]
  exact ⟨bd.le_meet h1 (th_nat hb) (th_nat ha) (bd.le_right (th_nat ha) (th_nat hb)) (bd.le_left (th_nat ha) (th_nat hb)), bd.le_meet h2 (th_nat ha) (th_nat hb) (bd.le_right (th_nat hb) (th_nat ha)) (bd.le_left (th_nat hb) (th_nat ha))⟩
end
/-- The numbers of levels; how many there are. -/
noncomputable def levsL (T : List (List Int)) : List Int := if bandT T = true then (List.range T.length).map fun a => ((num (inLev T) a : Nat) : Int) else []
def nL (T : List (List Int)) : Nat := ct (inLev T) T.length
noncomputable def countT (T : List (List Int)) : Int := if bandT T = true then ((nL T : Nat) : Int) else -1
section
variable {T : List (List Int)}
theorem band_tab (h : bandT T = true) : IsT T := (bandT_iff.1 h).g.tab
theorem band_ok (h : bandT T = true) : okT T = true := okT_iff.2 (band_tab h)
theorem levsL_not (h : bandT T = false) : levsL T = [] := by unfold levsL; rw [if_neg (by rw [h]; exact Bool.false_ne_true)]
theorem levsL_ok (h : bandT T = true) : levsL T = (List.range T.length).map fun a => ((num (inLev T) a : Nat) : Int) := by unfold levsL; rw [if_pos h]
theorem len_levsL (h : bandT T = true) : (levsL T).length = T.length := by rw [levsL_ok h]; simp
theorem el_levsL (h : bandT T = true) {a : Nat} (ha : a < T.length) : el (levsL T) a = ((num (inLev T) a : Nat) : Int) := by rw [levsL_ok h]; simp [el, List.getD, ha]
theorem len_levsL_le (T : List (List Int)) : (levsL T).length ≤ 1048576 := by
  cases h : bandT T
  · rw [levsL_not h]; simp
  · rw [len_levsL h]; have := (band_tab h).hi; omega
theorem band_eqvL (h : bandT T = true) : Eqv (inLev T) T.length := (bandT_iff.1 h).levEqv
theorem nL_pos (h : bandT T = true) : 0 < nL T := ct_pos (by have := (band_tab h).lo; omega)
theorem ct_le (r : Nat → Nat → Bool) : ∀ k, ct r k ≤ k
  | 0 => Nat.le_refl _
  | k + 1 => by
    have := ct_le r k
    simp only [ct]
    split <;> omega
theorem ct_full {r : Nat → Nat → Bool} : ∀ {k : Nat}, ct r k = k → ∀ a, a < k → rp r a = true
  | 0, _, a, ha => absurd ha (Nat.not_lt_zero _)
  | k + 1, h, a, ha => by
    have h1 := ct_le r k
    cases e : rp r k
    · rw [ct_not e] at h; omega
    · rw [ct_rp e] at h
      by_cases ea : a = k
      · subst ea; exact e
      · exact ct_full (k := k) (by omega) a (by omega)
theorem ct_all {r : Nat → Nat → Bool} : ∀ {k : Nat}, (∀ a, a < k → rp r a = true) → ct r k = k
  | 0, _ => rfl
  | k + 1, h => by rw [ct_rp (h k (by omega)), ct_all fun a ha => h a (by omega)]
/-- As many levels as things: just the meetings. -/
theorem nL_meet (h : bandT T = true) : nL T = T.length ↔ meetT T = true := by
  have bd := bandT_iff.1 h
  constructor
  · intro e
    have hf := ct_full e
    refine meetT_iff.2 ⟨bd, fun x y x0 x1 y0 y1 => ?_⟩
    obtain ⟨a, rfl⟩ : ∃ a : Nat, x = a := ⟨x.toNat, by omega⟩
    obtain ⟨b, rfl⟩ : ∃ b : Nat, y = b := ⟨y.toNat, by omega⟩
    obtain ⟨p0, p1⟩ := bd.g.tab.mul x0 x1 y0 y1
    obtain ⟨q0, q1⟩ := bd.g.tab.mul y0 y1 x0 x1
    obtain ⟨p, hp⟩ : ∃ p : Nat, mul T (a : Int) (b : Int) = (p : Int) := ⟨(mul T (a : Int) (b : Int)).toNat, by omega⟩
    obtain ⟨q, hq⟩ : ∃ q : Nat, mul T (b : Int) (a : Int) = (q : Int) := ⟨(mul T (b : Int) (a : Int)).toNat, by omega⟩
    have hc := bd.lev_comm (a := a) (b := b) (by omega) (by omega) hp hq
    rw [hp, hq]
    rcases Nat.lt_trichotomy p q with hl | hl | hl
    · have := rp_iff.1 (hf q (by omega)) p hl
      rw [bd.levEqv.symm p q (by omega) (by omega) hc] at this; cases this
    · rw [hl]
    · have := rp_iff.1 (hf p (by omega)) q hl
      rw [hc] at this; cases this
  · intro hm
    obtain ⟨_, hcm⟩ := meetT_iff.1 hm
    refine ct_all fun a ha => rp_iff.2 fun b hb => ?_
    cases e : inLev T a b with
    | false => rfl
    | true =>
      obtain ⟨e1, e2⟩ := inLev_iff.1 e
      unfold leJ at e1 e2
      have ta := th_nat (T := T) ha
      have tb := th_nat (T := T) (show b < T.length by omega)
      have tab := bd.th ta tb
      have tba := bd.th tb ta
      rw [hcm _ _ tab.1 tab.2 ta.1 ta.2, ← bd.as ta ta tb, bd.ss ta] at e1
      rw [hcm _ _ tba.1 tba.2 tb.1 tb.2, ← bd.as tb tb ta, bd.ss tb, hcm _ _ tb.1 tb.2 ta.1 ta.2] at e2
      omega
/-- One level: just the rectangles. -/
theorem nL_rect (h : bandT T = true) : nL T = 1 ↔ rectT T = true := by
  have bd := bandT_iff.1 h
  have E := bd.levEqv
  have hlo := (band_tab h).lo
  constructor
  · intro e
    refine rectT_iff.2 ⟨bd, fun x y x0 x1 y0 y1 => ?_⟩
    obtain ⟨a, rfl⟩ : ∃ a : Nat, x = a := ⟨x.toNat, by omega⟩
    obtain ⟨b, rfl⟩ : ∃ b : Nat, y = b := ⟨y.toNat, by omega⟩
    have h1 := E.num_lt (show a < T.length by omega) (show a < T.length by omega)
    have h2 := E.num_lt (show b < T.length by omega) (show b < T.length by omega)
    have e' : ct (inLev T) T.length = 1 := e
    exact (inLev_iff.1 (E.num_ne (a := a) (b := b) (by omega) (by omega) (by omega))).1
  · intro hr
    obtain ⟨_, hrr⟩ := rectT_iff.1 hr
    refine E.ct_is (fun _ => 0) (fun a b ha hb => ⟨fun _ => rfl, fun _ => inLev_iff.2 ⟨hrr a b (by omega) (by omega) (by omega) (by omega), hrr b a (by omega) (by omega) (by omega) (by omega)⟩⟩) (fun a v _ hv => absurd hv (Nat.not_lt_zero _)) (fun _ _ => Nat.zero_lt_one) (fun v hv => ⟨0, by omega, by omega⟩)
end
end Go.Proofs.Ythllbekoidogpaa

namespace Go.Proofs.Ythllbekoidogpaa
set_option linter.unusedVariables false

/-- The set of the things of which a rule holds. -/
def msk (p : Nat → Bool) : Nat → Nat
  | 0 => 0
  | k + 1 => msk p k + if p k = true then 2 ^ k else 0
theorem msk_lt (p : Nat → Bool) : ∀ k, msk p k < 2 ^ k
  | 0 => by simp [msk]
  | k + 1 => by
    have := msk_lt p k
    simp only [msk]
    rw [Nat.pow_succ]
    split <;> omega
theorem msk_or (p : Nat → Bool) (k : Nat) : msk p (k + 1) = msk p k ||| (if p k = true then 2 ^ k else 0) := by
  simp only [msk]
  split
  · have := Nat.two_pow_add_eq_or_of_lt (msk_lt p k) 1
    rw [Nat.mul_one] at this
    rw [Nat.or_comm, ← this, Nat.add_comm]
  · simp
theorem msk_bit (p : Nat → Bool) (i : Nat) : ∀ k, (msk p k).testBit i = (decide (i < k) && p i)
  | 0 => by simp [msk]
  | k + 1 => by
    rw [msk_or, Nat.testBit_or, msk_bit p i k]
    by_cases e : i = k
    · subst e
      cases h : p i <;> simp
    · have e' : ((if p k = true then 2 ^ k else 0 : Nat)).testBit i = false := by
        split
        · rw [Nat.testBit_two_pow]; simp; omega
        · simp
      rw [e', Bool.or_false]
      congr 1
      simp only [decide_eq_decide]
      omega
theorem msk_add {p q r : Nat → Bool} (hor : ∀ a, r a = (p a || q a)) (hno : ∀ a, p a = true → q a = true → False) : ∀ k, msk r k = msk p k + msk q k
  | 0 => rfl
  | k + 1 => by
    simp only [msk]
    rw [msk_add hor hno k, hor k]
    cases e1 : p k <;> cases e2 : q k
    · simp
    · simp; omega
    · simp; omega
    · exact absurd (hno k e1 e2) id
theorem msk_all {p : Nat → Bool} : ∀ {k : Nat}, (∀ a, a < k → p a = true) → msk p k = 2 ^ k - 1
  | 0, _ => rfl
  | k + 1, h => by
    simp only [msk]
    rw [h k (by omega), msk_all (k := k) fun a ha => h a (by omega), if_pos rfl, Nat.pow_succ]
    have := Nat.two_pow_pos k
    omega
theorem msk_none {p : Nat → Bool} : ∀ {k : Nat}, (∀ a, a < k → p a = false) → msk p k = 0
  | 0, _ => rfl
  | k + 1, h => by
    simp only [msk]
    rw [h k (by omega), msk_none (k := k) fun a ha => h a (by omega)]; simp

/-- The things of a set, and their places. -/
theorem nodup_thk (s k : Nat) : (thk s k).Nodup := by
  unfold thk
  refine List.Pairwise.map _ (fun a b h => ?_) (List.Pairwise.filter _ (List.nodup_range (n := k)))
  exact fun e => h (by omega)
theorem cnt_el {s a x : Nat} (ha : a < (thk s 9).length) (h : el (thk s 9) a = (x : Int)) : cnt s x = a := by
  obtain ⟨y, ey, hb, h9⟩ := thk_mem ha
  have : x = y := by rw [h] at ey; omega
  subst this
  have h1 := el_cnt hb 9 h9
  have h2 : cnt s x < (thk s 9).length := by rw [len_thk_cnt]; exact cnt_bit hb 9 h9
  rw [el_eq ha] at h
  rw [el_eq h2] at h1
  have hn := List.pairwise_iff_getElem.1 (nodup_thk s 9)
  rcases Nat.lt_trichotomy (cnt s x) a with hl | hl | hl
  · exact absurd (h1.trans h.symm) (hn _ _ h2 ha hl)
  · exact hl
  · exact absurd (h.trans h1.symm) (hn _ _ ha h2 hl)

/-- The first thing of a level; the products of levels. -/
def fl (T : List (List Int)) (v : Nat) : Nat := ((List.range T.length).find? fun a => num (inLev T) a == v).getD 0
def levM (T : List (List Int)) (u v : Nat) : Int := ((num (inLev T) (mul T ((fl T u : Nat) : Int) ((fl T v : Nat) : Int)).toNat : Nat) : Int)
noncomputable def levelT (T : List (List Int)) : List (List Int) := if bandT T = true then tabOf (nL T) (levM T) else []
/-- The things of a level; the set; the part. -/
def levB (T : List (List Int)) (v : Nat) : Nat := msk (fun a => num (inLev T) a == v) T.length
noncomputable def levS (T : List (List Int)) (l : Int) : Int := if bandT T = true ∧ 0 ≤ l ∧ l < nL T then ((levB T l.toNat : Nat) : Int) else -1
noncomputable def levP (T : List (List Int)) (l : Int) : List (List Int) := if levS T l < 0 then [] else partT T (levS T l)
def levSum (T : List (List Int)) : Nat → Nat
  | 0 => 0
  | m + 1 => levSum T m + levB T m
section
variable {T : List (List Int)}
theorem fl_ok {v : Nat} (h : v < nL T) : fl T v < T.length ∧ num (inLev T) (fl T v) = v ∧ ∀ b, b < fl T v → num (inLev T) b ≠ v := by
  unfold fl
  cases e : (List.range T.length).find? (fun a => num (inLev T) a == v) with
  | none =>
    obtain ⟨a, ha, hv⟩ := num_reach (k := T.length) h
    have := List.find?_eq_none.1 e a (List.mem_range.2 ha)
    simp [hv] at this
  | some a =>
    rw [List.find?_range_eq_some] at e
    obtain ⟨e1, e2, e3⟩ := e
    refine ⟨by simpa using e2, by simpa using e1, fun b hb => ?_⟩
    have := e3 b (by simpa using hb)
    simpa using this
theorem num_ltL (h : bandT T = true) {a : Nat} (ha : a < T.length) : num (inLev T) a < nL T := (band_eqvL h).num_lt ha ha
theorem mul_nat (k : IsT T) {a b : Nat} (ha : a < T.length) (hb : b < T.length) : ∃ p : Nat, mul T (a : Int) (b : Int) = (p : Int) ∧ p < T.length := by
  obtain ⟨p0, p1⟩ := k.mul (x := (a : Nat)) (y := (b : Nat)) (by omega) (by omega) (by omega) (by omega)
  exact ⟨(mul T (a : Int) (b : Int)).toNat, by omega, by omega⟩
theorem levM_of (h : bandT T = true) {a b p : Nat} (ha : a < T.length) (hb : b < T.length) (hp : mul T (a : Int) (b : Int) = (p : Int)) : levM T (num (inLev T) a) (num (inLev T) b) = ((num (inLev T) p : Nat) : Int) := by
  have bd := bandT_iff.1 h
  have E := band_eqvL h
  have k := band_tab h
  obtain ⟨a1, a2, _⟩ := fl_ok (num_ltL h ha)
  obtain ⟨b1, b2, _⟩ := fl_ok (num_ltL h hb)
  obtain ⟨q, hq, q1⟩ := mul_nat k a1 b1
  obtain ⟨p', hp', p1⟩ := mul_nat k ha hb
  have : p = p' := by rw [hp] at hp'; omega
  subst this
  unfold levM
  rw [hq, Int.toNat_natCast]
  rw [E.num_eq q1 p1 (bd.lev_mul a1 ha b1 hb (E.num_ne a1 ha a2) (E.num_ne b1 hb b2) hq hp)]
theorem levM_lt (h : bandT T = true) {u v : Nat} (hu : u < nL T) (hv : v < nL T) : ∃ m : Nat, levM T u v = (m : Int) ∧ m < nL T := by
  have k := band_tab h
  obtain ⟨a1, _, _⟩ := fl_ok hu
  obtain ⟨b1, _, _⟩ := fl_ok hv
  obtain ⟨q, hq, q1⟩ := mul_nat k a1 b1
  refine ⟨num (inLev T) q, ?_, num_ltL h q1⟩
  unfold levM
  rw [hq, Int.toNat_natCast]
theorem nL_le (T : List (List Int)) : nL T ≤ T.length := ct_le _ _
theorem levelT_not (h : bandT T = false) : levelT T = [] := by unfold levelT; rw [if_neg (by rw [h]; exact Bool.false_ne_true)]
theorem levelT_ok (h : bandT T = true) : levelT T = tabOf (nL T) (levM T) := by unfold levelT; rw [if_pos h]
theorem len_levelT (h : bandT T = true) : (levelT T).length = nL T := by rw [levelT_ok h, len_tabOf]
theorem mul_levelT (h : bandT T = true) {u v : Nat} (hu : u < nL T) (hv : v < nL T) : mul (levelT T) (u : Int) (v : Int) = levM T u v := by
  rw [levelT_ok h]
  unfold mul
  rw [Int.toNat_natCast, Int.toNat_natCast, el_tabOf hu hv]
/-- The level of a product is the product of the levels. -/
theorem lev_prod (h : bandT T = true) {a b p : Nat} (ha : a < T.length) (hb : b < T.length) (hp : mul T (a : Int) (b : Int) = (p : Int)) : mul (levelT T) ((num (inLev T) a : Nat) : Int) ((num (inLev T) b : Nat) : Int) = ((num (inLev T) p : Nat) : Int) := by
  rw [mul_levelT h (num_ltL h ha) (num_ltL h hb), levM_of h ha hb hp]
theorem isT_levelT (h : bandT T = true) : IsT (levelT T) := by
  have hl := len_levelT h
  have k := band_tab h
  have h1 := nL_pos h
  have h2 := nL_le T
  have h9 := k.hi
  refine ⟨by rw [hl]; omega, by rw [hl]; omega, fun i hi => ?_, fun i j hi hj => ?_⟩
  · rw [hl] at hi ⊢
    rw [levelT_ok h, rowlen_tabOf hi]
  · rw [hl] at hi hj ⊢
    rw [levelT_ok h, el_tabOf hi hj]
    obtain ⟨m, e, hm⟩ := levM_lt h hi hj
    rw [e]; omega
/-- Levels are a meeting. -/
theorem meet_levelT (h : bandT T = true) : meetT (levelT T) = true := by
  have bd := bandT_iff.1 h
  have k := band_tab h
  have E := band_eqvL h
  have hl := len_levelT h
  refine meetT_iff.2 ⟨⟨⟨isT_levelT h, fun x y z x0 x1 y0 y1 z0 z1 => ?_⟩, fun x x0 x1 => ?_⟩, fun x y x0 x1 y0 y1 => ?_⟩
  · rw [hl] at x1 y1 z1
    obtain ⟨u, rfl⟩ : ∃ u : Nat, x = u := ⟨x.toNat, by omega⟩
    obtain ⟨v, rfl⟩ : ∃ v : Nat, y = v := ⟨y.toNat, by omega⟩
    obtain ⟨w, rfl⟩ : ∃ w : Nat, z = w := ⟨z.toNat, by omega⟩
    obtain ⟨a1, ea, _⟩ := fl_ok (T := T) (v := u) (by omega)
    obtain ⟨b1, eb, _⟩ := fl_ok (T := T) (v := v) (by omega)
    obtain ⟨c1, ec, _⟩ := fl_ok (T := T) (v := w) (by omega)
    obtain ⟨p, hp, p1⟩ := mul_nat k a1 b1
    obtain ⟨q, hq, q1⟩ := mul_nat k b1 c1
    obtain ⟨r, hr, r1⟩ := mul_nat k a1 q1
    have hr' : mul T (p : Int) ((fl T w : Nat) : Int) = (r : Int) := by rw [← hp, bd.as (th_nat a1) (th_nat b1) (th_nat c1), hq, hr]
    have t1 := lev_prod h b1 c1 hq
    have t2 := lev_prod h a1 q1 hr
    have t3 := lev_prod h a1 b1 hp
    have t4 := lev_prod h p1 c1 hr'
    rw [ea] at t2 t3
    rw [eb] at t1 t3
    rw [ec] at t1 t4
    rw [t1, t2, t3, t4]
  · rw [hl] at x1
    obtain ⟨u, rfl⟩ : ∃ u : Nat, x = u := ⟨x.toNat, by omega⟩
    obtain ⟨a1, ea, _⟩ := fl_ok (T := T) (v := u) (by omega)
    have t := lev_prod h a1 a1 (bd.ss (th_nat a1))
    rw [ea] at t
    exact t
  · rw [hl] at x1 y1
    obtain ⟨u, rfl⟩ : ∃ u : Nat, x = u := ⟨x.toNat, by omega⟩
    obtain ⟨v, rfl⟩ : ∃ v : Nat, y = v := ⟨y.toNat, by omega⟩
    obtain ⟨a1, ea, _⟩ := fl_ok (T := T) (v := u) (by omega)
    obtain ⟨b1, eb, _⟩ := fl_ok (T := T) (v := v) (by omega)
    obtain ⟨p, hp, p1⟩ := mul_nat k a1 b1
    obtain ⟨q, hq, q1⟩ := mul_nat k b1 a1
    have t1 := lev_prod h a1 b1 hp
    have t2 := lev_prod h b1 a1 hq
    rw [ea, eb] at t1 t2
    rw [t1, t2, E.num_eq p1 q1 (bd.lev_comm a1 b1 hp hq)]
theorem small_levelT : Small (levelT T) := by
  cases h : bandT T
  · rw [levelT_not h]; exact ⟨by simp, fun i hi => absurd hi (by simp)⟩
  · exact (isT_levelT h).small

theorem levB_bit {v a : Nat} : (levB T v).testBit a = true ↔ a < T.length ∧ num (inLev T) a = v := by
  unfold levB
  rw [msk_bit, Bool.and_eq_true, decide_eq_true_iff, beq_iff_eq]
theorem levB_lt (v : Nat) : levB T v < 2 ^ T.length := msk_lt _ _
/-- The products of the things of a level are on it. -/
theorem levB_clos (h : bandT T = true) (v : Nat) : Clos T (levB T v) := fun a b ha hb => by
  obtain ⟨a1, ea⟩ := levB_bit.1 ha
  obtain ⟨b1, eb⟩ := levB_bit.1 hb
  have bd := bandT_iff.1 h
  have E := band_eqvL h
  obtain ⟨p, hp, p1⟩ := mul_nat (band_tab h) a1 b1
  rw [hp, Int.toNat_natCast]
  refine levB_bit.2 ⟨p1, ?_⟩
  have := E.num_eq p1 a1 (bd.lev_mul a1 a1 b1 a1 (E.refl a a1) (E.num_ne b1 a1 (eb.trans ea.symm)) hp (bd.ss (th_nat a1)))
  rw [this, ea]
theorem levB_isP (h : bandT T = true) {v : Nat} (hv : v < nL T) : IsP T (levB T v) := by
  obtain ⟨a1, ea, _⟩ := fl_ok hv
  refine ⟨?_, band_ok h, levB_lt v, levB_clos h v⟩
  have hb := levB_bit.2 ⟨a1, ea⟩
  rcases Nat.eq_zero_or_pos (levB T v) with e | e
  · rw [e] at hb; simp at hb
  · exact e
theorem levSum_is (h : bandT T = true) : ∀ m, levSum T m = msk (fun a => decide (num (inLev T) a < m)) T.length
  | 0 => (msk_none fun a _ => by simp).symm
  | m + 1 => by
    simp only [levSum]
    rw [levSum_is h m]
    exact (msk_add (fun a => by rw [Bool.eq_iff_iff]; simp; omega) (fun a h1 h2 => by simp at h1 h2; omega) _).symm
/-- All levels have each thing once. -/
theorem levSum_all (h : bandT T = true) : levSum T (nL T) = 2 ^ T.length - 1 := by
  rw [levSum_is h]
  exact msk_all fun a ha => decide_eq_true (num_ltL h ha)
theorem levS_not {l : Int} (h : ¬ (bandT T = true ∧ 0 ≤ l ∧ l < nL T)) : levS T l = -1 := by unfold levS; rw [if_neg h]
theorem levS_ok {l : Nat} (h : bandT T = true) (hl : l < nL T) : levS T l = ((levB T l : Nat) : Int) := by
  unfold levS; rw [if_pos ⟨h, by omega, by omega⟩, Int.toNat_natCast]
theorem levS_or (T : List (List Int)) (l : Int) : (levS T l = -1 ∧ ¬ (bandT T = true ∧ 0 ≤ l ∧ l < nL T)) ∨ ∃ v : Nat, l = v ∧ bandT T = true ∧ v < nL T ∧ levS T l = ((levB T v : Nat) : Int) ∧ IsP T (levB T v) := by
  by_cases h : bandT T = true ∧ 0 ≤ l ∧ l < nL T
  · right
    obtain ⟨v, rfl⟩ : ∃ v : Nat, l = v := ⟨l.toNat, by omega⟩
    have hv : v < nL T := by omega
    exact ⟨v, rfl, h.1, hv, levS_ok h.1 hv, levB_isP h.1 hv⟩
  · exact .inl ⟨levS_not h, h⟩
theorem levP_not {l : Int} (h : levS T l = -1) : levP T l = [] := by unfold levP; rw [if_pos (by rw [h]; decide)]
theorem levP_ok {v : Nat} (h : bandT T = true) (hv : v < nL T) : levP T v = partT T ((levB T v : Nat) : Int) := by
  unfold levP; rw [levS_ok h hv, if_neg (by omega)]
theorem small_levP {l : Int} : Small (levP T l) := by
  rcases levS_or T l with ⟨e, _⟩ | ⟨v, rfl, h, hv, _, _⟩
  · rw [levP_not e]; exact ⟨by simp, fun i hi => absurd hi (by simp)⟩
  · rw [levP_ok h hv]; exact small_part
/-- A part of a band is a band. -/
theorem isB_part {n : Nat} (hP : IsP T n) (bd : IsB T) : IsB (partT T n) := by
  refine ⟨isG_part hP bd.g, fun x x0 x1 => ?_⟩
  rw [len_part hP] at x1
  obtain ⟨a, rfl⟩ : ∃ a : Nat, x = a := ⟨x.toNat, by omega⟩
  have ha : a < (thk n 9).length := by omega
  obtain ⟨p, q, r, e1, e2, e3, _, _, _, p1, _, _, m1, _, _⟩ := hP.prod ha ha
  have : p = q := by rw [e1] at e2; omega
  subst this
  rw [bd.ss (th_nat p1)] at e3
  have : p = r := by omega
  subst this
  rw [mul_part hP ha ha, m1, cnt_el ha e1]
/-- Each level is a rectangle. -/
theorem rect_levP (h : bandT T = true) {v : Nat} (hv : v < nL T) : rectT (partT T ((levB T v : Nat) : Int)) = true := by
  have bd := bandT_iff.1 h
  have E := band_eqvL h
  have hP := levB_isP h hv
  refine rectT_iff.2 ⟨isB_part hP bd, fun x y x0 x1 y0 y1 => ?_⟩
  rw [len_part hP] at x1 y1
  obtain ⟨a, rfl⟩ : ∃ a : Nat, x = a := ⟨x.toNat, by omega⟩
  obtain ⟨b, rfl⟩ : ∃ b : Nat, y = b := ⟨y.toNat, by omega⟩
  have ha : a < (thk (levB T v) 9).length := by omega
  have hb : b < (thk (levB T v) 9).length := by omega
  obtain ⟨p, q, r, e1, e2, e3, tp, tq, _, p1, q1, r1, m1, l1, i1⟩ := hP.prod ha hb
  have hj := (inLev_iff.1 (E.num_ne p1 q1 ((levB_bit.1 tp).2.trans (levB_bit.1 tq).2.symm))).1
  unfold leJ at hj
  rw [e3] at hj
  rw [mul_part hP ha hb, m1, mul_part hP l1 ha]
  unfold partM plc
  rw [i1, e1, hj, Int.toNat_natCast, cnt_el ha e1]
end
end Go.Proofs.Ythllbekoidogpaa
