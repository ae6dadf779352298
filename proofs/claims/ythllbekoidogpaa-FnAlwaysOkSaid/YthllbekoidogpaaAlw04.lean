/-  -/
import Derived.Test.YthllbekoidogpaaAlw03
import Derived.Test.YthllbekoidogpaaAlw02
import Derived.Test.YthllbekoidogpaaAlw01
import Derived.Deep.RegionHeld3
namespace Go.Proofs.Ythllbekoidogpaa
set_option linter.unusedVariables false

/-- n things fit into m places only if n ≤ m. -/
theorem pigeon : ∀ (m n : Nat) (f : Nat → Nat), (∀ i, i < n → f i < m) → (∀ i j, i < n → j < n → f i = f j → i = j) → n ≤ m
  | 0, n, f, h, _ => by
    rcases Nat.eq_zero_or_pos n with h0 | h0
    · omega
    · have := h 0 h0; omega
  | m + 1, n, f, h, hi => by
    by_cases hx : ∃ i, i < n ∧ f i = m
    · obtain ⟨i, hin, hfi⟩ := hx
      have := pigeon m (n - 1) (fun j => if j < i then f j else f (j + 1)) (fun j hj => by
        split
        · rename_i hlt
          have h1 := h j (by omega)
          have h2 : f j ≠ m := fun e => by have := hi j i (by omega) hin (e.trans hfi.symm); omega
          omega
        · rename_i hlt
          have h1 := h (j + 1) (by omega)
          have h2 : f (j + 1) ≠ m := fun e => by have := hi (j + 1) i (by omega) hin (e.trans hfi.symm); omega
          omega) (fun j k hj hk he => by
        split at he <;> split at he
        · exact hi j k (by omega) (by omega) he
        · have := hi j (k + 1) (by omega) (by omega) he; omega
        · have := hi (j + 1) k (by omega) (by omega) he; omega
        · have := hi (j + 1) (k + 1) (by omega) (by omega) he; omega)
      omega
    · have := pigeon m n f (fun j hj => by
        have h1 := h j hj
        have h2 : f j ≠ m := fun e => hx ⟨j, hj, e⟩
        omega) hi
      omega

/-- Whether a thing is the first of its class; how many first things there are below k; the first thing of a class; the number of a class, counted by first things. -/
def rp (r : Nat → Nat → Bool) (a : Nat) : Bool := (List.range a).all fun b => !r a b
def ct (r : Nat → Nat → Bool) : Nat → Nat
  | 0 => 0
  | k + 1 => ct r k + (if rp r k = true then 1 else 0)
def fs (r : Nat → Nat → Bool) (a : Nat) : Nat := ((List.range a).find? (r a)).getD a
def num (r : Nat → Nat → Bool) (a : Nat) : Nat := ct r (fs r a)
/-- Sameness of things below n. -/
structure Eqv (r : Nat → Nat → Bool) (n : Nat) : Prop where
  refl : ∀ a, a < n → r a a = true
  symm : ∀ a b, a < n → b < n → r a b = true → r b a = true
  trans : ∀ a b c, a < n → b < n → c < n → r a b = true → r b c = true → r a c = true
section
variable {r : Nat → Nat → Bool} {n : Nat}
theorem rp_iff {a : Nat} : rp r a = true ↔ ∀ b, b < a → r a b = false := by
  unfold rp
  rw [List.all_eq_true]
  exact ⟨fun h b hb => by simpa using h b (List.mem_range.2 hb), fun h b hb => by simpa using h b (List.mem_range.1 hb)⟩
theorem ct_mono : ∀ {j k : Nat}, j ≤ k → ct r j ≤ ct r k := fun {j k} h => by
  induction h with
  | refl => exact Nat.le_refl _
  | step _ ih => exact Nat.le_trans ih (Nat.le_add_right _ _)
theorem ct_rp {a : Nat} (h : rp r a = true) : ct r (a + 1) = ct r a + 1 := by simp [ct, h]
theorem ct_not {a : Nat} (h : rp r a = false) : ct r (a + 1) = ct r a := by simp [ct, h]
theorem fs_rp {a : Nat} (h : rp r a = true) : fs r a = a := by
  unfold fs
  rw [List.find?_eq_none.2 (fun b hb => by rw [rp_iff.1 h b (List.mem_range.1 hb)]; exact Bool.false_ne_true)]
  rfl
theorem fs_some {a : Nat} (h : rp r a = false) : fs r a < a ∧ r a (fs r a) = true ∧ ∀ b, b < fs r a → r a b = false := by
  unfold fs
  cases e : (List.range a).find? (r a) with
  | none =>
    have : rp r a = true := rp_iff.2 fun b hb => by
      have := List.find?_eq_none.1 e b (List.mem_range.2 hb)
      simpa using this
    rw [h] at this; cases this
  | some b =>
    rw [List.find?_range_eq_some] at e
    exact ⟨List.mem_range.1 e.2.1, e.1, fun c hc => by have := e.2.2 c hc; simpa using this⟩
theorem fs_le (a : Nat) : fs r a ≤ a := by
  cases h : rp r a
  · exact Nat.le_of_lt (fs_some h).1
  · exact Nat.le_of_eq (fs_rp h)
theorem Eqv.fs_same (E : Eqv r n) {a : Nat} (ha : a < n) : r a (fs r a) = true := by
  cases h : rp r a
  · exact (fs_some h).2.1
  · rw [fs_rp h]; exact E.refl a ha
theorem Eqv.fs_least (E : Eqv r n) {a b : Nat} (ha : a < n) (hb : b < n) (h : r a b = true) : fs r a ≤ b := by
  rcases Nat.lt_or_ge b (fs r a) with hl | hl
  · cases hr : rp r a
    · rw [(fs_some hr).2.2 b hl] at h; cases h
    · rw [fs_rp hr] at hl
      rw [rp_iff.1 hr b hl] at h; cases h
  · exact hl
theorem Eqv.fs_first (E : Eqv r n) {a : Nat} (ha : a < n) : rp r (fs r a) = true := by
  have h1 := fs_le (r := r) a
  refine rp_iff.2 fun b hb => ?_
  cases e : r (fs r a) b with
  | false => rfl
  | true =>
    have := E.fs_least ha (by omega) (E.trans a (fs r a) b ha (by omega) (by omega) (E.fs_same ha) e)
    omega
theorem Eqv.num_ne (E : Eqv r n) {a b : Nat} (ha : a < n) (hb : b < n) (h : num r a = num r b) : r a b = true := by
  have key : ∀ {x y : Nat}, x < n → y < n → fs r x < fs r y → num r x < num r y := fun {x y} hx hy hl => by
    have h1 := ct_rp (E.fs_first hx)
    have h2 := ct_mono (r := r) (j := fs r x + 1) (k := fs r y) hl
    unfold num; omega
  have he : fs r a = fs r b := by
    rcases Nat.lt_trichotomy (fs r a) (fs r b) with hl | hl | hl
    · have := key ha hb hl; omega
    · exact hl
    · have := key hb ha hl; omega
  have h1 := fs_le (r := r) a
  have h3 := E.fs_same hb
  rw [← he] at h3
  exact E.trans a (fs r a) b ha (by omega) hb (E.fs_same ha) (E.symm b (fs r a) hb (by omega) h3)
theorem Eqv.num_lt (E : Eqv r n) {a k : Nat} (ha : a < n) (hk : a < k) : num r a < ct r k := by
  have h1 := ct_rp (E.fs_first ha)
  have h2 := fs_le (r := r) a
  have h3 := ct_mono (r := r) (j := fs r a + 1) (k := k) (by omega)
  unfold num; omega
theorem num_rp {a : Nat} (h : rp r a = true) : num r a = ct r a := by unfold num; rw [fs_rp h]
/-- The next number. -/
theorem Eqv.next (E : Eqv r n) {k : Nat} (hk : k < n) : max (ct r k) (num r k + 1) = ct r (k + 1) := by
  cases h : rp r k
  · rw [ct_not h]
    have h1 := ct_rp (E.fs_first hk)
    have h2 := (fs_some h).1
    have h3 := ct_mono (r := r) (j := fs r k + 1) (k := k) h2
    unfold num; omega
  · rw [ct_rp h, num_rp h]; omega
end

section
variable {T : List (List Int)}
end
section
variable {R C : Nat}
end
section
variable {T : List (List Int)}
end
end Go.Proofs.Ythllbekoidogpaa

namespace Go.Proofs.Ythllbekoidogpaa
open Go.RowKit
set_option linter.unusedVariables false


theorem bit_lt {s n a : Nat} (hs : s < 2 ^ n) (h : s.testBit a = true) : a < n := by
  rcases Nat.lt_or_ge a n with h1 | h1
  · exact h1
  · have : s.testBit a = false := Nat.testBit_lt_two_pow (Nat.lt_of_lt_of_le hs (Nat.pow_le_pow_right (by omega) h1))
    rw [h] at this; cases this
theorem thk_mem {s : Nat} {j : Nat} (hj : j < (thk s 9).length) : ∃ a : Nat, el (thk s 9) j = (a : Int) ∧ s.testBit a = true ∧ a < 9 := by
  rw [el_eq hj]
  have := List.getElem_mem hj
  unfold thk at this ⊢
  rw [List.mem_map] at this
  obtain ⟨a, ha, e⟩ := this
  rw [List.mem_filter, List.mem_range] at ha
  exact ⟨a, e.symm, ha.2, ha.1⟩
/-- A set that has the products of its things. -/
def Clos (T : List (List Int)) (m : Nat) : Prop := ∀ a b : Nat, m.testBit a = true → m.testBit b = true → m.testBit (mul T a b).toNat = true
/-- m is s and the products of its things, all or some; nothing else. -/
structure Grown (T : List (List Int)) (s m : Nat) : Prop where
  lt : m < 2 ^ T.length
  sub : ∀ x, s.testBit x = true → m.testBit x = true
  only : ∀ x, m.testBit x = true → s.testBit x = true ∨ ∃ a b : Nat, s.testBit a = true ∧ s.testBit b = true ∧ x = (mul T a b).toNat
theorem Grown.refl {T : List (List Int)} {s : Nat} (h : s < 2 ^ T.length) : Grown T s s := ⟨h, fun _ hx => hx, fun _ hx => .inl hx⟩
theorem Grown.add {T : List (List Int)} {s m : Nat} (h : Grown T s m) (k : IsT T) (hs : s < 2 ^ T.length) {a b : Nat} (ha : s.testBit a = true) (hb : s.testBit b = true) : Grown T s (m ||| 2 ^ (mul T a b).toNat) := by
  have a1 := bit_lt hs ha
  have b1 := bit_lt hs hb
  obtain ⟨p0, p1⟩ := k.mul (x := (a : Nat)) (y := (b : Nat)) (by omega) (by omega) (by omega) (by omega)
  refine ⟨Nat.or_lt_two_pow h.lt (Nat.pow_lt_pow_right (by omega) (by omega)), fun x hx => ?_, fun x hx => ?_⟩
  · rw [Nat.testBit_or, h.sub x hx]; rfl
  · rw [Nat.testBit_or, Bool.or_eq_true, Nat.testBit_two_pow, decide_eq_true_iff] at hx
    rcases hx with hx | hx
    · exact h.only x hx
    · exact .inr ⟨a, b, ha, hb, hx.symm⟩
/-- The least set with all products. -/
structure Made (T : List (List Int)) (s m : Nat) : Prop where
  lt : m < 2 ^ T.length
  sub : ∀ x, s.testBit x = true → m.testBit x = true
  clos : Clos T m
  least : ∀ q, Clos T q → (∀ x, s.testBit x = true → q.testBit x = true) → ∀ x, m.testBit x = true → q.testBit x = true
theorem Made.unique {T : List (List Int)} {s m m' : Nat} (h : Made T s m) (h' : Made T s m') : m = m' := by
  apply Nat.eq_of_testBit_eq
  intro i
  have h1 := h.least m' h'.clos h'.sub i
  have h2 := h'.least m h.clos h.sub i
  cases e : m.testBit i <;> cases e' : m'.testBit i
  · rfl
  · rw [h2 e'] at e; cases e
  · rw [h1 e] at e'; cases e'
  · rfl

end Go.Proofs.Ythllbekoidogpaa

namespace Go.Proofs.Ythllbekoidogpaa
open Go.RowKit
set_option linter.unusedVariables false


/-- On the way to the least closed set. -/
structure Way (T : List (List Int)) (s m : Nat) : Prop where
  lt : m < 2 ^ T.length
  sub : ∀ x, s.testBit x = true → m.testBit x = true
  least : ∀ q, Clos T q → (∀ x, s.testBit x = true → q.testBit x = true) → ∀ x, m.testBit x = true → q.testBit x = true
theorem Way.refl {T : List (List Int)} {s : Nat} (h : s < 2 ^ T.length) : Way T s s := ⟨h, fun _ hx => hx, fun _ _ hq x hx => hq x hx⟩
theorem Way.grown {T : List (List Int)} {s m m' : Nat} (h : Way T s m) (g : Grown T m m') : Way T s m' := by
  refine ⟨g.lt, fun x hx => g.sub x (h.sub x hx), fun q hq hs x hx => ?_⟩
  rcases g.only x hx with h1 | ⟨a, b, ha, hb, rfl⟩
  · exact h.least q hq hs x h1
  · exact hq a b (h.least q hq hs a ha) (h.least q hq hs b hb)
theorem Way.made {T : List (List Int)} {s m : Nat} (h : Way T s m) (g : Clos T m) : Made T s m := ⟨h.lt, h.sub, g, h.least⟩
theorem Grown.le {T : List (List Int)} {s m : Nat} (g : Grown T s m) : s ≤ m := by
  have : s ||| m = m := by
    apply Nat.eq_of_testBit_eq
    intro i
    rw [Nat.testBit_or]
    cases e : s.testBit i
    · rfl
    · rw [g.sub i e]; rfl
  rw [← this]
  exact Nat.left_le_or
open Classical in
/-- What MadeBy answers. -/
noncomputable def madeT (T : List (List Int)) (s : Int) : Int := if h : (okT T = true ∧ 0 ≤ s ∧ s < 2 ^ T.length) ∧ ∃ m : Nat, Made T s.toNat m then ((Classical.choose h.2 : Nat) : Int) else -1
theorem madeT_of {T : List (List Int)} {s m : Nat} (hk : okT T = true) (h1 : s < 2 ^ T.length) (hm : Made T s m) : madeT T s = (m : Int) := by
  have hs : (s : Int) < 2 ^ T.length := by
    have : (s : Int) < ((2 ^ T.length : Nat) : Int) := by omega
    simpa using this
  have h : (okT T = true ∧ 0 ≤ (s : Int) ∧ (s : Int) < 2 ^ T.length) ∧ ∃ m : Nat, Made T (s : Int).toNat m := ⟨⟨hk, by omega, hs⟩, m, by simpa using hm⟩
  unfold madeT
  rw [dif_pos h]
  have := Classical.choose_spec h.2
  have hm' : Made T (s : Int).toNat m := by simpa using hm
  exact congrArg _ (this.unique hm')
end Go.Proofs.Ythllbekoidogpaa

namespace Go.Proofs.Ythllbekoidogpaa
open Go.RowKit
set_option linter.unusedVariables false


/-- How many things below k. -/
def cnt (m : Nat) : Nat → Nat
  | 0 => 0
  | k + 1 => cnt m k + (if m.testBit k = true then 1 else 0)
theorem Way.trans {T : List (List Int)} {s m m' : Nat} (h : Way T s m) (g : Way T m m') : Way T s m' :=
  ⟨g.lt, fun x hx => g.sub x (h.sub x hx), fun q hq hs x hx => g.least q hq (h.least q hq hs) x hx⟩
theorem Way.add {T : List (List Int)} {s m : Nat} (h : Way T s m) (k : IsT T) {a b : Nat} (ha : m.testBit a = true) (hb : m.testBit b = true) : Way T s (m ||| 2 ^ (mul T a b).toNat) :=
  h.grown ((Grown.refl h.lt).add k h.lt ha hb)
end Go.Proofs.Ythllbekoidogpaa

namespace Go.Proofs.Ythllbekoidogpaa
set_option linter.unusedVariables false

theorem clos_made {T : List (List Int)} {n : Nat} (hk : okT T = true) (hn : n < 2 ^ T.length) (h : Clos T n) : madeT T n = n := madeT_of hk hn ⟨hn, fun _ hx => hx, h, fun q _ hs x hx => hs x hx⟩
/-- The place of a thing in a set. -/
def plc (s : Nat) (z : Int) : Int := (cnt s z.toNat : Nat)
def partM (T : List (List Int)) (s a b : Nat) : Int := plc s (mul T (el (thk s 9) a) (el (thk s 9) b))
noncomputable def partT (T : List (List Int)) (s : Int) : List (List Int) := if 1 ≤ s ∧ madeT T s = s then tabOf (thk s.toNat 9).length (partM T s.toNat) else []
theorem partT_ok {T : List (List Int)} {n : Nat} (h1 : 1 ≤ n) (h : madeT T n = n) : partT T n = tabOf (thk n 9).length (partM T n) := by unfold partT; rw [if_pos ⟨by omega, h⟩]; rfl
/-- A set of one thing or more that has all its products. -/
structure IsP (T : List (List Int)) (n : Nat) : Prop where
  one : 1 ≤ n
  ok : okT T = true
  lt : n < 2 ^ T.length
  clos : Clos T n
theorem IsP.made {T : List (List Int)} {n : Nat} (h : IsP T n) : madeT T n = n := clos_made h.ok h.lt h.clos
theorem IsP.part {T : List (List Int)} {n : Nat} (h : IsP T n) : partT T n = tabOf (thk n 9).length (partM T n) := partT_ok h.one h.made
/-- A thing of the part, and what it stands for. -/
theorem IsP.thing {T : List (List Int)} {n : Nat} (h : IsP T n) {a : Nat} (ha : a < (thk n 9).length) : ∃ x : Nat, el (thk n 9) a = (x : Int) ∧ n.testBit x = true ∧ x < T.length := by
  obtain ⟨x, e, hb, _⟩ := thk_mem ha
  exact ⟨x, e, hb, bit_lt h.lt hb⟩
end Go.Proofs.Ythllbekoidogpaa

namespace Go.Proofs.Ythllbekoidogpaa
set_option linter.unusedVariables false

/-- Things of a table. -/
def Th (T : List (List Int)) (x : Int) : Prop := 0 ≤ x ∧ x < T.length
/-- A thing that comes back when another one is between. -/
def leJ (T : List (List Int)) (a b : Int) : Prop := mul T (mul T a b) a = a
section
variable {T : List (List Int)}
theorem IsB.th (b : IsB T) {x y : Int} (hx : Th T x) (hy : Th T y) : Th T (mul T x y) := b.g.tab.mul hx.1 hx.2 hy.1 hy.2
theorem IsB.as (b : IsB T) {x y z : Int} (hx : Th T x) (hy : Th T y) (hz : Th T z) : mul T (mul T x y) z = mul T x (mul T y z) := (b.g.grp x y z hx.1 hx.2 hy.1 hy.2 hz.1 hz.2).symm
theorem IsB.ss (b : IsB T) {x : Int} (hx : Th T x) : mul T x x = x := b.sq x hx.1 hx.2
/-- What lies between two others comes back. -/
theorem IsB.jl (bd : IsB T) {x p c q : Int} (hx : Th T x) (hp : Th T p) (hc : Th T c) (hq : Th T q) (e : x = mul T p (mul T c q)) : leJ T x c := by
  have hcq := bd.th hc hq
  have hy := bd.th hc (bd.th hq hx)
  have hxc := bd.th hx hc
  -- x (c (q x)) = x
  have e1 : mul T x (mul T c (mul T q x)) = x := by
    have h1 : mul T p (mul T c (mul T q x)) = x := by
      rw [← bd.as hc hq hx, ← bd.as hp hcq hx, ← e, bd.ss hx]
    have h2 : mul T (mul T p (mul T c (mul T q x))) (mul T c (mul T q x)) = mul T p (mul T c (mul T q x)) := by
      rw [bd.as hp hy hy, bd.ss hy]
    rw [h1] at h2
    exact h2
  have e2 : mul T c (mul T c (mul T q x)) = mul T c (mul T q x) := by rw [← bd.as hc hc (bd.th hq hx), bd.ss hc]
  have hxcx := bd.th hxc hx
  -- x = (xcx) y
  have e3 : mul T (mul T (mul T x c) x) (mul T c (mul T q x)) = x := by
    have h1 : mul T (mul T x c) (mul T c (mul T q x)) = x := by rw [bd.as hx hc hy, e2, e1]
    have h2 : mul T (mul T (mul T x c) (mul T x c)) (mul T c (mul T q x)) = x := by rw [bd.ss hxc, h1]
    rw [← bd.as hxc hx hc, bd.as hxcx hc hy, e2] at h2
    exact h2
  have e4 : mul T (mul T (mul T x c) x) x = mul T (mul T x c) x := by rw [bd.as hxc hx hx, bd.ss hx]
  have e5 : mul T (mul T (mul T x c) x) x = x := by
    have h : mul T (mul T (mul T x c) x) (mul T (mul T (mul T x c) x) (mul T c (mul T q x))) = mul T (mul T (mul T x c) x) (mul T c (mul T q x)) := by rw [← bd.as hxcx hxcx hy, bd.ss hxcx]
    rw [e3] at h
    exact h
  unfold leJ
  rw [← e4, e5]
theorem IsB.le_trans (bd : IsB T) {a b c : Int} (ha : Th T a) (hb : Th T b) (hc : Th T c) (h1 : leJ T a b) (h2 : leJ T b c) : leJ T a c := by
  refine bd.jl ha (bd.th ha hb) hc (bd.th hb ha) ?_
  have hbc := bd.th hb hc
  unfold leJ at h1 h2
  rw [← bd.as hc hb ha, ← bd.as (bd.th ha hb) (bd.th hc hb) ha, bd.as ha hb (bd.th hc hb), ← bd.as hb hc hb, h2, h1]
theorem IsB.le_left (bd : IsB T) {a b : Int} (ha : Th T a) (hb : Th T b) : leJ T (mul T a b) a := by
  have hab := bd.th ha hb
  refine bd.jl hab ha ha hb ?_
  rw [← bd.as ha ha hb, bd.ss ha]
theorem IsB.le_right (bd : IsB T) {a b : Int} (ha : Th T a) (hb : Th T b) : leJ T (mul T a b) b := by
  have hab := bd.th ha hb
  refine bd.jl hab ha hb hb ?_
  rw [bd.ss hb]
theorem IsB.le_meet (bd : IsB T) {x b c : Int} (hx : Th T x) (hb : Th T b) (hc : Th T c) (h1 : leJ T x b) (h2 : leJ T x c) : leJ T x (mul T b c) := by
  unfold leJ at h1 h2
  have hxb := bd.th hx hb
  have hxc := bd.th hx hc
  have hcb := bd.th hc hb
  have hbc := bd.th hb hc
  have hbx := bd.th hb hx
  have hcx := bd.th hc hx
  have hbxc := bd.th hbx hc
  -- x = x (bxc) x
  have e1 : mul T (mul T x (mul T (mul T b x) c)) x = x := by
    have h : mul T (mul T (mul T x b) x) (mul T (mul T x c) x) = x := by rw [h1, h2, bd.ss hx]
    rw [← bd.as (bd.th hxb hx) hxc hx, ← bd.as (bd.th hxb hx) hx hc, bd.as hxb hx hx, bd.ss hx] at h
    have h3 : mul T (mul T (mul T x b) x) c = mul T x (mul T (mul T b x) c) := by rw [bd.as hx hb hx, bd.as hx hbx hc]
    rw [h3] at h
    exact h
  -- bxc = (bxc)(bxc), so x = x (cb) x
  have e2 : mul T (mul T x (mul T c b)) x = x := by
    have h : mul T (mul T x (mul T (mul T (mul T b x) c) (mul T (mul T b x) c))) x = x := by rw [bd.ss hbxc]; exact e1
    have h3 : mul T x (mul T (mul T (mul T b x) c) (mul T (mul T b x) c)) = mul T (mul T (mul T (mul T x b) x) (mul T c b)) (mul T x c) := by
      rw [bd.as hbx hc hbxc, ← bd.as hc hbx hc, ← bd.as hc hb hx, bd.as hcb hx hc, ← bd.as hx hbx (bd.th hcb hxc), ← bd.as hx hb hx, ← bd.as (bd.th hxb hx) hcb hxc]
    rw [h3, h1, bd.as (bd.th hx hcb) hxc hx, h2] at h
    exact h
  refine bd.jl hx hxc hbc hbx ?_
  have e3 : mul T (mul T x (mul T (mul T c b) (mul T c b))) x = x := by rw [bd.ss hcb]; exact e2
  have h4 : mul T x (mul T (mul T c b) (mul T c b)) = mul T (mul T (mul T x c) (mul T b c)) b := by
    rw [bd.as hc hb hcb, ← bd.as hb hc hb, ← bd.as hx hc (bd.th hbc hb), ← bd.as hxc hbc hb]
  rw [h4, bd.as (bd.th hxc hbc) hb hx, bd.as hxc hbc hbx] at e3
  exact e3.symm

/-- Two things on one level. -/
def inLev (T : List (List Int)) (a b : Nat) : Bool := mul T (mul T (a : Int) (b : Int)) (a : Int) == (a : Int) && mul T (mul T (b : Int) (a : Int)) (b : Int) == (b : Int)
theorem inLev_iff {a b : Nat} : inLev T a b = true ↔ leJ T a b ∧ leJ T b a := by unfold inLev leJ; rw [Bool.and_eq_true, beq_iff_eq, beq_iff_eq]
theorem th_nat {a : Nat} (h : a < T.length) : Th T (a : Int) := ⟨by omega, by omega⟩
theorem IsB.levEqv (bd : IsB T) : Eqv (inLev T) T.length := by
  refine ⟨fun a ha => inLev_iff.2 ?_, fun a b _ _ h => inLev_iff.2 ⟨(inLev_iff.1 h).2, (inLev_iff.1 h).1⟩, fun a b c ha hb hc h1 h2 => inLev_iff.2 ?_⟩
  · have : leJ T a a := by unfold leJ; rw [bd.ss (th_nat ha), bd.ss (th_nat ha)]
    exact ⟨this, this⟩
  · obtain ⟨p1, p2⟩ := inLev_iff.1 h1
    obtain ⟨q1, q2⟩ := inLev_iff.1 h2
    exact ⟨bd.le_trans (th_nat ha) (th_nat hb) (th_nat hc) p1 q1, bd.le_trans (th_nat hc) (th_nat hb) (th_nat ha) q2 p2⟩
end
def nL (T : List (List Int)) : Nat := ct (inLev T) T.length
section
variable {T : List (List Int)}
theorem band_eqvL (h : bandT T = true) : Eqv (inLev T) T.length := (bandT_iff.1 h).levEqv
theorem ct_le (r : Nat → Nat → Bool) : ∀ k, ct r k ≤ k
  | 0 => Nat.le_refl _
  | k + 1 => by
    have := ct_le r k
    simp only [ct]
    split <;> omega
end
end Go.Proofs.Ythllbekoidogpaa

namespace Go.Proofs.Ythllbekoidogpaa
set_option linter.unusedVariables false

/-- The product of a row of things, one after the other. -/
def pr (T : List (List Int)) : List Int → Int
  | [] => 0
  | a :: r => r.foldl (mul T) a
section
variable {T : List (List Int)} {f : UInt8 → Int} {u v w p q m : List UInt8} {x y : UInt8}
theorem pr_cons2 (a b : Int) (r : List Int) : pr T (a :: b :: r) = pr T (mul T a b :: r) := rfl
/-- Things of the table alone. -/
def AllTh (T : List (List Int)) (xs : List Int) : Prop := ∀ x, x ∈ xs → Th T x
theorem pr_th (k : IsT T) : ∀ {r : List Int} {a : Int}, Th T a → AllTh T r → Th T (pr T (a :: r))
  | [], a, ha, _ => ha
  | b :: r, a, ha, hr => by
    have hb := hr b (by simp)
    show Th T (pr T (mul T a b :: r))
    exact pr_th k (k.mul ha.1 ha.2 hb.1 hb.2) fun x hx => hr x (by simp [hx])
theorem pr_mul (k : IsT T) (hg : ∀ x y z, Th T x → Th T y → Th T z → mul T (mul T x y) z = mul T x (mul T y z)) : ∀ {r : List Int} {c a : Int}, Th T c → Th T a → AllTh T r → pr T (mul T c a :: r) = mul T c (pr T (a :: r))
  | [], c, a, _, _, _ => rfl
  | b :: r, c, a, hc, ha, hr => by
    have hb := hr b (by simp)
    have hr' : AllTh T r := fun x hx => hr x (by simp [hx])
    rw [pr_cons2, pr_cons2, hg c a b hc ha hb]
    exact pr_mul k hg hc (k.mul ha.1 ha.2 hb.1 hb.2) hr'
theorem pr_app (k : IsT T) (hg : ∀ x y z, Th T x → Th T y → Th T z → mul T (mul T x y) z = mul T x (mul T y z)) : ∀ {r : List Int} {a b : Int} {s : List Int}, Th T a → AllTh T r → Th T b → AllTh T s → pr T (a :: r ++ b :: s) = mul T (pr T (a :: r)) (pr T (b :: s))
  | [], a, b, s, ha, _, hb, hs => by
    show pr T (a :: b :: s) = _
    rw [pr_cons2]
    exact pr_mul k hg ha hb hs
  | c :: r, a, b, s, ha, hr, hb, hs => by
    have hc := hr c (by simp)
    have := pr_app k hg (r := r) (s := s) (k.mul ha.1 ha.2 hc.1 hc.2) (fun x hx => hr x (by simp [hx])) hb hs
    exact this
/-- The value of a word, whose letters stand for things. -/
def vw (T : List (List Int)) (f : UInt8 → Int) (u : List UInt8) : Int := pr T (u.map f)
/-- Letters stand for things. -/
def Sta (T : List (List Int)) (f : UInt8 → Int) : Prop := ∀ y, Th T (f y)
theorem Sta.all (h : Sta T f) (u : List UInt8) : AllTh T (u.map f) := fun x hx => by
  obtain ⟨y, _, rfl⟩ := List.mem_map.1 hx
  exact h y
theorem vw_th (k : IsT T) (h : Sta T f) (hu : u ≠ []) : Th T (vw T f u) := by
  cases u with
  | nil => exact (hu rfl).elim
  | cons a r => exact pr_th k (h a) (h.all r)
theorem vw_app (bd : IsG T) (h : Sta T f) (hu : u ≠ []) (hw : w ≠ []) : vw T f (u ++ w) = mul T (vw T f u) (vw T f w) := by
  cases u with
  | nil => exact (hu rfl).elim
  | cons a r =>
    cases w with
    | nil => exact (hw rfl).elim
    | cons b s =>
      unfold vw
      rw [List.map_append]
      exact pr_app bd.tab (fun x y z hx hy hz => (bd.grp x y z hx.1 hx.2 hy.1 hy.2 hz.1 hz.2).symm) (h a) (h.all r) (h b) (h.all s)
theorem vw_left (bd : IsG T) (h : Sta T f) (hp : p ≠ []) (hq : q ≠ []) (e : vw T f p = vw T f q) (m : List UInt8) : vw T f (m ++ p) = vw T f (m ++ q) := by
  by_cases hm : m = []
  · subst hm; exact e
  · rw [vw_app bd h hm hp, vw_app bd h hm hq, e]
theorem vw_right (bd : IsG T) (h : Sta T f) (hp : p ≠ []) (hq : q ≠ []) (e : vw T f p = vw T f q) (m : List UInt8) : vw T f (p ++ m) = vw T f (q ++ m) := by
  by_cases hm : m = []
  · subst hm; simpa using e
  · rw [vw_app bd h hp hm, vw_app bd h hq hm, e]
theorem vw_le_letter (bd : IsB T) (h : Sta T f) : ∀ {u : List UInt8} {y : UInt8}, y ∈ u → leJ T (vw T f u) (f y)
  | [a], y, hy => by
    rw [List.mem_singleton.1 hy]
    show mul T (mul T (f a) (f a)) (f a) = f a
    rw [bd.ss (h a), bd.ss (h a)]
  | a :: b :: r, y, hy => by
    have hr : (b :: r) ≠ [] := by simp
    have hv := vw_th bd.g.tab h hr
    have e : vw T f (a :: b :: r) = mul T (f a) (vw T f (b :: r)) := vw_app bd.g h (u := [a]) (by simp) hr
    have hx := vw_th bd.g.tab h (u := a :: b :: r) (by simp)
    rw [e] at hx ⊢
    rcases List.mem_cons.1 hy with rfl | hy
    · exact bd.le_left (h y) hv
    · exact bd.le_trans hx hv (h y) (bd.le_right (h a) hv) (vw_le_letter bd h hy)
theorem vw_le (bd : IsB T) (h : Sta T f) (hu : u ≠ []) : ∀ {w : List UInt8}, w ≠ [] → (∀ y, y ∈ w → y ∈ u) → leJ T (vw T f u) (vw T f w)
  | [], hw, _ => (hw rfl).elim
  | [a], _, hs => vw_le_letter bd h (hs a (by simp))
  | a :: b :: r, _, hs => by
    have hr : (b :: r) ≠ [] := by simp
    have e : vw T f (a :: b :: r) = mul T (f a) (vw T f (b :: r)) := vw_app bd.g h (u := [a]) (by simp) hr
    rw [e]
    exact bd.le_meet (vw_th bd.g.tab h hu) (h a) (vw_th bd.g.tab h hr) (vw_le_letter bd h (hs a (by simp))) (vw_le bd h hu hr fun y hy => hs y (by simp [List.mem_cons.1 hy]))
theorem vw_twice (bd : IsB T) (h : Sta T f) (hu : u ≠ []) : vw T f (u ++ u) = vw T f u := by
  rw [vw_app bd.g h hu hu]; exact bd.ss (vw_th bd.g.tab h hu)
/-- A word has the value of its beginning and its end with all its letters. -/
theorem vw_ends (bd : IsB T) (h : Sta T f) {s r : List UInt8} (hp : p ≠ []) (hq : q ≠ []) (e1 : u = p ++ s) (e2 : u = r ++ q) (m1 : ∀ y, y ∈ u → y ∈ p) (m2 : ∀ y, y ∈ u → y ∈ q) : vw T f u = vw T f (p ++ q) := by
  have hu : u ≠ [] := by rw [e1]; simp [hp]
  have hpq : p ++ q ≠ [] := by simp [hp]
  have mp : ∀ y, y ∈ p → y ∈ u := fun y hy => by rw [e1]; simp [hy]
  have mq : ∀ y, y ∈ q → y ∈ u := fun y hy => by rw [e2]; simp [hy]
  have huu : u ++ u = p ++ ((s ++ r) ++ q) := by
    have : u ++ u = (p ++ s) ++ (r ++ q) := by rw [← e1, ← e2]
    rw [this]; simp
  have a1 : vw T f (p ++ (q ++ p)) = vw T f p := by
    have := vw_le bd h hp hq (fun y hy => m1 y (mq y hy))
    rw [← List.append_assoc, vw_app bd.g h hpq hp, vw_app bd.g h hp hq]
    exact this
  have a2 : vw T f (q ++ (p ++ q)) = vw T f q := by
    have := vw_le bd h hq hp (fun y hy => m2 y (mp y hy))
    rw [← List.append_assoc, vw_app bd.g h (by simp [hq]) hq, vw_app bd.g h hq hp]
    exact this
  have b1 : vw T f ((p ++ (q ++ p)) ++ ((s ++ r) ++ (q ++ (p ++ q)))) = vw T f (u ++ u) := by
    rw [vw_right bd.g h (by simp [hp]) hp a1, huu]
    have hx : s ++ r ++ (q ++ (p ++ q)) ≠ [] := by simp [hq]
    have hy : s ++ r ++ q ≠ [] := by simp [hq]
    exact vw_left bd.g h hx hy (vw_left bd.g h (by simp [hq]) hq a2 (s ++ r)) p
  have b2 : (p ++ (q ++ p)) ++ ((s ++ r) ++ (q ++ (p ++ q))) = ((p ++ q) ++ (u ++ u)) ++ (p ++ q) := by rw [huu]; simp
  have huu' : u ++ u ≠ [] := by simp [hu]
  have b3 := vw_le bd h hpq huu' (fun y hy => by
    rcases List.mem_append.1 hy with hy | hy
    · exact List.mem_append.2 (.inl (m1 y hy))
    · exact List.mem_append.2 (.inl (m1 y hy)))
  rw [b2, vw_app bd.g h (by simp [hp]) hpq, vw_app bd.g h hpq huu'] at b1
  rw [← vw_twice bd h hu, ← b1]
  exact b3
theorem vw_parts (bd : IsB T) (h : Sta T f) {hh t : List UInt8} (k1 : HdIs u hh x) (k2 : TlIs u y t) : vw T f u = vw T f (hh ++ x :: y :: t) := by
  obtain ⟨s, e1, hs⟩ := k1.ex
  obtain ⟨r, e2, hr⟩ := k2.ex
  have := vw_ends bd h (u := u) (p := hh ++ [x]) (q := y :: t) (s := s) (r := r) (by simp) (by simp) (by rw [e1]; simp) e2
    (fun z hz => by rcases k1.mem.1 hz with hz | hz <;> simp [hz]) (fun z hz => by rcases k2.mem.1 hz with hz | hz <;> simp [hz])
  rw [this]; simp
/-- Words that are the same have the same value. -/
theorem vw_same (bd : IsB T) (h : Sta T f) (s : Same u v) : vw T f u = vw T f v := by
  induction s with
  | nil => rfl
  | @step u v h1 h2 t1 t2 x y k1 k2 k3 k4 s1 s2 i1 i2 =>
    rw [vw_parts bd h k1 k3, vw_parts bd h k2 k4]
    have e1 : vw T f (h1 ++ x :: y :: t1) = vw T f (h2 ++ x :: y :: t1) := by
      by_cases hn : h1 = []
      · rw [hn, s1.nil_iff.1 hn]
      · exact vw_right bd.g h hn (fun e => hn (s1.nil_iff.2 e)) i1 _
    have e2 : vw T f ((h2 ++ [x, y]) ++ t1) = vw T f ((h2 ++ [x, y]) ++ t2) := by
      by_cases hn : t1 = []
      · rw [hn, s2.nil_iff.1 hn]
      · exact vw_left bd.g h hn (fun e => hn (s2.nil_iff.2 e)) i2 _
    rw [e1]
    simpa using e2
end
end Go.Proofs.Ythllbekoidogpaa

namespace Go.Proofs.Ythllbekoidogpaa
set_option linter.unusedVariables false

/-- The set of the things of which a rule holds. -/
def msk (p : Nat → Bool) : Nat → Nat
  | 0 => 0
  | k + 1 => msk p k + if p k = true then 2 ^ k else 0
section
variable {T : List (List Int)}
theorem num_ltL (h : bandT T = true) {a : Nat} (ha : a < T.length) : num (inLev T) a < nL T := (band_eqvL h).num_lt ha ha
theorem nL_le (T : List (List Int)) : nL T ≤ T.length := ct_le _ _
end
end Go.Proofs.Ythllbekoidogpaa

namespace Go.Proofs.Ythllbekoidogpaa
set_option linter.unusedVariables false

/-- Whether a number is a thing's. -/
def inT (T : List (List Int)) (x : Int) : Bool := decide (0 ≤ x) && decide (x ≤ (T.length : Int) - 1)
theorem inT_iff {T : List (List Int)} {x : Int} : inT T x = true ↔ ∃ a : Nat, x = a ∧ a < T.length := by
  unfold inT
  rw [Bool.and_eq_true, decide_eq_true_iff, decide_eq_true_iff]
  exact ⟨fun h => ⟨x.toNat, by omega, by omega⟩, fun ⟨a, e, h⟩ => by omega⟩
/-- One thing below another one. -/
def blw (T : List (List Int)) (a b : Nat) : Bool := mul T (a : Int) (b : Int) == (a : Int) && mul T (b : Int) (a : Int) == (a : Int)
theorem blw_iff {T : List (List Int)} {a b : Nat} : blw T a b = true ↔ mul T (a : Int) (b : Int) = (a : Int) ∧ mul T (b : Int) (a : Int) = (a : Int) := by unfold blw; rw [Bool.and_eq_true, beq_iff_eq, beq_iff_eq]
section
variable {T : List (List Int)}
theorem IsB.blw_weak (bd : IsB T) {a b : Nat} (ha : a < T.length) (hb : b < T.length) (h : blw T a b = true) : mul T (mul T (a : Int) (b : Int)) (a : Int) = (a : Int) := by
  rw [(blw_iff.1 h).1]; exact bd.ss (th_nat ha)
end
end Go.Proofs.Ythllbekoidogpaa

namespace Go.Proofs.Ythllbekoidogpaa
open Go.RowKit
set_option linter.unusedVariables false


/-- The product of the first k + 1 things of a row. -/
def pf (T : List (List Int)) (xs : List Int) : Nat → Int
  | 0 => el xs 0
  | k + 1 => mul T (pf T xs k) (el xs (k + 1))
theorem pf_in {T : List (List Int)} {xs : List Int} (k : IsT T) (h : ∀ j, j < xs.length → 0 ≤ el xs j ∧ el xs j < T.length) : ∀ j, j < xs.length → 0 ≤ pf T xs j ∧ pf T xs j < T.length
  | 0, hj => h 0 hj
  | j + 1, hj => by
    obtain ⟨h0, h1⟩ := pf_in k h j (by omega)
    obtain ⟨h2, h3⟩ := h (j + 1) hj
    exact k.mul h0 h1 h2 h3
/-- The product of a row, or -1. -/
def prodT (T : List (List Int)) (xs : List Int) : Int := if okT T = true ∧ xs.length ≠ 0 ∧ okRow T.length xs = true then pf T xs (xs.length - 1) else -1
theorem prodT_ok {T : List (List Int)} {xs : List Int} (h1 : okT T = true) (h2 : xs.length ≠ 0) (h3 : okRow T.length xs = true) : prodT T xs = pf T xs (xs.length - 1) := by unfold prodT; rw [if_pos ⟨h1, h2, h3⟩]
set_option maxHeartbeats 2000000 in
theorem folded_any (A A2 : Option Addr) (c c2 lo hi lo2 hi2 : Nat) (T : List (List Int)) (xs : List Int) (w : World) (h : Mat w lo hi A T) (hh : hi ≤ w.heap.size) (k : IsT T) (h2 : Row w lo2 hi2 A2 xs) (hh2 : hi2 ≤ w.heap.size)
    (hx : ∀ j, j < xs.length → 0 ≤ el xs j ∧ el xs j < T.length) (hn0 : 1 ≤ xs.length) (hn : xs.length ≤ 1048576) (hc1 : xs.length ≤ c2) (hc2 : c2 ≤ 9223372036854775807) :
    Calls Try.prog 102 #[.slice A2 xs.length c2, .func (.func 62) #[.agg #[.slice A T.length c]] #[]] w fun e w' => e = .returned (.int .i64 (pf T xs (xs.length - 1))) ∧ Below w.heap.size w w' := by
  obtain ⟨b, o, rfl, _, hb2, hc⟩ := h2 0 (by omega)
  have hc0 : w.cell? ⟨b, o, none⟩ = some (.int .i64 (el xs 0)) := hc
  clear hc
  have hp0 : 0 < xs.length := by omega
  by_cases h1 : c2 = 1
  · have hl : xs.length = 1 := by omega
    have e0 : pf T xs (xs.length - 1) = el xs 0 := by rw [hl]; rfl
    have HE := hide e0
    have hlz : xs.length - 1 < 1 := by omega
    clear e0 hl
    go_enter Try.func102, Try.ntmps102
    go_wp2
    go_loopg [14, 5] 1 (fun g i v wr => i = .int .i64 0 ∧ v = .int .i64 (el xs 0) ∧ w = wr)
    case atStart => exact ⟨rfl, rfl, rfl⟩
    case round =>
      obtain ⟨rfl, rfl, rfl⟩ := hrel
      go_wp2
      go_ret
      exact ⟨ret_int HE.out.symm, Below.refl _ _⟩
  · go_enter Try.func102, Try.ntmps102
    go_wp2
    go_loopg [14, 5] xs.length (fun g i v wr => ∃ p : Nat, p + 1 ≤ xs.length ∧ g = xs.length - p ∧ i = .int .i64 p ∧ v = .int .i64 (pf T xs p) ∧ Below w.heap.size w wr)
    case atStart => exact ⟨0, hn0, rfl, rfl, rfl, Below.refl _ _⟩
    case round =>
      obtain ⟨p, hp, rfl, rfl, rfl, hb⟩ := hrel
      by_cases hlt : p < xs.length - 1
      · obtain ⟨b', o', e, _, _, hc'⟩ := h2 (p + 1) (by omega)
        obtain ⟨rfl, rfl⟩ : b = b' ∧ o = o' := by simpa using e
        have g0 : wr.cell? ⟨b, o + 1 + p, none⟩ = some (.int .i64 (el xs (p + 1))) := by
          rw [hb.cell (p := ⟨b, o + 1 + p, none⟩) (by show b < _; omega), show o + 1 + p = o + (p + 1) from by omega]; exact hc'
        obtain ⟨v0, v1⟩ := pf_in k hx p (by omega)
        obtain ⟨u0, u1⟩ := hx (p + 1) (by omega)
        have hmr := h.below hb hh
        clear hc' e
        go_wp2_with fail
        go_at_call 62
        refine (product_any _ _ _ _ _ _ _ _ hmr (Nat.le_trans hh hb.size) k v0 v1 u0 u1).mono ?_
        rintro e w1 ⟨rfl, b1⟩
        go_wp2
        go_roundg (xs.length - (p + 1))
        case measure => go_light; omega
        case rel => go_light; exact ⟨p + 1, by omega, rfl, by go_num, rfl, hb.trans (b1.mono hb.size)⟩
      · have e0 : pf T xs (xs.length - 1) = pf T xs p := by rw [show xs.length - 1 = p from by omega]
        have HE := hide e0
        clear e0
        go_wp2
        go_ret
        exact ⟨ret_int HE.out.symm, hb⟩

end Go.Proofs.Ythllbekoidogpaa

namespace Go.Proofs.Ythllbekoidogpaa
open Go.RowKit
set_option linter.unusedVariables false


/-- What letters stand for. -/
def ltf (a b c : Int) (y : UInt8) : Int := if y = 97 then a else if y = 98 then b else c
noncomputable def valW (T : List (List Int)) (u : List UInt8) (a b c : Int) : Int := if (okW u && (inT T a && (inT T b && inT T c))) = true then prodT T (u.map (ltf a b c)) else -1
theorem valW_ok {T : List (List Int)} {u : List UInt8} {a b c : Int} (h1 : okW u = true) (h2 : inT T a = true) (h3 : inT T b = true) (h4 : inT T c = true) : valW T u a b c = prodT T (u.map (ltf a b c)) := by unfold valW; rw [h1, h2, h3, h4]; rfl
/-- The row of things under way. -/
def vrow (f : UInt8 → Int) (u : List UInt8) (k : Nat) : List Int := (u.take k).map f
theorem len_vrow {f : UInt8 → Int} {u : List UInt8} {k : Nat} (h : k ≤ u.length) : (vrow f u k).length = k := by unfold vrow; rw [List.length_map, List.length_take]; omega
theorem vrow_succ {f : UInt8 → Int} {u : List UInt8} {k : Nat} (hk : k < u.length) : vrow f u k ++ [f (lt u k)] = vrow f u (k + 1) := by unfold vrow; rw [take_lt hk, List.map_append]; rfl
theorem vrow_all (f : UInt8 → Int) (u : List UInt8) : vrow f u u.length = u.map f := by unfold vrow; rw [List.take_length]
end Go.Proofs.Ythllbekoidogpaa

namespace Go.Proofs.Ythllbekoidogpaa
open Go.RowKit
set_option linter.unusedVariables false


/-- Whether two words have different values at the k-th three things. -/
noncomputable def difA (T : List (List Int)) (u v : List UInt8) (k : Nat) : Bool :=
  valW T u ((k : Int) / (T.length : Int) / (T.length : Int)) ((k : Int) / (T.length : Int) % (T.length : Int)) ((k : Int) % (T.length : Int)) != valW T v ((k : Int) / (T.length : Int) / (T.length : Int)) ((k : Int) / (T.length : Int) % (T.length : Int)) ((k : Int) % (T.length : Int))
def canA (T : List (List Int)) (u v : List UInt8) : Bool := okT T && (okW u && okW v)
/-- The first of them. -/
noncomputable def apart (T : List (List Int)) (u v : List UInt8) : Option Nat := if canA T u v = true then (List.range (T.length * T.length * T.length)).find? (difA T u v) else none
noncomputable def apR (T : List (List Int)) (u v : List UInt8) : Value := match apart T u v with
  | none => .tuple #[.int .i64 (-1), .int .i64 (-1), .int .i64 (-1), .bool false]
  | some k => .tuple #[.int .i64 ((k : Int) / (T.length : Int) / (T.length : Int)), .int .i64 ((k : Int) / (T.length : Int) % (T.length : Int)), .int .i64 ((k : Int) % (T.length : Int)), .bool true]
section
variable {T : List (List Int)} {u v : List UInt8} {k : Nat}
theorem apR_none (h : apart T u v = none) : apR T u v = .tuple #[.int .i64 (-1), .int .i64 (-1), .int .i64 (-1), .bool false] := by unfold apR; rw [h]
theorem apR_some (h : apart T u v = some k) : apR T u v = .tuple #[.int .i64 ((k : Int) / (T.length : Int) / (T.length : Int)), .int .i64 ((k : Int) / (T.length : Int) % (T.length : Int)), .int .i64 ((k : Int) % (T.length : Int)), .bool true] := by unfold apR; rw [h]
theorem apart_not (h : canA T u v = false) : apart T u v = none := by unfold apart; rw [if_neg (by rw [h]; exact Bool.false_ne_true)]
theorem apart_at (hc : canA T u v = true) (hk : k < T.length * T.length * T.length) (h : difA T u v k = true) (hH : ∀ j, j < k → difA T u v j = false) : apart T u v = some k := by
  unfold apart
  rw [if_pos hc, List.find?_range_eq_some]
  exact ⟨h, List.mem_range.2 hk, fun j hj => by rw [hH j hj]; rfl⟩
theorem apart_all (hc : canA T u v = true) (hH : ∀ j, j < T.length * T.length * T.length → difA T u v j = false) : apart T u v = none := by
  unfold apart
  rw [if_pos hc, List.find?_eq_none]
  intro j hj
  rw [hH j (List.mem_range.1 hj)]
  exact Bool.false_ne_true
end
end Go.Proofs.Ythllbekoidogpaa

namespace Go.Proofs.Ythllbekoidogpaa
set_option linter.unusedVariables false
section
variable {T : List (List Int)} {u v : List UInt8} {a b c : Int}
theorem pf_pr : ∀ (r : List Int) (x : Int) (k : Nat), k ≤ r.length → pf T (x :: r) k = (r.take k).foldl (mul T) x
  | r, x, 0, _ => by simp [pf, el, List.getD]
  | r, x, k + 1, hk => by
    have hk' : k < r.length := hk
    have e : el (x :: r) (k + 1) = r[k] := by simp [el, List.getD, hk']
    rw [List.take_add_one, List.foldl_append]
    simp only [pf]
    rw [pf_pr r x k (by omega), e]
    simp [hk']
theorem okRow_all {xs : List Int} (h : AllTh T xs) : okRow T.length xs = true := by
  refine okRow_iff.2 fun j hj => ?_
  have := h (el xs j) (by simp [el, List.getD, hj])
  exact ⟨this.1, this.2⟩
theorem prodT_pr {xs : List Int} (hk : okT T = true) (h0 : xs ≠ []) (h : AllTh T xs) : prodT T xs = pr T xs := by
  cases xs with
  | nil => exact (h0 rfl).elim
  | cons x r =>
    rw [prodT_ok hk (by simp) (okRow_all h)]
    rw [show (x :: r).length - 1 = r.length by simp, pf_pr r x r.length (Nat.le_refl _), List.take_length]
    rfl
theorem th_of_in {x : Int} (h : inT T x = true) : Th T x := by
  obtain ⟨n, rfl, hn⟩ := inT_iff.1 h
  exact th_nat hn
theorem sta_ltf (ha : inT T a = true) (hb : inT T b = true) (hc : inT T c = true) : Sta T (ltf a b c) := fun y => by
  unfold ltf
  split
  · exact th_of_in ha
  · split
    · exact th_of_in hb
    · exact th_of_in hc
/-- When there is a value. -/
def canV (T : List (List Int)) (u : List UInt8) (a b c : Int) : Bool := okT T && (okW u && (inT T a && (inT T b && inT T c)))
theorem valW_can (h : canV T u a b c = true) : valW T u a b c = vw T (ltf a b c) u ∧ Th T (vw T (ltf a b c) u) := by
  unfold canV at h
  simp only [Bool.and_eq_true] at h
  obtain ⟨hk, hu, ha, hb, hc⟩ := h
  have hS := sta_ltf ha hb hc
  refine ⟨?_, vw_th (okT_iff.1 hk) hS (okW_ne hu)⟩
  rw [valW_ok hu ha hb hc, prodT_pr hk (by simpa using okW_ne hu) (hS.all u)]
  rfl
end
end Go.Proofs.Ythllbekoidogpaa
