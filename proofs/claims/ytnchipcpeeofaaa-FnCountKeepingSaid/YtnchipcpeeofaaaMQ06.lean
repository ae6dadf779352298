/-  -/
import Derived.Test.YtnchipcpeeofaaaMQ05
import Derived.Test.YtnchipcpeeofaaaMQ04
import Derived.Test.YtnchipcpeeofaaaMQ01
import Derived.Deep.RegionHeld3
import Derived.Test.YtnchipcpeeofaaaMQ03
namespace Go.Proofs.Ytnchipcpeeofaaa
set_option linter.unusedVariables false

/-- The things of one set that another one has not. -/
def andn (a b : Nat) : Nat := (BitVec.ofNat 64 a &&& ~~~BitVec.ofNat 64 b).toNat
theorem small_bit {a i : Nat} (ha : a < 1024) (hi : 64 ≤ i) : a.testBit i = false :=
  Nat.testBit_lt_two_pow (Nat.lt_of_lt_of_le ha (Nat.pow_le_pow_right (n := 2) (by omega) (show 10 ≤ i by omega)))
theorem andn_bit {a b i : Nat} (ha : a < 1024) : (andn a b).testBit i = (a.testBit i && !b.testBit i) := by
  unfold andn
  rw [BitVec.testBit_toNat, BitVec.getLsbD_and, BitVec.getLsbD_not, BitVec.getLsbD_ofNat, BitVec.getLsbD_ofNat]
  by_cases h : i < 64
  · simp [h]
  · rw [small_bit ha (by omega)]; simp [h]
theorem andn_lt {a b : Nat} (ha : a < 1024) : andn a b < 1024 := by
  apply Nat.lt_of_not_le
  intro h
  obtain ⟨i, hi, hb⟩ := Nat.exists_ge_and_testBit_of_ge_two_pow (n := 10) h
  rw [andn_bit ha, Nat.testBit_lt_two_pow (Nat.lt_of_lt_of_le ha (Nat.pow_le_pow_right (n := 2) (by omega) hi))] at hb
  cases hb
/-- A thing's height: so many things at most, each strictly below the next one, the last one the thing. -/
structure IsHt (T : List (List Int)) (a v : Nat) : Prop where
  one : 1 ≤ v
  has : HasH T (v - 1) a
  most : ∀ k, HasH T k a → k + 1 ≤ v
section
variable {T : List (List Int)} {a v v' : Nat}
theorem IsHt.unique (h : IsHt T a v) (h' : IsHt T a v') : v = v' := by
  have h1 := h'.most _ h.has
  have h2 := h.most _ h'.has
  have := h.one
  have := h'.one
  omega
open Classical in
noncomputable def htA (T : List (List Int)) (a : Nat) : Nat := if h : ∃ v, IsHt T a v then Classical.choose h else 0
/-- The things directly under a thing: no other thing lies between. -/
def DirS (T : List (List Int)) (a d : Nat) : Prop := d < 512 ∧ ∀ x, d.testBit x = true ↔ x < T.length ∧ sbl T x a = true ∧ ∀ c, c < T.length → sbl T c a = true → sbl T x c = false
/-- The most height of the first j things of a set. -/
def MostH (T : List (List Int)) (d j m : Nat) : Prop := (∀ i x, i < j → i < (thk d 9).length → el (thk d 9) i = (x : Nat) → htA T x ≤ m) ∧ (m = 0 ∨ ∃ x, x < T.length ∧ d.testBit x = true ∧ m = htA T x)
theorem MostH.step {d j m x : Nat} (h : MostH T d j m) (hj : j < (thk d 9).length) (hx : el (thk d 9) j = (x : Int)) (h1 : x < T.length) (hb : d.testBit x = true) : MostH T d (j + 1) (max m (htA T x)) := by
  refine ⟨fun i y hi hl hy => ?_, ?_⟩
  · by_cases e : i = j
    · subst e
      have : y = x := by rw [hx] at hy; omega
      subst this
      exact Nat.le_max_right _ _
    · exact Nat.le_trans (h.1 i y (by omega) hl hy) (Nat.le_max_left _ _)
  · right
    rcases Nat.le_total m (htA T x) with hl | hl
    · rw [Nat.max_eq_right hl]; exact ⟨x, h1, hb, rfl⟩
    · rw [Nat.max_eq_left hl]
      rcases h.2 with e | hh
      · have := Nat.le_antisymm hl (by omega)
        exact ⟨x, h1, hb, this.symm⟩
      · exact hh
theorem DirS.next {d : Nat} (hd : DirS T a d) {x : Nat} (h : d.testBit x = true) : x < T.length ∧ sbl T x a = true := ⟨((hd.2 x).1 h).1, ((hd.2 x).1 h).2.1⟩
/-- The highest thing of all. -/
def MostA (T : List (List Int)) (j m : Nat) : Prop := (∀ x, x < j → x < T.length → htA T x ≤ m) ∧ (j = 0 ∧ m = 0 ∨ ∃ x, x < T.length ∧ m = htA T x)
theorem MostA.step {j m : Nat} (h : MostA T j m) (hj : j < T.length) : MostA T (j + 1) (max m (htA T j)) := by
  refine ⟨fun x hx hl => ?_, ?_⟩
  · by_cases e : x = j
    · subst e; exact Nat.le_max_right _ _
    · exact Nat.le_trans (h.1 x (by omega) hl) (Nat.le_max_left _ _)
  · right
    rcases Nat.le_total m (htA T j) with hl | hl
    · rw [Nat.max_eq_right hl]; exact ⟨j, hj, rfl⟩
    · rw [Nat.max_eq_left hl]
      rcases h.2 with ⟨_, e⟩ | hh
      · exact ⟨j, hj, by omega⟩
      · exact hh
/-- What lies strictly under a thing, as a set. -/
theorem under_sbl (ha : a < T.length) {x : Nat} (h9 : T.length ≤ 9) : (andn (undB T a) (2 ^ a)).testBit x = true ↔ x < T.length ∧ sbl T x a = true := by
  have hu : undB T a < 1024 := by
    have := undB_lt (T := T) a
    have : 2 ^ T.length ≤ 2 ^ 9 := Nat.pow_le_pow_right (by omega) h9
    omega
  rw [andn_bit hu, Bool.and_eq_true, undB_bit, sbl_iff, Nat.testBit_two_pow]
  by_cases e : a = x
  · subst e; simp
  · have e' : ¬ x = a := fun h => e h.symm
    simp [e, e']
/-- Directly under, when the first j things are left out. -/
def DirI (T : List (List Int)) (a L j d : Nat) : Prop := d < 512 ∧ ∀ x, d.testBit x = true ↔ L.testBit x = true ∧ ∀ i c, i < j → i < (thk L 9).length → el (thk L 9) i = (c : Nat) → sbl T x c = false
theorem DirI.step {L j d c : Nat} (h9 : T.length ≤ 9) (hd : DirI T a L j d) (hj : j < (thk L 9).length) (hc : el (thk L 9) j = (c : Int)) (h1 : c < T.length) (hL : ∀ x, L.testBit x = true → x < T.length) :
    DirI T a L (j + 1) (andn d (andn (undB T c) (2 ^ c))) := by
  refine ⟨?_, fun x => ?_⟩
  · have hl := andn_lt (a := d) (b := andn (undB T c) (2 ^ c)) (by have := hd.1; omega)
    apply Nat.lt_of_not_le
    intro h
    obtain ⟨i, hi, hb⟩ := Nat.exists_ge_and_testBit_of_ge_two_pow (n := 9) h
    rw [andn_bit (by have := hd.1; omega), Nat.testBit_lt_two_pow (Nat.lt_of_lt_of_le hd.1 (Nat.pow_le_pow_right (n := 2) (by omega) hi))] at hb
    cases hb
  · rw [andn_bit (by have := hd.1; omega), Bool.and_eq_true, hd.2 x]
    have hu := under_sbl (T := T) (x := x) h1 h9
    constructor
    · rintro ⟨⟨hx, ho⟩, hn⟩
      refine ⟨hx, fun i y hi hl hy => ?_⟩
      by_cases e : i = j
      · subst e
        have : y = c := by rw [hc] at hy; omega
        subst this
        cases e2 : sbl T x y with
        | false => rfl
        | true =>
          rw [hu.2 ⟨hL x hx, e2⟩] at hn
          cases hn
      · exact ho i y (by omega) hl hy
    · rintro ⟨hx, ho⟩
      refine ⟨⟨hx, fun i y hi hl hy => ho i y (by omega) hl hy⟩, ?_⟩
      have hf := ho j c (by omega) hj hc
      cases e2 : (andn (undB T c) (2 ^ c)).testBit x with
      | false => rfl
      | true =>
        have := (hu.1 e2).2
        rw [hf] at this; cases this
theorem DirI.done {d : Nat} (h9 : T.length ≤ 9) (ha : a < T.length) (hd : DirI T a (andn (undB T a) (2 ^ a)) (thk (andn (undB T a) (2 ^ a)) 9).length d) : DirS T a d := by
  refine ⟨hd.1, fun x => ?_⟩
  rw [hd.2 x, under_sbl ha h9]
  constructor
  · rintro ⟨⟨hx, hs⟩, ho⟩
    refine ⟨hx, hs, fun c hc hca => ?_⟩
    obtain ⟨i, hil, hie⟩ := thk_of ((under_sbl ha h9).2 ⟨hc, hca⟩) (by omega)
    exact ho i c hil hil hie
  · rintro ⟨hx, hs, ho⟩
    refine ⟨⟨hx, hs⟩, fun i c hi hl hc => ?_⟩
    obtain ⟨y, hy, hb, _⟩ := thk_mem hl
    have : c = y := by rw [hc] at hy; omega
    subst this
    obtain ⟨c1, c2⟩ := (under_sbl ha h9).1 hb
    exact ho c c1 c2
end
end Go.Proofs.Ytnchipcpeeofaaa

namespace Go.Proofs.Ytnchipcpeeofaaa
set_option linter.unusedVariables false

/-- Where a thing leads in the end. -/
def rt (P : Nat → Nat) (i : Nat) : Nat := if h : P i < i then rt P (P i) else i
termination_by i
section
variable {P : Nat → Nat} {i : Nat}
/-- One thing that leads nowhere is led to another. -/
def upd (P : Nat → Nat) (x y : Nat) (i : Nat) : Nat := if i = x then y else P i
end
/-- Classes under way: all pairs below b, and those of b with things below a. -/
structure Cls (r : Nat → Nat → Bool) (P : Nat → Nat) (b a : Nat) : Prop where
  par : ∀ i, P i ≤ i
  lo : ∀ x, x < b → rt P x = fs r x
  mid : rt P b = if fs r b < a then fs r b else b
  hi : ∀ x, b < x → rt P x = x
section
variable {r : Nat → Nat → Bool} {P : Nat → Nat} {b a n : Nat}
theorem Cls.next (h : Cls r P b b) : Cls r P (b + 1) 0 := ⟨h.par, fun x hx => by
    by_cases e : x = b
    · subst e
      rw [h.mid]
      split
      · rfl
      · have := fs_le (r := r) x; omega
    · exact h.lo x (by omega), by rw [if_neg (Nat.not_lt_zero _)]; exact h.hi _ (by omega), fun x hx => h.hi x (by omega)⟩
theorem Cls.done (h : Cls r P n 0) {x : Nat} (hx : x < n) : rt P x = fs r x := h.lo x hx
end
end Go.Proofs.Ytnchipcpeeofaaa

namespace Go.Proofs.Ytnchipcpeeofaaa
set_option linter.unusedVariables false

/-- Digit j of k to the base m. -/
def dgt (m k j : Nat) : Nat := k / m ^ j % m
/-- The digits below p are the highest ones: they are carried. -/
def Carry (m k p : Nat) : Prop := k + 1 = m ^ p * (k / m ^ p + 1)
/-- The digits while one counts up: those below p are carried already. -/
def upD (m k p j : Nat) : Nat := if j < p then 0 else dgt m k j
section
variable {m k p n j : Nat}
theorem carry_zero (m k : Nat) : Carry m k 0 := by unfold Carry; simp
theorem upD_zero (m k j : Nat) : upD m k 0 j = dgt m k j := by unfold upD; rw [if_neg (by omega)]
theorem dgt_lt (hm : 0 < m) : dgt m k j < m := Nat.mod_lt _ hm
theorem dgt_zero (hm : 0 < m) : dgt m 0 j = 0 := by unfold dgt; simp
theorem pow_next (m k p : Nat) : k / m ^ (p + 1) = k / m ^ p / m := by rw [Nat.pow_succ, Nat.div_div_eq_div_mul]
theorem carry_next (h : Carry m k p) (hd : dgt m k p + 1 = m) : Carry m k (p + 1) := by
  unfold Carry at h ⊢
  unfold dgt at hd
  rw [pow_next]
  generalize k / m ^ p = q at h hd ⊢
  have hq := Nat.div_add_mod q m
  rw [h, Nat.pow_succ, Nat.mul_assoc]
  congr 1
  rw [Nat.mul_add, Nat.mul_one]
  omega
theorem upD_next (h : j ≠ p) : upD m k p j = upD m k (p + 1) j := by
  unfold upD
  by_cases hj : j < p
  · rw [if_pos hj, if_pos (by omega)]
  · rw [if_neg hj, if_neg (by omega)]
theorem upD_at (m k p : Nat) : upD m k p p = dgt m k p := by unfold upD; rw [if_neg (by omega)]
theorem upD_last (m k p : Nat) : upD m k (p + 1) p = 0 := by unfold upD; rw [if_pos (by omega)]
/-- The digits that are carried are 0 in the next number. -/
theorem dgt_carried (hm : 0 < m) (h : Carry m k p) (hj : j < p) : dgt m (k + 1) j = 0 := by
  unfold Carry at h
  unfold dgt
  have e : m ^ p = m ^ j * (m * m ^ (p - j - 1)) := by
    rw [← Nat.pow_succ', ← Nat.pow_add]
    congr 1
    omega
  rw [h, e, Nat.mul_assoc, Nat.mul_div_cancel_left _ (Nat.pow_pos hm), Nat.mul_assoc, Nat.mul_mod_right]
/-- The digit that is not the highest one grows by one, and the others stay. -/
theorem dgt_stop (hm : 0 < m) (h : Carry m k p) (hd : dgt m k p + 1 < m) (j : Nat) : dgt m (k + 1) j = if j = p then dgt m k p + 1 else upD m k p j := by
  have hp : (k + 1) / m ^ p = k / m ^ p + 1 := by
    unfold Carry at h
    conv => lhs; rw [h]
    rw [Nat.mul_div_cancel_left _ (Nat.pow_pos hm)]
  have hq := Nat.div_add_mod (k / m ^ p) m
  have hs : k / m ^ p + 1 = m * (k / m ^ p / m) + (dgt m k p + 1) := by unfold dgt; omega
  by_cases e : j = p
  · subst e
    rw [if_pos rfl]
    show (k + 1) / m ^ j % m = _
    rw [hp, hs, Nat.mul_add_mod, Nat.mod_eq_of_lt hd]
  · rw [if_neg e]
    by_cases hj : j < p
    · rw [dgt_carried hm h hj]
      unfold upD
      rw [if_pos hj]
    · unfold upD
      rw [if_neg hj]
      have e2 : m ^ j = m ^ (p + 1) * m ^ (j - p - 1) := by
        rw [← Nat.pow_add]
        congr 1
        omega
      have h1 : (k + 1) / m ^ (p + 1) = k / m ^ (p + 1) := by
        rw [pow_next, pow_next, hp, hs, Nat.mul_add_div hm, Nat.div_eq_of_lt hd, Nat.add_zero]
      unfold dgt
      rw [e2, ← Nat.div_div_eq_div_mul, h1, Nat.div_div_eq_div_mul]
theorem stop_lt (hm : 0 < m) (h : Carry m k p) (hd : dgt m k p + 1 < m) (hk : k < m ^ n) (hp : p < n) : k + 1 < m ^ n := by
  rcases Nat.lt_or_ge (k + 1) (m ^ n) with hlt | hge
  · exact hlt
  · have e : k + 1 = m ^ n := by omega
    have h1 := dgt_stop hm h hd p
    rw [if_pos rfl, e] at h1
    unfold dgt at h1
    have e2 : m ^ n = m ^ p * (m * m ^ (n - p - 1)) := by
      rw [← Nat.pow_succ', ← Nat.pow_add]
      congr 1
      omega
    rw [e2, Nat.mul_div_cancel_left _ (Nat.pow_pos hm), Nat.mul_mod_right] at h1
    omega
/-- All digits are carried. -/
theorem carry_all (h : Carry m k n) (hk : k < m ^ n) : k + 1 = m ^ n := by
  unfold Carry at h
  rw [Nat.div_eq_of_lt hk] at h
  simpa using h
theorem dgt_all (hm : 0 < m) (h : Carry m k n) (hj : j < n) : dgt m (k + 1) j = upD m k n j := by
  rw [dgt_carried hm h hj]
  unfold upD
  rw [if_pos hj]
theorem el_dgt (h : j < n) : el (digL m n k) j = ((dgt m k j : Nat) : Int) := el_digL h
end
end Go.Proofs.Ytnchipcpeeofaaa

namespace Go.Proofs.Ytnchipcpeeofaaa
set_option linter.unusedVariables false

/-- The text of a word. -/
def bs (u : List UInt8) : ByteArray := ⟨u.toArray⟩
/-- The k-th letter. -/
def lt (u : List UInt8) (k : Nat) : UInt8 := u.getD k 0
section
variable {u v : List UInt8} {k : Nat}
theorem toList_bs (u : List UInt8) : (bs u).toList = u := ByteArray.toList_mk u
theorem lt_mem (h : k < u.length) : lt u k ∈ u := by simp [lt, h]
end
/-- A letter among letters, as the specification adds it. -/
def dlt (c : UInt8) : Nat := 2 ^ (c.toNat % 32) / 2
theorem take_lt {u : List UInt8} {k : Nat} (hk : k < u.length) : u.take (k + 1) = u.take k ++ [lt u k] := by
  have : lt u k = u[k] := by simp [lt, hk]
  rw [this, List.take_succ_eq_append_getElem hk]
section
variable {u : List UInt8}
end
section
variable {u v : List UInt8}
end
end Go.Proofs.Ytnchipcpeeofaaa

namespace Go.Proofs.Ytnchipcpeeofaaa
set_option linter.unusedVariables false
section
variable {u v : List UInt8}
def sameB (u v : List UInt8) : Bool := decide (made u = made v)
end
end Go.Proofs.Ytnchipcpeeofaaa

namespace Go.Proofs.Ytnchipcpeeofaaa
set_option linter.unusedVariables false

section
variable {T : List (List Int)} {f : UInt8 → Int} {u v w p q m : List UInt8} {x y : UInt8}
/-- Things of the table alone. -/
def AllTh (T : List (List Int)) (xs : List Int) : Prop := ∀ x, x ∈ xs → Th T x
/-- Letters stand for things. -/
def Sta (T : List (List Int)) (f : UInt8 → Int) : Prop := ∀ y, Th T (f y)
theorem Sta.all (h : Sta T f) (u : List UInt8) : AllTh T (u.map f) := fun x hx => by
  obtain ⟨y, _, rfl⟩ := List.mem_map.1 hx
  exact h y
end
end Go.Proofs.Ytnchipcpeeofaaa

namespace Go.Proofs.Ytnchipcpeeofaaa
set_option linter.unusedVariables false

/-- Of the first k letters of a word: the place where a letter comes first, or -1. -/
def FP (u : List UInt8) (k : Nat) (c : UInt8) (p : Int) : Prop := (c ∉ u.take k ∧ p = -1) ∨ ∃ a : Nat, p = (a : Int) ∧ a < k ∧ lt u a = c ∧ c ∉ u.take a
section
variable {u : List UInt8} {k : Nat} {c : UInt8} {p : Int}
theorem FP.zero : FP u 0 c (-1) := .inl ⟨by simp, rfl⟩
theorem FP.lo (h : FP u k c p) : -1 ≤ p := by
  rcases h with ⟨_, rfl⟩ | ⟨a, rfl, _⟩ <;> omega
theorem FP.hi (h : FP u k c p) : p < k := by
  rcases h with ⟨_, rfl⟩ | ⟨a, rfl, h, _⟩ <;> omega
theorem FP.old (h : FP u k c p) (hk : k < u.length) (ho : lt u k ≠ c ∨ p ≠ -1) : FP u (k + 1) c p := by
  rcases h with ⟨hm, rfl⟩ | ⟨a, rfl, ha, e, hm⟩
  · rcases ho with ho | ho
    · refine .inl ⟨?_, rfl⟩
      rw [take_lt hk, List.mem_append, List.mem_singleton]
      rintro (h | h)
      · exact hm h
      · exact ho h.symm
    · exact (ho rfl).elim
  · exact .inr ⟨a, rfl, by omega, e, hm⟩
theorem FP.hd {a : Nat} (h : FP u u.length c a) (hu : ∀ y, y ∈ u → ∃ p, FP u u.length y p ∧ p ≤ a) : HdIs u (u.take a) (lt u a) := by
  rcases h with ⟨_, e⟩ | ⟨b, e, hb, ec, hm⟩
  · omega
  · obtain rfl : a = b := by omega
    rw [ec]
    refine ⟨⟨u.drop (a + 1), ?_, fun y hy => ?_⟩, hm⟩
    · have e1 : lt u a = u[a] := by simp [lt, hb]
      rw [← ec, e1, ← List.drop_eq_getElem_cons hb, List.take_append_drop]
    · obtain ⟨p, hp, hpa⟩ := hu y (List.mem_of_mem_drop hy)
      rcases hp with ⟨hn, _⟩ | ⟨d, rfl, hd, ed, _⟩
      · rw [List.take_length] at hn
        exact (hn (List.mem_of_mem_drop hy)).elim
      · by_cases hda : d = a
        · subst hda; exact .inr (ed.symm.trans ec)
        · left
          have hda2 : d < a := by omega
          have hlen : d < (u.take a).length := by rw [List.length_take]; omega
          have : lt (u.take a) d = lt u d := by
            have h1 : d < u.length := by omega
            simp [lt, hda2]
          rw [← ed, ← this]
          exact lt_mem hlen
end
section
variable {u : List UInt8} {x y z : Int}
end
end Go.Proofs.Ytnchipcpeeofaaa

namespace Go.Proofs.Ytnchipcpeeofaaa
set_option linter.unusedVariables false

/-- Heights under way: r rounds are done, and things below a. -/
structure HR (T : List (List Int)) (r a : Nat) (H : Nat → Nat) (best : Nat) : Prop where
  sound : ∀ x, x < T.length → H x = 0 ∨ HasH T (H x - 1) x
  one : 1 ≤ best
  has : ∃ x, x < T.length ∧ HasH T (best - 1) x
  top : ∀ x, x < T.length → H x ≤ best
  old : ∀ x k, x < T.length → k < r → HasH T k x → k + 1 ≤ H x
  new : ∀ x, x < a → x < T.length → HasH T r x → r + 1 ≤ H x
/-- Heights under way: the thing a is asked with things below b. -/
structure HI (T : List (List Int)) (r a b : Nat) (H : Nat → Nat) (best : Nat) : Prop where
  sound : ∀ x, x < T.length → H x = 0 ∨ HasH T (H x - 1) x
  one : 1 ≤ best
  has : ∃ x, x < T.length ∧ HasH T (best - 1) x
  top : ∀ x, x < T.length → x ≠ a → H x ≤ best
  old : ∀ x k, x < T.length → k < r → HasH T k x → k + 1 ≤ H x
  new : ∀ x, x < a → x < T.length → HasH T r x → r + 1 ≤ H x
  cur : 1 ≤ H a
  ask : ∀ x, x < b → sbl T x a = true → H x + 1 ≤ H a
/-- One thing's number is put. -/
def putN (H : Nat → Nat) (a v : Nat) (x : Nat) : Nat := if x = a then v else H x
section
variable {T : List (List Int)} {r a b best : Nat} {H : Nat → Nat}
theorem putN_at : putN H a b a = b := by unfold putN; rw [if_pos rfl]
theorem putN_ne {x : Nat} (h : x ≠ a) : putN H a b x = H x := by unfold putN; rw [if_neg h]
theorem HR.round (h : HR T r T.length H best) : HR T (r + 1) 0 H best :=
  ⟨h.sound, h.one, h.has, h.top, fun x k hx hk hh => by
    by_cases e : k = r
    · subst e; exact h.new x hx hx hh
    · exact h.old x k hx (by omega) hh, fun _ h => absurd h (Nat.not_lt_zero _)⟩
theorem HR.enter (h : HR T r a H best) (ha : a < T.length) : HI T r a 0 (putN H a (max (H a) 1)) best := by
  refine ⟨fun x hx => ?_, h.one, h.has, fun x hx hne => by rw [putN_ne hne]; exact h.top x hx, fun x k hx hk hh => ?_, fun x hxa hx hh => ?_, by rw [putN_at]; omega, fun x hx => absurd hx (Nat.not_lt_zero _)⟩
  · by_cases e : x = a
    · subst e
      rw [putN_at]
      right
      rcases h.sound x hx with e0 | hs
      · rw [e0]; exact trivial
      · by_cases h1 : 1 ≤ H x
        · rw [Nat.max_eq_left h1]; exact hs
        · have : H x = 0 := by omega
          rw [this]; exact trivial
    · rw [putN_ne e]; exact h.sound x hx
  · have := h.old x k hx hk hh
    by_cases e : x = a
    · subst e; rw [putN_at]; omega
    · rw [putN_ne e]; exact this
  · have := h.new x hxa hx hh
    rw [putN_ne (by omega)]; exact this
theorem HI.step (h : HI T r a b H best) (hs : sbl T b a = true) (ha : a < T.length) (hb : b < T.length) : HI T r a (b + 1) (putN H a (max (H a) (H b + 1))) best := by
  have hne : b ≠ a := (sbl_iff.1 hs).1
  refine ⟨fun x hx => ?_, h.one, h.has, fun x hx hn => by rw [putN_ne hn]; exact h.top x hx hn, fun x k hx hk hh => ?_, fun x hxa hx hh => ?_, ?_, fun x hx hx2 => ?_⟩
  · by_cases e : x = a
    · subst e
      rw [putN_at]
      right
      have hb1 : HasH T (H b + 1 - 1) x := by
        rw [Nat.add_sub_cancel]
        rcases h.sound b hb with e0 | hsb
        · rw [e0]; exact trivial
        · by_cases h0 : H b = 0
          · rw [h0]; exact trivial
          · obtain ⟨m, hm⟩ : ∃ m, H b = m + 1 := ⟨H b - 1, by omega⟩
            rw [hm] at hsb ⊢
            exact ⟨b, hb, hs, hsb⟩
      rcases Nat.le_total (H x) (H b + 1) with hl | hl
      · rw [Nat.max_eq_right hl]; exact hb1
      · rw [Nat.max_eq_left hl]
        rcases h.sound x hx with e0 | hsx
        · have := h.cur; omega
        · exact hsx
    · rw [putN_ne e]; exact h.sound x hx
  · have := h.old x k hx hk hh
    by_cases e : x = a
    · subst e; rw [putN_at]; omega
    · rw [putN_ne e]; exact this
  · have := h.new x hxa hx hh
    rw [putN_ne (by omega)]; exact this
  · have := h.cur
    rw [putN_at]; omega
  · have hxa : x ≠ a := (sbl_iff.1 hx2).1
    rw [putN_at, putN_ne hxa]
    by_cases e : x = b
    · subst e; omega
    · have := h.ask x (by omega) hx2; omega
theorem HR.le (h : HR T r a H best) (hb : bandT T = true) : best ≤ T.length ∧ ∀ x, x < T.length → H x ≤ T.length := by
  have h2 := nL_le T
  have hbest : best ≤ T.length := by
    obtain ⟨x, hx, hh⟩ := h.has
    have := hh.le hb hx
    have := h.one
    omega
  exact ⟨hbest, fun x hx => Nat.le_trans (h.top x hx) hbest⟩
theorem HI.le (h : HI T r a b H best) (hb : bandT T = true) : best ≤ T.length ∧ ∀ x, x < T.length → H x ≤ T.length := by
  have h2 := nL_le T
  refine ⟨?_, fun x hx => ?_⟩
  · obtain ⟨x, hx, hh⟩ := h.has
    have := hh.le hb hx
    have := h.one
    omega
  · rcases h.sound x hx with e | hs
    · omega
    · have := hs.le hb hx; omega
end
end Go.Proofs.Ytnchipcpeeofaaa

namespace Go.Proofs.Ytnchipcpeeofaaa
open Go.RowKit
set_option linter.unusedVariables false


theorem and_low {s z : Nat} (hs : s < 1024) (hz : z ≤ 9) : bits .and .i64 (s : Int) ((2 : Int) ^ z - 1) = ((s % 2 ^ z : Nat) : Int) := by
  have h := pow_le9 hz
  have e : (2 : Int) ^ z - 1 = ((2 ^ z - 1 : Nat) : Int) := by
    rw [Int.natCast_sub h.1]; simp
  rw [e, (bits_i64 hs (by omega)).1, Nat.and_two_pow_sub_one_eq_mod]

/-- How many bits, summed side by side. -/
def p1 (u : Int) : Int := IntKind.u64.wrap (bits .and .u64 (u / 2) 6148914691236517205 + bits .and .u64 u 6148914691236517205)
def p2 (a : Int) : Int := IntKind.u64.wrap (bits .and .u64 (a / 4) 3689348814741910323 + bits .and .u64 a 3689348814741910323)
def p3 (a : Int) : Int := bits .and .u64 (a / 16 + a) 1085102592571150095
def p4 (a : Int) : Int := a + a / 256
def p5 (a : Int) : Int := a + a / 65536
def p6 (a : Int) : Int := a + a / 4294967296
def small_ (a : Int) : Bool := decide (0 ≤ a) && decide (a ≤ 100000)
theorem pc_all : ∀ u : Fin 512, (small_ (p1 (u.val : Nat)) && small_ (p2 (p1 (u.val : Nat))) && small_ (p3 (p2 (p1 (u.val : Nat)))) && small_ (p4 (p3 (p2 (p1 (u.val : Nat))))) && small_ (p5 (p4 (p3 (p2 (p1 (u.val : Nat)))))) && small_ (p6 (p5 (p4 (p3 (p2 (p1 (u.val : Nat)))))))
    && decide (bits .and .i64 (p6 (p5 (p4 (p3 (p2 (p1 (u.val : Nat))))))) 127 = ((cnt u.val 9 : Nat) : Int))) = true := by decide +kernel
theorem pc_steps (u : Nat) (hu : u < 512) : ∃ a1 a2 a3 a4 a5 a6 : Int, p1 u = a1 ∧ p2 a1 = a2 ∧ p3 a2 = a3 ∧ p4 a3 = a4 ∧ p5 a4 = a5 ∧ p6 a5 = a6 ∧ bits .and .i64 a6 127 = ((cnt u 9 : Nat) : Int) ∧
    (0 ≤ a1 ∧ a1 ≤ 100000) ∧ (0 ≤ a2 ∧ a2 ≤ 100000) ∧ (0 ≤ a3 ∧ a3 ≤ 100000) ∧ (0 ≤ a4 ∧ a4 ≤ 100000) ∧ (0 ≤ a5 ∧ a5 ≤ 100000) ∧ (0 ≤ a6 ∧ a6 ≤ 100000) := by
  have h := pc_all ⟨u, hu⟩
  simp only [Bool.and_eq_true, decide_eq_true_iff, small_] at h
  obtain ⟨⟨⟨⟨⟨⟨h1, h2⟩, h3⟩, h4⟩, h5⟩, h6⟩, h7⟩ := h
  exact ⟨_, _, _, _, _, _, rfl, rfl, rfl, rfl, rfl, rfl, h7, h1, h2, h3, h4, h5, h6⟩

set_option maxHeartbeats 1000000 in
theorem ones64_any (u : Nat) (w : World) (hu : u < 512) :
    Calls Try.prog 92 #[.int .u64 u] w fun e w' => e = .returned (.int .i64 (cnt u 9 : Nat)) ∧ w = w' := by
  obtain ⟨a1, a2, a3, a4, a5, a6, e1, e2, e3, e4, e5, e6, e7, ⟨l1, u1⟩, ⟨l2, u2⟩, ⟨l3, u3⟩, ⟨l4, u4⟩, ⟨l5, u5⟩, l6, u6⟩ := pc_steps u hu
  simp only [p1, p2, p3, p4, p5, p6] at e1 e2 e3 e4 e5 e6
  go_enter Try.func92, Try.ntmps92
  go_wp2
  go_ret
  exact ⟨rfl, rfl⟩

set_option maxHeartbeats 1000000 in
theorem ones_any (u : Nat) (w : World) (hu : u < 512) :
    Calls Try.prog 84 #[.int .u64 u] w fun e w' => e = .returned (.int .i64 (cnt u 9 : Nat)) ∧ w = w' := by
  go_enter Try.func84, Try.ntmps84
  go_wp2_with (go_at_call 92; refine (ones64_any u _ hu).mono ?_; rintro e w' ⟨rfl, rfl⟩)
  go_ret
  exact ⟨rfl, rfl⟩

set_option maxHeartbeats 1000000 in
theorem placeIn_any (s z : Nat) (w : World) (hs : s < 512) (hz : z ≤ 9) :
    Calls Try.prog 64 #[.int .i64 s, .int .i64 z] w fun e w' => e = .returned (.int .i64 (cnt s z : Nat)) ∧ w = w' := by
  obtain ⟨h1, h2⟩ := pow_int hz
  have hand := and_low (by omega : s < 1024) hz
  have hlt : s % 2 ^ z < 512 := Nat.lt_of_le_of_lt (Nat.mod_le _ _) hs
  obtain ⟨m, hm⟩ : ∃ m, m = s % 2 ^ z := ⟨_, rfl⟩
  rw [← hm] at hand hlt
  have HC := hide (show cnt m 9 = cnt s z from by rw [hm, cnt_mod, Nat.min_eq_right hz])
  clear hm
  go_enter Try.func64, Try.ntmps64
  go_wp2_with (go_at_call 84; refine (ones_any m _ hlt).mono ?_; rintro e w' ⟨rfl, rfl⟩)
  go_ret
  exact ⟨ret_int (by rw [HC.out]), rfl⟩
end Go.Proofs.Ytnchipcpeeofaaa

namespace Go.Proofs.Ytnchipcpeeofaaa
open Go.RowKit
set_option linter.unusedVariables false


set_option maxRecDepth 20000 in
set_option maxHeartbeats 4000000 in
theorem part1_any (A A3 : Option Addr) (c c3 lo hi lo3 hi3 g1 g2 g3 : Nat) (T : List (List Int)) (s x y : Nat) (w : World) (h : Mat w lo hi A T) (hh : hi ≤ w.heap.size) (k : IsP T s) (h3 : Row w lo3 hi3 A3 (thk s 9)) (hh3 : hi3 ≤ w.heap.size)
    (q1 : w.cell? ⟨g1, 0, none⟩ = some (.int .i64 s)) (q2 : w.cell? ⟨g2, 0, none⟩ = some (.slice A T.length c)) (q3 : w.cell? ⟨g3, 0, none⟩ = some (.slice A3 (thk s 9).length c3)) (hx : x < (thk s 9).length) (hy : y < (thk s 9).length) :
    Calls Try.prog 63 #[.int .i64 x, .int .i64 y, .pointer (some ⟨g1, 0, none⟩), .pointer (some ⟨g2, 0, none⟩), .pointer (some ⟨g3, 0, none⟩)] w fun e w' => e = .returned (.int .i64 (partM T s x y)) ∧ Below w.heap.size w w' := by
  have kT := okT_iff.1 k.ok
  have t9 := kT.hi
  have s9 : s < 512 := Nat.lt_of_lt_of_le k.lt (pow_le9 t9).2
  obtain ⟨xa, xb, z, ea, eb, ez, _, _, _, xa1, xb1, z1, em, _, _⟩ := k.prod hx hy
  obtain ⟨b, o, rfl, _, hb, hc1⟩ := h3 x hx
  obtain ⟨b', o', e', _, _, hc2⟩ := h3 y hy
  obtain ⟨rfl, rfl⟩ : b = b' ∧ o = o' := by simpa using e'
  clear e'
  rw [ea] at hc1
  rw [eb] at hc2
  have l1 := World.block_lt_of_cell? _ _ q1
  have l2 := World.block_lt_of_cell? _ _ q2
  have l3 := World.block_lt_of_cell? _ _ q3
  have hb' : b < w.heap.size := by omega
  have EM := hide em
  have EZ := hide ez
  clear ea eb ez em
  obtain ⟨L, hL⟩ : ∃ L, L = (thk s 9).length := ⟨_, rfl⟩
  have hL9 : L ≤ 9 := by rw [hL]; exact len_thk s 9
  rw [← hL] at hx hy q3
  clear hL
  have hxi : (x : Int) < (L : Int) := by omega
  have hyi : (y : Int) < (L : Int) := by omega
  have MK := hide (fun (W : World) (hW' : Below w.heap.size w W) =>
    (⟨(hW'.cell (p := ⟨g1, 0, none⟩) l1).trans q1, (hW'.cell (p := ⟨g2, 0, none⟩) l2).trans q2, (hW'.cell (p := ⟨g3, 0, none⟩) l3).trans q3, (hW'.cell (p := ⟨b, o + x, none⟩) hb').trans hc1, (hW'.cell (p := ⟨b, o + y, none⟩) hb').trans hc2, hW'⟩ :
      W.cell? ⟨g1, 0, none⟩ = some (.int .i64 s) ∧ W.cell? ⟨g2, 0, none⟩ = some (.slice A T.length c) ∧ W.cell? ⟨g3, 0, none⟩ = some (.slice (some ⟨b, o, none⟩) L c3) ∧ W.cell? ⟨b, o + x, none⟩ = some (.int .i64 (xa : Nat)) ∧ W.cell? ⟨b, o + y, none⟩ = some (.int .i64 (xb : Nat)) ∧ Below w.heap.size w W))
  clear q1 q2 q3 hc1 hc2 h3
  go_enter Try.func63, Try.ntmps63
  go_wp2_with fail
  go_region_held3 (fun W => W.cell? ⟨g1, 0, none⟩ = some (.int .i64 s) ∧ W.cell? ⟨g2, 0, none⟩ = some (.slice A T.length c) ∧ W.cell? ⟨g3, 0, none⟩ = some (.slice (some ⟨b, o, none⟩) L c3) ∧ W.cell? ⟨b, o + x, none⟩ = some (.int .i64 (xa : Nat)) ∧ W.cell? ⟨b, o + y, none⟩ = some (.int .i64 (xb : Nat)) ∧ Below w.heap.size w W)
    (first
      | exact MK.out _ ((Below.refl _ _).drew)
      | (go_split_ands
         exact MK.out _ (Below.trans (by assumption) (Below.mono (by assumption) (Below.size (by assumption))))))
    (first
      | (go_at_call 65
         refine (product_any _ _ lo hi T _ _ _ ?_ ?_ kT (by omega) (by omega) (by omega) (by omega)).mono ?_
         · go_split_ands
           exact h.below (B := w.heap.size) (by assumption) hh
         · go_split_ands
           exact Nat.le_trans hh (Below.size (by assumption))
         rintro e wj ⟨rfl, hbj⟩)
      | (go_at_call 64
         rw [EZ.out]
         refine (placeIn_any s z _ s9 (by omega)).mono ?_
         rintro e wk ⟨rfl, hek⟩
         have hbk : Below wk.heap.size wk wk := Below.refl _ _
         subst hek))
  rename_i hHeld
  obtain ⟨_, _, _, _, _, hB1⟩ := hHeld
  go_wp2
  go_ret
  exact ⟨ret_int EM.out.symm, hB1⟩

theorem two_cells (w : World) (u v : Value) (t1 t2 : TypeId) : (((w.alloc (.cells #[u] t1)).alloc (.cells #[v] t2)).cell? ⟨w.heap.size, 0, none⟩ = some u) ∧ (((w.alloc (.cells #[u] t1)).alloc (.cells #[v] t2)).cell? ⟨w.heap.size + 1, 0, none⟩ = some v) := by
  have e := heap_alloc_new w (.cells #[u] t1)
  have e1 := (Below.heap_alloc (w.alloc (.cells #[u] t1)) (.cells #[v] t2) w.heap.size (by simp)).trans e
  have e2 := heap_alloc_new (w.alloc (.cells #[u] t1)) (.cells #[v] t2)
  have hs : (w.alloc (.cells #[u] t1)).heap.size = w.heap.size + 1 := by simp
  rw [hs] at e2
  exact ⟨by rw [cell_of_row _ _ _ _ _ _ e1]; rfl, by rw [cell_of_row _ _ _ _ _ _ e2]; rfl⟩

set_option maxRecDepth 20000 in
set_option maxHeartbeats 4000000 in
theorem iPartOf_any (A : Option Addr) (c lo hi : Nat) (T : List (List Int)) (s : Int) (w : World) (h : Mat w lo hi A T) (hh : hi ≤ w.heap.size) (hS : Small T) :
    Calls Try.prog 30 #[.slice A T.length c, .int .i64 s] w (OwnTab w (partT T s)) := by
  have b0 := (Below.refl w.heap.size w).alloc (Nat.le_refl _) (.cells #[.int .i64 s] 3)
  have e0 := heap_alloc_new w (.cells #[.int .i64 s] 3)
  have hz0 : (w.alloc (.cells #[.int .i64 s] 3)).heap.size = w.heap.size + 1 := by simp
  have MK := hide (fun (W : World) (hW : Below (w.heap.size + 1) (w.alloc (.cells #[.int .i64 s] 3)) W) =>
    (⟨by rw [cell_of_row W w.heap.size 0 _ _ _ ((hW.block w.heap.size (by omega)).trans e0)]; rfl, hW⟩ : W.cell? ⟨w.heap.size, 0, none⟩ = some (.int .i64 s) ∧ Below (w.heap.size + 1) (w.alloc (.cells #[.int .i64 s] 3)) W))
  have HZ := hide hz0
  have h0 := h.below b0 hh
  have hh0 : hi ≤ (w.alloc (.cells #[.int .i64 s] 3)).heap.size := by omega
  clear e0 hz0
  by_cases h1 : s < 1
  · have HF : Hid (∀ w', Below w.heap.size w w' → OwnTab w (partT T s) (.returned (.slice none 0 0)) w') := fun w' hb => by
      rw [partT_not (fun hx => by omega)]; exact ⟨none, 0, rfl, hb, OMat.nil _ _ _ _⟩
    go_enter Try.func30, Try.ntmps30
    go_wp2_with fail
    go_quiet (fail)
    go_wp2
    go_ret
    exact HF.out _ (Below.drewN_ b0 _)
  · by_cases hp : madeT T s = s
    · obtain ⟨n, rfl, kP⟩ := isP_of (by omega) hp
      have kT := okT_iff.1 kP.ok
      have t9 := kT.hi
      have s9 : n < 512 := Nat.lt_of_lt_of_le kP.lt (pow_le9 t9).2
      have HE := hide (show partT T (n : Nat) = tabOf (thk n 9).length (partM T n) from kP.part)
      have hcf : ∀ (args : Array Value) (w : World), (callFunc 63 args).run Try.prog w = .ok (.enter 63 args) w := fun args w => by kernel_rfl
      have HCF := hide hcf
      have HP := hide hp
      have hd : decide ((n : Int) < 1) = false := by simpa using h1
      clear hcf hp
      go_enter Try.func30, Try.ntmps30
      go_wp2_with fail
      go_region_held3 (fun W => W.cell? ⟨w.heap.size, 0, none⟩ = some (.int .i64 (n : Nat)) ∧ Below (w.heap.size + 1) (w.alloc (.cells #[.int .i64 (n : Nat)] 3)) W)
        (first
          | exact MK.out _ ((Below.refl _ _).drew)
          | (go_split_ands
             exact MK.out _ (Below.trans (by assumption) (Below.mono (by assumption) (Nat.le_trans (Nat.le_of_eq HZ.out.symm) (Below.size (by assumption)))))))
        (first
          | (go_at_call 27
             refine (iMadeBy_any _ _ lo hi T _ _ ?_ ?_ hS).mono ?_
             · go_split_ands
               exact h0.below (B := w.heap.size + 1) (by assumption) (by omega)
             · go_split_ands
               exact Nat.le_trans hh0 (Below.size (by assumption))
             rw [HP.out]
             rintro e wj ⟨rfl, hbj⟩))
      rename_i hHeld
      obtain ⟨hc1, hB1⟩ := hHeld
      have B1 := b0.trans (hB1.mono (by omega))
      go_wp2_with fail
      refine (thingsIn_any n _ (by omega)).mono ?_
      rintro e w2 ⟨A3, c3, rfl, b2, hR, hc3, hc4⟩
      have B2 := B1.trans (b2.mono B1.size)
      have z1 : w.heap.size < w2.heap.size := by have := hB1.size; have := b2.size; have := HZ.out; omega
      have hc2 : w2.cell? ⟨w.heap.size, 0, none⟩ = some (.int .i64 (n : Nat)) := (b2.cell (p := ⟨w.heap.size, 0, none⟩) (World.block_lt_of_cell? _ _ hc1)).trans hc1
      have b3 := ((Below.refl w2.heap.size w2).alloc (Nat.le_refl _) (.cells #[.slice A T.length c] 53)).alloc (by simp) (.cells #[.slice A3 (thk n 9).length c3] 24)
      obtain ⟨t1, t2⟩ := two_cells w2 (.slice A T.length c) (.slice A3 (thk n 9).length c3) 53 24
      have es : ((w2.alloc (.cells #[.slice A T.length c] 53)).alloc (.cells #[.slice A3 (thk n 9).length c3] 24)).heap.size = w2.heap.size + 2 := by simp
      have ES := hide es
      clear es hc1
      have t0 := (b3.cell (p := ⟨w.heap.size, 0, none⟩) z1).trans hc2
      have B3 := B2.trans (b3.mono B2.size)
      have hR3 := hR.below b3 (Nat.le_refl _)
      have hL9 := len_thk n 9
      have CE := hide (show ∀ wr, Below (w2.heap.size + 2) ((w2.alloc (.cells #[.slice A T.length c] 53)).alloc (.cells #[.slice A3 (thk n 9).length c3] 24)) wr →
        wr.cell? ⟨w.heap.size, 0, none⟩ = some (.int .i64 (n : Nat)) ∧ wr.cell? ⟨w2.heap.size, 0, none⟩ = some (.slice A T.length c) ∧ wr.cell? ⟨w2.heap.size + 1, 0, none⟩ = some (.slice A3 (thk n 9).length c3) from fun wr hb =>
        ⟨(hb.cell (p := ⟨w.heap.size, 0, none⟩) (by show w.heap.size < _; omega)).trans t0, (hb.cell (p := ⟨w2.heap.size, 0, none⟩) (by show w2.heap.size < _; omega)).trans t1, (hb.cell (p := ⟨w2.heap.size + 1, 0, none⟩) (by show w2.heap.size + 1 < _; omega)).trans t2⟩)
      clear t0 t1 t2 hc2
      go_wp2_with fail
      refine (filledRows_any 63 #[.pointer (some ⟨w.heap.size, 0, none⟩), .pointer (some ⟨w2.heap.size, 0, none⟩), .pointer (some ⟨w2.heap.size + 1, 0, none⟩)] (thk n 9).length (partM T n) _ hL9 HCF.out (fun wr a b ha hb hbl => ?_)).mono ?_
      · rw [ES.out] at hbl
        obtain ⟨d1, d2, d3⟩ := CE.out wr hbl
        have bw := B3.trans (hbl.mono (by omega))
        have z3 := hbl.size
        exact part1_any A A3 c c3 lo hi _ _ _ _ _ T n a b wr (h.below bw hh) (Nat.le_trans hh bw.size) kP (hR3.below hbl (by omega)) (by rw [ES.out] at z3; omega) d1 d2 d3 ha hb
      · rw [ES.out]
        rintro e w4 ⟨rfl, b4, o4⟩
        go_wp2
        go_ret
        rw [HE.out]
        exact ⟨some ⟨w2.heap.size + 2, 0, none⟩, (thk n 9).length, ret_slice (by rw [len_tabOf]), B3.trans (b4.mono (by omega)), o4.mono (by omega) (Nat.le_refl _)⟩
    · have HP := hide hp
      have HF : Hid (∀ w', Below w.heap.size w w' → OwnTab w (partT T s) (.returned (.slice none 0 0)) w') := fun w' hb => by
        rw [partT_not (fun hx => hp hx.2)]; exact ⟨none, 0, rfl, hb, OMat.nil _ _ _ _⟩
      have hne : (madeT T s != s) = true := by simpa using hp
      have hd : decide (s < 1) = false := by simpa using h1
      clear hp
      go_enter Try.func30, Try.ntmps30
      go_wp2_with fail
      go_region_held3 (fun W => W.cell? ⟨w.heap.size, 0, none⟩ = some (.int .i64 s) ∧ Below (w.heap.size + 1) (w.alloc (.cells #[.int .i64 s] 3)) W)
        (first
          | exact MK.out _ ((Below.refl _ _).drew)
          | (go_split_ands
             exact MK.out _ (Below.trans (by assumption) (Below.mono (by assumption) (Nat.le_trans (Nat.le_of_eq HZ.out.symm) (Below.size (by assumption)))))))
        (first
          | (go_at_call 27
             refine (iMadeBy_any _ _ lo hi T _ _ ?_ ?_ hS).mono ?_
             · go_split_ands
               exact h0.below (B := w.heap.size + 1) (by assumption) (by omega)
             · go_split_ands
               exact Nat.le_trans hh0 (Below.size (by assumption))
             rintro e wj ⟨rfl, hbj⟩))
      rename_i hHeld
      obtain ⟨_, hB1⟩ := hHeld
      go_wp2
      go_ret
      exact HF.out _ (b0.trans (hB1.mono (by omega)))
end Go.Proofs.Ytnchipcpeeofaaa
