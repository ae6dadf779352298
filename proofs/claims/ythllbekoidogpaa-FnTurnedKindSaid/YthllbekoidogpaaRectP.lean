
/- Rectangles, their rows and columns: plain mathematics. -/
import Derived.Test.YthllbekoidogpaaBandP
namespace Go.Proofs.Ythllbekoidogpaa
set_option linter.unusedVariables false

/-- n things fit into m places only if n ≤ m. -/
theorem pigeon : ∀ (m n : Nat) (f : Nat → Nat), (∀ i, i < n → f i < m) → (∀ i j, i < n → j < n → f i = f j → i = j) → n ≤ m
  | 0, n, f, h, _ => by
    rcases Nat.eq_zero_or_pos n with h0 | h0
    · omega
    · have := h 0 h0; omega
  | m + 1, n, f, h, hi => by
    by_cases hx : ∃ i, i < n ∧ f i = m
    · obtain ⟨i, hin, hfi⟩ := hx
      have := pigeon m (n - 1) (fun j => if j < i then f j else f (j + 1)) (fun j hj => by
        split
        · rename_i hlt
          have h1 := h j (by omega)
          have h2 : f j ≠ m := fun e => by have := hi j i (by omega) hin (e.trans hfi.symm); omega
          omega
        · rename_i hlt
          have h1 := h (j + 1) (by omega)
          have h2 : f (j + 1) ≠ m := fun e => by have := hi (j + 1) i (by omega) hin (e.trans hfi.symm); omega
          omega) (fun j k hj hk he => by
        split at he <;> split at he
        · exact hi j k (by omega) (by omega) he
        · have := hi j (k + 1) (by omega) (by omega) he; omega
        · have := hi (j + 1) k (by omega) (by omega) he; omega
        · have := hi (j + 1) (k + 1) (by omega) (by omega) he; omega)
      omega
    · have := pigeon m n f (fun j hj => by
        have h1 := h j hj
        have h2 : f j ≠ m := fun e => hx ⟨j, hj, e⟩
        omega) hi
      omega

/-- Whether a thing is the first of its class; how many first things there are below k; the first thing of a class; the number of a class, counted by first things. -/
def rp (r : Nat → Nat → Bool) (a : Nat) : Bool := (List.range a).all fun b => !r a b
def ct (r : Nat → Nat → Bool) : Nat → Nat
  | 0 => 0
  | k + 1 => ct r k + (if rp r k = true then 1 else 0)
def fs (r : Nat → Nat → Bool) (a : Nat) : Nat := ((List.range a).find? (r a)).getD a
def num (r : Nat → Nat → Bool) (a : Nat) : Nat := ct r (fs r a)
/-- Sameness of things below n. -/
structure Eqv (r : Nat → Nat → Bool) (n : Nat) : Prop where
  refl : ∀ a, a < n → r a a = true
  symm : ∀ a b, a < n → b < n → r a b = true → r b a = true
  trans : ∀ a b c, a < n → b < n → c < n → r a b = true → r b c = true → r a c = true
section
variable {r : Nat → Nat → Bool} {n : Nat}
theorem rp_iff {a : Nat} : rp r a = true ↔ ∀ b, b < a → r a b = false := by
  unfold rp
  rw [List.all_eq_true]
  exact ⟨fun h b hb => by simpa using h b (List.mem_range.2 hb), fun h b hb => by simpa using h b (List.mem_range.1 hb)⟩
theorem ct_mono : ∀ {j k : Nat}, j ≤ k → ct r j ≤ ct r k := fun {j k} h => by
  induction h with
  | refl => exact Nat.le_refl _
  | step _ ih => exact Nat.le_trans ih (Nat.le_add_right _ _)
theorem ct_rp {a : Nat} (h : rp r a = true) : ct r (a + 1) = ct r a + 1 := by simp [ct, h]
theorem ct_not {a : Nat} (h : rp r a = false) : ct r (a + 1) = ct r a := by simp [ct, h]
theorem fs_rp {a : Nat} (h : rp r a = true) : fs r a = a := by
  unfold fs
  rw [List.find?_eq_none.2 (fun b hb => by rw [rp_iff.1 h b (List.mem_range.1 hb)]; exact Bool.false_ne_true)]
  rfl
theorem fs_some {a : Nat} (h : rp r a = false) : fs r a < a ∧ r a (fs r a) = true ∧ ∀ b, b < fs r a → r a b = false := by
  unfold fs
  cases e : (List.range a).find? (r a) with
  | none =>
    have : rp r a = true := rp_iff.2 fun b hb => by
      have := List.find?_eq_none.1 e b (List.mem_range.2 hb)
      simpa using this
    rw [h] at this; cases this
  | some b =>
    rw [List.find?_range_eq_some] at e
    exact ⟨List.mem_range.1 e.2.1, e.1, fun c hc => by have := e.2.2 c hc; simpa using this⟩
theorem fs_le (a : Nat) : fs r a ≤ a := by
  cases h : rp r a
  · exact Nat.le_of_lt (fs_some h).1
  · exact Nat.le_of_eq (fs_rp h)
theorem Eqv.fs_same (E : Eqv r n) {a : Nat} (ha : a < n) : r a (fs r a) = true := by
  cases h : rp r a
  · exact (fs_some h).2.1
  · rw [fs_rp h]; exact E.refl a ha
theorem Eqv.fs_least (E : Eqv r n) {a b : Nat} (ha : a < n) (hb : b < n) (h : r a b = true) : fs r a ≤ b := by
  rcases Nat.lt_or_ge b (fs r a) with hl | hl
  · cases hr : rp r a
    · rw [(fs_some hr).2.2 b hl] at h; cases h
    · rw [fs_rp hr] at hl
      rw [rp_iff.1 hr b hl] at h; cases h
  · exact hl
theorem Eqv.fs_eq (E : Eqv r n) {a b : Nat} (ha : a < n) (hb : b < n) (h : r a b = true) : fs r a = fs r b := by
  have h1 := fs_le (r := r) a
  have h2 := fs_le (r := r) b
  have k1 := E.fs_least ha (by omega) (E.trans a b (fs r b) ha hb (by omega) h (E.fs_same hb))
  have k2 := E.fs_least hb (by omega) (E.trans b a (fs r a) hb ha (by omega) (E.symm a b ha hb h) (E.fs_same ha))
  omega
theorem Eqv.fs_first (E : Eqv r n) {a : Nat} (ha : a < n) : rp r (fs r a) = true := by
  have h1 := fs_le (r := r) a
  refine rp_iff.2 fun b hb => ?_
  cases e : r (fs r a) b with
  | false => rfl
  | true =>
    have := E.fs_least ha (by omega) (E.trans a (fs r a) b ha (by omega) (by omega) (E.fs_same ha) e)
    omega
theorem Eqv.num_eq (E : Eqv r n) {a b : Nat} (ha : a < n) (hb : b < n) (h : r a b = true) : num r a = num r b := by unfold num; rw [E.fs_eq ha hb h]
theorem Eqv.num_ne (E : Eqv r n) {a b : Nat} (ha : a < n) (hb : b < n) (h : num r a = num r b) : r a b = true := by
  have key : ∀ {x y : Nat}, x < n → y < n → fs r x < fs r y → num r x < num r y := fun {x y} hx hy hl => by
    have h1 := ct_rp (E.fs_first hx)
    have h2 := ct_mono (r := r) (j := fs r x + 1) (k := fs r y) hl
    unfold num; omega
  have he : fs r a = fs r b := by
    rcases Nat.lt_trichotomy (fs r a) (fs r b) with hl | hl | hl
    · have := key ha hb hl; omega
    · exact hl
    · have := key hb ha hl; omega
  have h1 := fs_le (r := r) a
  have h3 := E.fs_same hb
  rw [← he] at h3
  exact E.trans a (fs r a) b ha (by omega) hb (E.fs_same ha) (E.symm b (fs r a) hb (by omega) h3)
theorem Eqv.num_lt (E : Eqv r n) {a k : Nat} (ha : a < n) (hk : a < k) : num r a < ct r k := by
  have h1 := ct_rp (E.fs_first ha)
  have h2 := fs_le (r := r) a
  have h3 := ct_mono (r := r) (j := fs r a + 1) (k := k) (by omega)
  unfold num; omega
theorem num_rp {a : Nat} (h : rp r a = true) : num r a = ct r a := by unfold num; rw [fs_rp h]
/-- The next number. -/
theorem Eqv.next (E : Eqv r n) {k : Nat} (hk : k < n) : max (ct r k) (num r k + 1) = ct r (k + 1) := by
  cases h : rp r k
  · rw [ct_not h]
    have h1 := ct_rp (E.fs_first hk)
    have h2 := (fs_some h).1
    have h3 := ct_mono (r := r) (j := fs r k + 1) (k := k) h2
    unfold num; omega
  · rw [ct_rp h, num_rp h]; omega
theorem ct_reach : ∀ {k v : Nat}, v < ct r k → ∃ a, a < k ∧ rp r a = true ∧ ct r a = v
  | 0, v, h => absurd h (Nat.not_lt_zero _)
  | k + 1, v, h => by
    by_cases hv : v < ct r k
    · obtain ⟨a, h1, h2⟩ := ct_reach hv
      exact ⟨a, by omega, h2⟩
    · cases hr : rp r k
      · rw [ct_not hr] at h; omega
      · rw [ct_rp hr] at h
        exact ⟨k, by omega, hr, by omega⟩
theorem num_reach {k v : Nat} (h : v < ct r k) : ∃ a, a < k ∧ num r a = v := by
  obtain ⟨a, h1, h2, h3⟩ := ct_reach h
  exact ⟨a, h1, by rw [num_rp h2, h3]⟩
theorem ct_zero_num (E : Eqv r n) (h : 0 < n) : num r 0 = 0 := by
  have : fs r 0 = 0 := by have := fs_le (r := r) 0; omega
  unfold num; rw [this]; rfl
theorem ct_pos {k : Nat} (h : 0 < k) : 0 < ct r k := by
  have : ct r 1 = 1 := by simp [ct, rp]
  have := ct_mono (r := r) (j := 1) (k := k) h
  omega
/-- Numbers that are told otherwise: the same for the same, and none is left out. -/
theorem Eqv.num_is (E : Eqv r n) (g : Nat → Nat) (h1 : ∀ a b, a < n → b < n → (r a b = true ↔ g a = g b)) (h2 : ∀ a v, a < n → v < g a → ∃ b, b < a ∧ g b = v) :
    ∀ k, k ≤ n → (∀ a, a < k → num r a = g a ∧ g a < ct r k) ∧ (∀ v, v < ct r k → ∃ a, a < k ∧ g a = v)
  | 0, _ => ⟨fun a ha => absurd ha (Nat.not_lt_zero _), fun v hv => absurd hv (Nat.not_lt_zero _)⟩
  | k + 1, hk => by
    obtain ⟨i1, i2⟩ := E.num_is g h1 h2 k (by omega)
    cases hr : rp r k
    · obtain ⟨f1, f2, _⟩ := fs_some hr
      have e1 : num r k = g k := by
        rw [E.num_eq (a := k) (b := fs r k) (by omega) (by omega) f2, (i1 _ f1).1]
        exact ((h1 k (fs r k) (by omega) (by omega)).1 f2).symm
      have e2 : g k < ct r k := by
        rw [(h1 k (fs r k) (by omega) (by omega)).1 f2]; exact (i1 _ f1).2
      rw [ct_not hr]
      refine ⟨fun a ha => ?_, fun v hv => ?_⟩
      · rcases Nat.lt_or_ge a k with hl | hl
        · exact i1 a hl
        · have : a = k := by omega
          subst this; exact ⟨e1, e2⟩
      · obtain ⟨a, ha, e⟩ := i2 v hv
        exact ⟨a, by omega, e⟩
    · have e0 : g k = ct r k := by
        rcases Nat.lt_trichotomy (g k) (ct r k) with hl | hl | hl
        · obtain ⟨b, hb, e⟩ := i2 _ hl
          have := (h1 k b (by omega) (by omega)).2 e.symm
          rw [rp_iff.1 hr b hb] at this; cases this
        · exact hl
        · obtain ⟨b, hb, e⟩ := h2 k _ (by omega) hl
          have := (i1 b hb).2; omega
      rw [ct_rp hr]
      refine ⟨fun a ha => ?_, fun v hv => ?_⟩
      · rcases Nat.lt_or_ge a k with hl | hl
        · exact ⟨(i1 a hl).1, by have := (i1 a hl).2; omega⟩
        · have : a = k := by omega
          subst this; exact ⟨by rw [num_rp hr]; exact e0.symm, by omega⟩
      · by_cases hvc : v < ct r k
        · obtain ⟨a, ha, e⟩ := i2 v hvc
          exact ⟨a, by omega, e⟩
        · exact ⟨k, by omega, by omega⟩
theorem Eqv.ct_is (E : Eqv r n) (g : Nat → Nat) (h1 : ∀ a b, a < n → b < n → (r a b = true ↔ g a = g b)) (h2 : ∀ a v, a < n → v < g a → ∃ b, b < a ∧ g b = v) {m : Nat} (h3 : ∀ a, a < n → g a < m) (h4 : ∀ v, v < m → ∃ a, a < n ∧ g a = v) : ct r n = m := by
  obtain ⟨i1, i2⟩ := E.num_is g h1 h2 n (Nat.le_refl _)
  rcases Nat.lt_trichotomy (ct r n) m with hl | hl | hl
  · obtain ⟨a, ha, e⟩ := h4 _ hl
    have := (i1 a ha).2; omega
  · exact hl
  · obtain ⟨a, ha, e⟩ := i2 _ hl
    have := h3 a ha; omega
end

def rRect (T : List (List Int)) (a b : Nat) : Bool := mul T (mul T (a : Int) (b : Int)) (a : Int) == (a : Int)
noncomputable def rectT (T : List (List Int)) : Bool := bandT T && allRR T.length (rRect T)
theorem rectT_iff {T : List (List Int)} : rectT T = true ↔ IsB T ∧ ∀ x y : Int, 0 ≤ x → x < T.length → 0 ≤ y → y < T.length → mul T (mul T x y) x = x := band_cond (R := fun x y => mul T (mul T x y) x = x) fun a b => by unfold rRect; exact beq_iff_eq
theorem rectT_ok {T : List (List Int)} (h : okT T = false) : rectT T = false := by unfold rectT; rw [bandT_ok h]; rfl
/-- Two things in one row. -/
def inRow (T : List (List Int)) (a b : Nat) : Bool := mul T (a : Int) (b : Int) == (b : Int) && mul T (b : Int) (a : Int) == (a : Int)
theorem inRow_iff {T : List (List Int)} {a b : Nat} : inRow T a b = true ↔ mul T (a : Int) (b : Int) = (b : Int) ∧ mul T (b : Int) (a : Int) = (a : Int) := by unfold inRow; rw [Bool.and_eq_true, beq_iff_eq, beq_iff_eq]
theorem IsB.eqv {T : List (List Int)} (b : IsB T) : Eqv (inRow T) T.length := by
  have g := b.g.grp
  refine ⟨fun a ha => inRow_iff.2 ⟨b.sq a (by omega) (by omega), b.sq a (by omega) (by omega)⟩, fun x y _ _ h => inRow_iff.2 ⟨(inRow_iff.1 h).2, (inRow_iff.1 h).1⟩, fun x y z hx hy hz h1 h2 => ?_⟩
  obtain ⟨p1, p2⟩ := inRow_iff.1 h1
  obtain ⟨q1, q2⟩ := inRow_iff.1 h2
  refine inRow_iff.2 ⟨?_, ?_⟩
  · rw [← q1, g x y z (by omega) (by omega) (by omega) (by omega) (by omega) (by omega), p1]
  · rw [← p2, g z y x (by omega) (by omega) (by omega) (by omega) (by omega) (by omega), q2]
noncomputable def rowsL (T : List (List Int)) : List Int := if rectT T = true then (List.range T.length).map fun a => ((num (inRow T) a : Nat) : Int) else []
noncomputable def colsL (T : List (List Int)) : List Int := rowsL (turnT T)
theorem rowsL_not {T : List (List Int)} (h : rectT T = false) : rowsL T = [] := by unfold rowsL; rw [if_neg (by rw [h]; exact Bool.false_ne_true)]
theorem rowsL_ok {T : List (List Int)} (h : rectT T = true) : rowsL T = (List.range T.length).map fun a => ((num (inRow T) a : Nat) : Int) := by unfold rowsL; rw [if_pos h]
theorem len_rowsL {T : List (List Int)} (h : rectT T = true) : (rowsL T).length = T.length := by rw [rowsL_ok h]; simp
theorem el_rowsL {T : List (List Int)} (h : rectT T = true) {a : Nat} (ha : a < T.length) : el (rowsL T) a = ((num (inRow T) a : Nat) : Int) := by rw [rowsL_ok h]; simp [el, List.getD, ha]
section
variable {T : List (List Int)}
theorem rect_tab (h : rectT T = true) : IsT T := (rectT_iff.1 h).1.g.tab
theorem rect_ok (h : rectT T = true) : okT T = true := okT_iff.2 (rect_tab h)
theorem rect_turn (h : rectT T = true) : rectT (turnT T) = true := by
  obtain ⟨b, hr⟩ := rectT_iff.1 h
  have ho := rect_ok h
  refine rectT_iff.2 ⟨isB_turn b, fun x y x0 x1 y0 y1 => ?_⟩
  rw [len_turnT ho] at x1 y1
  obtain ⟨q0, q1⟩ := b.g.tab.mul y0 y1 x0 x1
  rw [mul_turnT ho x0 x1 y0 y1, mul_turnT ho q0 q1 x0 x1, b.g.grp x y x x0 x1 y0 y1 x0 x1]
  exact hr x y x0 x1 y0 y1
theorem rectT_turn (T : List (List Int)) : rectT (turnT T) = rectT T := by
  cases ho : okT T
  · rw [turnT_not ho, rectT_ok ho]; exact rectT_ok (by decide)
  · cases e : rectT T with
    | true => exact rect_turn e
    | false =>
      cases e2 : rectT (turnT T) with
      | false => rfl
      | true =>
        have := rect_turn e2
        rw [turnT_turnT ho, e] at this; cases this
/-- Two things in one column. -/
theorem inCol_iff (ho : okT T = true) {a b : Nat} (ha : a < T.length) (hb : b < T.length) : inRow (turnT T) a b = true ↔ mul T (b : Int) (a : Int) = (b : Int) ∧ mul T (a : Int) (b : Int) = (a : Int) := by
  rw [inRow_iff, mul_turnT ho (by omega) (by omega) (by omega) (by omega), mul_turnT ho (by omega) (by omega) (by omega) (by omega)]
theorem rect_eqvR (h : rectT T = true) : Eqv (inRow T) T.length := (rectT_iff.1 h).1.eqv
theorem rect_eqvC (h : rectT T = true) : Eqv (inRow (turnT T)) T.length := by
  have := (rectT_iff.1 (rect_turn h)).1.eqv
  rwa [len_turnT (rect_ok h)] at this
theorem len_colsL (h : rectT T = true) : (colsL T).length = T.length := by unfold colsL; rw [len_rowsL (rect_turn h), len_turnT (rect_ok h)]
theorem el_colsL (h : rectT T = true) {a : Nat} (ha : a < T.length) : el (colsL T) a = ((num (inRow (turnT T)) a : Nat) : Int) := by
  unfold colsL
  rw [el_rowsL (rect_turn h) (by rw [len_turnT (rect_ok h)]; exact ha)]
theorem colsL_not (h : rectT T = false) : colsL T = [] := by unfold colsL; rw [rowsL_not (by rw [rectT_turn]; exact h)]
/-- A product is in the row of its first thing, and in the column of its second one. -/
theorem rect_prod (h : rectT T = true) {a b p : Nat} (ha : a < T.length) (hb : b < T.length) (hp : mul T (a : Int) (b : Int) = (p : Int)) : num (inRow T) p = num (inRow T) a ∧ num (inRow (turnT T)) p = num (inRow (turnT T)) b := by
  obtain ⟨bd, hr⟩ := rectT_iff.1 h
  have ho := rect_ok h
  obtain ⟨m0, m1⟩ := bd.g.tab.mul (x := (a : Nat)) (y := (b : Nat)) (by omega) (by omega) (by omega) (by omega)
  have p1 : p < T.length := by omega
  have g := bd.g.grp
  constructor
  · refine (rect_eqvR h).num_eq p1 ha (inRow_iff.2 ⟨?_, ?_⟩)
    · rw [← hp]; exact hr a b (by omega) (by omega) (by omega) (by omega)
    · rw [← hp, g a a b (by omega) (by omega) (by omega) (by omega) (by omega) (by omega), bd.sq a (by omega) (by omega)]
  · refine (rect_eqvC h).num_eq p1 hb ((inCol_iff ho p1 hb).2 ⟨?_, ?_⟩)
    · rw [← hp, g b a b (by omega) (by omega) (by omega) (by omega) (by omega) (by omega)]
      exact hr b a (by omega) (by omega) (by omega) (by omega)
    · rw [← hp, ← g a b b (by omega) (by omega) (by omega) (by omega) (by omega) (by omega), bd.sq b (by omega) (by omega)]
/-- No two things are in one row and in one column. -/
theorem rect_inj (h : rectT T = true) {a b : Nat} (ha : a < T.length) (hb : b < T.length) (h1 : num (inRow T) a = num (inRow T) b) (h2 : num (inRow (turnT T)) a = num (inRow (turnT T)) b) : a = b := by
  have e1 := inRow_iff.1 ((rect_eqvR h).num_ne ha hb h1)
  have e2 := (inCol_iff (rect_ok h) ha hb).1 ((rect_eqvC h).num_ne ha hb h2)
  have := e1.1.symm.trans e2.2
  omega
/-- How many rows; how many columns. -/
def nR (T : List (List Int)) : Nat := ct (inRow T) T.length
noncomputable def nC (T : List (List Int)) : Nat := ct (inRow (turnT T)) T.length
theorem nC_turn (h : okT T = true) : nC T = nR (turnT T) := by unfold nC nR; rw [len_turnT h]
theorem nR_turn (h : okT T = true) : nC (turnT T) = nR T := by unfold nC nR; rw [turnT_turnT h, len_turnT h]
theorem pair_lt {x y R C : Nat} (hx : x < R) (hy : y < C) : x * C + y < R * C := by
  have : (x + 1) * C ≤ R * C := Nat.mul_le_mul_right _ hx
  rw [Nat.succ_mul] at this; omega
theorem pair_eq {x y x' y' C : Nat} (hy : y < C) (hy' : y' < C) (h : x * C + y = x' * C + y') : x = x' ∧ y = y' := by
  have h1 : (x * C + y) / C = x := by rw [Nat.mul_comm, Nat.mul_add_div (by omega), Nat.div_eq_of_lt hy, Nat.add_zero]
  have h2 : (x' * C + y') / C = x' := by rw [Nat.mul_comm, Nat.mul_add_div (by omega), Nat.div_eq_of_lt hy', Nat.add_zero]
  have e : x = x' := by rw [← h1, ← h2, h]
  subst e
  exact ⟨rfl, by omega⟩
/-- Rows times columns. -/
theorem rect_count (h : rectT T = true) : nR T * nC T = T.length := by
  have ER := rect_eqvR h
  have EC := rect_eqvC h
  have k := rect_tab h
  have hle : T.length ≤ nR T * nC T := pigeon _ _ (fun a => num (inRow T) a * nC T + num (inRow (turnT T)) a) (fun a ha => pair_lt (ER.num_lt ha ha) (EC.num_lt ha ha)) (fun a b ha hb he => by
    obtain ⟨e1, e2⟩ := pair_eq (EC.num_lt ha ha) (EC.num_lt hb hb) he
    exact rect_inj h ha hb e1 e2)
  have hex : ∀ y, ∃ x, y < nR T * nC T → x < T.length ∧ num (inRow T) x * nC T + num (inRow (turnT T)) x = y := fun y => by
    by_cases hy : y < nR T * nC T
    · have hC : 0 < nC T := by
        rcases Nat.eq_zero_or_pos (nC T) with h0 | h0
        · rw [h0] at hy; omega
        · exact h0
      have hr : y / nC T < nR T := Nat.div_lt_of_lt_mul (by rw [Nat.mul_comm]; exact hy)
      have hc : y % nC T < nC T := Nat.mod_lt _ hC
      obtain ⟨a, ha, ea⟩ := num_reach hr
      obtain ⟨b, hb, eb⟩ := num_reach hc
      obtain ⟨m0, m1⟩ := k.mul (x := (a : Nat)) (y := (b : Nat)) (by omega) (by omega) (by omega) (by omega)
      obtain ⟨p, hp⟩ : ∃ p : Nat, mul T (a : Int) (b : Int) = (p : Int) := ⟨(mul T (a : Int) (b : Int)).toNat, by omega⟩
      obtain ⟨e1, e2⟩ := rect_prod h ha hb hp
      refine ⟨p, fun _ => ⟨by omega, ?_⟩⟩
      rw [e1, e2, ea, eb, Nat.mul_comm]
      exact Nat.div_add_mod y (nC T)
    · exact ⟨0, fun hx => absurd hx hy⟩
  have hge : nR T * nC T ≤ T.length := by
    refine pigeon _ _ (fun y => Classical.choose (hex y)) (fun y hy => (Classical.choose_spec (hex y) hy).1) (fun y z hy hz he => ?_)
    have e1 := (Classical.choose_spec (hex y) hy).2
    have e2 := (Classical.choose_spec (hex z) hz).2
    rw [← e1, he, e2]
  omega
/-- What SidesOf answers. -/
noncomputable def sidesR (T : List (List Int)) : Int := if rectT T = true then ((nR T : Nat) : Int) else -1
noncomputable def sidesC (T : List (List Int)) : Int := if rectT T = true then ((nC T : Nat) : Int) else -1
/-- The names of things. -/
noncomputable def namesL (T : List (List Int)) : List Int := if rectT T = true then (List.range T.length).map fun a => ((num (inRow T) a * nC T + num (inRow (turnT T)) a : Nat) : Int) else []
theorem namesL_not (h : rectT T = false) : namesL T = [] := by unfold namesL; rw [if_neg (by rw [h]; exact Bool.false_ne_true)]
theorem namesL_ok (h : rectT T = true) : namesL T = (List.range T.length).map fun a => ((num (inRow T) a * nC T + num (inRow (turnT T)) a : Nat) : Int) := by unfold namesL; rw [if_pos h]
theorem len_namesL (h : rectT T = true) : (namesL T).length = T.length := by rw [namesL_ok h]; simp
theorem el_namesL (h : rectT T = true) {a : Nat} (ha : a < T.length) : el (namesL T) a = ((num (inRow T) a * nC T + num (inRow (turnT T)) a : Nat) : Int) := by rw [namesL_ok h]; simp [el, List.getD, ha]
theorem nR_pos (h : rectT T = true) : 0 < nR T := ct_pos (by have := (rect_tab h).lo; omega)
theorem nC_pos (h : rectT T = true) : 0 < nC T := ct_pos (by have := (rect_tab h).lo; omega)

/-- The table of a rectangle. -/
def canR (r c : Int) : Bool := decide (1 ≤ r) && decide (r ≤ 9) && (decide (1 ≤ c) && decide (c ≤ 9)) && decide (r * c ≤ 9)
def rectM (c k j : Nat) : Int := (k : Int) / (c : Int) * (c : Int) + (j : Int) % (c : Int)
def rectOf (r c : Int) : List (List Int) := if canR r c = true then tabOf (r * c).toNat (rectM c.toNat) else []
theorem rectOf_not {r c : Int} (h : canR r c = false) : rectOf r c = [] := by unfold rectOf; rw [if_neg (by rw [h]; exact Bool.false_ne_true)]
theorem canR_iff {r c : Int} : canR r c = true ↔ ∃ R C : Nat, r = R ∧ c = C ∧ 1 ≤ R ∧ R ≤ 9 ∧ 1 ≤ C ∧ C ≤ 9 ∧ R * C ≤ 9 := by
  unfold canR
  simp only [Bool.and_eq_true, decide_eq_true_iff]
  constructor
  · rintro ⟨⟨⟨h1, h2⟩, h3, h4⟩, h5⟩
    obtain ⟨R, rfl⟩ : ∃ R : Nat, r = R := ⟨r.toNat, by omega⟩
    obtain ⟨C, rfl⟩ : ∃ C : Nat, c = C := ⟨c.toNat, by omega⟩
    rw [← Int.natCast_mul] at h5
    exact ⟨R, C, rfl, rfl, by omega, by omega, by omega, by omega, by omega⟩
  · rintro ⟨R, C, rfl, rfl, h1, h2, h3, h4, h5⟩
    rw [← Int.natCast_mul]
    exact ⟨⟨⟨by omega, by omega⟩, by omega, by omega⟩, by omega⟩
theorem canR_comm {r c : Int} : canR c r = canR r c := by
  unfold canR
  rw [Int.mul_comm c r]
  cases decide (1 ≤ r) <;> cases decide (r ≤ 9) <;> cases decide (1 ≤ c) <;> cases decide (c ≤ 9) <;> rfl
end
section
variable {R C : Nat}
theorem rectOf_ok (h : canR R C = true) : rectOf R C = tabOf (R * C) (rectM C) := by
  unfold rectOf
  rw [if_pos h, ← Int.natCast_mul, Int.toNat_natCast, Int.toNat_natCast]
theorem len_rectOf (h : canR R C = true) : (rectOf R C).length = R * C := by rw [rectOf_ok h, len_tabOf]
theorem canR_nat (h : canR R C = true) : 1 ≤ R ∧ R ≤ 9 ∧ 1 ≤ C ∧ C ≤ 9 ∧ R * C ≤ 9 := by
  obtain ⟨R', C', e1, e2, h⟩ := canR_iff.1 h
  have a1 : R = R' := by omega
  have a2 : C = C' := by omega
  subst a1; subst a2; exact h
theorem rectM_nat (C k j : Nat) : rectM C k j = ((k / C * C + j % C : Nat) : Int) := by
  unfold rectM; simp
theorem rect_in (h : canR R C = true) {k j : Nat} (hk : k < R * C) : k / C * C + j % C < R * C := by
  obtain ⟨r1, _, c1, _, _⟩ := canR_nat h
  exact pair_lt (Nat.div_lt_of_lt_mul (by rw [Nat.mul_comm]; exact hk)) (Nat.mod_lt _ (by omega))
theorem mul_rectOf (h : canR R C = true) {k j : Nat} (hk : k < R * C) (hj : j < R * C) : mul (rectOf R C) (k : Nat) (j : Nat) = ((k / C * C + j % C : Nat) : Int) := by
  rw [rectOf_ok h]
  unfold mul
  rw [Int.toNat_natCast, Int.toNat_natCast, el_tabOf hk hj, rectM_nat]
theorem isT_rectOf (h : canR R C = true) : IsT (rectOf R C) := by
  obtain ⟨r1, r9, c1, c9, h9⟩ := canR_nat h
  have hl := len_rectOf h
  refine ⟨by rw [hl]; exact Nat.mul_pos r1 c1, by rw [hl]; exact h9, fun i hi => ?_, fun i j hi hj => ?_⟩
  · rw [hl] at hi ⊢
    rw [rectOf_ok h, rowlen_tabOf hi]
  · rw [hl] at hi hj ⊢
    rw [rectOf_ok h, el_tabOf hi hj, rectM_nat]
    have := rect_in h (k := i) (j := j) hi
    omega
theorem rc_div (hC : 1 ≤ C) (x y : Nat) : (x / C * C + y % C) / C = x / C ∧ (x / C * C + y % C) % C = y % C := by
  have hy := Nat.mod_lt y (show 0 < C by omega)
  constructor
  · rw [Nat.mul_comm, Nat.mul_add_div (by omega), Nat.div_eq_of_lt hy, Nat.add_zero]
  · rw [Nat.mul_comm, Nat.mul_add_mod, Nat.mod_eq_of_lt hy]
theorem rc_self (x : Nat) : x / C * C + x % C = x := by rw [Nat.mul_comm]; exact Nat.div_add_mod x C
theorem rect_rectOf (h : canR R C = true) : rectT (rectOf R C) = true := by
  obtain ⟨r1, r9, c1, c9, h9⟩ := canR_nat h
  have hl := len_rectOf h
  have nat : ∀ x : Int, 0 ≤ x → x < ((rectOf R C).length : Nat) → ∃ k : Nat, x = k ∧ k < R * C := fun x x0 x1 => ⟨x.toNat, by omega, by rw [hl] at x1; omega⟩
  refine rectT_iff.2 ⟨⟨⟨isT_rectOf h, fun x y z x0 x1 y0 y1 z0 z1 => ?_⟩, fun x x0 x1 => ?_⟩, fun x y x0 x1 y0 y1 => ?_⟩
  · obtain ⟨a, rfl, ha⟩ := nat x x0 x1
    obtain ⟨b, rfl, hb⟩ := nat y y0 y1
    obtain ⟨c, rfl, hc⟩ := nat z z0 z1
    rw [mul_rectOf h hb hc, mul_rectOf h ha hb, mul_rectOf h ha (rect_in h hb), mul_rectOf h (rect_in h ha) hc, (rc_div c1 b c).2, (rc_div c1 a b).1]
  · obtain ⟨a, rfl, ha⟩ := nat x x0 x1
    rw [mul_rectOf h ha ha, rc_self]
  · obtain ⟨a, rfl, ha⟩ := nat x x0 x1
    obtain ⟨b, rfl, hb⟩ := nat y y0 y1
    rw [mul_rectOf h ha hb, mul_rectOf h (rect_in h ha) ha, (rc_div c1 a b).1, rc_self]
theorem inRow_rectOf (h : canR R C = true) {k j : Nat} (hk : k < R * C) (hj : j < R * C) : inRow (rectOf R C) k j = true ↔ k / C = j / C := by
  rw [inRow_iff, mul_rectOf h hk hj, mul_rectOf h hj hk]
  obtain ⟨r1, r9, c1, c9, h9⟩ := canR_nat h
  constructor
  · rintro ⟨e, _⟩
    have e' : k / C * C + j % C = j := by omega
    have := (rc_div c1 k j).1
    rw [e'] at this; exact this.symm
  · intro e
    have h1 : k / C * C + j % C = j := by rw [e]; exact rc_self j
    have h2 : j / C * C + k % C = k := by rw [← e]; exact rc_self k
    rw [h1, h2]; exact ⟨rfl, rfl⟩
theorem inCol_rectOf (h : canR R C = true) {k j : Nat} (hk : k < R * C) (hj : j < R * C) : inRow (turnT (rectOf R C)) k j = true ↔ k % C = j % C := by
  have hl := len_rectOf h
  rw [inCol_iff (okT_iff.2 (isT_rectOf h)) (by rw [hl]; exact hk) (by rw [hl]; exact hj), mul_rectOf h hj hk, mul_rectOf h hk hj]
  obtain ⟨r1, r9, c1, c9, h9⟩ := canR_nat h
  constructor
  · rintro ⟨e, _⟩
    have e' : j / C * C + k % C = j := by omega
    have := (rc_div c1 j k).2
    rw [e'] at this; exact this.symm
  · intro e
    have h1 : j / C * C + k % C = j := by rw [e]; exact rc_self j
    have h2 : k / C * C + j % C = k := by rw [← e]; exact rc_self k
    rw [h1, h2]; exact ⟨rfl, rfl⟩
theorem nR_rectOf (h : canR R C = true) : nR (rectOf R C) = R := by
  obtain ⟨r1, r9, c1, c9, h9⟩ := canR_nat h
  have hl := len_rectOf h
  unfold nR
  refine (rect_eqvR (rect_rectOf h)).ct_is (fun k => k / C) (fun a b ha hb => inRow_rectOf h (by omega) (by omega)) (fun a v ha hv => ⟨v * C, ?_, Nat.mul_div_cancel _ (by omega)⟩) (fun a ha => ?_) (fun v hv => ⟨v * C, ?_, Nat.mul_div_cancel _ (by omega)⟩)
  · have h1 : (v + 1) * C ≤ a / C * C := Nat.mul_le_mul_right _ hv
    have h2 := rc_self (C := C) a
    rw [Nat.succ_mul] at h1
    omega
  · rw [hl] at ha
    exact Nat.div_lt_of_lt_mul (by rw [Nat.mul_comm]; exact ha)
  · rw [hl]; exact Nat.mul_lt_mul_of_pos_right hv (by omega)
theorem nC_rectOf (h : canR R C = true) : nC (rectOf R C) = C := by
  obtain ⟨r1, r9, c1, c9, h9⟩ := canR_nat h
  have hl := len_rectOf h
  have hC : C ≤ R * C := by
    have := Nat.mul_le_mul_right C r1
    omega
  unfold nC
  refine (rect_eqvC (rect_rectOf h)).ct_is (fun k => k % C) (fun a b ha hb => inCol_rectOf h (by omega) (by omega)) (fun a v ha hv => ?_) (fun a ha => Nat.mod_lt _ (by omega)) (fun v hv => ⟨v, by omega, Nat.mod_eq_of_lt hv⟩)
  have hm := Nat.mod_lt a (show 0 < C by omega)
  exact ⟨v, by have := Nat.mod_le a C; omega, Nat.mod_eq_of_lt (by omega)⟩
theorem first_rectOf (h : canR R C = true) (hC : C = 1) : firstT (rectOf R C) = true := by
  have hl := len_rectOf h
  refine firstT_iff.2 ⟨(rectT_iff.1 (rect_rectOf h)).1, fun x y x0 x1 y0 y1 => ?_⟩
  obtain ⟨a, rfl⟩ : ∃ a : Nat, x = a := ⟨x.toNat, by omega⟩
  obtain ⟨b, rfl⟩ : ∃ b : Nat, y = b := ⟨y.toNat, by omega⟩
  rw [mul_rectOf h (by omega) (by omega)]
  subst hC
  simp [Nat.mod_one]
end
section
variable {T : List (List Int)}
theorem small_rectOf {r c : Int} : Small (rectOf r c) := by
  cases h : canR r c
  · rw [rectOf_not h]; exact ⟨by simp, fun i hi => absurd hi (Nat.not_lt_zero _)⟩
  · obtain ⟨R, C, rfl, rfl, _⟩ := canR_iff.1 h
    exact (isT_rectOf h).small
theorem len_rowsL_le (T : List (List Int)) : (rowsL T).length ≤ 1048576 := by
  cases h : rectT T
  · rw [rowsL_not h]; simp
  · rw [len_rowsL h]; have := (rect_tab h).hi; omega
theorem len_colsL_le (T : List (List Int)) : (colsL T).length ≤ 1048576 := len_rowsL_le _
theorem len_namesL_le (T : List (List Int)) : (namesL T).length ≤ 1048576 := by
  cases h : rectT T
  · rw [namesL_not h]; simp
  · rw [len_namesL h]; have := (rect_tab h).hi; omega
/-- What is between does not count. -/
theorem rect_three (h : rectT T = true) {a b c : Int} (a0 : 0 ≤ a) (a1 : a < T.length) (b0 : 0 ≤ b) (b1 : b < T.length) (c0 : 0 ≤ c) (c1 : c < T.length) : mul T (mul T a b) c = mul T a c := by
  obtain ⟨bd, hr⟩ := rectT_iff.1 h
  have g := bd.g.grp
  obtain ⟨p0, p1⟩ := bd.g.tab.mul a0 a1 b0 b1
  obtain ⟨q0, q1⟩ := bd.g.tab.mul b0 b1 c0 c1
  obtain ⟨s0, s1⟩ := bd.g.tab.mul c0 c1 a0 a1
  have hc := hr c a c0 c1 a0 a1
  have ha := hr a (mul T b c) a0 a1 q0 q1
  have h1 : mul T (mul T a b) (mul T c a) = a := by
    rw [← g a b (mul T c a) a0 a1 b0 b1 s0 s1, g b c a b0 b1 c0 c1 a0 a1, g a (mul T b c) a a0 a1 q0 q1 a0 a1]
    exact ha
  have h2 : mul T (mul T a b) c = mul T (mul T a b) (mul T (mul T c a) c) := by rw [hc]
  rw [h2, g (mul T a b) (mul T c a) c p0 p1 s0 s1 c0 c1, h1]
theorem first_rect (h : firstT T = true) : rectT T = true := by
  obtain ⟨b, hf⟩ := firstT_iff.1 h
  exact rectT_iff.2 ⟨b, fun x y x0 x1 y0 y1 => by
    obtain ⟨p0, p1⟩ := b.g.tab.mul x0 x1 y0 y1
    rw [hf _ _ p0 p1 x0 x1, hf x y x0 x1 y0 y1]⟩
theorem rect_meet (h : rectT T = true) (hl : T.length ≠ 1) : meetT T = false := by
  obtain ⟨b, hr⟩ := rectT_iff.1 h
  cases e : meetT T with
  | false => rfl
  | true =>
    obtain ⟨_, hm⟩ := meetT_iff.1 e
    have hlo := b.g.tab.lo
    have key : ∀ x y : Int, 0 ≤ x → x < T.length → 0 ≤ y → y < T.length → mul T x y = x := fun x y x0 x1 y0 y1 => by
      obtain ⟨p0, p1⟩ := b.g.tab.mul x0 x1 y0 y1
      have h1 := hr x y x0 x1 y0 y1
      rw [hm _ _ p0 p1 x0 x1, b.g.grp x x y x0 x1 x0 x1 y0 y1, b.sq x x0 x1] at h1
      exact h1
    have h1 := hm 0 1 (by omega) (by omega) (by omega) (by omega)
    rw [key 0 1 (by omega) (by omega) (by omega) (by omega), key 1 0 (by omega) (by omega) (by omega) (by omega)] at h1
    cases h1
theorem lit_rect : rectT [[0, 0], [1, 1]] = true := first_rect lit_first
end
end Go.Proofs.Ythllbekoidogpaa
