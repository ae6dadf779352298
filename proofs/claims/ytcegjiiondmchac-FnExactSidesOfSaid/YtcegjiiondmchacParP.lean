
/- Parents that lead to first things: plain mathematics. -/
import Derived.Test.YtcegjiiondmchacRectP
namespace Go.Proofs.Ytcegjiiondmchac
set_option linter.unusedVariables false

/-- Where a thing leads in the end. -/
def rt (P : Nat → Nat) (i : Nat) : Nat := if h : P i < i then rt P (P i) else i
termination_by i
section
variable {P : Nat → Nat} {i : Nat}
theorem rt_lt (h : P i < i) : rt P i = rt P (P i) := by rw [rt, dif_pos h]
theorem rt_not (h : ¬ P i < i) : rt P i = i := by rw [rt, dif_neg h]
theorem rt_le (P : Nat → Nat) (i : Nat) : rt P i ≤ i := by
  induction i using Nat.strongRecOn with
  | _ i ih =>
    by_cases h : P i < i
    · rw [rt_lt h]; exact Nat.le_trans (ih _ h) (Nat.le_of_lt h)
    · rw [rt_not h]; exact Nat.le_refl _
theorem rt_root (hP : ∀ i, P i ≤ i) (i : Nat) : P (rt P i) = rt P i := by
  induction i using Nat.strongRecOn with
  | _ i ih =>
    by_cases h : P i < i
    · rw [rt_lt h]; exact ih _ h
    · rw [rt_not h]; have := hP i; omega
theorem rt_of_root (h : P i = i) : rt P i = i := rt_not (by omega)
/-- One thing that leads nowhere is led to another. -/
def upd (P : Nat → Nat) (x y : Nat) (i : Nat) : Nat := if i = x then y else P i
theorem upd_le (hP : ∀ i, P i ≤ i) {x y : Nat} (h : y ≤ x) (i : Nat) : upd P x y i ≤ i := by
  unfold upd; split
  · omega
  · exact hP i
theorem rt_upd (hP : ∀ i, P i ≤ i) {x y : Nat} (hx : P x = x) (hy : P y = y) (h : y ≤ x) (i : Nat) : rt (upd P x y) i = if rt P i = x then y else rt P i := by
  induction i using Nat.strongRecOn with
  | _ i ih =>
    by_cases hi : P i < i
    · have hne : i ≠ x := by intro e; subst e; omega
      have e : upd P x y i = P i := by unfold upd; rw [if_neg hne]
      rw [rt_lt (P := upd P x y) (by rw [e]; exact hi), e, rt_lt hi]
      exact ih _ hi
    · have hPi : P i = i := by have := hP i; omega
      rw [rt_not hi]
      by_cases hne : i = x
      · subst hne
        rw [if_pos rfl]
        by_cases hlt : y < i
        · have e : upd P i y i = y := by unfold upd; rw [if_pos rfl]
          rw [rt_lt (P := upd P i y) (by rw [e]; exact hlt), e]
          exact rt_of_root (by unfold upd; rw [if_neg (by omega)]; exact hy)
        · have e : upd P i y i = i := by unfold upd; rw [if_pos rfl]; omega
          rw [rt_of_root e]; omega
      · rw [if_neg hne]
        exact rt_of_root (by unfold upd; rw [if_neg hne]; exact hPi)
end
theorem ct_leP (r : Nat → Nat → Bool) : ∀ k, ct r k ≤ k
  | 0 => Nat.le_refl _
  | k + 1 => by
    have := ct_leP r k
    unfold ct
    split <;> omega
/-- Classes under way: all pairs below b, and those of b with things below a. -/
structure Cls (r : Nat → Nat → Bool) (P : Nat → Nat) (b a : Nat) : Prop where
  par : ∀ i, P i ≤ i
  lo : ∀ x, x < b → rt P x = fs r x
  mid : rt P b = if fs r b < a then fs r b else b
  hi : ∀ x, b < x → rt P x = x
section
variable {r : Nat → Nat → Bool} {P : Nat → Nat} {b a n : Nat}
theorem cls_start (r : Nat → Nat → Bool) : Cls r id 0 0 :=
  ⟨fun _ => Nat.le_refl _, fun x hx => absurd hx (Nat.not_lt_zero _), by rw [if_neg (Nat.not_lt_zero _)]; exact rt_of_root rfl, fun x _ => rt_of_root rfl⟩
theorem Cls.next (h : Cls r P b b) : Cls r P (b + 1) 0 := ⟨h.par, fun x hx => by
    by_cases e : x = b
    · subst e
      rw [h.mid]
      split
      · rfl
      · have := fs_le (r := r) x; omega
    · exact h.lo x (by omega), by rw [if_neg (Nat.not_lt_zero _)]; exact h.hi _ (by omega), fun x hx => h.hi x (by omega)⟩
theorem Cls.skip (h : Cls r P b a) (hr : r b a = false) (E : Eqv r n) (hb : b < n) (ha : a < b) : Cls r P b (a + 1) := ⟨h.par, h.lo, by
    have hne : fs r b ≠ a := fun e => by
      have := E.fs_same hb
      rw [e, hr] at this
      exact Bool.false_ne_true this
    rw [h.mid]
    by_cases hl : fs r b < a
    · rw [if_pos hl, if_pos (by omega)]
    · rw [if_neg hl, if_neg (by omega)], h.hi⟩
theorem Cls.unite (h : Cls r P b a) (hr : r b a = true) (E : Eqv r n) (hb : b < n) (ha : a < b) :
    Cls r (upd P (max (rt P a) (rt P b)) (min (rt P a) (rt P b))) b (a + 1) := by
  have hra : rt P a = fs r a := h.lo a ha
  have hfe : fs r b = fs r a := E.fs_eq hb (by omega) hr
  have hfl : fs r a ≤ a := fs_le a
  have hrb : rt P b = fs r b ∨ (rt P b = b ∧ fs r b = a) := by
    rw [h.mid]
    by_cases hl : fs r b < a
    · rw [if_pos hl]; exact .inl rfl
    · rw [if_neg hl]; exact .inr ⟨rfl, by omega⟩
  have ra := rt_root h.par a
  have rb := rt_root h.par b
  have hx : P (max (rt P a) (rt P b)) = max (rt P a) (rt P b) := by
    rcases Nat.le_total (rt P a) (rt P b) with e | e
    · rw [Nat.max_eq_right e]; exact rb
    · rw [Nat.max_eq_left e]; exact ra
  have hy : P (min (rt P a) (rt P b)) = min (rt P a) (rt P b) := by
    rcases Nat.le_total (rt P a) (rt P b) with e | e
    · rw [Nat.min_eq_left e]; exact ra
    · rw [Nat.min_eq_right e]; exact rb
  have hle : min (rt P a) (rt P b) ≤ max (rt P a) (rt P b) := by omega
  have hu := rt_upd h.par hx hy hle
  refine ⟨upd_le h.par hle, fun x hx => ?_, ?_, fun x hx => ?_⟩
  · rw [hu, h.lo x hx]
    have := fs_le (r := r) x
    split
    · rcases hrb with e | ⟨e, e2⟩ <;> omega
    · rfl
  · rw [hu, if_pos (by omega : fs r b < a + 1)]
    rcases hrb with e | ⟨e, e2⟩
    · rw [e, hra]; split <;> omega
    · rw [e, hra]; split <;> omega
  · rw [hu, h.hi x hx, if_neg (by rcases hrb with e | ⟨e, e2⟩ <;> omega)]
theorem Cls.done (h : Cls r P n 0) {x : Nat} (hx : x < n) : rt P x = fs r x := h.lo x hx
end
end Go.Proofs.Ytcegjiiondmchac
