
/- How high a band is, reckoned in rounds: plain mathematics. -/
import Derived.Test.YtjmjfmgbfjmaaaaHighP
namespace Go.Proofs.Ytjmjfmgbfjmaaaa
set_option linter.unusedVariables false

/-- Heights under way: r rounds are done, and things below a. -/
structure HR (T : List (List Int)) (r a : Nat) (H : Nat → Nat) (best : Nat) : Prop where
  sound : ∀ x, x < T.length → H x = 0 ∨ HasH T (H x - 1) x
  one : 1 ≤ best
  has : ∃ x, x < T.length ∧ HasH T (best - 1) x
  top : ∀ x, x < T.length → H x ≤ best
  old : ∀ x k, x < T.length → k < r → HasH T k x → k + 1 ≤ H x
  new : ∀ x, x < a → x < T.length → HasH T r x → r + 1 ≤ H x
/-- Heights under way: the thing a is asked with things below b. -/
structure HI (T : List (List Int)) (r a b : Nat) (H : Nat → Nat) (best : Nat) : Prop where
  sound : ∀ x, x < T.length → H x = 0 ∨ HasH T (H x - 1) x
  one : 1 ≤ best
  has : ∃ x, x < T.length ∧ HasH T (best - 1) x
  top : ∀ x, x < T.length → x ≠ a → H x ≤ best
  old : ∀ x k, x < T.length → k < r → HasH T k x → k + 1 ≤ H x
  new : ∀ x, x < a → x < T.length → HasH T r x → r + 1 ≤ H x
  cur : 1 ≤ H a
  ask : ∀ x, x < b → sbl T x a = true → H x + 1 ≤ H a
/-- One thing's number is put. -/
def putN (H : Nat → Nat) (a v : Nat) (x : Nat) : Nat := if x = a then v else H x
section
variable {T : List (List Int)} {r a b best : Nat} {H : Nat → Nat}
theorem putN_at : putN H a b a = b := by unfold putN; rw [if_pos rfl]
theorem putN_ne {x : Nat} (h : x ≠ a) : putN H a b x = H x := by unfold putN; rw [if_neg h]
theorem hr_start (h : 1 ≤ T.length) : HR T 0 0 (fun _ => 0) 1 :=
  ⟨fun _ _ => .inl rfl, Nat.le_refl _, ⟨0, by omega, trivial⟩, fun _ _ => Nat.zero_le _, fun _ _ _ h => absurd h (Nat.not_lt_zero _), fun _ h => absurd h (Nat.not_lt_zero _)⟩
theorem HR.round (h : HR T r T.length H best) : HR T (r + 1) 0 H best :=
  ⟨h.sound, h.one, h.has, h.top, fun x k hx hk hh => by
    by_cases e : k = r
    · subst e; exact h.new x hx hx hh
    · exact h.old x k hx (by omega) hh, fun _ h => absurd h (Nat.not_lt_zero _)⟩
theorem HR.enter (h : HR T r a H best) (ha : a < T.length) : HI T r a 0 (putN H a (max (H a) 1)) best := by
  refine ⟨fun x hx => ?_, h.one, h.has, fun x hx hne => by rw [putN_ne hne]; exact h.top x hx, fun x k hx hk hh => ?_, fun x hxa hx hh => ?_, by rw [putN_at]; omega, fun x hx => absurd hx (Nat.not_lt_zero _)⟩
  · by_cases e : x = a
    · subst e
      rw [putN_at]
      right
      rcases h.sound x hx with e0 | hs
      · rw [e0]; exact trivial
      · by_cases h1 : 1 ≤ H x
        · rw [Nat.max_eq_left h1]; exact hs
        · have : H x = 0 := by omega
          rw [this]; exact trivial
    · rw [putN_ne e]; exact h.sound x hx
  · have := h.old x k hx hk hh
    by_cases e : x = a
    · subst e; rw [putN_at]; omega
    · rw [putN_ne e]; exact this
  · have := h.new x hxa hx hh
    rw [putN_ne (by omega)]; exact this
theorem HI.skip (h : HI T r a b H best) (hs : sbl T b a = false) : HI T r a (b + 1) H best :=
  ⟨h.sound, h.one, h.has, h.top, h.old, h.new, h.cur, fun x hx hx2 => by
    by_cases e : x = b
    · subst e; rw [hs] at hx2; cases hx2
    · exact h.ask x (by omega) hx2⟩
theorem HI.step (h : HI T r a b H best) (hs : sbl T b a = true) (ha : a < T.length) (hb : b < T.length) : HI T r a (b + 1) (putN H a (max (H a) (H b + 1))) best := by
  have hne : b ≠ a := (sbl_iff.1 hs).1
  refine ⟨fun x hx => ?_, h.one, h.has, fun x hx hn => by rw [putN_ne hn]; exact h.top x hx hn, fun x k hx hk hh => ?_, fun x hxa hx hh => ?_, ?_, fun x hx hx2 => ?_⟩
  · by_cases e : x = a
    · subst e
      rw [putN_at]
      right
      have hb1 : HasH T (H b + 1 - 1) x := by
        rw [Nat.add_sub_cancel]
        rcases h.sound b hb with e0 | hsb
        · rw [e0]; exact trivial
        · by_cases h0 : H b = 0
          · rw [h0]; exact trivial
          · obtain ⟨m, hm⟩ : ∃ m, H b = m + 1 := ⟨H b - 1, by omega⟩
            rw [hm] at hsb ⊢
            exact ⟨b, hb, hs, hsb⟩
      rcases Nat.le_total (H x) (H b + 1) with hl | hl
      · rw [Nat.max_eq_right hl]; exact hb1
      · rw [Nat.max_eq_left hl]
        rcases h.sound x hx with e0 | hsx
        · have := h.cur; omega
        · exact hsx
    · rw [putN_ne e]; exact h.sound x hx
  · have := h.old x k hx hk hh
    by_cases e : x = a
    · subst e; rw [putN_at]; omega
    · rw [putN_ne e]; exact this
  · have := h.new x hxa hx hh
    rw [putN_ne (by omega)]; exact this
  · have := h.cur
    rw [putN_at]; omega
  · have hxa : x ≠ a := (sbl_iff.1 hx2).1
    rw [putN_at, putN_ne hxa]
    by_cases e : x = b
    · subst e; omega
    · have := h.ask x (by omega) hx2; omega
theorem HI.leave (h : HI T r a T.length H best) (ha : a < T.length) : HR T r (a + 1) H (max best (H a)) := by
  have hc := h.cur
  have ho := h.one
  refine ⟨h.sound, by omega, ?_, fun x hx => ?_, h.old, fun x hxa hx hh => ?_⟩
  · rcases Nat.le_total best (H a) with hl | hl
    · rw [Nat.max_eq_right hl]
      rcases h.sound a ha with e0 | hs
      · omega
      · exact ⟨a, ha, hs⟩
    · rw [Nat.max_eq_left hl]; exact h.has
  · by_cases e : x = a
    · subst e; omega
    · have := h.top x hx e; omega
  · by_cases e : x = a
    · subst e
      match r, hh, h with
      | 0, _, _ => omega
      | r' + 1, hh, h =>
        obtain ⟨b, hb, hs, hb2⟩ := hh
        have h1 := h.old b r' hb (by omega) hb2
        have h2 := h.ask b hb hs
        omega
    · exact h.new x (by omega) hx hh
theorem HR.isHi (h : HR T T.length 0 H best) (hb : bandT T = true) : IsHi T best :=
  ⟨h.one, h.has, fun a k ha hh => by
    have h1 := hh.le hb ha
    have h2 := nL_le T
    have := h.old a k ha (by omega) hh
    have := h.top a ha
    omega⟩
theorem HR.le (h : HR T r a H best) (hb : bandT T = true) : best ≤ T.length ∧ ∀ x, x < T.length → H x ≤ T.length := by
  have h2 := nL_le T
  have hbest : best ≤ T.length := by
    obtain ⟨x, hx, hh⟩ := h.has
    have := hh.le hb hx
    have := h.one
    omega
  exact ⟨hbest, fun x hx => Nat.le_trans (h.top x hx) hbest⟩
theorem HI.le (h : HI T r a b H best) (hb : bandT T = true) : best ≤ T.length ∧ ∀ x, x < T.length → H x ≤ T.length := by
  have h2 := nL_le T
  refine ⟨?_, fun x hx => ?_⟩
  · obtain ⟨x, hx, hh⟩ := h.has
    have := hh.le hb hx
    have := h.one
    omega
  · rcases h.sound x hx with e | hs
    · omega
    · have := hs.le hb hx; omega
end
end Go.Proofs.Ytjmjfmgbfjmaaaa
