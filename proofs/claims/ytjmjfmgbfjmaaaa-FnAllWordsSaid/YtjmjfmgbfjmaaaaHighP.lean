
/- How high a band is: plain mathematics. -/
import Derived.Test.YtjmjfmgbfjmaaaaOrdP
namespace Go.Proofs.Ytjmjfmgbfjmaaaa
set_option linter.unusedVariables false

/-- One thing strictly below another one. -/
def sbl (T : List (List Int)) (a b : Nat) : Bool := (a != b) && blw T a b
/-- There are k things, each strictly below the next one, the last one strictly below a. -/
def HasH (T : List (List Int)) : Nat → Nat → Prop
  | 0, _ => True
  | k + 1, a => ∃ b, b < T.length ∧ sbl T b a = true ∧ HasH T k b
structure IsHi (T : List (List Int)) (v : Nat) : Prop where
  one : 1 ≤ v
  has : ∃ a, a < T.length ∧ HasH T (v - 1) a
  most : ∀ a k, a < T.length → HasH T k a → k + 1 ≤ v
theorem IsHi.unique {T : List (List Int)} {v v' : Nat} (h : IsHi T v) (h' : IsHi T v') : v = v' := by
  obtain ⟨a, ha, hh⟩ := h.has
  obtain ⟨a', ha', hh'⟩ := h'.has
  have h1 := h'.most a _ ha hh
  have h2 := h.most a' _ ha' hh'
  have := h.one
  have := h'.one
  omega
open Classical in
noncomputable def highT (T : List (List Int)) : Int := if h : bandT T = true ∧ ∃ v, IsHi T v then ((Classical.choose h.2 : Nat) : Int) else -1
section
variable {T : List (List Int)}
theorem highT_not (h : bandT T = false) : highT T = -1 := by unfold highT; rw [dif_neg (by rw [h]; simp)]
theorem highT_of (h : bandT T = true) {v : Nat} (hv : IsHi T v) : highT T = (v : Int) := by
  have hh : bandT T = true ∧ ∃ v, IsHi T v := ⟨h, v, hv⟩
  unfold highT
  rw [dif_pos hh, (Classical.choose_spec hh.2).unique hv]
theorem sbl_iff {a b : Nat} : sbl T a b = true ↔ a ≠ b ∧ blw T a b = true := by unfold sbl; rw [Bool.and_eq_true, bne_iff_ne]
/-- Strictly below is below of levels, strictly. -/
theorem IsB.sbl_lev (bd : IsB T) {a b : Nat} (ha : a < T.length) (hb : b < T.length) (h : sbl T a b = true) : leJ T a b ∧ ¬ leJ T b a := by
  obtain ⟨hne, hbl⟩ := sbl_iff.1 h
  obtain ⟨e1, e2⟩ := blw_iff.1 hbl
  refine ⟨bd.blw_weak ha hb hbl, fun e => hne ?_⟩
  unfold leJ at e
  rw [e2, e1] at e
  omega
theorem chain (bd : IsB T) : ∀ {k a : Nat}, a < T.length → HasH T k a → ∃ c : Nat → Nat, c k = a ∧ (∀ i, i ≤ k → c i < T.length) ∧ ∀ i, i < k → sbl T (c i) (c (i + 1)) = true
  | 0, a, ha, _ => ⟨fun _ => a, rfl, fun _ _ => ha, fun i hi => absurd hi (Nat.not_lt_zero _)⟩
  | k + 1, a, ha, h => by
    obtain ⟨b, hb, hs, hh⟩ := h
    obtain ⟨c, e, h1, h2⟩ := chain bd hb hh
    refine ⟨fun i => if i ≤ k then c i else a, by simp only [show ¬ (k + 1 ≤ k) by omega, if_false], fun i hi => ?_, fun i hi => ?_⟩
    · by_cases e' : i ≤ k
      · simp only [e', if_true]; exact h1 i e'
      · simp only [e', if_false]; exact ha
    · have hi' : i ≤ k := by omega
      simp only [hi', if_true]
      by_cases e' : i + 1 ≤ k
      · simp only [e', if_true]; exact h2 i (by omega)
      · simp only [e', if_false]
        have : i = k := by omega
        subst this
        rw [e]; exact hs
/-- At most as high as levels. -/
theorem HasH.le (h : bandT T = true) {k a : Nat} (ha : a < T.length) (hh : HasH T k a) : k + 1 ≤ nL T := by
  have bd := bandT_iff.1 h
  have E := band_eqvL h
  obtain ⟨c, _, h1, h2⟩ := chain bd ha hh
  have up : ∀ d i, i + d ≤ k → leJ T (c i) (c (i + d)) := fun d => by
    induction d with
    | zero =>
      intro i hi
      have := E.refl (c i) (h1 i (by omega))
      exact (inLev_iff.1 this).1
    | succ d ih =>
      intro i hi
      exact bd.le_trans (th_nat (h1 i (by omega))) (th_nat (h1 (i + d) (by omega))) (th_nat (h1 (i + d + 1) (by omega))) (ih i (by omega)) (bd.sbl_lev (h1 (i + d) (by omega)) (h1 (i + d + 1) (by omega)) (h2 (i + d) (by omega))).1
  have ne : ∀ i j, i < j → j ≤ k → num (inLev T) (c i) ≠ num (inLev T) (c j) := fun i j hij hj e => by
    have hl := (inLev_iff.1 (E.num_ne (h1 i (by omega)) (h1 j hj) e)).2
    have h3 := up (j - (i + 1)) (i + 1) (by omega)
    rw [show i + 1 + (j - (i + 1)) = j by omega] at h3
    exact (bd.sbl_lev (h1 i (by omega)) (h1 (i + 1) (by omega)) (h2 i (by omega))).2 (bd.le_trans (th_nat (h1 (i + 1) (by omega))) (th_nat (h1 j hj)) (th_nat (h1 i (by omega))) h3 hl)
  refine pigeon (nL T) (k + 1) (fun i => num (inLev T) (c i)) (fun i hi => num_ltL h (h1 i (by omega))) fun i j hi hj e => ?_
  rcases Nat.lt_trichotomy i j with hl | hl | hl
  · exact absurd e (ne i j hl (by omega))
  · exact hl
  · exact absurd e.symm (ne j i hl (by omega))
theorem most_of (P : Nat → Prop) (N : Nat) (h0 : P 0) (hN : ∀ k, P k → k < N) : ∃ v, P v ∧ ∀ k, P k → k ≤ v := by
  have : ∀ d, (∃ v, P v ∧ ∀ k, P k → k ≤ v) ∨ ∃ k, P k ∧ d ≤ k := fun d => by
    induction d with
    | zero => exact .inr ⟨0, h0, Nat.le_refl _⟩
    | succ d ih =>
      rcases ih with h | ⟨k, hk, hd⟩
      · exact .inl h
      · by_cases hx : ∃ k, P k ∧ d + 1 ≤ k
        · exact .inr hx
        · refine .inl ⟨k, hk, fun j hj => ?_⟩
          rcases Nat.lt_or_ge k j with hl | hl
          · exact absurd ⟨j, hj, by omega⟩ hx
          · exact hl
  rcases this N with h | ⟨k, hk, hd⟩
  · exact h
  · have := hN k hk; omega
theorem hi_ex (h : bandT T = true) : ∃ v, IsHi T v := by
  have k1 := (band_tab h).lo
  obtain ⟨v, ⟨a, ha, hh⟩, hm⟩ := most_of (fun k => ∃ a, a < T.length ∧ HasH T k a) (nL T) ⟨0, by omega, trivial⟩ (fun k ⟨a, ha, hh⟩ => by have := hh.le h ha; omega)
  exact ⟨v + 1, by omega, ⟨a, ha, by simpa using hh⟩, fun a k ha hk => by have := hm k ⟨a, ha, hk⟩; omega⟩
theorem IsHi.levels (h : bandT T = true) {v : Nat} (hv : IsHi T v) : v ≤ nL T := by
  obtain ⟨a, ha, hh⟩ := hv.has
  have := hh.le h ha
  have := hv.one
  omega
/-- Rectangles are flat. -/
theorem IsHi.flat (h : bandT T = true) {v : Nat} (hv : IsHi T v) : v = 1 ↔ rectT T = true := by
  have bd := bandT_iff.1 h
  constructor
  · intro e
    refine rectT_iff.2 ⟨bd, fun x y x0 x1 y0 y1 => ?_⟩
    obtain ⟨a, rfl⟩ : ∃ a : Nat, x = a := ⟨x.toNat, by omega⟩
    obtain ⟨b, rfl⟩ : ∃ b : Nat, y = b := ⟨y.toNat, by omega⟩
    have ha : a < T.length := by omega
    have hb : b < T.length := by omega
    obtain ⟨p, hp, p1⟩ := mul_nat bd.g.tab ha hb
    obtain ⟨n, hn, n1⟩ := mul_nat bd.g.tab p1 ha
    rw [hp, hn]
    have hbl := bd.push_below (n := n) ha hb (by rw [hp, hn])
    by_cases e' : n = a
    · rw [e']
    · have := hv.most a 1 ha ⟨n, n1, sbl_iff.2 ⟨e', hbl⟩, trivial⟩
      omega
  · intro hr
    have hno : ∀ a b, a < T.length → b < T.length → sbl T b a = true → False := fun a b ha hb hs => by
      obtain ⟨hne, hbl⟩ := sbl_iff.1 hs
      obtain ⟨e1, e2⟩ := blw_iff.1 hbl
      have := (rectT_iff.1 hr).2 (a : Int) (b : Int) (by omega) (by omega) (by omega) (by omega)
      rw [e2, e1] at this
      omega
    obtain ⟨a, ha, hh⟩ := hv.has
    have := hv.one
    rcases Nat.eq_or_lt_of_le this with e | e
    · omega
    · obtain ⟨m, hm⟩ : ∃ m, v - 1 = m + 1 := ⟨v - 2, by omega⟩
      rw [hm] at hh
      obtain ⟨b, hb, hs, _⟩ := hh
      exact (hno a b ha hb hs).elim
end
end Go.Proofs.Ytjmjfmgbfjmaaaa
