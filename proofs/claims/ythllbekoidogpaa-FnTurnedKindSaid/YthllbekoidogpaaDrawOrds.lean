/-  -/
import Derived.Test.YthllbekoidogpaaOrdP
import Derived.Test.YthllbekoidogpaaSband
import Derived.Test.YthllbekoidogpaaMadeS
import Derived.Deep.RegionHeld3
import Derived.Test.YthllbekoidogpaaDrawBands
import Derived.Test.YthllbekoidogpaaDrawSet
namespace Go.Proofs.Ythllbekoidogpaa
set_option linter.unusedVariables false

/-- One thing strictly below another one. -/
def sbl (T : List (List Int)) (a b : Nat) : Bool := (a != b) && blw T a b
/-- There are k things, each strictly below the next one, the last one strictly below a. -/
def HasH (T : List (List Int)) : Nat → Nat → Prop
  | 0, _ => True
  | k + 1, a => ∃ b, b < T.length ∧ sbl T b a = true ∧ HasH T k b
structure IsHi (T : List (List Int)) (v : Nat) : Prop where
  one : 1 ≤ v
  has : ∃ a, a < T.length ∧ HasH T (v - 1) a
  most : ∀ a k, a < T.length → HasH T k a → k + 1 ≤ v
theorem IsHi.unique {T : List (List Int)} {v v' : Nat} (h : IsHi T v) (h' : IsHi T v') : v = v' := by
  obtain ⟨a, ha, hh⟩ := h.has
  obtain ⟨a', ha', hh'⟩ := h'.has
  have h1 := h'.most a _ ha hh
  have h2 := h.most a' _ ha' hh'
  have := h.one
  have := h'.one
  omega
open Classical in
noncomputable def highT (T : List (List Int)) : Int := if h : bandT T = true ∧ ∃ v, IsHi T v then ((Classical.choose h.2 : Nat) : Int) else -1
section
variable {T : List (List Int)}
theorem highT_not (h : bandT T = false) : highT T = -1 := by unfold highT; rw [dif_neg (by rw [h]; simp)]
theorem highT_of (h : bandT T = true) {v : Nat} (hv : IsHi T v) : highT T = (v : Int) := by
  have hh : bandT T = true ∧ ∃ v, IsHi T v := ⟨h, v, hv⟩
  unfold highT
  rw [dif_pos hh, (Classical.choose_spec hh.2).unique hv]
theorem sbl_iff {a b : Nat} : sbl T a b = true ↔ a ≠ b ∧ blw T a b = true := by unfold sbl; rw [Bool.and_eq_true, bne_iff_ne]
/-- Strictly below is below of levels, strictly. -/
theorem IsB.sbl_lev (bd : IsB T) {a b : Nat} (ha : a < T.length) (hb : b < T.length) (h : sbl T a b = true) : leJ T a b ∧ ¬ leJ T b a := by
  obtain ⟨hne, hbl⟩ := sbl_iff.1 h
  obtain ⟨e1, e2⟩ := blw_iff.1 hbl
  refine ⟨bd.blw_weak ha hb hbl, fun e => hne ?_⟩
  unfold leJ at e
  rw [e2, e1] at e
  omega
theorem chain (bd : IsB T) : ∀ {k a : Nat}, a < T.length → HasH T k a → ∃ c : Nat → Nat, c k = a ∧ (∀ i, i ≤ k → c i < T.length) ∧ ∀ i, i < k → sbl T (c i) (c (i + 1)) = true
  | 0, a, ha, _ => ⟨fun _ => a, rfl, fun _ _ => ha, fun i hi => absurd hi (Nat.not_lt_zero _)⟩
  | k + 1, a, ha, h => by
    obtain ⟨b, hb, hs, hh⟩ := h
    obtain ⟨c, e, h1, h2⟩ := chain bd hb hh
    refine ⟨fun i => if i ≤ k then c i else a, by simp only [show ¬ (k + 1 ≤ k) by omega, if_false], fun i hi => ?_, fun i hi => ?_⟩
    · by_cases e' : i ≤ k
      · simp only [e', if_true]; exact h1 i e'
      · simp only [e', if_false]; exact ha
    · have hi' : i ≤ k := by omega
      simp only [hi', if_true]
      by_cases e' : i + 1 ≤ k
      · simp only [e', if_true]; exact h2 i (by omega)
      · simp only [e', if_false]
        have : i = k := by omega
        subst this
        rw [e]; exact hs
/-- At most as high as levels. -/
theorem HasH.le (h : bandT T = true) {k a : Nat} (ha : a < T.length) (hh : HasH T k a) : k + 1 ≤ nL T := by
  have bd := bandT_iff.1 h
  have E := band_eqvL h
  obtain ⟨c, _, h1, h2⟩ := chain bd ha hh
  have up : ∀ d i, i + d ≤ k → leJ T (c i) (c (i + d)) := fun d => by
    induction d with
    | zero =>
      intro i hi
      have := E.refl (c i) (h1 i (by omega))
      exact (inLev_iff.1 this).1
    | succ d ih =>
      intro i hi
      exact bd.le_trans (th_nat (h1 i (by omega))) (th_nat (h1 (i + d) (by omega))) (th_nat (h1 (i + d + 1) (by omega))) (ih i (by omega)) (bd.sbl_lev (h1 (i + d) (by omega)) (h1 (i + d + 1) (by omega)) (h2 (i + d) (by omega))).1
  have ne : ∀ i j, i < j → j ≤ k → num (inLev T) (c i) ≠ num (inLev T) (c j) := fun i j hij hj e => by
    have hl := (inLev_iff.1 (E.num_ne (h1 i (by omega)) (h1 j hj) e)).2
    have h3 := up (j - (i + 1)) (i + 1) (by omega)
    rw [show i + 1 + (j - (i + 1)) = j by omega] at h3
    exact (bd.sbl_lev (h1 i (by omega)) (h1 (i + 1) (by omega)) (h2 i (by omega))).2 (bd.le_trans (th_nat (h1 (i + 1) (by omega))) (th_nat (h1 j hj)) (th_nat (h1 i (by omega))) h3 hl)
  refine pigeon (nL T) (k + 1) (fun i => num (inLev T) (c i)) (fun i hi => num_ltL h (h1 i (by omega))) fun i j hi hj e => ?_
  rcases Nat.lt_trichotomy i j with hl | hl | hl
  · exact absurd e (ne i j hl (by omega))
  · exact hl
  · exact absurd e.symm (ne j i hl (by omega))
theorem most_of (P : Nat → Prop) (N : Nat) (h0 : P 0) (hN : ∀ k, P k → k < N) : ∃ v, P v ∧ ∀ k, P k → k ≤ v := by
  have : ∀ d, (∃ v, P v ∧ ∀ k, P k → k ≤ v) ∨ ∃ k, P k ∧ d ≤ k := fun d => by
    induction d with
    | zero => exact .inr ⟨0, h0, Nat.le_refl _⟩
    | succ d ih =>
      rcases ih with h | ⟨k, hk, hd⟩
      · exact .inl h
      · by_cases hx : ∃ k, P k ∧ d + 1 ≤ k
        · exact .inr hx
        · refine .inl ⟨k, hk, fun j hj => ?_⟩
          rcases Nat.lt_or_ge k j with hl | hl
          · exact absurd ⟨j, hj, by omega⟩ hx
          · exact hl
  rcases this N with h | ⟨k, hk, hd⟩
  · exact h
  · have := hN k hk; omega
theorem hi_ex (h : bandT T = true) : ∃ v, IsHi T v := by
  have k1 := (band_tab h).lo
  obtain ⟨v, ⟨a, ha, hh⟩, hm⟩ := most_of (fun k => ∃ a, a < T.length ∧ HasH T k a) (nL T) ⟨0, by omega, trivial⟩ (fun k ⟨a, ha, hh⟩ => by have := hh.le h ha; omega)
  exact ⟨v + 1, by omega, ⟨a, ha, by simpa using hh⟩, fun a k ha hk => by have := hm k ⟨a, ha, hk⟩; omega⟩
theorem IsHi.levels (h : bandT T = true) {v : Nat} (hv : IsHi T v) : v ≤ nL T := by
  obtain ⟨a, ha, hh⟩ := hv.has
  have := hh.le h ha
  have := hv.one
  omega
/-- Rectangles are flat. -/
theorem IsHi.flat (h : bandT T = true) {v : Nat} (hv : IsHi T v) : v = 1 ↔ rectT T = true := by
  have bd := bandT_iff.1 h
  constructor
  · intro e
    refine rectT_iff.2 ⟨bd, fun x y x0 x1 y0 y1 => ?_⟩
    obtain ⟨a, rfl⟩ : ∃ a : Nat, x = a := ⟨x.toNat, by omega⟩
    obtain ⟨b, rfl⟩ : ∃ b : Nat, y = b := ⟨y.toNat, by omega⟩
    have ha : a < T.length := by omega
    have hb : b < T.length := by omega
    obtain ⟨p, hp, p1⟩ := mul_nat bd.g.tab ha hb
    obtain ⟨n, hn, n1⟩ := mul_nat bd.g.tab p1 ha
    rw [hp, hn]
    have hbl := bd.push_below (n := n) ha hb (by rw [hp, hn])
    by_cases e' : n = a
    · rw [e']
    · have := hv.most a 1 ha ⟨n, n1, sbl_iff.2 ⟨e', hbl⟩, trivial⟩
      omega
  · intro hr
    have hno : ∀ a b, a < T.length → b < T.length → sbl T b a = true → False := fun a b ha hb hs => by
      obtain ⟨hne, hbl⟩ := sbl_iff.1 hs
      obtain ⟨e1, e2⟩ := blw_iff.1 hbl
      have := (rectT_iff.1 hr).2 (a : Int) (b : Int) (by omega) (by omega) (by omega) (by omega)
      rw [e2, e1] at this
      omega
    obtain ⟨a, ha, hh⟩ := hv.has
    have := hv.one
    rcases Nat.eq_or_lt_of_le this with e | e
    · omega
    · obtain ⟨m, hm⟩ : ∃ m, v - 1 = m + 1 := ⟨v - 2, by omega⟩
      rw [hm] at hh
      obtain ⟨b, hb, hs, _⟩ := hh
      exact (hno a b ha hb hs).elim
end
end Go.Proofs.Ythllbekoidogpaa

namespace Go.Proofs.Ythllbekoidogpaa
set_option linter.unusedVariables false

/-- Heights under way: r rounds are done, and things below a. -/
structure HR (T : List (List Int)) (r a : Nat) (H : Nat → Nat) (best : Nat) : Prop where
  sound : ∀ x, x < T.length → H x = 0 ∨ HasH T (H x - 1) x
  one : 1 ≤ best
  has : ∃ x, x < T.length ∧ HasH T (best - 1) x
  top : ∀ x, x < T.length → H x ≤ best
  old : ∀ x k, x < T.length → k < r → HasH T k x → k + 1 ≤ H x
  new : ∀ x, x < a → x < T.length → HasH T r x → r + 1 ≤ H x
/-- Heights under way: the thing a is asked with things below b. -/
structure HI (T : List (List Int)) (r a b : Nat) (H : Nat → Nat) (best : Nat) : Prop where
  sound : ∀ x, x < T.length → H x = 0 ∨ HasH T (H x - 1) x
  one : 1 ≤ best
  has : ∃ x, x < T.length ∧ HasH T (best - 1) x
  top : ∀ x, x < T.length → x ≠ a → H x ≤ best
  old : ∀ x k, x < T.length → k < r → HasH T k x → k + 1 ≤ H x
  new : ∀ x, x < a → x < T.length → HasH T r x → r + 1 ≤ H x
  cur : 1 ≤ H a
  ask : ∀ x, x < b → sbl T x a = true → H x + 1 ≤ H a
/-- One thing's number is put. -/
def putN (H : Nat → Nat) (a v : Nat) (x : Nat) : Nat := if x = a then v else H x
section
variable {T : List (List Int)} {r a b best : Nat} {H : Nat → Nat}
theorem putN_at : putN H a b a = b := by unfold putN; rw [if_pos rfl]
theorem putN_ne {x : Nat} (h : x ≠ a) : putN H a b x = H x := by unfold putN; rw [if_neg h]
theorem hr_start (h : 1 ≤ T.length) : HR T 0 0 (fun _ => 0) 1 :=
  ⟨fun _ _ => .inl rfl, Nat.le_refl _, ⟨0, by omega, trivial⟩, fun _ _ => Nat.zero_le _, fun _ _ _ h => absurd h (Nat.not_lt_zero _), fun _ h => absurd h (Nat.not_lt_zero _)⟩
theorem HR.round (h : HR T r T.length H best) : HR T (r + 1) 0 H best :=
  ⟨h.sound, h.one, h.has, h.top, fun x k hx hk hh => by
    by_cases e : k = r
    · subst e; exact h.new x hx hx hh
    · exact h.old x k hx (by omega) hh, fun _ h => absurd h (Nat.not_lt_zero _)⟩
theorem HR.enter (h : HR T r a H best) (ha : a < T.length) : HI T r a 0 (putN H a (max (H a) 1)) best := by
  refine ⟨fun x hx => ?_, h.one, h.has, fun x hx hne => by rw [putN_ne hne]; exact h.top x hx, fun x k hx hk hh => ?_, fun x hxa hx hh => ?_, by rw [putN_at]; omega, fun x hx => absurd hx (Nat.not_lt_zero _)⟩
  · by_cases e : x = a
    · subst e
      rw [putN_at]
      right
      rcases h.sound x hx with e0 | hs
      · rw [e0]; exact trivial
      · by_cases h1 : 1 ≤ H x
        · rw [Nat.max_eq_left h1]; exact hs
        · have : H x = 0 := by omega
          rw [this]; exact trivial
    · rw [putN_ne e]; exact h.sound x hx
  · have := h.old x k hx hk hh
    by_cases e : x = a
    · subst e; rw [putN_at]; omega
    · rw [putN_ne e]; exact this
  · have := h.new x hxa hx hh
    rw [putN_ne (by omega)]; exact this
theorem HI.skip (h : HI T r a b H best) (hs : sbl T b a = false) : HI T r a (b + 1) H best :=
  ⟨h.sound, h.one, h.has, h.top, h.old, h.new, h.cur, fun x hx hx2 => by
    by_cases e : x = b
    · subst e; rw [hs] at hx2; cases hx2
    · exact h.ask x (by omega) hx2⟩
theorem HI.step (h : HI T r a b H best) (hs : sbl T b a = true) (ha : a < T.length) (hb : b < T.length) : HI T r a (b + 1) (putN H a (max (H a) (H b + 1))) best := by
  have hne : b ≠ a := (sbl_iff.1 hs).1
  refine ⟨fun x hx => ?_, h.one, h.has, fun x hx hn => by rw [putN_ne hn]; exact h.top x hx hn, fun x k hx hk hh => ?_, fun x hxa hx hh => ?_, ?_, fun x hx hx2 => ?_⟩
  · by_cases e : x = a
    · subst e
      rw [putN_at]
      right
      have hb1 : HasH T (H b + 1 - 1) x := by
        rw [Nat.add_sub_cancel]
        rcases h.sound b hb with e0 | hsb
        · rw [e0]; exact trivial
        · by_cases h0 : H b = 0
          · rw [h0]; exact trivial
          · obtain ⟨m, hm⟩ : ∃ m, H b = m + 1 := ⟨H b - 1, by omega⟩
            rw [hm] at hsb ⊢
            exact ⟨b, hb, hs, hsb⟩
      rcases Nat.le_total (H x) (H b + 1) with hl | hl
      · rw [Nat.max_eq_right hl]; exact hb1
      · rw [Nat.max_eq_left hl]
        rcases h.sound x hx with e0 | hsx
        · have := h.cur; omega
        · exact hsx
    · rw [putN_ne e]; exact h.sound x hx
  · have := h.old x k hx hk hh
    by_cases e : x = a
    · subst e; rw [putN_at]; omega
    · rw [putN_ne e]; exact this
  · have := h.new x hxa hx hh
    rw [putN_ne (by omega)]; exact this
  · have := h.cur
    rw [putN_at]; omega
  · have hxa : x ≠ a := (sbl_iff.1 hx2).1
    rw [putN_at, putN_ne hxa]
    by_cases e : x = b
    · subst e; omega
    · have := h.ask x (by omega) hx2; omega
theorem HI.leave (h : HI T r a T.length H best) (ha : a < T.length) : HR T r (a + 1) H (max best (H a)) := by
  have hc := h.cur
  have ho := h.one
  refine ⟨h.sound, by omega, ?_, fun x hx => ?_, h.old, fun x hxa hx hh => ?_⟩
  · rcases Nat.le_total best (H a) with hl | hl
    · rw [Nat.max_eq_right hl]
      rcases h.sound a ha with e0 | hs
      · omega
      · exact ⟨a, ha, hs⟩
    · rw [Nat.max_eq_left hl]; exact h.has
  · by_cases e : x = a
    · subst e; omega
    · have := h.top x hx e; omega
  · by_cases e : x = a
    · subst e
      match r, hh, h with
      | 0, _, _ => omega
      | r' + 1, hh, h =>
        obtain ⟨b, hb, hs, hb2⟩ := hh
        have h1 := h.old b r' hb (by omega) hb2
        have h2 := h.ask b hb hs
        omega
    · exact h.new x (by omega) hx hh
theorem HR.isHi (h : HR T T.length 0 H best) (hb : bandT T = true) : IsHi T best :=
  ⟨h.one, h.has, fun a k ha hh => by
    have h1 := hh.le hb ha
    have h2 := nL_le T
    have := h.old a k ha (by omega) hh
    have := h.top a ha
    omega⟩
theorem HR.le (h : HR T r a H best) (hb : bandT T = true) : best ≤ T.length ∧ ∀ x, x < T.length → H x ≤ T.length := by
  have h2 := nL_le T
  have hbest : best ≤ T.length := by
    obtain ⟨x, hx, hh⟩ := h.has
    have := hh.le hb hx
    have := h.one
    omega
  exact ⟨hbest, fun x hx => Nat.le_trans (h.top x hx) hbest⟩
theorem HI.le (h : HI T r a b H best) (hb : bandT T = true) : best ≤ T.length ∧ ∀ x, x < T.length → H x ≤ T.length := by
  have h2 := nL_le T
  refine ⟨?_, fun x hx => ?_⟩
  · obtain ⟨x, hx, hh⟩ := h.has
    have := hh.le hb hx
    have := h.one
    omega
  · rcases h.sound x hx with e | hs
    · omega
    · have := hs.le hb hx; omega
end
end Go.Proofs.Ythllbekoidogpaa

namespace Go.Proofs.Ythllbekoidogpaa
open Go.RowKit
set_option linter.unusedVariables false


/-- What is under a thing, under way. -/
def undK (T : List (List Int)) (a k : Nat) : Nat := msk (fun b => blw T b a) k
theorem undK_no {T : List (List Int)} {a k : Nat} (h : blw T k a = false) : undK T a (k + 1) = undK T a k := by
  unfold undK
  simp [msk, h]
theorem undK_yes {T : List (List Int)} {a k : Nat} (h : blw T k a = true) : undK T a (k + 1) = undK T a k ||| 2 ^ k := by
  unfold undK
  rw [msk_or, if_pos h]
theorem undK_lt (T : List (List Int)) (a k : Nat) : undK T a k < 2 ^ k := msk_lt _ _

/-- Heights in a row of the call's own. -/
def RowH (w : World) (g n : Nat) (H : Nat → Nat) : Prop := w.rowIs g 3 n (fun i => .int .i64 (H i : Nat))
theorem RowH.put {w : World} {g n a v : Nat} {H : Nat → Nat} (h : RowH w g n H) : RowH (w.setCell ⟨g, a, none⟩ (.int .i64 (v : Nat))) g n (putN H a v) := (World.rowIs.set h a _).congr fun i _ => by
  unfold putN
  by_cases e : i = a
  · rw [if_pos e, if_pos e]
  · rw [if_neg e, if_neg e]
theorem RowH.cell {w : World} {g n a : Nat} {H : Nat → Nat} (h : RowH w g n H) (ha : a < n) : w.cell? ⟨g, a, none⟩ = some (.int .i64 (H a : Nat)) := World.rowIs.cell h ha
theorem RowH.frz {w : World} {g n : Nat} {H : Nat → Nat} (h : RowH w g n H) (a : Nat) : w.frozen? ⟨g, a, none⟩ = false := World.rowIs.frozen h a
theorem sbl_at (T : List (List Int)) (b a : Nat) : sbl T b a = ((b != a) && (mul T (b : Int) (a : Int) == (b : Int) && mul T (a : Int) (b : Int) == (b : Int))) := rfl

end Go.Proofs.Ythllbekoidogpaa

namespace Go.Proofs.Ythllbekoidogpaa
open Go.RowKit
set_option linter.unusedVariables false


def DrawTwo (w : World) (g : Nat) (e : Ending) (w' : World) : Prop := ∃ A' c' T, ∃ x y : Int, e = .returned (.tuple #[.slice A' T.length c', .int .i64 x, .int .i64 y]) ∧ Mat w' w.heap.size w'.heap.size A' T ∧ Small T ∧ Only g (g + 1) w w'
theorem drawTwo3 (w w1 : World) {e : Ending} {w2 : World} (b1 : Below w.heap.size w w1) (h : DrawTwo w1 w.heap.size e w2) : ∃ A' c' T, ∃ x y : Int, e = .returned (.tuple #[.slice A' T.length c', .int .i64 x, .int .i64 y]) ∧ Below w.heap.size w w2 ∧ Mat w2 w.heap.size w2.heap.size A' T ∧ Small T := by
  obtain ⟨A', c', T, x, y, e, hM, hS, hO⟩ := h
  exact ⟨A', c', T, x, y, e, b1.trans (hO.below (Nat.le_refl _) b1.size), hM.mono b1.size (Nat.le_refl _), hS⟩
def DrawnT (w : World) (e : Ending) (w' : World) : Prop := ∃ A c T, ∃ x y : Int, e = .returned (.tuple #[.slice A T.length c, .int .i64 x, .int .i64 y]) ∧ Below w.heap.size w w' ∧ Mat w' w.heap.size w'.heap.size A T ∧ Small T
end Go.Proofs.Ythllbekoidogpaa
