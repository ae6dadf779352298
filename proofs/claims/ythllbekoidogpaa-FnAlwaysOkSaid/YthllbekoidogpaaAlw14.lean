/-  -/
import Derived.Test.YthllbekoidogpaaAlw13
import Derived.Test.YthllbekoidogpaaAlw04
import Derived.Test.YthllbekoidogpaaAlw03
import Derived.Deep.RegionHeld3
import Derived.Test.YthllbekoidogpaaAlw02
import Derived.Maps.OwnOps
import Derived.MapKept
import Derived.Laws.EntriesVeiled
import Derived.Test.YthllbekoidogpaaAlw06
namespace Go.Proofs.Ythllbekoidogpaa
open Go.RowKit
set_option linter.unusedVariables false


theorem DrawAny.up {w wi w' : World} {B g P Q n c : Nat} {A : Option Addr} {e : Ending} (s : St w wi B g P A n c) (h : DrawAny wi B g Q A n c e w') : DrawAny w B g Q A n c e w' := by
  obtain ⟨A', c', T, P', h1, h2, h3, h4, h5⟩ := h
  exact ⟨A', c', T, P', h1, h2.mono s.only.size (Nat.le_refl _), h3, ⟨h4.rd, s.only.trans h4.only, s.lt⟩, h5⟩
theorem DrawSq.any {w w' : World} {B g P n c : Nat} {A : Option Addr} {e : Ending} (hg : g < w.heap.size) (h : DrawSq w B g P A n c e w') : DrawAny w B g (P + 40) A n c e w' := by
  obtain ⟨v, T, m, P', rfl, hP, hR, hO, hA, hT, h1, h9⟩ := h
  have hS : TabS w w' v m := ⟨T, hA, hT⟩
  obtain ⟨A', c', rfl⟩ := hS.val
  exact (Bd.any hS h9 ⟨hR, hO, hg⟩).mono hP

/-- A new reader. -/
def Opened (w : World) (e : Ending) (w' : World) : Prop := ∃ A n c, e = .returned (.pointer (some ⟨w.heap.size, 0, none⟩)) ∧ Below w.heap.size w w' ∧ St w' w' w.heap.size w.heap.size 0 A n c
theorem opened {w : World} {A : Option Addr} {n c : Nat} (h : Bytes w w.heap.size A n) (hn : n ≤ 2000) : Opened w (.returned (.pointer (some ⟨w.heap.size, 0, none⟩))) (w.alloc (.cells #[.slice A n c, .int .i64 0] 80)) := by
  have b := (Below.refl w.heap.size w).more (.cells #[.slice A n c, .int .i64 0] 80)
  refine ⟨A, n, c, rfl, b, St.start ⟨heap_alloc_new w _, Nat.le_refl _, hn, fun j hj => ?_⟩⟩
  obtain ⟨bb, o, z, e, hlt, hc, hz⟩ := h j hj
  exact ⟨bb, o, z, e, hlt, (b.cell (p := ⟨bb, o + j, none⟩) hlt).trans hc, hz⟩
set_option maxHeartbeats 1000000 in
theorem open_any (A : Option Addr) (n c : Nat) (w : World) (h : Bytes w w.heap.size A n) (hc : n ≤ c) (hc2 : c ≤ 9223372036854775807) :
    Calls Try.prog 53 #[.slice A n c] w (Opened w) := by
  by_cases hn : 2000 < n
  · have hni : (2000 : Int) < (n : Int) := by omega
    have h2 : Bytes w w.heap.size A 2000 := fun j hj => h j (by omega)
    go_enter Try.func53, Try.ntmps53
    go_wp2
    all_goals go_ret
    all_goals exact opened h2 (by omega)
  · have hni : ¬ (2000 : Int) < (n : Int) := by omega
    go_enter Try.func53, Try.ntmps53
    go_wp2
    go_ret
    exact opened h (by omega)

/-- A drawn table: new, small. -/
def Drawn (w : World) (e : Ending) (w' : World) : Prop := ∃ A c T, e = .returned (.slice A T.length c) ∧ Below w.heap.size w w' ∧ Mat w' w.heap.size w'.heap.size A T ∧ Small T

/-- A table of one thing, written out. -/
theorem lit1 {W : World} {k : Nat} (z : Int) (hk : W.heap.size = k) : Mat ((W.alloc (.cells #[.int .i64 z] 3)).alloc (.cells #[.slice (some ⟨k, 0, none⟩) 1 1] 58)) k (k + 2) (some ⟨k + 1, 0, none⟩) [[z]] := fun i hi => by
  subst hk
  have e1 := heap_alloc_new W (.cells #[.int .i64 z] 3)
  have e2 := heap_alloc_new (W.alloc (.cells #[.int .i64 z] 3)) (.cells #[.slice (some ⟨W.heap.size, 0, none⟩) 1 1] 58)
  have e3 := (Below.heap_alloc (W.alloc (.cells #[.int .i64 z] 3)) (.cells #[.slice (some ⟨W.heap.size, 0, none⟩) 1 1] 58) W.heap.size (by simp)).trans e1
  have hs : (W.alloc (.cells #[.int .i64 z] 3)).heap.size = W.heap.size + 1 := by simp
  rw [hs] at e2
  have h0 : i = 0 := by simpa using hi
  subst h0
  refine ⟨W.heap.size + 1, 0, some ⟨W.heap.size, 0, none⟩, 1, rfl, by omega, by omega, by rw [cell_of_row _ _ _ _ _ _ e2]; rfl, fun j hj => ?_⟩
  have h0 : j = 0 := by simpa [rw_] using hj
  subst h0
  exact ⟨W.heap.size, 0, rfl, by omega, by omega, by rw [cell_of_row _ _ _ _ _ _ e3]; rfl⟩
theorem small1 (z : Int) : Small [[z]] := ⟨by simp, fun i hi => by
  have h0 : i = 0 := by simpa using hi
  subst h0
  simp [rw_]⟩
set_option maxHeartbeats 1000000 in
theorem alive_any (w : World) : Calls Try.prog 18 #[] w fun e w' => e = .returned (.bool true) ∧ Below w.heap.size w w' := by
  go_enter Try.func18, Try.ntmps18
  go_wp2_with fail
  refine (iTableOk_any _ 1 _ _ [[0]] _ (lit1 0 rfl) (small1 0)).mono ?_
  rintro e w1 ⟨rfl, rfl⟩
  rw [show okT [[0]] = true from by decide]
  go_wp2_with fail
  refine (iTableOk_any _ 1 _ _ [[1]] _ (lit1 1 (by simp)) (small1 1)).mono ?_
  rintro e w1 ⟨rfl, rfl⟩
  rw [show okT [[1]] = false from by decide]
  go_wp2
  go_ret
  exact ⟨rfl, ((((Below.refl w.heap.size w).more _).more _).more _).more _⟩
end Go.Proofs.Ythllbekoidogpaa

namespace Go.Proofs.Ythllbekoidogpaa
open Go.RowKit
set_option linter.unusedVariables false


def DrawnP (w : World) (e : Ending) (w' : World) : Prop := ∃ u v, e = .returned (.tuple #[.string (bs u), .string (bs v)]) ∧ u.length ≤ 100 ∧ v.length ≤ 100 ∧ Below w.heap.size w w'
end Go.Proofs.Ythllbekoidogpaa

namespace Go.Proofs.Ythllbekoidogpaa
set_option linter.unusedVariables false

/-- One thing strictly below another one. -/
def sbl (T : List (List Int)) (a b : Nat) : Bool := (a != b) && blw T a b
/-- There are k things, each strictly below the next one, the last one strictly below a. -/
def HasH (T : List (List Int)) : Nat → Nat → Prop
  | 0, _ => True
  | k + 1, a => ∃ b, b < T.length ∧ sbl T b a = true ∧ HasH T k b
structure IsHi (T : List (List Int)) (v : Nat) : Prop where
  one : 1 ≤ v
  has : ∃ a, a < T.length ∧ HasH T (v - 1) a
  most : ∀ a k, a < T.length → HasH T k a → k + 1 ≤ v
theorem IsHi.unique {T : List (List Int)} {v v' : Nat} (h : IsHi T v) (h' : IsHi T v') : v = v' := by
  obtain ⟨a, ha, hh⟩ := h.has
  obtain ⟨a', ha', hh'⟩ := h'.has
  have h1 := h'.most a _ ha hh
  have h2 := h.most a' _ ha' hh'
  have := h.one
  have := h'.one
  omega
section
variable {T : List (List Int)}
theorem sbl_iff {a b : Nat} : sbl T a b = true ↔ a ≠ b ∧ blw T a b = true := by unfold sbl; rw [Bool.and_eq_true, bne_iff_ne]
/-- Strictly below is below of levels, strictly. -/
theorem IsB.sbl_lev (bd : IsB T) {a b : Nat} (ha : a < T.length) (hb : b < T.length) (h : sbl T a b = true) : leJ T a b ∧ ¬ leJ T b a := by
  obtain ⟨hne, hbl⟩ := sbl_iff.1 h
  obtain ⟨e1, e2⟩ := blw_iff.1 hbl
  refine ⟨bd.blw_weak ha hb hbl, fun e => hne ?_⟩
  unfold leJ at e
  rw [e2, e1] at e
  omega
theorem chain (bd : IsB T) : ∀ {k a : Nat}, a < T.length → HasH T k a → ∃ c : Nat → Nat, c k = a ∧ (∀ i, i ≤ k → c i < T.length) ∧ ∀ i, i < k → sbl T (c i) (c (i + 1)) = true
  | 0, a, ha, _ => ⟨fun _ => a, rfl, fun _ _ => ha, fun i hi => absurd hi (Nat.not_lt_zero _)⟩
  | k + 1, a, ha, h => by
    obtain ⟨b, hb, hs, hh⟩ := h
    obtain ⟨c, e, h1, h2⟩ := chain bd hb hh
    refine ⟨fun i => if i ≤ k then c i else a, by simp only [show ¬ (k + 1 ≤ k) by omega, if_false], fun i hi => ?_, fun i hi => ?_⟩
    · by_cases e' : i ≤ k
      · simp only [e', if_true]; exact h1 i e'
      · simp only [e', if_false]; exact ha
    · have hi' : i ≤ k := by omega
      simp only [hi', if_true]
      by_cases e' : i + 1 ≤ k
      · simp only [e', if_true]; exact h2 i (by omega)
      · simp only [e', if_false]
        have : i = k := by omega
        subst this
        rw [e]; exact hs
/-- At most as high as levels. -/
theorem HasH.le (h : bandT T = true) {k a : Nat} (ha : a < T.length) (hh : HasH T k a) : k + 1 ≤ nL T := by
  have bd := bandT_iff.1 h
  have E := band_eqvL h
  obtain ⟨c, _, h1, h2⟩ := chain bd ha hh
  have up : ∀ d i, i + d ≤ k → leJ T (c i) (c (i + d)) := fun d => by
    induction d with
    | zero =>
      intro i hi
      have := E.refl (c i) (h1 i (by omega))
      exact (inLev_iff.1 this).1
    | succ d ih =>
      intro i hi
      exact bd.le_trans (th_nat (h1 i (by omega))) (th_nat (h1 (i + d) (by omega))) (th_nat (h1 (i + d + 1) (by omega))) (ih i (by omega)) (bd.sbl_lev (h1 (i + d) (by omega)) (h1 (i + d + 1) (by omega)) (h2 (i + d) (by omega))).1
  have ne : ∀ i j, i < j → j ≤ k → num (inLev T) (c i) ≠ num (inLev T) (c j) := fun i j hij hj e => by
    have hl := (inLev_iff.1 (E.num_ne (h1 i (by omega)) (h1 j hj) e)).2
    have h3 := up (j - (i + 1)) (i + 1) (by omega)
    rw [show i + 1 + (j - (i + 1)) = j by omega] at h3
    exact (bd.sbl_lev (h1 i (by omega)) (h1 (i + 1) (by omega)) (h2 i (by omega))).2 (bd.le_trans (th_nat (h1 (i + 1) (by omega))) (th_nat (h1 j hj)) (th_nat (h1 i (by omega))) h3 hl)
  refine pigeon (nL T) (k + 1) (fun i => num (inLev T) (c i)) (fun i hi => num_ltL h (h1 i (by omega))) fun i j hi hj e => ?_
  rcases Nat.lt_trichotomy i j with hl | hl | hl
  · exact absurd e (ne i j hl (by omega))
  · exact hl
  · exact absurd e.symm (ne j i hl (by omega))
theorem IsHi.levels (h : bandT T = true) {v : Nat} (hv : IsHi T v) : v ≤ nL T := by
  obtain ⟨a, ha, hh⟩ := hv.has
  have := hh.le h ha
  have := hv.one
  omega
end
end Go.Proofs.Ythllbekoidogpaa

namespace Go.Proofs.Ythllbekoidogpaa
set_option linter.unusedVariables false

/-- Heights under way: r rounds are done, and things below a. -/
structure HR (T : List (List Int)) (r a : Nat) (H : Nat → Nat) (best : Nat) : Prop where
  sound : ∀ x, x < T.length → H x = 0 ∨ HasH T (H x - 1) x
  one : 1 ≤ best
  has : ∃ x, x < T.length ∧ HasH T (best - 1) x
  top : ∀ x, x < T.length → H x ≤ best
  old : ∀ x k, x < T.length → k < r → HasH T k x → k + 1 ≤ H x
  new : ∀ x, x < a → x < T.length → HasH T r x → r + 1 ≤ H x
/-- Heights under way: the thing a is asked with things below b. -/
structure HI (T : List (List Int)) (r a b : Nat) (H : Nat → Nat) (best : Nat) : Prop where
  sound : ∀ x, x < T.length → H x = 0 ∨ HasH T (H x - 1) x
  one : 1 ≤ best
  has : ∃ x, x < T.length ∧ HasH T (best - 1) x
  top : ∀ x, x < T.length → x ≠ a → H x ≤ best
  old : ∀ x k, x < T.length → k < r → HasH T k x → k + 1 ≤ H x
  new : ∀ x, x < a → x < T.length → HasH T r x → r + 1 ≤ H x
  cur : 1 ≤ H a
  ask : ∀ x, x < b → sbl T x a = true → H x + 1 ≤ H a
/-- One thing's number is put. -/
def putN (H : Nat → Nat) (a v : Nat) (x : Nat) : Nat := if x = a then v else H x
section
variable {T : List (List Int)} {r a b best : Nat} {H : Nat → Nat}
theorem putN_at : putN H a b a = b := by unfold putN; rw [if_pos rfl]
theorem putN_ne {x : Nat} (h : x ≠ a) : putN H a b x = H x := by unfold putN; rw [if_neg h]
theorem HR.round (h : HR T r T.length H best) : HR T (r + 1) 0 H best :=
  ⟨h.sound, h.one, h.has, h.top, fun x k hx hk hh => by
    by_cases e : k = r
    · subst e; exact h.new x hx hx hh
    · exact h.old x k hx (by omega) hh, fun _ h => absurd h (Nat.not_lt_zero _)⟩
theorem HR.enter (h : HR T r a H best) (ha : a < T.length) : HI T r a 0 (putN H a (max (H a) 1)) best := by
  refine ⟨fun x hx => ?_, h.one, h.has, fun x hx hne => by rw [putN_ne hne]; exact h.top x hx, fun x k hx hk hh => ?_, fun x hxa hx hh => ?_, by rw [putN_at]; omega, fun x hx => absurd hx (Nat.not_lt_zero _)⟩
  · by_cases e : x = a
    · subst e
      rw [putN_at]
      right
      rcases h.sound x hx with e0 | hs
      · rw [e0]; exact trivial
      · by_cases h1 : 1 ≤ H x
        · rw [Nat.max_eq_left h1]; exact hs
        · have : H x = 0 := by omega
          rw [this]; exact trivial
    · rw [putN_ne e]; exact h.sound x hx
  · have := h.old x k hx hk hh
    by_cases e : x = a
    · subst e; rw [putN_at]; omega
    · rw [putN_ne e]; exact this
  · have := h.new x hxa hx hh
    rw [putN_ne (by omega)]; exact this
theorem HI.step (h : HI T r a b H best) (hs : sbl T b a = true) (ha : a < T.length) (hb : b < T.length) : HI T r a (b + 1) (putN H a (max (H a) (H b + 1))) best := by
  have hne : b ≠ a := (sbl_iff.1 hs).1
  refine ⟨fun x hx => ?_, h.one, h.has, fun x hx hn => by rw [putN_ne hn]; exact h.top x hx hn, fun x k hx hk hh => ?_, fun x hxa hx hh => ?_, ?_, fun x hx hx2 => ?_⟩
  · by_cases e : x = a
    · subst e
      rw [putN_at]
      right
      have hb1 : HasH T (H b + 1 - 1) x := by
        rw [Nat.add_sub_cancel]
        rcases h.sound b hb with e0 | hsb
        · rw [e0]; exact trivial
        · by_cases h0 : H b = 0
          · rw [h0]; exact trivial
          · obtain ⟨m, hm⟩ : ∃ m, H b = m + 1 := ⟨H b - 1, by omega⟩
            rw [hm] at hsb ⊢
            exact ⟨b, hb, hs, hsb⟩
      rcases Nat.le_total (H x) (H b + 1) with hl | hl
      · rw [Nat.max_eq_right hl]; exact hb1
      · rw [Nat.max_eq_left hl]
        rcases h.sound x hx with e0 | hsx
        · have := h.cur; omega
        · exact hsx
    · rw [putN_ne e]; exact h.sound x hx
  · have := h.old x k hx hk hh
    by_cases e : x = a
    · subst e; rw [putN_at]; omega
    · rw [putN_ne e]; exact this
  · have := h.new x hxa hx hh
    rw [putN_ne (by omega)]; exact this
  · have := h.cur
    rw [putN_at]; omega
  · have hxa : x ≠ a := (sbl_iff.1 hx2).1
    rw [putN_at, putN_ne hxa]
    by_cases e : x = b
    · subst e; omega
    · have := h.ask x (by omega) hx2; omega
theorem HR.le (h : HR T r a H best) (hb : bandT T = true) : best ≤ T.length ∧ ∀ x, x < T.length → H x ≤ T.length := by
  have h2 := nL_le T
  have hbest : best ≤ T.length := by
    obtain ⟨x, hx, hh⟩ := h.has
    have := hh.le hb hx
    have := h.one
    omega
  exact ⟨hbest, fun x hx => Nat.le_trans (h.top x hx) hbest⟩
theorem HI.le (h : HI T r a b H best) (hb : bandT T = true) : best ≤ T.length ∧ ∀ x, x < T.length → H x ≤ T.length := by
  have h2 := nL_le T
  refine ⟨?_, fun x hx => ?_⟩
  · obtain ⟨x, hx, hh⟩ := h.has
    have := hh.le hb hx
    have := h.one
    omega
  · rcases h.sound x hx with e | hs
    · omega
    · have := hs.le hb hx; omega
end
end Go.Proofs.Ythllbekoidogpaa

namespace Go.Proofs.Ythllbekoidogpaa
open Go.RowKit
set_option linter.unusedVariables false


/-- Heights in a row of the call's own. -/
def RowH (w : World) (g n : Nat) (H : Nat → Nat) : Prop := w.rowIs g 3 n (fun i => .int .i64 (H i : Nat))
theorem RowH.put {w : World} {g n a v : Nat} {H : Nat → Nat} (h : RowH w g n H) : RowH (w.setCell ⟨g, a, none⟩ (.int .i64 (v : Nat))) g n (putN H a v) := (World.rowIs.set h a _).congr fun i _ => by
  unfold putN
  by_cases e : i = a
  · rw [if_pos e, if_pos e]
  · rw [if_neg e, if_neg e]
theorem RowH.cell {w : World} {g n a : Nat} {H : Nat → Nat} (h : RowH w g n H) (ha : a < n) : w.cell? ⟨g, a, none⟩ = some (.int .i64 (H a : Nat)) := World.rowIs.cell h ha
theorem RowH.frz {w : World} {g n : Nat} {H : Nat → Nat} (h : RowH w g n H) (a : Nat) : w.frozen? ⟨g, a, none⟩ = false := World.rowIs.frozen h a
end Go.Proofs.Ythllbekoidogpaa

namespace Go.Proofs.Ythllbekoidogpaa
open Go.RowKit
set_option linter.unusedVariables false
set_option linter.unusedSimpArgs false
set_option maxHeartbeats 2000000 in
theorem drawAlwaysOk_any (A : Option Addr) (n c : Nat) (w : World) (h : Bytes w w.heap.size A n) (hc : n ≤ c) (hc2 : c ≤ 9223372036854775807) :
    Calls Try.prog 44 #[.slice A n c] w (DrawnP w) := by
  go_enter Try.func44, Try.ntmps44
  go_wp2_with fail
  refine (open_any A n c w h hc hc2).mono ?_
  rintro e w1 ⟨A1, n1, c1, rfl, b1, s1⟩
  go_wp2_with fail
  refine (pair_st s1 (by omega)).mono ?_
  rintro e w2 ⟨u, v, P2, rfl, hu, hv, s2, _, _⟩
  go_wp2
  go_ret2
  exact ⟨u, v, rfl, by omega, hv, b1.trans (s2.only.below (Nat.le_refl _) b1.size)⟩
end Go.Proofs.Ythllbekoidogpaa
