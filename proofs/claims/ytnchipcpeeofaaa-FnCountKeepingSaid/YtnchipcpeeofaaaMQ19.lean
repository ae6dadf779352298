/-  -/
import Derived.Deep.DeepCutAuto
import Derived.Deep.CutBlock
import Derived.Deep.RegionHeld3
import Derived.Test.YtnchipcpeeofaaaMQ18
namespace Go.Proofs.Ytnchipcpeeofaaa
open Go.RowKit
set_option linter.unusedVariables false


set_option maxHeartbeats 1000000 in
theorem odd_any (B g P : Nat) (A : Option Addr) (n c : Nat) (m : Int) (w : World) (h : Rd w B g P A n c) (hP : P ≤ 10000) (hm0 : 1 ≤ m) (hm : m ≤ 1000) :
    Calls Try.prog 81 #[.pointer (some ⟨g, 0, none⟩), .int .i64 m] w fun e w' => (∃ b : Bool, e = .returned (.bool b)) ∧ Rd w' B g (P + 1) A n c ∧ Only g (g + 1) w w' ∧ Hid (w'.heap.size = w.heap.size) := by
  go_enter Try.func81, Try.ntmps81
  go_wp2_with fail
  refine (pick_any B g P A n c m w h (by omega) (by omega) (by omega)).mono ?_
  rintro e w1 ⟨v, rfl, hv0, hv1, h1, hO1, hz1⟩
  have HZ := hide hz1
  clear hz1 hv1
  go_wp2
  go_ret
  exact ⟨⟨_, rfl⟩, h1, hO1, HZ⟩

/-- What the draws keep: the reader, and all that was there but the reader. -/
structure St (w wi : World) (B g P : Nat) (A : Option Addr) (n c : Nat) : Prop where
  rd : Rd wi B g P A n c
  only : Only g (g + 1) w wi
  lt : g < w.heap.size
/-- A square table of m things among what the draws have made. -/
def TabS (w wi : World) (v : Value) (m : Nat) : Prop := ∃ T, ATab w.heap.size wi v T ∧ Rect T m m
/-- A step that gives a square table. -/
def TabStep (w wi : World) (B g P : Nat) (A : Option Addr) (n c m : Nat) (e : Ending) (wj : World) : Prop :=
  ∃ A' c', e = .returned (.slice A' m c') ∧ TabS w wj (.slice A' m c') m ∧ St w wj B g P A n c ∧ Only g (g + 1) wi wj
section
variable {w wi wj : World} {B g P n c m : Nat} {A : Option Addr} {v : Value}
theorem ATab.mono {base base' : Nat} {T : List (List Int)} (h : ATab base w v T) (hb : base' ≤ base) : ATab base' w v T := by
  obtain ⟨vs, h1, h2⟩ := h
  exact ⟨vs, ownsRow_mono h1 hb, fun i hi => by
    obtain ⟨u, hu, hr⟩ := h2 i hi
    exact ⟨u, hu, hr.mono hb⟩⟩
theorem TabS.val (h : TabS w wi v m) : ∃ A' c', v = .slice A' m c' := by
  obtain ⟨T, hA, hT⟩ := h
  obtain ⟨A', c', hv, _⟩ := hA.val
  rw [hT.len] at hv
  exact ⟨A', c', hv⟩
theorem TabS.only (h : TabS w wi v m) (hO : Only g (g + 1) wi wj) (hg : g < w.heap.size) : TabS w wj v m := by
  obtain ⟨T, hA, hT⟩ := h
  exact ⟨T, hA.low hO hg, hT⟩
theorem St.below (h : St w wi B g P A n c) (hb : Below wi.heap.size wi wj) : St w wj B g P A n c := ⟨h.rd.below hb, h.only.thenBelow hb h.only.size, h.lt⟩
theorem St.start (h : Rd w B g P A n c) : St w w B g P A n c := ⟨h, Only.refl _ _ _, h.lt⟩
theorem TabS.mat {A' : Option Addr} {c' : Nat} (h : TabS w wi (.slice A' m c') m) : ∃ T, Mat wi w.heap.size wi.heap.size A' T ∧ Rect T m m := by
  obtain ⟨T, hA, hT⟩ := h
  obtain ⟨A2, c2, hv, _, _, hM⟩ := hA.val
  injection hv with h1 _ _
  subst h1
  exact ⟨T, hM, hT⟩
theorem step_new {e : Ending} (h : St w wi B g P A n c) (hn : NewSq wi m e wj) : TabStep w wi B g P A n c m e wj := by
  obtain ⟨v, T, rfl, hb, hA, hT⟩ := hn
  have hS : TabS w wj v m := ⟨T, hA.mono h.only.size, hT⟩
  obtain ⟨A', c', rfl⟩ := hS.val
  exact ⟨A', c', rfl, hS, h.below hb, Only.of_below hb⟩
end
theorem pick_st {w wi : World} {B g P n c : Nat} {A : Option Addr} (m : Int) (h : St w wi B g P A n c) (hP : P ≤ 10000) (hm0 : 1 ≤ m) (hm : m ≤ 1000) :
    Calls Try.prog 72 #[.pointer (some ⟨g, 0, none⟩), .int .i64 m] wi fun e wj => ∃ k : Nat, e = .returned (.int .i64 (k : Nat)) ∧ (k : Int) < m ∧ St w wj B g (P + 1) A n c ∧ Only g (g + 1) wi wj :=
  (pick_any B g P A n c m wi h.rd (by omega) (by omega) (by omega)).mono fun e wj ⟨v, he, hv0, hv1, hr, hO, _⟩ =>
    ⟨v.toNat, by rw [Int.toNat_of_nonneg hv0]; exact he, by omega, ⟨hr, h.only.trans hO, h.lt⟩, hO⟩
theorem left_st {w wi : World} {B g P n c : Nat} {A : Option Addr} (x : Int) (h : St w wi B g P A n c) (h0 : 0 ≤ x) (h9 : x ≤ 9) : Calls Try.prog 66 #[.int .i64 x] wi (TabStep w wi B g P A n c x.toNat) := by
  have := (left_any x.toNat wi (by omega)).mono fun e wj hn => step_new h hn
  rwa [Int.toNat_of_nonneg h0] at this
theorem chain_st {w wi : World} {B g P n c : Nat} {A : Option Addr} (x : Int) (h : St w wi B g P A n c) (h0 : 0 ≤ x) (h9 : x ≤ 9) : Calls Try.prog 67 #[.int .i64 x] wi (TabStep w wi B g P A n c x.toNat) := by
  have := (chain_any x.toNat wi (by omega)).mono fun e wj hn => step_new h hn
  rwa [Int.toNat_of_nonneg h0] at this
theorem signs_st {w wi : World} {B g P n c : Nat} {A : Option Addr} (h : St w wi B g P A n c) : Calls Try.prog 68 #[] wi (TabStep w wi B g P A n c 3) :=
  (signs_any wi).mono fun e wj hn => step_new h hn
theorem turn_st {w wi : World} {B g P n c m c' : Nat} {A A' : Option Addr} (h : St w wi B g P A n c) (hT : TabS w wi (.slice A' m c') m) (hm : m ≤ 9) : Calls Try.prog 69 #[.slice A' m c'] wi (TabStep w wi B g P A n c m) := by
  obtain ⟨T, hM, hR⟩ := hT.mat
  exact (turn_any A' c' _ _ m T wi hM (Nat.le_refl _) hR hm).mono fun e wj hn => step_new h hn
theorem more_st {w wi : World} {B g P n c m c' : Nat} {A A' : Option Addr} (z : Bool) (h : St w wi B g P A n c) (hT : TabS w wi (.slice A' m c') m) (hm : m ≤ 8) : Calls Try.prog 88 #[.slice A' m c', .bool z] wi (TabStep w wi B g P A n c (m + 1)) := by
  obtain ⟨T, hM, hR⟩ := hT.mat
  exact (more_any A' c' _ _ m T z wi hM (Nat.le_refl _) hR hm).mono fun e wj hn => step_new h hn
theorem both_st {w wi : World} {B g P n c m c' m2 c2 : Nat} {A A' A2 : Option Addr} (h : St w wi B g P A n c) (hT : TabS w wi (.slice A' m c') m) (hT2 : TabS w wi (.slice A2 m2 c2) m2) (hm : m ≤ 9) (hm2 : m2 ≤ 9) (hmm : m * m2 ≤ 9) :
    Calls Try.prog 70 #[.slice A' m c', .slice A2 m2 c2] wi (TabStep w wi B g P A n c (m * m2)) := by
  obtain ⟨T, hM, hR⟩ := hT.mat
  obtain ⟨T2, hM2, hR2⟩ := hT2.mat
  exact (both_any A' A2 c' c2 _ _ _ _ m m2 T T2 wi hM (Nat.le_refl _) hR hM2 (Nat.le_refl _) hR2 hm hm2 hmm).mono fun e wj hn => step_new h hn

theorem le_alloc {b : Nat} {w : World} (h : b ≤ w.heap.size) (o : Obj) : b ≤ (w.alloc o).heap.size := Nat.le_trans h (by simp)
set_option maxRecDepth 100000 in
theorem band_lit (w w2 : World) (hs : w.heap.size ≤ w2.heap.size) : TabS w (((((((w2.alloc (.cells #[.int .i64 0, .int .i64 2, .int .i64 2, .int .i64 4, .int .i64 4, .int .i64 2] 3)).alloc (.cells #[.int .i64 3, .int .i64 1, .int .i64 5, .int .i64 3, .int .i64 3, .int .i64 5] 3)).alloc (.cells #[.int .i64 4, .int .i64 2, .int .i64 2, .int .i64 4, .int .i64 4, .int .i64 2] 3)).alloc (.cells #[.int .i64 3, .int .i64 5, .int .i64 5, .int .i64 3, .int .i64 3, .int .i64 5] 3)).alloc (.cells #[.int .i64 4, .int .i64 2, .int .i64 2, .int .i64 4, .int .i64 4, .int .i64 2] 3)).alloc (.cells #[.int .i64 3, .int .i64 5, .int .i64 5, .int .i64 3, .int .i64 3, .int .i64 5] 3)).alloc (.cells #[.slice (some ⟨w2.heap.size, 0, none⟩) 6 6, .slice (some ⟨w2.heap.size + 1, 0, none⟩) 6 6, .slice (some ⟨w2.heap.size + 2, 0, none⟩) 6 6, .slice (some ⟨w2.heap.size + 3, 0, none⟩) 6 6, .slice (some ⟨w2.heap.size + 4, 0, none⟩) 6 6, .slice (some ⟨w2.heap.size + 5, 0, none⟩) 6 6] 24)) (.slice (some ⟨w2.heap.size + 6, 0, none⟩) 6 6) 6 := by
  have l0 := hs
  have l1 := le_alloc l0 (.cells #[.int .i64 0, .int .i64 2, .int .i64 2, .int .i64 4, .int .i64 4, .int .i64 2] 3)
  have l2 := le_alloc l1 (.cells #[.int .i64 3, .int .i64 1, .int .i64 5, .int .i64 3, .int .i64 3, .int .i64 5] 3)
  have l3 := le_alloc l2 (.cells #[.int .i64 4, .int .i64 2, .int .i64 2, .int .i64 4, .int .i64 4, .int .i64 2] 3)
  have l4 := le_alloc l3 (.cells #[.int .i64 3, .int .i64 5, .int .i64 5, .int .i64 3, .int .i64 3, .int .i64 5] 3)
  have l5 := le_alloc l4 (.cells #[.int .i64 4, .int .i64 2, .int .i64 2, .int .i64 4, .int .i64 4, .int .i64 2] 3)
  have l6 := le_alloc l5 (.cells #[.int .i64 3, .int .i64 5, .int .i64 5, .int .i64 3, .int .i64 3, .int .i64 5] 3)
  have r0 := ((((((ARow.lit (base := w.heap.size) (w := w2) (xs := [0, 2, 2, 4, 4, 2]) #[.int .i64 0, .int .i64 2, .int .i64 2, .int .i64 4, .int .i64 4, .int .i64 2] rfl l0 (by decide)).alloc_ (.cells #[.int .i64 3, .int .i64 1, .int .i64 5, .int .i64 3, .int .i64 3, .int .i64 5] 3)).alloc_ (.cells #[.int .i64 4, .int .i64 2, .int .i64 2, .int .i64 4, .int .i64 4, .int .i64 2] 3)).alloc_ (.cells #[.int .i64 3, .int .i64 5, .int .i64 5, .int .i64 3, .int .i64 3, .int .i64 5] 3)).alloc_ (.cells #[.int .i64 4, .int .i64 2, .int .i64 2, .int .i64 4, .int .i64 4, .int .i64 2] 3)).alloc_ (.cells #[.int .i64 3, .int .i64 5, .int .i64 5, .int .i64 3, .int .i64 3, .int .i64 5] 3))
  have r1 := (((((ARow.lit (base := w.heap.size) (w := (w2.alloc (.cells #[.int .i64 0, .int .i64 2, .int .i64 2, .int .i64 4, .int .i64 4, .int .i64 2] 3))) (xs := [3, 1, 5, 3, 3, 5]) #[.int .i64 3, .int .i64 1, .int .i64 5, .int .i64 3, .int .i64 3, .int .i64 5] rfl l1 (by decide)).alloc_ (.cells #[.int .i64 4, .int .i64 2, .int .i64 2, .int .i64 4, .int .i64 4, .int .i64 2] 3)).alloc_ (.cells #[.int .i64 3, .int .i64 5, .int .i64 5, .int .i64 3, .int .i64 3, .int .i64 5] 3)).alloc_ (.cells #[.int .i64 4, .int .i64 2, .int .i64 2, .int .i64 4, .int .i64 4, .int .i64 2] 3)).alloc_ (.cells #[.int .i64 3, .int .i64 5, .int .i64 5, .int .i64 3, .int .i64 3, .int .i64 5] 3))
  have r2 := ((((ARow.lit (base := w.heap.size) (w := ((w2.alloc (.cells #[.int .i64 0, .int .i64 2, .int .i64 2, .int .i64 4, .int .i64 4, .int .i64 2] 3)).alloc (.cells #[.int .i64 3, .int .i64 1, .int .i64 5, .int .i64 3, .int .i64 3, .int .i64 5] 3))) (xs := [4, 2, 2, 4, 4, 2]) #[.int .i64 4, .int .i64 2, .int .i64 2, .int .i64 4, .int .i64 4, .int .i64 2] rfl l2 (by decide)).alloc_ (.cells #[.int .i64 3, .int .i64 5, .int .i64 5, .int .i64 3, .int .i64 3, .int .i64 5] 3)).alloc_ (.cells #[.int .i64 4, .int .i64 2, .int .i64 2, .int .i64 4, .int .i64 4, .int .i64 2] 3)).alloc_ (.cells #[.int .i64 3, .int .i64 5, .int .i64 5, .int .i64 3, .int .i64 3, .int .i64 5] 3))
  have r3 := (((ARow.lit (base := w.heap.size) (w := (((w2.alloc (.cells #[.int .i64 0, .int .i64 2, .int .i64 2, .int .i64 4, .int .i64 4, .int .i64 2] 3)).alloc (.cells #[.int .i64 3, .int .i64 1, .int .i64 5, .int .i64 3, .int .i64 3, .int .i64 5] 3)).alloc (.cells #[.int .i64 4, .int .i64 2, .int .i64 2, .int .i64 4, .int .i64 4, .int .i64 2] 3))) (xs := [3, 5, 5, 3, 3, 5]) #[.int .i64 3, .int .i64 5, .int .i64 5, .int .i64 3, .int .i64 3, .int .i64 5] rfl l3 (by decide)).alloc_ (.cells #[.int .i64 4, .int .i64 2, .int .i64 2, .int .i64 4, .int .i64 4, .int .i64 2] 3)).alloc_ (.cells #[.int .i64 3, .int .i64 5, .int .i64 5, .int .i64 3, .int .i64 3, .int .i64 5] 3))
  have r4 := ((ARow.lit (base := w.heap.size) (w := ((((w2.alloc (.cells #[.int .i64 0, .int .i64 2, .int .i64 2, .int .i64 4, .int .i64 4, .int .i64 2] 3)).alloc (.cells #[.int .i64 3, .int .i64 1, .int .i64 5, .int .i64 3, .int .i64 3, .int .i64 5] 3)).alloc (.cells #[.int .i64 4, .int .i64 2, .int .i64 2, .int .i64 4, .int .i64 4, .int .i64 2] 3)).alloc (.cells #[.int .i64 3, .int .i64 5, .int .i64 5, .int .i64 3, .int .i64 3, .int .i64 5] 3))) (xs := [4, 2, 2, 4, 4, 2]) #[.int .i64 4, .int .i64 2, .int .i64 2, .int .i64 4, .int .i64 4, .int .i64 2] rfl l4 (by decide)).alloc_ (.cells #[.int .i64 3, .int .i64 5, .int .i64 5, .int .i64 3, .int .i64 3, .int .i64 5] 3))
  have r5 := (ARow.lit (base := w.heap.size) (w := (((((w2.alloc (.cells #[.int .i64 0, .int .i64 2, .int .i64 2, .int .i64 4, .int .i64 4, .int .i64 2] 3)).alloc (.cells #[.int .i64 3, .int .i64 1, .int .i64 5, .int .i64 3, .int .i64 3, .int .i64 5] 3)).alloc (.cells #[.int .i64 4, .int .i64 2, .int .i64 2, .int .i64 4, .int .i64 4, .int .i64 2] 3)).alloc (.cells #[.int .i64 3, .int .i64 5, .int .i64 5, .int .i64 3, .int .i64 3, .int .i64 5] 3)).alloc (.cells #[.int .i64 4, .int .i64 2, .int .i64 2, .int .i64 4, .int .i64 4, .int .i64 2] 3))) (xs := [3, 5, 5, 3, 3, 5]) #[.int .i64 3, .int .i64 5, .int .i64 5, .int .i64 3, .int .i64 3, .int .i64 5] rfl l5 (by decide))
  have := ATab.lit (base := w.heap.size) (T := [[0, 2, 2, 4, 4, 2], [3, 1, 5, 3, 3, 5], [4, 2, 2, 4, 4, 2], [3, 5, 5, 3, 3, 5], [4, 2, 2, 4, 4, 2], [3, 5, 5, 3, 3, 5]]) [_, _, _, _, _, _] _ rfl l6 (by decide) rfl (fun i hi => by
      match i, hi with
      | 0, _ => exact ⟨_, rfl, r0⟩
      | 1, _ => exact ⟨_, rfl, r1⟩
      | 2, _ => exact ⟨_, rfl, r2⟩
      | 3, _ => exact ⟨_, rfl, r3⟩
      | 4, _ => exact ⟨_, rfl, r4⟩
      | 5, _ => exact ⟨_, rfl, r5⟩)
  refine ⟨[[0, 2, 2, 4, 4, 2], [3, 1, 5, 3, 3, 5], [4, 2, 2, 4, 4, 2], [3, 5, 5, 3, 3, 5], [4, 2, 2, 4, 4, 2], [3, 5, 5, 3, 3, 5]], by simpa using this, rfl, fun i hi => ?_⟩
  match i, hi with
  | 0, _ => rfl
  | 1, _ => rfl
  | 2, _ => rfl
  | 3, _ => rfl
  | 4, _ => rfl
  | 5, _ => rfl
theorem mul_9 {a b : Nat} (ha : a ≤ 3) (hb : b ≤ 3) : a * b ≤ 9 := Nat.mul_le_mul ha hb
theorem mul_1 {a b : Nat} (ha : 1 ≤ a) (hb : 1 ≤ b) : 1 ≤ a * b := Nat.mul_le_mul ha hb
/-- What holds while a band is being drawn. -/
def Bd (w : World) (B g P : Nat) (A : Option Addr) (n c : Nat) (v : Value) (w' : World) : Prop :=
  ∃ m P' A' c', v = .slice A' m c' ∧ TabS w w' v m ∧ 1 ≤ m ∧ m ≤ 9 ∧ St w w' B g P' A n c ∧ P' ≤ P

end Go.Proofs.Ytnchipcpeeofaaa
