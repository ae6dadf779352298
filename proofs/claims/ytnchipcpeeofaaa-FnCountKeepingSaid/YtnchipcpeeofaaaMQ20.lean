/-  -/
import Derived.Deep.Slices
import Derived.Test.YtnchipcpeeofaaaMQ19
import Derived.Deep.DeepCutAuto
import Derived.Deep.CutBlock
import Derived.Deep.RegionHeld3
import Derived.Test.YtnchipcpeeofaaaMQ02
import Derived.Test.YtnchipcpeeofaaaMQ04
import Derived.Test.YtnchipcpeeofaaaMQ05
namespace Go.Proofs.Ytnchipcpeeofaaa
open Go.RowKit
set_option linter.unusedVariables false

theorem ARow.set_int {base g y : Nat} {z : Int} {w : World} {u : Value} {xs : List Int} (h : ARow base w u xs) :
    ∃ xs' : List Int, xs'.length = xs.length ∧ ARow base (w.setCell ⟨g, y, none⟩ (.int .i64 z)) u xs' := by
  obtain ⟨h1, h2⟩ := h
  rcases h2 with h2 | ⟨g', cap, cur, hv, hg, hh, hc, hm, hs, ht⟩
  · exact ⟨xs, rfl, h1, .inl h2⟩
  · by_cases e : g' = g
    · subst e
      refine ⟨xs.set y z, by simp, by simp, .inr ⟨g', cap, cur.setIfInBounds y (.int .i64 z), by rw [hv]; simp, hg, ?_, by simpa using hc, hm, by simpa using hs, ?_⟩⟩
      · simp [World.setCell, Array.getElem?_modify, hh]
      · rw [Nat.mul_one] at ht
        simp only [Nat.mul_one, List.length_set, Array.toList_setIfInBounds, List.map_set]
        rw [List.take_set, ht]
    · exact ⟨xs, rfl, h1, .inr ⟨g', cap, cur, hv, hg, (Below.heap_setCell _ _ _ _ (by show g' ≠ g; exact e)).trans hh, hc, hm, hs, ht⟩⟩

theorem TabS.cells {w wi : World} {A' : Option Addr} {q c' x y : Nat} (h : TabS w wi (.slice A' q c') q) (hx : x < q) (hy : y < q) :
    ∃ b b2 c2 z, A' = some ⟨b, 0, none⟩ ∧ wi.cell? ⟨b, x, none⟩ = some (.slice (some ⟨b2, 0, none⟩) q c2) ∧ q ≤ c2 ∧ c2 ≤ 9223372036854775807 ∧ wi.cell? ⟨b2, y, none⟩ = some (.int .i64 z) ∧ wi.frozen? ⟨b2, y, none⟩ = false ∧ wi.frozen? ⟨b, x, none⟩ = false ∧ w.heap.size ≤ b2 ∧ w.heap.size ≤ b ∧ b ≠ b2 ∧
      ∀ u : Int, TabS w (wi.setCell ⟨b2, y, none⟩ (.int .i64 u)) (.slice A' q c') q := by
  obtain ⟨T, ⟨vs, h1, h2⟩, hT⟩ := h
  have hl := hT.len
  obtain ⟨u, hu, hr⟩ := h2 x (by omega)
  have hrl := hT.row x hx
  have h1k := h1
  have hrk := hr
  rcases h1.2 with ⟨_, h0⟩ | ⟨b, cap, cur, hv, hg, hh, hc, hm, hs, ht⟩
  · omega
  rcases hr.2 with ⟨_, h0⟩ | ⟨b2, cap2, cur2, hv2, hg2, hh2, hc2, hm2, hs2, ht2⟩
  · omega
  have hne : b ≠ b2 := fun e => by
    subst e
    rw [hh] at hh2
    injection hh2 with hh2
    injection hh2 with _ hty
    exact absurd hty (by decide)
  injection hv with hA hlen hcap
  subst hA
  subst hv2
  have ex := h1k.cells (g := b) (by rw [Value.ownBlock]) x _ hu
  have ey := hrk.cells (g := b2) rfl y (.int .i64 (el (rw_ T x) y)) (by simp [el, List.getD, hrl, hy])
  rw [Addr.add_lit] at ex ey
  simp only [Nat.zero_add] at ex ey
  refine ⟨b, b2, cap2, _, rfl, by rw [ex, hrl], by omega, by rw [maxLen_is] at hm2; exact hm2, ey, by simp [World.frozen?, hh2], by simp [World.frozen?, hh], hg2, hg, hne, fun z => ?_⟩
  have each : ∀ i, i < T.length → ∃ xs' : List Int, xs'.length = (rw_ T i).length ∧ ∃ u', vs[i]? = some u' ∧ ARow w.heap.size (wi.setCell ⟨b2, y, none⟩ (.int .i64 z)) u' xs' := fun i hi => by
    obtain ⟨u', hu', hr'⟩ := h2 i hi
    obtain ⟨xs', hl', ha'⟩ := hr'.set_int (g := b2) (y := y) (z := z)
    exact ⟨xs', hl', u', hu', ha'⟩
  obtain ⟨F, hF⟩ := Go.Deep.choose_lt each
  have hrow : ∀ i, i < T.length → rw_ ((List.range T.length).map F) i = F i := fun i hi => by simp [rw_, List.getD, hi]
  refine ⟨(List.range T.length).map F, ⟨vs, ⟨by simpa using h1k.1, .inr ⟨b, cap, cur, by simp [hl, hcap], hg, (Below.heap_setCell _ _ _ _ (by show b ≠ b2; exact hne)).trans hh, by simpa using hc, hm, by simpa using hs, by simpa using ht⟩⟩, fun i hi => ?_⟩, ⟨by simp [hl], fun i hi => ?_⟩⟩
  · have hi' : i < T.length := by simpa using hi
    obtain ⟨_, u', hu', ha'⟩ := hF i hi'
    exact ⟨u', hu', by rw [hrow i hi']; exact ha'⟩
  · rw [hrow i (by omega), (hF i (by omega)).1]
    exact hT.row i hi

theorem St.set {w wi : World} {B g P n c b y : Nat} {A : Option Addr} {u : Value} (h : St w wi B g P A n c) (hb : w.heap.size ≤ b) : St w (wi.setCell ⟨b, y, none⟩ u) B g P A n c := by
  have hb2 : Below w.heap.size wi (wi.setCell ⟨b, y, none⟩ u) := (Below.refl _ _).setCell hb _
  exact ⟨h.rd.belowM hb2 h.lt, h.only.thenBelow hb2 (Nat.le_refl _), h.lt⟩
end Go.Proofs.Ytnchipcpeeofaaa

namespace Go.Proofs.Ytnchipcpeeofaaa
open Go.RowKit
set_option linter.unusedVariables false

/-- A call that draws a table, square or not. -/
def DrawAny (w : World) (B g P : Nat) (A : Option Addr) (n c : Nat) (e : Ending) (w' : World) : Prop :=
  ∃ A' c' T P', e = .returned (.slice A' T.length c') ∧ Mat w' w.heap.size w'.heap.size A' T ∧ Small T ∧ St w w' B g P' A n c ∧ P' ≤ P ∧ T.length ≤ 9
theorem DrawAny.mono {w w' : World} {B g P P2 n c : Nat} {A : Option Addr} {e : Ending} (h : DrawAny w B g P A n c e w') (hp : P ≤ P2) : DrawAny w B g P2 A n c e w' := by
  obtain ⟨A', c', T, P', h1, h2, h3, h4, h5, h6⟩ := h
  exact ⟨A', c', T, P', h1, h2, h3, h4, Nat.le_trans h5 hp, h6⟩
theorem Bd.any {w w' : World} {B g P n c m c' : Nat} {A A' : Option Addr} (h : TabS w w' (.slice A' m c') m) (hm : m ≤ 9) (s : St w w' B g P A n c) : DrawAny w B g P A n c (.returned (.slice A' m c')) w' := by
  obtain ⟨T, hM, hT⟩ := h.mat
  exact ⟨A', c', T, P, by rw [hT.len], hM, hT.small hm hm, s, Nat.le_refl _, by rw [hT.len]; exact hm⟩


/-- A drawn table of which the blocks of the rows are known. -/
structure TF (w W : World) (b q c : Nat) (F H : Nat → Nat) : Prop where
  tab : TabS w W (.slice (some ⟨b, 0, none⟩) q c) q
  top : ∀ x, x < q → W.cell? ⟨b, x, none⟩ = some (.slice (some ⟨F x, 0, none⟩) q (H x))
theorem TF.of {w W : World} {A' : Option Addr} {q c : Nat} (h : TabS w W (.slice A' q c) q) (hq : 1 ≤ q) : ∃ b F H, A' = some ⟨b, 0, none⟩ ∧ TF w W b q c F H := by
  obtain ⟨b, _, _, _, rfl, _⟩ := h.cells (x := 0) (y := 0) (by omega) (by omega)
  have each : ∀ x, x < q → ∃ y : Nat × Nat, W.cell? ⟨b, x, none⟩ = some (.slice (some ⟨y.1, 0, none⟩) q y.2) := fun x hx => by
    obtain ⟨b', b2, c2, _, e, hc, _⟩ := h.cells (x := x) (y := 0) hx (by omega)
    obtain rfl : b = b' := by simpa using e
    exact ⟨(b2, c2), hc⟩
  obtain ⟨F, hF⟩ := Go.Deep.choose_lt each
  exact ⟨b, fun x => (F x).1, fun x => (F x).2, rfl, h, hF⟩
section
variable {w W W' : World} {b q c g : Nat} {F H : Nat → Nat}
theorem TF.cell (h : TF w W b q c F H) {x y : Nat} (hx : x < q) (hy : y < q) :
    W.cell? ⟨F x, y, none⟩ = some (curV W ⟨F x, y, none⟩) ∧ W.frozen? ⟨F x, y, none⟩ = false ∧ w.heap.size ≤ F x ∧ w.heap.size ≤ b ∧ b ≠ F x ∧ ∀ u : Int, TabS w (W.setCell ⟨F x, y, none⟩ (.int .i64 u)) (.slice (some ⟨b, 0, none⟩) q c) q := by
  obtain ⟨b', b2, c2, z, e, hc, _, _, hz, hf, _, h1, h2, h3, h4⟩ := h.tab.cells (x := x) (y := y) hx hy
  obtain rfl : b = b' := by simpa using e
  have e2 := (h.top x hx).symm.trans hc
  have e3 : F x = b2 := by simpa using (by injection e2 with e2; injection e2 with e2 _ _; injection e2 with e2; injection e2 : F x = b2)
  rw [e3]
  exact ⟨by simp [curV, hz], hf, h1, h2, h3, h4⟩
theorem TF.only (hO : Only g (g + 1) W W') (hg : g < w.heap.size) (h : TF w W b q c F H) : TF w W' b q c F H := by
  refine ⟨h.tab.only hO hg, fun x hx => ?_⟩
  obtain ⟨_, _, _, h2, _⟩ := h.cell hx hx
  have hlt := World.block_lt_of_cell? _ _ (h.top x hx)
  exact (World.cell?_of_block (w := W) (hO.block b hlt (.inr (by omega)))).trans (h.top x hx)
theorem TF.set {x y : Nat} (hx : x < q) (hy : y < q) (u : Int) (h : TF w W b q c F H) : TF w (W.setCell ⟨F x, y, none⟩ (.int .i64 u)) b q c F H := by
  obtain ⟨_, _, _, _, hne, ht⟩ := h.cell hx hy
  refine ⟨ht u, fun x' hx' => ?_⟩
  exact (World.cell?_of_block (w := W) (Below.heap_setCell _ _ _ _ (by show b ≠ F x; exact hne))).trans (h.top x' hx')
theorem TF.drew (h : TF w W b q c F H) : TF w W.drew b q c F H := ⟨h.tab, h.top⟩
theorem TF.all (h : TF w W b q c F H) : (∀ x, x < q → W.cell? ⟨b, x, none⟩ = some (.slice (some ⟨F x, 0, none⟩) q (H x))) ∧ (∀ x y, x < q → y < q → W.cell? ⟨F x, y, none⟩ = some (curV W ⟨F x, y, none⟩)) ∧ (∀ x y, x < q → y < q → W.frozen? ⟨F x, y, none⟩ = false) ∧ TF w W b q c F H :=
  ⟨h.top, fun x y hx hy => (h.cell hx hy).1, fun x y hx hy => (h.cell hx hy).2.1, h⟩
end
theorem ragged {w wi : World} {B g P n c q c' b b2 cv c2 : Nat} {A Av : Option Addr} (h : TabS w wi (.slice (some ⟨b, 0, none⟩) q c') q) (s : St w wi B g P A n c) (hq : 1 ≤ q) (hq9 : q ≤ 9)
    (hc : wi.cell? ⟨b, q - 1, none⟩ = some (.slice (some ⟨b2, 0, none⟩) q c2)) (hA : q = 1 ∨ Av = some ⟨b2, 1, none⟩) (hf : wi.frozen? ⟨b, q - 1, none⟩ = false) (hlo : w.heap.size ≤ b) :
    DrawAny w B g P A n c (.returned (.slice (some ⟨b, 0, none⟩) q c')) (wi.setCell ⟨b, q - 1, none⟩ (.slice Av (q - 1) cv)) := by
  obtain ⟨T, hM, hT⟩ := h.mat
  have hl := hT.len
  let T' : List (List Int) := (List.range q).map fun i => if i = q - 1 then (rw_ T i).drop 1 else rw_ T i
  have hrow : ∀ i, i < q → rw_ T' i = if i = q - 1 then (rw_ T i).drop 1 else rw_ T i := fun i hi => by simp [T', rw_, List.getD, hi]
  have hlen : T'.length = q := by simp [T']
  have hrl : ∀ i, i < q → (rw_ T' i).length ≤ 9 := fun i hi => by
    rw [hrow i hi]
    have := hT.row i hi
    split
    · simp; omega
    · omega
  refine ⟨_, c', T', P, by rw [hlen], fun i hi => ?_, ⟨by omega, fun i hi => by have := hrl i (by omega); omega⟩, s.set hlo, Nat.le_refl _, by omega⟩
  have hi' : i < q := by omega
  have hsz : (wi.setCell ⟨b, q - 1, none⟩ (.slice Av (q - 1) cv)).heap.size = wi.heap.size := by simp [World.setCell]
  rw [hsz]
  obtain ⟨bb, oo, Ai, ci, e0, hlo1, hhi1, hci, hRi⟩ := hM i (by omega)
  obtain ⟨rfl, rfl⟩ : b = bb ∧ 0 = oo := by simpa using e0
  rw [Nat.zero_add] at hci
  have hti := hT.row i hi'
  rw [hti] at hci
  by_cases ei : i = q - 1
  · subst ei
    have e1 := hc.symm.trans hci
    obtain rfl : some ⟨b2, 0, none⟩ = Ai := by injection e1 with e1; injection e1
    have hlr : (rw_ T' (q - 1)).length = q - 1 := by rw [hrow _ hi', if_pos rfl]; simp; omega
    refine ⟨b, 0, Av, cv, rfl, hlo1, hhi1, ?_, fun j hj => ?_⟩
    · rw [Nat.zero_add, hlr]; exact cell_set_same hc
    · rw [hlr] at hj
      have hA' : Av = some ⟨b2, 1, none⟩ := by rcases hA with h1 | h1; (· omega); exact h1
      obtain ⟨b', b3, c3, z, e3, hc3, _, _, hz, _, _, h6, _, h7, _⟩ := h.cells (x := q - 1) (y := j + 1) hi' (by omega)
      obtain rfl : b = b' := by simpa using e3
      have e4 := hc.symm.trans hc3
      obtain rfl : b2 = b3 := by injection e4 with e4; injection e4 with e4 _ _; injection e4 with e4; injection e4
      obtain ⟨b4, o4, e5, _, hhi5, hcell⟩ := hRi (j + 1) (by omega)
      obtain ⟨rfl, rfl⟩ : b2 = b4 ∧ 0 = o4 := by simpa using e5
      refine ⟨b2, 1, hA', h6, hhi5, ?_⟩
      rw [World.cell?_setCell_other _ _ _ _ (fun e => h7 (by injection e)), show 1 + j = 0 + (j + 1) from by omega, hcell, hrow _ hi', if_pos rfl]
      simp [el, List.getD]
  · refine ⟨b, 0, Ai, ci, rfl, hlo1, hhi1, ?_, fun j hj => ?_⟩
    · rw [World.cell?_setCell_other _ _ _ _ (fun e => ei (by injection e with _ h2 _; omega)), Nat.zero_add, hci, hrow i hi', if_neg ei, hti]
    · rw [hrow i hi', if_neg ei] at hj ⊢
      obtain ⟨b', b3, c3, z, e3, hc3, _, _, hz, _, _, h6, _, h7, _⟩ := h.cells (x := i) (y := j) hi' (by omega)
      obtain rfl : b = b' := by simpa using e3
      have e4 := hci.symm.trans hc3
      obtain ⟨b4, o4, e5, hlo5, hhi5, hcell⟩ := hRi j hj
      have e6 : Ai = some ⟨b3, 0, none⟩ := by injection e4 with e4; injection e4
      obtain ⟨rfl, rfl⟩ : b3 = b4 ∧ 0 = o4 := by simpa [e6] using e5
      refine ⟨b3, 0, e5, hlo5, hhi5, ?_⟩
      rw [World.cell?_setCell_other _ _ _ _ (fun e => h7 (by injection e))]; exact hcell

set_option maxRecDepth 100000 in
set_option maxHeartbeats 8000000 in
theorem band_any (B g P : Nat) (A : Option Addr) (n c : Nat) (m : Int) (w : World) (h : Rd w B g P A n c) (hP : P ≤ 1000) (hm0 : 1 ≤ m) (hm : m ≤ 1000) :
    Calls Try.prog 80 #[.pointer (some ⟨g, 0, none⟩), .int .i64 m] w (DrawAny w B g (P + 40) A n c) := by
  have hg := h.lt
  have b1 := ((Below.refl w.heap.size w).more (.cells #[.int .i64 0] 3)).more (.cells #[.slice (some ⟨w.heap.size, 0, none⟩) 1 1] 24)
  have s1 := (St.start h).below b1
  go_enter Try.func80, Try.ntmps80
  go_wp2_with fail
  refine (pick_st 9 s1 (by omega) (by omega) (by omega)).mono ?_
  rintro e w2 ⟨v, rfl, hv, s2, _⟩
  go_upto_block 0 with fail
  go_cut [5] (fun v5 wr => Bd w B g (P + 10) A n c v5 wr)
  case first =>
    clear s1 b1
    rcases (by omega : v = 0 ∨ v = 1 ∨ v = 2 ∨ v = 3 ∨ v = 4 ∨ v = 5 ∨ v = 6 ∨ v = 7 ∨ v = 8) with rfl | rfl | rfl | rfl | rfl | rfl | rfl | rfl | rfl
    · go_wp2_with fail
      refine (pick_st 4 s2 (by omega) (by omega) (by omega)).mono ?_
      rintro e w3 ⟨k3, rfl, hk3, s3, o3⟩
      go_wp2_with fail
      refine (left_st _ s3 (by omega) (by omega)).mono ?_
      rintro e w4 ⟨A4, c4, rfl, t4, s4, o4⟩
      go_wp2_with fail
      go_meet
      case rel => exact ⟨_, _, _, _, rfl, t4, by omega, by omega, s4, by omega⟩
    · go_wp2_with fail
      refine (pick_st 4 s2 (by omega) (by omega) (by omega)).mono ?_
      rintro e w3 ⟨k3, rfl, hk3, s3, o3⟩
      go_wp2_with fail
      refine (left_st _ s3 (by omega) (by omega)).mono ?_
      rintro e w4 ⟨A4, c4, rfl, t4, s4, o4⟩
      go_wp2_with fail
      refine (turn_st s4 t4 (by omega)).mono ?_
      rintro e w5 ⟨A5, c5, rfl, t5, s5, o5⟩
      go_wp2_with fail
      go_meet
      case rel => exact ⟨_, _, _, _, rfl, t5, by omega, by omega, s5, by omega⟩
    · go_wp2_with fail
      refine (pick_st 5 s2 (by omega) (by omega) (by omega)).mono ?_
      rintro e w3 ⟨k3, rfl, hk3, s3, o3⟩
      go_wp2_with fail
      refine (chain_st _ s3 (by omega) (by omega)).mono ?_
      rintro e w4 ⟨A4, c4, rfl, t4, s4, o4⟩
      go_wp2_with fail
      go_meet
      case rel => exact ⟨_, _, _, _, rfl, t4, by omega, by omega, s4, by omega⟩
    · go_wp2_with fail
      refine (pick_st 3 s2 (by omega) (by omega) (by omega)).mono ?_
      rintro e w3 ⟨k3, rfl, hk3, s3, o3⟩
      go_wp2_with fail
      refine (left_st _ s3 (by omega) (by omega)).mono ?_
      rintro e w4 ⟨A4, c4, rfl, t4, s4, o4⟩
      go_wp2_with fail
      refine (pick_st 3 s4 (by omega) (by omega) (by omega)).mono ?_
      rintro e w5 ⟨k5, rfl, hk5, s5, o5⟩
      replace t4 := t4.only o5 hg
      go_wp2_with fail
      refine (left_st _ s5 (by omega) (by omega)).mono ?_
      rintro e w6 ⟨A6, c6, rfl, t6, s6, o6⟩
      replace t4 := t4.only o6 hg
      go_wp2_with fail
      refine (turn_st s6 t6 (by omega)).mono ?_
      rintro e w7 ⟨A7, c7, rfl, t7, s7, o7⟩
      replace t4 := t4.only o7 hg
      go_wp2_with fail
      refine (both_st s7 t4 t7 (by omega) (by omega) (mul_9 (by omega) (by omega))).mono ?_
      rintro e w8 ⟨A8, c8, rfl, t8, s8, o8⟩
      go_wp2_with fail
      go_meet
      case rel => exact ⟨_, _, _, _, rfl, t8, mul_1 (by omega) (by omega), mul_9 (by omega) (by omega), s8, by omega⟩
    · go_wp2_with fail
      refine (chain_st _ s2 (by omega) (by omega)).mono ?_
      rintro e w3 ⟨A3, c3, rfl, t3, s3, o3⟩
      go_wp2_with fail
      refine (pick_st 3 s3 (by omega) (by omega) (by omega)).mono ?_
      rintro e w4 ⟨k4, rfl, hk4, s4, o4⟩
      replace t3 := t3.only o4 hg
      go_wp2_with fail
      refine (chain_st _ s4 (by omega) (by omega)).mono ?_
      rintro e w5 ⟨A5, c5, rfl, t5, s5, o5⟩
      replace t3 := t3.only o5 hg
      go_wp2_with fail
      refine (both_st s5 t3 t5 (by omega) (by omega) (mul_9 (by omega) (by omega))).mono ?_
      rintro e w6 ⟨A6, c6, rfl, t6, s6, o6⟩
      go_wp2_with fail
      go_meet
      case rel => exact ⟨_, _, _, _, rfl, t6, mul_1 (by omega) (by omega), mul_9 (by omega) (by omega), s6, by omega⟩
    · go_wp2_with fail
      refine (signs_st s2).mono ?_
      rintro e w3 ⟨A3, c3, rfl, t3, s3, o3⟩
      go_wp2_with fail
      go_meet
      case rel => exact ⟨_, _, _, _, rfl, t3, by omega, by omega, s3, by omega⟩
    · go_wp2_with fail
      refine (signs_st s2).mono ?_
      rintro e w3 ⟨A3, c3, rfl, t3, s3, o3⟩
      go_wp2_with fail
      refine (signs_st s3).mono ?_
      rintro e w4 ⟨A4, c4, rfl, t4, s4, o4⟩
      replace t3 := t3.only o4 hg
      go_wp2_with fail
      refine (both_st s4 t3 t4 (by omega) (by omega) (by omega)).mono ?_
      rintro e w5 ⟨A5, c5, rfl, t5, s5, o5⟩
      go_wp2_with fail
      go_meet
      case rel => exact ⟨_, _, _, _, rfl, t5, by omega, by omega, s5, by omega⟩
    · go_wp2_with fail
      refine (signs_st s2).mono ?_
      rintro e w3 ⟨A3, c3, rfl, t3, s3, o3⟩
      go_wp2_with fail
      refine (pick_st 3 s3 (by omega) (by omega) (by omega)).mono ?_
      rintro e w4 ⟨k4, rfl, hk4, s4, o4⟩
      replace t3 := t3.only o4 hg
      go_wp2_with fail
      refine (left_st _ s4 (by omega) (by omega)).mono ?_
      rintro e w5 ⟨A5, c5, rfl, t5, s5, o5⟩
      replace t3 := t3.only o5 hg
      go_wp2_with fail
      refine (turn_st s5 t5 (by omega)).mono ?_
      rintro e w6 ⟨A6, c6, rfl, t6, s6, o6⟩
      replace t3 := t3.only o6 hg
      go_wp2_with fail
      refine (both_st s6 t3 t6 (by omega) (by omega) (mul_9 (by omega) (by omega))).mono ?_
      rintro e w7 ⟨A7, c7, rfl, t7, s7, o7⟩
      go_wp2_with fail
      go_meet
      case rel => exact ⟨_, _, _, _, rfl, t7, mul_1 (by omega) (by omega), mul_9 (by omega) (by omega), s7, by omega⟩
    · go_wp2_with fail
      go_meet
      case rel => exact ⟨6, _, _, _, rfl, band_lit w w2 s2.only.size, by omega, by omega, s2.below (((((((Below.refl w2.heap.size w2).more _).more _).more _).more _).more _).more _ |>.more _), by omega⟩
  case rest =>
    obtain ⟨q, P', A', c', rfl, t, q1, q9, sc, hP'⟩ := hcut
    clear s1 s2 b1 hv
    go_upto_region 20 with fail
    go_cut [80] (fun s80 wr => ∃ (b : Bool) (P2 : Nat), s80 = .bool b ∧ Hid (b = true → q ≤ 7) ∧ TabS w wr (.slice A' q c') q ∧ St w wr B g P2 A n c ∧ P2 ≤ P + 11)
    case first =>
      by_cases q8 : q < 8
      · have q8i : (q : Int) < 8 := by omega
        go_wp2_with fail
        refine (pick_st 3 sc (by omega) (by omega) (by omega)).mono ?_
        rintro e w3 ⟨k3, rfl, hk3, s3, o3⟩
        go_wp2_with fail
        go_meet
        case rel => exact ⟨_, _, rfl, (fun _ => by omega), t.only o3 hg, s3, by omega⟩
      · have q8i : ¬ (q : Int) < 8 := by omega
        go_wp2_with fail
        go_meet
        case rel => exact ⟨false, _, rfl, (fun h => by cases h), t, sc, by omega⟩
    case rest =>
      obtain ⟨b, P2, rfl, hb, t2, s2, hP2⟩ := hcut
      clear t sc
      go_upto_if 80 with fail
      go_cut [5] (fun v5 wr => Bd w B g (P + 13) A n c v5 wr)
      case first =>
        cases b
        · go_wp2_with fail
          go_meet
          case rel => exact ⟨q, _, _, _, rfl, t2, q1, q9, s2, by omega⟩
        · have hq7 := hb.out rfl
          go_wp2_with fail
          refine (pick_st 2 s2 (by omega) (by omega) (by omega)).mono ?_
          rintro e w3 ⟨k3, rfl, hk3, s3, o3⟩
          replace t2 := t2.only o3 hg
          go_wp2_with fail
          refine (more_st _ s3 t2 (by omega)).mono ?_
          rintro e w4 ⟨A4, c4, rfl, t4, s4, o4⟩
          go_wp2_with fail
          go_meet
          case rel => exact ⟨_, _, _, _, rfl, t4, by omega, by omega, s4, by omega⟩
      case rest =>
        obtain ⟨q3, P3, A3, c3, rfl, t3, q31, q39, s3, hP3⟩ := hcut
        clear t2 s2 hb
        go_wp2_with fail
        refine (pick_st 3 s3 (by omega) (by omega) (by omega)).mono ?_
        rintro e w4 ⟨k4, rfl, hk4, s4, o4⟩
        replace t3 := t3.only o4 hg
        clear s3
        go_upto_if 88 with fail
        go_cut [5] (fun v5 wr => Bd w B g (P + 15) A n c v5 wr)
        case first =>
          by_cases hk : k4 = 0
          · subst hk
            go_wp2_with fail
            refine (turn_st s4 t3 q39).mono ?_
            rintro e w5 ⟨A5, c5, rfl, t5, s5, o5⟩
            go_wp2_with fail
            go_meet
            case rel => exact ⟨_, _, _, _, rfl, t5, by omega, by omega, s5, by omega⟩
          · have hkb : ((k4 : Int) == 0) = false := beq_eq_false_iff_ne.2 (by omega)
            go_wp2_with fail
            go_meet
            case rel => exact ⟨_, _, _, _, rfl, t3, by omega, by omega, s4, by omega⟩
        case rest =>
          obtain ⟨q5, P5, A5, c5, rfl, t5, q51, q59, s5, hP5⟩ := hcut
          clear t3 s4 hk4
          go_wp2_with fail
          refine (odd_any B g P5 A n c m _ s5.rd (by omega) hm0 hm).mono ?_
          rintro e w6 ⟨⟨b6, rfl⟩, r6, o6, _⟩
          have s6 : St w w6 B g (P5 + 1) A n c := ⟨r6, s5.only.trans o6, hg⟩
          have t6 := t5.only o6 hg
          clear t5 s5 r6
          cases b6
          · go_wp2
            go_ret
            exact (Bd.any t6 q59 s6).mono (by omega)
          · go_wp2_with fail
            refine (pick_st 4 s6 (by omega) (by omega) (by omega)).mono ?_
            rintro e w7 ⟨k7, rfl, hk7, s7, o7⟩
            have t7 := t6.only o7 hg
            clear t6 s6
            rcases (by omega : k7 = 0 ∨ k7 = 1 ∨ k7 = 2 ∨ k7 = 3) with rfl | rfl | rfl | rfl
            · go_wp2
              go_ret
              exact ⟨_, _, [], _, rfl, Mat.nil _ _ _ _, ⟨by simp, fun _ hi => absurd hi (Nat.not_lt_zero _)⟩, s7.below ((Below.refl _ _).more _), by omega, by simp⟩
            · obtain ⟨b, b2, c2, z, rfl, hx, _, _, hy, hf, _, hlo, hlo2, hne, hset⟩ := t7.cells (x := 0) (y := 0) (by omega) (by omega)
              have q5i : (0 : Int) < (q5 : Int) := by omega
              have q5n : 0 < q5 := by omega
              go_wp2
              go_ret
              exact (Bd.any (hset _) q59 (s7.set hlo)).mono (by omega)
            · obtain ⟨b, F, H, rfl, hTF⟩ := TF.of t7 q51
              have hTF0 := hTF.drew
              have s7d : St w w7.drew B g (P5 + 1 + 1) A n c := ⟨s7.rd.drewN 1, s7.only.drewN 1, s7.lt⟩
              have q5z : (1 : Int) ≤ (q5 : Int) := by omega
              have q5t : (q5 : Int) ≤ 1000 := by omega
              clear t7
              go_wp2_with fail
              go_region_held3 (fun W => (∀ x, x < q5 → W.cell? ⟨b, x, none⟩ = some (.slice (some ⟨F x, 0, none⟩) q5 (H x))) ∧ (∀ x y, x < q5 → y < q5 → W.cell? ⟨F x, y, none⟩ = some (curV W ⟨F x, y, none⟩)) ∧ (∀ x y, x < q5 → y < q5 → W.frozen? ⟨F x, y, none⟩ = false) ∧ TF w W b q5 c5 F H)
                (first
                  | exact hTF0.all
                  | (go_split_ands
                     exact TF.all (TF.only (by assumption) hg (by assumption)))
                  | (go_split_ands
                     exact TF.all (TF.set (by assumption) (by assumption) _ (by assumption))))
                (first
                  | (go_at_call 72
                     first
                       | refine (pick_st _ skk ?_ ?_ ?_).mono ?_
                       | refine (pick_st _ s7d ?_ ?_ ?_).mono ?_
                     · omega
                     · assumption
                     · assumption
                     rintro e wk ⟨kk, rfl, hkk, skk, okk⟩
                     have hkn : kk < q5 := by omega
                     have hk0 : (0 : Int) ≤ (kk : Int) := by omega))
              rename_i hHeld
              obtain ⟨_, _, _, hTFf⟩ := hHeld
              go_wp2
              go_ret
              refine (Bd.any hTFf.tab q59 (skk.set ?_)).mono (by omega)
              exact (hTF.cell (by assumption) (by assumption)).2.2.1
            · obtain ⟨b, b2, c2, z, rfl, hx, hc1, hc2, hy, hf, hfb, hlo, hlo2, hne, hset⟩ := t7.cells (x := q5 - 1) (y := 0) (by omega) (by omega)
              have q5i : (0 : Int) < (q5 : Int) := by omega
              have q5n : 0 < q5 := by omega
              have e1 : ((q5 : Int) - 1).toNat = q5 - 1 := by omega
              go_wp2
              all_goals go_ret
              · exact (ragged t7 s7 q51 q59 hx (.inl (by omega)) hfb hlo2).mono (by omega)
              · exact (ragged t7 s7 q51 q59 hx (.inr rfl) hfb hlo2).mono (by omega)
end Go.Proofs.Ytnchipcpeeofaaa

namespace Go.Proofs.Ytnchipcpeeofaaa
open Go.RowKit
set_option linter.unusedVariables false


theorem DrawAny.up {w wi w' : World} {B g P Q n c : Nat} {A : Option Addr} {e : Ending} (s : St w wi B g P A n c) (h : DrawAny wi B g Q A n c e w') : DrawAny w B g Q A n c e w' := by
  obtain ⟨A', c', T, P', h1, h2, h3, h4, h5⟩ := h
  exact ⟨A', c', T, P', h1, h2.mono s.only.size (Nat.le_refl _), h3, ⟨h4.rd, s.only.trans h4.only, s.lt⟩, h5⟩
theorem DrawSq.any {w w' : World} {B g P n c : Nat} {A : Option Addr} {e : Ending} (hg : g < w.heap.size) (h : DrawSq w B g P A n c e w') : DrawAny w B g (P + 40) A n c e w' := by
  obtain ⟨v, T, m, P', rfl, hP, hR, hO, hA, hT, h1, h9⟩ := h
  have hS : TabS w w' v m := ⟨T, hA, hT⟩
  obtain ⟨A', c', rfl⟩ := hS.val
  exact (Bd.any hS h9 ⟨hR, hO, hg⟩).mono hP

/-- A new reader. -/
def Opened (w : World) (e : Ending) (w' : World) : Prop := ∃ A n c, e = .returned (.pointer (some ⟨w.heap.size, 0, none⟩)) ∧ Below w.heap.size w w' ∧ St w' w' w.heap.size w.heap.size 0 A n c
theorem opened {w : World} {A : Option Addr} {n c : Nat} (h : Bytes w w.heap.size A n) (hn : n ≤ 2000) : Opened w (.returned (.pointer (some ⟨w.heap.size, 0, none⟩))) (w.alloc (.cells #[.slice A n c, .int .i64 0] 81)) := by
  have b := (Below.refl w.heap.size w).more (.cells #[.slice A n c, .int .i64 0] 81)
  refine ⟨A, n, c, rfl, b, St.start ⟨heap_alloc_new w _, Nat.le_refl _, hn, fun j hj => ?_⟩⟩
  obtain ⟨bb, o, z, e, hlt, hc, hz⟩ := h j hj
  exact ⟨bb, o, z, e, hlt, (b.cell (p := ⟨bb, o + j, none⟩) hlt).trans hc, hz⟩
set_option maxHeartbeats 1000000 in
theorem open_any (A : Option Addr) (n c : Nat) (w : World) (h : Bytes w w.heap.size A n) (hc : n ≤ c) (hc2 : c ≤ 9223372036854775807) :
    Calls Try.prog 50 #[.slice A n c] w (Opened w) := by
  by_cases hn : 2000 < n
  · have hni : (2000 : Int) < (n : Int) := by omega
    have h2 : Bytes w w.heap.size A 2000 := fun j hj => h j (by omega)
    go_enter Try.func50, Try.ntmps50
    go_wp2
    all_goals go_ret
    all_goals exact opened h2 (by omega)
  · have hni : ¬ (2000 : Int) < (n : Int) := by omega
    go_enter Try.func50, Try.ntmps50
    go_wp2
    go_ret
    exact opened h (by omega)

/-- A table of one thing, written out. -/
theorem lit1 {W : World} {k : Nat} (z : Int) (hk : W.heap.size = k) : Mat ((W.alloc (.cells #[.int .i64 z] 3)).alloc (.cells #[.slice (some ⟨k, 0, none⟩) 1 1] 24)) k (k + 2) (some ⟨k + 1, 0, none⟩) [[z]] := fun i hi => by
  subst hk
  have e1 := heap_alloc_new W (.cells #[.int .i64 z] 3)
  have e2 := heap_alloc_new (W.alloc (.cells #[.int .i64 z] 3)) (.cells #[.slice (some ⟨W.heap.size, 0, none⟩) 1 1] 24)
  have e3 := (Below.heap_alloc (W.alloc (.cells #[.int .i64 z] 3)) (.cells #[.slice (some ⟨W.heap.size, 0, none⟩) 1 1] 24) W.heap.size (by simp)).trans e1
  have hs : (W.alloc (.cells #[.int .i64 z] 3)).heap.size = W.heap.size + 1 := by simp
  rw [hs] at e2
  have h0 : i = 0 := by simpa using hi
  subst h0
  refine ⟨W.heap.size + 1, 0, some ⟨W.heap.size, 0, none⟩, 1, rfl, by omega, by omega, by rw [cell_of_row _ _ _ _ _ _ e2]; rfl, fun j hj => ?_⟩
  have h0 : j = 0 := by simpa [rw_] using hj
  subst h0
  exact ⟨W.heap.size, 0, rfl, by omega, by omega, by rw [cell_of_row _ _ _ _ _ _ e3]; rfl⟩
theorem small1 (z : Int) : Small [[z]] := ⟨by simp, fun i hi => by
  have h0 : i = 0 := by simpa using hi
  subst h0
  simp [rw_]⟩
set_option maxHeartbeats 1000000 in
theorem alive_any (w : World) : Calls Try.prog 17 #[] w fun e w' => e = .returned (.bool true) ∧ Below w.heap.size w w' := by
  go_enter Try.func17, Try.ntmps17
  go_wp2_with fail
  refine (iTableOk_any _ 1 _ _ [[0]] _ (lit1 0 rfl) (small1 0)).mono ?_
  rintro e w1 ⟨rfl, rfl⟩
  rw [show okT [[0]] = true from by decide]
  go_wp2_with fail
  refine (iTableOk_any _ 1 _ _ [[1]] _ (lit1 1 (by simp)) (small1 1)).mono ?_
  rintro e w1 ⟨rfl, rfl⟩
  rw [show okT [[1]] = false from by decide]
  go_wp2
  go_ret
  exact ⟨rfl, ((((Below.refl w.heap.size w).more _).more _).more _).more _⟩
end Go.Proofs.Ytnchipcpeeofaaa

namespace Go.Proofs.Ytnchipcpeeofaaa
open Go.RowKit
set_option linter.unusedVariables false


/-- A drawn table and a drawn set: new, small. -/
def DrawnS (w : World) (e : Ending) (w' : World) : Prop := ∃ A c T, ∃ z : Int, e = .returned (.tuple #[.slice A T.length c, .int .i64 z]) ∧ Below w.heap.size w w' ∧ Mat w' w.heap.size w'.heap.size A T ∧ Small T
end Go.Proofs.Ytnchipcpeeofaaa
