
/- Rectangles, their rows, columns, sides and names: the program's. -/
import Derived.Test.YtcegjiiondmchacRectP
import Derived.Test.YtcegjiiondmchacIband
import Derived.Test.YtcegjiiondmchacIrectOk
import Derived.Test.YtcegjiiondmchacPar
import Derived.Test.YtcegjiiondmchacPureX
import Derived.Test.YtcegjiiondmchacORow
import Derived.Deep.RegionHeld3
namespace Go.Proofs.Ytcegjiiondmchac
open Go.RowKit
set_option linter.unusedVariables false


set_option maxHeartbeats 2000000 in
theorem inOneRow_any (A : Option Addr) (c lo hi : Nat) (T : List (List Int)) (a b : Nat) (w : World) (h : Mat w lo hi A T) (hh : hi ≤ w.heap.size) (k : IsT T) (ha : a < T.length) (hb : b < T.length) :
    Calls Try.prog 63 #[.agg #[.slice A T.length c], .int .i64 a, .int .i64 b] w fun e w' => e = .returned (.bool (mul T (a : Int) (b : Int) == (b : Int) && mul T (b : Int) (a : Int) == (a : Int))) ∧ Below w.heap.size w w' := by
  have b0 := (Below.refl w.heap.size w).alloc (Nat.le_refl _) (.cells #[.slice A T.length c] 51)
  have z0 : hi ≤ (w.alloc (.cells #[.slice A T.length c] 51)).heap.size := by simp; omega
  obtain ⟨m0, m1⟩ := k.mul (x := (a : Nat)) (y := (b : Nat)) (by omega) (by omega) (by omega) (by omega)
  cases e1 : (mul T (a : Int) (b : Int) == (b : Int))
  · go_enter Try.func63, Try.ntmps63
    go_wp2_with fail
    refine (product_any _ _ lo hi T (a : Int) (b : Int) _ (h.below b0 hh) z0 k (by omega) (by omega) (by omega) (by omega)).mono ?_
    rintro e w1 ⟨rfl, b1⟩
    have bb1 := b0.trans (b1.mono (by simp))
    go_wp2
    go_ret
    exact ⟨rfl, bb1⟩
  · go_enter Try.func63, Try.ntmps63
    go_wp2_with fail
    refine (product_any _ _ lo hi T (a : Int) (b : Int) _ (h.below b0 hh) z0 k (by omega) (by omega) (by omega) (by omega)).mono ?_
    rintro e w1 ⟨rfl, b1⟩
    have bb1 := b0.trans (b1.mono (by simp))
    have z1 := bb1.size
    have hcell : w1.cell? ⟨w.heap.size, 0, none⟩ = some (.slice A T.length c) := (b1.cell (p := ⟨w.heap.size, 0, none⟩) (by simp)).trans (by simp)
    go_wp2_with fail
    refine (product_any _ _ lo hi T (b : Int) (a : Int) _ (h.below bb1 hh) (by omega) k (by omega) (by omega) (by omega) (by omega)).mono ?_
    rintro e w2 ⟨rfl, b2⟩
    go_wp2
    go_ret
    exact ⟨rfl, bb1.trans (b2.mono z1)⟩

set_option maxHeartbeats 2000000 in
theorem inOneColumn_any (A : Option Addr) (c lo hi : Nat) (T : List (List Int)) (a b : Nat) (w : World) (h : Mat w lo hi A T) (hh : hi ≤ w.heap.size) (k : IsT T) (ha : a < T.length) (hb : b < T.length) :
    Calls Try.prog 64 #[.agg #[.slice A T.length c], .int .i64 a, .int .i64 b] w fun e w' => e = .returned (.bool (mul T (a : Int) (b : Int) == (a : Int) && mul T (b : Int) (a : Int) == (b : Int))) ∧ Below w.heap.size w w' := by
  have b0 := (Below.refl w.heap.size w).alloc (Nat.le_refl _) (.cells #[.slice A T.length c] 51)
  have z0 : hi ≤ (w.alloc (.cells #[.slice A T.length c] 51)).heap.size := by simp; omega
  obtain ⟨m0, m1⟩ := k.mul (x := (a : Nat)) (y := (b : Nat)) (by omega) (by omega) (by omega) (by omega)
  cases e1 : (mul T (a : Int) (b : Int) == (a : Int))
  · go_enter Try.func64, Try.ntmps64
    go_wp2_with fail
    refine (product_any _ _ lo hi T (a : Int) (b : Int) _ (h.below b0 hh) z0 k (by omega) (by omega) (by omega) (by omega)).mono ?_
    rintro e w1 ⟨rfl, b1⟩
    have bb1 := b0.trans (b1.mono (by simp))
    go_wp2
    go_ret
    exact ⟨rfl, bb1⟩
  · go_enter Try.func64, Try.ntmps64
    go_wp2_with fail
    refine (product_any _ _ lo hi T (a : Int) (b : Int) _ (h.below b0 hh) z0 k (by omega) (by omega) (by omega) (by omega)).mono ?_
    rintro e w1 ⟨rfl, b1⟩
    have bb1 := b0.trans (b1.mono (by simp))
    have z1 := bb1.size
    have hcell : w1.cell? ⟨w.heap.size, 0, none⟩ = some (.slice A T.length c) := (b1.cell (p := ⟨w.heap.size, 0, none⟩) (by simp)).trans (by simp)
    go_wp2_with fail
    refine (product_any _ _ lo hi T (b : Int) (a : Int) _ (h.below bb1 hh) (by omega) k (by omega) (by omega) (by omega) (by omega)).mono ?_
    rintro e w2 ⟨rfl, b2⟩
    go_wp2
    go_ret
    exact ⟨rfl, bb1.trans (b2.mono z1)⟩

theorem callRow (args : Array Value) (w : World) : (callFunc 63 args).run Try.prog w = .ok (.enter 63 args) w := by kernel_rfl
theorem callCol (args : Array Value) (w : World) : (callFunc 64 args).run Try.prog w = .ok (.enter 64 args) w := by kernel_rfl


theorem rowcol {T : List (List Int)} (h : rectT T = true) {a b : Nat} (ha : a < T.length) (hb : b < T.length) : (mul T (a : Int) (b : Int) == (a : Int) && mul T (b : Int) (a : Int) == (b : Int)) = inRow (turnT T) b a := by
  rw [Bool.eq_iff_iff, inCol_iff (rect_ok h) hb ha, Bool.and_eq_true, beq_iff_eq, beq_iff_eq]
theorem colsL_nums {T : List (List Int)} (h : rectT T = true) : colsL T = nums (inRow (turnT T)) T.length := by
  unfold colsL
  rw [rowsL_ok (rect_turn h), len_turnT (rect_ok h)]
  rfl

set_option maxHeartbeats 2000000 in
theorem iRowsOf_any (A : Option Addr) (c lo hi : Nat) (T : List (List Int)) (w : World) (h : Mat w lo hi A T) (hh : hi ≤ w.heap.size) (hS : Small T) :
    Calls Try.prog 29 #[.slice A T.length c] w (OwnRow w (rowsL T)) := by
  cases hr : rectT T
  · have HE := hide (rowsL_not hr)
    go_enter Try.func29, Try.ntmps29
    go_wp2_with fail
    refine (iRectangularOk_any A c lo hi T w h hh hS).mono ?_
    rw [hr]
    rintro e w1 ⟨rfl, b1⟩
    go_wp2
    go_ret
    rw [HE.out]
    exact ⟨none, 0, rfl, b1, ORow.nil _ _ _ _, Nat.le_refl _, by omega⟩
  · have k := rect_tab hr
    have k9 := k.hi
    have HE := hide (show rowsL T = nums (inRow T) T.length from rowsL_ok hr)
    have HO := hide hr
    go_enter Try.func29, Try.ntmps29
    go_wp2_with fail
    refine (iRectangularOk_any A c lo hi T w h hh hS).mono ?_
    rw [hr]
    rintro e w1 ⟨rfl, b1⟩
    have hmf : ∀ (fn : Fn) (first cap : Array Value) (w : World), (Instr.makeFunc fn first cap).run Try.prog w = .ok (.func fn first cap) w := fun _ _ _ _ => rfl
    go_wp2_with fail
    refine (classNumbers_any _ _ T.length (inRow T) w1 k9 (rect_eqvR HO.out) callRow (fun wr a b ha hb hB => ?_)).mono ?_
    · have bw := b1.trans (hB.mono b1.size)
      refine (inOneRow_any A c lo hi T a b wr (h.below bw hh) (Nat.le_trans hh bw.size) k ha hb).mono ?_
      rintro e w2 ⟨rfl, b2⟩
      exact ⟨ret_bool (by unfold inRow; exact Bool.and_comm _ _), b2⟩
    · rintro e w2 ⟨A2, c2, rfl, b2, o2, l2, m2⟩
      go_wp2
      go_ret
      rw [HE.out]
      exact ⟨A2, c2, rfl, b1.trans (b2.mono b1.size), o2.mono b1.size (Nat.le_refl _), l2, m2⟩

set_option maxHeartbeats 2000000 in
theorem iColumnsOf_any (A : Option Addr) (c lo hi : Nat) (T : List (List Int)) (w : World) (h : Mat w lo hi A T) (hh : hi ≤ w.heap.size) (hS : Small T) :
    Calls Try.prog 33 #[.slice A T.length c] w (OwnRow w (colsL T)) := by
  cases hr : rectT T
  · have HE := hide (colsL_not hr)
    go_enter Try.func33, Try.ntmps33
    go_wp2_with fail
    refine (iRectangularOk_any A c lo hi T w h hh hS).mono ?_
    rw [hr]
    rintro e w1 ⟨rfl, b1⟩
    go_wp2
    go_ret
    rw [HE.out]
    exact ⟨none, 0, rfl, b1, ORow.nil _ _ _ _, Nat.le_refl _, by omega⟩
  · have k := rect_tab hr
    have k9 := k.hi
    have HE := hide (show colsL T = nums (inRow (turnT T)) T.length from colsL_nums hr)
    have HO := hide hr
    go_enter Try.func33, Try.ntmps33
    go_wp2_with fail
    refine (iRectangularOk_any A c lo hi T w h hh hS).mono ?_
    rw [hr]
    rintro e w1 ⟨rfl, b1⟩
    have hmf : ∀ (fn : Fn) (first cap : Array Value) (w : World), (Instr.makeFunc fn first cap).run Try.prog w = .ok (.func fn first cap) w := fun _ _ _ _ => rfl
    go_wp2_with fail
    refine (classNumbers_any _ _ T.length (inRow (turnT T)) w1 k9 (rect_eqvC HO.out) callCol (fun wr a b ha hb hB => ?_)).mono ?_
    · have bw := b1.trans (hB.mono b1.size)
      refine (inOneColumn_any A c lo hi T a b wr (h.below bw hh) (Nat.le_trans hh bw.size) k ha hb).mono ?_
      rintro e w2 ⟨rfl, b2⟩
      exact ⟨ret_bool (rowcol HO.out ha hb), b2⟩
    · rintro e w2 ⟨A2, c2, rfl, b2, o2, l2, m2⟩
      go_wp2
      go_ret
      rw [HE.out]
      exact ⟨A2, c2, rfl, b1.trans (b2.mono b1.size), o2.mono b1.size (Nat.le_refl _), l2, m2⟩

theorem Row.head0 {w : World} {lo hi : Nat} {A : Option Addr} {xs : List Int} (h : Row w lo hi A xs) (h0 : 0 < xs.length) : ∃ b o, A = some ⟨b, o, none⟩ ∧ ∀ j, j < xs.length → w.cell? ⟨b, o + j, none⟩ = some (.int .i64 (el xs j)) := by
  obtain ⟨b, o, rfl, _, _, _⟩ := h 0 h0
  refine ⟨b, o, rfl, fun j hj => ?_⟩
  obtain ⟨b', o', e, _, _, hc⟩ := h j hj
  cases e
  exact hc
set_option maxRecDepth 20000 in
set_option maxHeartbeats 2000000 in
theorem maxOf_any (A : Option Addr) (c lo hi n : Nat) (r : Nat → Nat → Bool) (w : World) (h : Row w lo hi A (nums r n)) (h1 : 1 ≤ n) (h9 : n ≤ 9) (E : Eqv r n) :
    Calls Try.prog 54 #[.slice A n c] w fun e w' => e = .returned (.int .i64 ((ct r n : Nat) - 1 : Int)) ∧ w' = w := by
  obtain ⟨b, o, rfl, hc⟩ := h.head0 (by rw [len_nums]; omega)
  rw [len_nums] at hc
  have hc0 := hc 0 (by omega)
  rw [el_nums (by omega), Nat.add_zero] at hc0
  have hn0 : num r 0 = 0 := ct_zero_num E (by omega)
  rw [hn0] at hc0
  have HC := hide hc
  clear hc hn0
  go_enter Try.func54, Try.ntmps54
  go_wp2
  go_loopg [4, 3] n (fun m i x wr => ∃ k : Nat, 1 ≤ k ∧ k ≤ n ∧ Hid (m = n - k + 1) ∧ i = .int .i64 k ∧ x = .int .i64 ((ct r k : Nat) - 1 : Int) ∧ wr = w)
  case atStart => exact ⟨1, by omega, h1, (show n = n - 1 + 1 from by omega), rfl, congrArg (Value.int .i64) (show ((0 : Nat) : Int) = ((ct r 1 : Nat) : Int) - 1 from by have := ct_leP r 1; have := ct_pos (r := r) (k := 1) (by omega); omega), rfl⟩
  case round =>
    obtain ⟨k, hk1, hk, hm, rfl, rfl, rfl⟩ := hrel
    by_cases hlt : k < n
    · have hck := HC.out k hlt
      rw [el_nums hlt] at hck
      have hnx := E.next hlt
      have hcp := ct_pos (r := r) (k := k) (by omega)
      have hcl := ct_leP r k
      by_cases hg : ((ct r k : Nat) : Int) - 1 < ((num r k : Nat) : Int)
      · have HX : Hid (((ct r (k + 1) : Nat) : Int) - 1 = ((num r k : Nat) : Int)) := by show _ = _; omega
        clear hnx hcl
        go_wp2
        go_roundg (n - (k + 1) + 1)
        case measure => go_light; have := hm.out; omega
        case rel => go_light; exact ⟨k + 1, by omega, by omega, rfl, by go_num, by rw [HX.out], rfl⟩
      · have HX : Hid (((ct r (k + 1) : Nat) : Int) = ((ct r k : Nat) : Int)) := by show _ = _; omega
        clear hnx hcl
        go_wp2
        go_roundg (n - (k + 1) + 1)
        case measure => go_light; have := hm.out; omega
        case rel => go_light; exact ⟨k + 1, by omega, by omega, rfl, by go_num, by rw [HX.out], rfl⟩
    · obtain rfl : k = n := by omega
      go_wp2
      go_ret
      exact ⟨rfl, rfl⟩

theorem sidesR_not {T : List (List Int)} (h : rectT T = false) : sidesR T = -1 := by unfold sidesR; rw [if_neg (by rw [h]; exact Bool.false_ne_true)]
theorem sidesC_not {T : List (List Int)} (h : rectT T = false) : sidesC T = -1 := by unfold sidesC; rw [if_neg (by rw [h]; exact Bool.false_ne_true)]
theorem sidesR_ok {T : List (List Int)} (h : rectT T = true) : sidesR T = ((nR T : Nat) : Int) := by unfold sidesR; rw [if_pos h]
theorem sidesC_ok {T : List (List Int)} (h : rectT T = true) : sidesC T = ((nC T : Nat) : Int) := by unfold sidesC; rw [if_pos h]
set_option maxHeartbeats 2000000 in
theorem iSidesOf_any (A : Option Addr) (c lo hi : Nat) (T : List (List Int)) (w : World) (h : Mat w lo hi A T) (hh : hi ≤ w.heap.size) (hS : Small T) :
    Calls Try.prog 20 #[.slice A T.length c] w fun e w' => e = .returned (.tuple #[.int .i64 (sidesR T), .int .i64 (sidesC T), .bool (rectT T)]) ∧ Below w.heap.size w w' := by
  cases hr : rectT T
  · have HR := hide (sidesR_not hr)
    have HC := hide (sidesC_not hr)
    go_enter Try.func20, Try.ntmps20
    go_wp2_with fail
    refine (iRectangularOk_any A c lo hi T w h hh hS).mono ?_
    rw [hr]
    rintro e w1 ⟨rfl, b1⟩
    go_wp2
    refine bodyPost_ret (results_tmp3 rfl _ _ _) rfl ?_
    rw [HR.out, HC.out]
    exact ⟨rfl, b1⟩
  · have k := rect_tab hr
    have k9 := k.hi
    have k1 := k.lo
    have HR := hide (show sidesR T = ((ct (inRow T) T.length : Nat) : Int) from sidesR_ok hr)
    have HC := hide (show sidesC T = ((ct (inRow (turnT T)) T.length : Nat) : Int) from sidesC_ok hr)
    have HE := hide (show rowsL T = nums (inRow T) T.length from rowsL_ok hr)
    have HE2 := hide (colsL_nums hr)
    have HO := hide hr
    have c1 := ct_leP (inRow T) T.length
    have c2 := ct_leP (inRow (turnT T)) T.length
    have c3 := ct_pos (r := inRow T) (k := T.length) (by omega)
    have c4 := ct_pos (r := inRow (turnT T)) (k := T.length) (by omega)
    go_enter Try.func20, Try.ntmps20
    go_wp2_with fail
    refine (iRectangularOk_any A c lo hi T w h hh hS).mono ?_
    rw [hr]
    rintro e w1 ⟨rfl, b1⟩
    go_wp2_with fail
    refine (iRowsOf_any A c lo hi T w1 (h.below b1 hh) (Nat.le_trans hh b1.size) hS).mono ?_
    rw [HE.out]
    rintro e w2 ⟨A2, d2, rfl, b2, o2, _, _⟩
    rw [len_nums]
    have B2 := b1.trans (b2.mono b1.size)
    go_wp2_with fail
    refine (maxOf_any A2 d2 _ _ T.length (inRow T) w2 o2.row k1 k9 (rect_eqvR HO.out)).mono ?_
    rintro e w_ ⟨rfl, rfl⟩
    go_wp2_with fail
    refine (iColumnsOf_any A c lo hi T _ (h.below B2 hh) (Nat.le_trans hh B2.size) hS).mono ?_
    rw [HE2.out]
    rintro e w3 ⟨A3, d3, rfl, b3, o3, _, _⟩
    rw [len_nums]
    have B3 := B2.trans (b3.mono B2.size)
    go_wp2_with fail
    refine (maxOf_any A3 d3 _ _ T.length (inRow (turnT T)) w3 o3.row k1 k9 (rect_eqvC HO.out)).mono ?_
    rintro e w_ ⟨rfl, rfl⟩
    go_wp2
    refine bodyPost_ret (results_tmp3 rfl _ _ _) rfl ?_
    rw [HR.out, HC.out]
    exact ⟨by simp, B3⟩

/-- The names under way. -/
def NamF (w : World) (g n k : Nat) (f : Nat → Int) : Prop := w.rowIs g 3 n (fun i => .int .i64 (if i < k then f i else 0))
theorem NamF.next {w : World} {g n k : Nat} {f : Nat → Int} (h : NamF w g n k f) : NamF (w.setCell ⟨g, k, none⟩ (.int .i64 (f k))) g n (k + 1) f := (World.rowIs.set h k _).congr fun i _ => by
  by_cases e : i = k
  · subst e; simp
  · rw [if_neg e]
    by_cases hl : i < k
    · rw [if_pos hl, if_pos (by omega)]
    · rw [if_neg hl, if_neg (by omega)]
theorem NamF.done {w : World} {g n : Nat} {f : Nat → Int} (h : NamF w g n n f) {lo hi : Nat} (h1 : lo ≤ g) (h2 : g < hi) : ORow w lo hi (some ⟨g, 0, none⟩) ((List.range n).map f) :=
  .inr ⟨g, rfl, h1, h2, Cells.of_rowIs h (by simp) (fun j hj => by
    have hj' : j < n := by simpa using hj
    simp [hj', el, List.getD])⟩
/-- One name is being stored: it is, or is not yet. -/
def NS (w : World) (g n a : Nat) (f : Nat → Int) (W : World) : Prop := Below w.heap.size w W ∧ (NamF W g n a f ∨ NamF W g n (a + 1) f)
section
variable {w w0 : World} {g n a : Nat} {f : Nat → Int}
theorem NS.now (h : NS w g n a f w0) (ha : a < n) : w0.cell? ⟨g, a, none⟩ = some (curV w0 ⟨g, a, none⟩) := by
  rcases h.2 with h | h
  all_goals have := World.rowIs.cell h ha; simp [curV, this]
theorem NS.frz (h : NS w g n a f w0) : w0.frozen? ⟨g, a, none⟩ = false := by
  rcases h.2 with h | h
  all_goals exact World.rowIs.frozen h a
theorem NS.drew (h : NS w g n a f w0) : NS w g n a f w0.drew := ⟨h.1.drew, h.2.imp (·.drew) (·.drew)⟩
theorem NS.store (h : NS w g n a f w0) (hg : w.heap.size ≤ g) {v : Int} (hv : v = f a) : NS w g n a f (w0.setCell ⟨g, a, none⟩ (.int .i64 v)) := by
  subst hv
  refine ⟨h.1.setCell hg _, .inr ?_⟩
  rcases h.2 with h | h
  · exact h.next
  · refine (World.rowIs.set h a _).congr fun i _ => ?_
    by_cases e : i = a
    · subst e; simp
    · rw [if_neg e]
theorem NS.done (h : NS w g n a f w0) (ha : a < n) (hv : w0.cell? ⟨g, a, none⟩ = some (.int .i64 (f a))) : NamF w0 g n (a + 1) f := by
  rcases h.2 with h | h
  · have := (World.rowIs.cell h ha).symm.trans hv
    have e : f a = 0 := by simpa using this.symm
    refine World.rowIs.congr h fun i _ => ?_
    by_cases hc : i = a
    · subst hc; simp [e]
    · by_cases hlt : i < a
      · rw [if_pos hlt, if_pos (by omega)]
      · rw [if_neg hlt, if_neg (by omega)]
  · exact h
theorem NS.cell {p : Addr} {v : Value} (h : NS w g n a f w0) (hc : w.cell? p = some v) (hp : p.block < w.heap.size) : w0.cell? p = some v := (h.1.cell hp).trans hc
end
theorem wrap_pair {x y z : Nat} (hx : x ≤ 9) (hy : y ≤ 9) (hz : z ≤ 9) : IntKind.i64.wrap ((x : Int) * (y : Int)) = (x : Int) * (y : Int) ∧ IntKind.i64.wrap ((x : Int) * (y : Int) + (z : Int)) = ((x * y + z : Nat) : Int) := by
  obtain ⟨m0, m1⟩ := mulB (by omega : (0 : Int) ≤ (x : Int)) (by omega) (by omega : (0 : Int) ≤ (y : Int)) (by omega)
  refine ⟨IntWalk.i64_in _ ⟨by omega, by omega⟩, ?_⟩
  rw [IntWalk.i64_in _ ⟨by omega, by omega⟩]
  simp
set_option maxRecDepth 20000 in
set_option maxHeartbeats 4000000 in
theorem iNamedAs_any (A : Option Addr) (c lo hi : Nat) (T : List (List Int)) (w : World) (h : Mat w lo hi A T) (hh : hi ≤ w.heap.size) (hS : Small T) :
    Calls Try.prog 38 #[.slice A T.length c] w (OwnRow w (namesL T)) := by
  cases hr : rectT T
  · have HE := hide (namesL_not hr)
    go_enter Try.func38, Try.ntmps38
    go_wp2_with fail
    refine (iSidesOf_any A c lo hi T w h hh hS).mono ?_
    rw [hr]
    rintro e w1 ⟨rfl, b1⟩
    go_wp2
    go_ret
    rw [HE.out]
    exact ⟨none, 0, rfl, b1, ORow.nil _ _ _ _, Nat.le_refl _, by omega⟩
  · have k := rect_tab hr
    have k9 := k.hi
    have k1 := k.lo
    have HO := hide hr
    have HN := hide (namesL_ok hr)
    have HE := hide (show rowsL T = nums (inRow T) T.length from rowsL_ok hr)
    have HE2 := hide (colsL_nums hr)
    have HSC := hide (sidesC_ok hr)
    go_enter Try.func38, Try.ntmps38
    go_wp2_with fail
    refine (iSidesOf_any A c lo hi T w h hh hS).mono ?_
    rw [hr, HSC.out]
    rintro e w1 ⟨rfl, b1⟩
    go_wp2_with fail
    refine (iRowsOf_any A c lo hi T w1 (h.below b1 hh) (Nat.le_trans hh b1.size) hS).mono ?_
    rw [HE.out]
    rintro e w2 ⟨A2, d2, rfl, b2, o2, _, _⟩
    rw [len_nums]
    have B2 := b1.trans (b2.mono b1.size)
    go_wp2_with fail
    refine (iColumnsOf_any A c lo hi T _ (h.below B2 hh) (Nat.le_trans hh B2.size) hS).mono ?_
    rw [HE2.out]
    rintro e w3 ⟨A3, d3, rfl, b3, o3, _, _⟩
    rw [len_nums]
    have B3 := B2.trans (b3.mono B2.size)
    have o2' := o2.row.below b3 (Nat.le_refl _)
    have s1 := b1.size
    have s2 := b2.size
    have s3 := b3.size
    obtain ⟨r1, r2, rfl, hR⟩ := o2'.head0 (by rw [len_nums]; omega)
    obtain ⟨q1, q2, rfl, hQ⟩ := o3.row.head0 (by rw [len_nums]; omega)
    rw [len_nums] at hR hQ
    have lR := World.block_lt_of_cell? _ _ (hR 0 (by omega))
    have lQ := World.block_lt_of_cell? _ _ (hQ 0 (by omega))
    have HR := hide hR
    have HQ := hide hQ
    clear hR hQ o2 o3 o2'
    have hmk := run_make_row' (P := Try.prog) 37 3 (.int .i64 0) 8 Try.underlying37 info_int rfl .i64 .i64 T.length (by omega) (by omega)
    go_wp2
    clear hmk
    go_loopg [27] T.length (fun m i wr => ∃ a : Nat, a ≤ T.length ∧ Hid (m = T.length - a) ∧ i = .int .i64 a ∧ NamF wr w3.heap.size T.length a (fun a => ((num (inRow T) a * nC T + num (inRow (turnT T)) a : Nat) : Int)) ∧ Below w3.heap.size w3 wr)
    case atStart => exact ⟨0, Nat.zero_le _, rfl, rfl, (World.rowIs_made w3 _ T.length 3).congr (fun j _ => by simp), (Below.refl _ _).alloc (Nat.le_refl _) _⟩
    case round =>
      obtain ⟨a, ha, hm, rfl, hF, hB⟩ := hrel
      by_cases hlt : a < T.length
      · have n1 : num (inRow T) a ≤ 9 := by have := (rect_eqvR HO.out).num_lt hlt (show a < a + 1 by omega); have := ct_leP (inRow T) (a + 1); omega
        have n2 : num (inRow (turnT T)) a ≤ 9 := by have := (rect_eqvC HO.out).num_lt hlt (show a < a + 1 by omega); have := ct_leP (inRow (turnT T)) (a + 1); omega
        have n3 : nC T ≤ 9 := by have := ct_leP (inRow (turnT T)) T.length; unfold nC; omega
        have hR := HR.out a hlt
        have hQ := HQ.out a hlt
        rw [el_nums hlt] at hR hQ
        have hR3 := hR
        have NS0 : NS w3 w3.heap.size T.length a (fun a => ((num (inRow T) a * nC T + num (inRow (turnT T)) a : Nat) : Int)) wr.drew := ⟨hB.drew, .inl hF⟩
        obtain ⟨W1, W2⟩ := wrap_pair n1 n3 n2
        have KR := hide hR
        have KQ := hide hQ
        clear hR hR3 hQ
        go_wp2
        go_region_held3 (fun W => W.cell? ⟨r1, r2 + a, none⟩ = some (.int .i64 (num (inRow T) a : Nat)) ∧ W.cell? ⟨q1, q2 + a, none⟩ = some (.int .i64 (num (inRow (turnT T)) a : Nat)) ∧ W.cell? ⟨w3.heap.size, a, none⟩ = some (curV W ⟨w3.heap.size, a, none⟩) ∧ W.frozen? ⟨w3.heap.size, a, none⟩ = false ∧ NS w3 w3.heap.size T.length a (fun a => ((num (inRow T) a * nC T + num (inRow (turnT T)) a : Nat) : Int)) W)
          (first
            | exact ⟨NS0.cell KR.out lR, NS0.cell KQ.out lQ, NS0.now hlt, NS0.frz, NS0⟩
            | (go_split_ands
               exact ⟨NS.cell (NS.store (by assumption) (Nat.le_refl _) rfl) KR.out lR, NS.cell (NS.store (by assumption) (Nat.le_refl _) rfl) KQ.out lQ, NS.now (NS.store (by assumption) (Nat.le_refl _) rfl) hlt, NS.frz (NS.store (by assumption) (Nat.le_refl _) rfl), NS.store (by assumption) (Nat.le_refl _) rfl⟩))
          (fail)
        rename_i hHeld
        obtain ⟨_, _, hc, _, hfs⟩ := hHeld
        have hd := NS.done hfs hlt (hc.trans (congrArg some (set_now rfl hc)))
        have hb := hfs.1
        clear hc hfs NS0 hF
        go_wp2
        go_roundg (T.length - (a + 1))
        case measure => go_light; have := hm.out; omega
        case rel => go_light; exact ⟨a + 1, by omega, rfl, by go_num, hd, hb⟩
      · obtain rfl : T.length = a := by omega
        go_wp2
        go_ret
        rw [HN.out]
        have e : (Ending.returned (.slice (some ⟨w3.heap.size, 0, none⟩) T.length T.length)) = .returned (.slice (some ⟨w3.heap.size, 0, none⟩) ((List.range T.length).map fun a => ((num (inRow T) a * nC T + num (inRow (turnT T)) a : Nat) : Int)).length T.length) := by simp
        exact ⟨_, T.length, e, B3.trans (hB.mono B3.size), hF.done B3.size (World.rowIs.lt hF), by simp, by omega⟩

set_option maxHeartbeats 4000000 in
theorem rect1_any (C p q g : Nat) (w : World) (hc : w.cell? ⟨g, 0, none⟩ = some (.int .i64 (C : Nat))) (h1 : 1 ≤ C) (h9 : C ≤ 9) (hp : p < 9) (hq : q < 9) :
    Calls Try.prog 51 #[.int .i64 p, .int .i64 q, .pointer (some ⟨g, 0, none⟩)] w fun e w' => e = .returned (.int .i64 (rectM C p q)) ∧ Below w.heap.size w w' := by
  have lg := World.block_lt_of_cell? _ _ hc
  have d0 : 0 ≤ (q : Int) % (C : Int) := Int.emod_nonneg _ (by omega)
  have d1 : (q : Int) % (C : Int) < (C : Int) := Int.emod_lt_of_pos _ (by omega)
  have a0 : 0 ≤ (p : Int) / (C : Int) := Int.ediv_nonneg (by omega) (by omega)
  have a1 : (p : Int) / (C : Int) ≤ (p : Int) := Int.ediv_le_self _ (by omega)
  obtain ⟨y0, y1⟩ := mulB a0 (by omega) (by omega : (0 : Int) ≤ (C : Int)) (by omega)
  obtain ⟨qp1, qp2, qp3, qp4⟩ := wrapQ (p : Int) (C : Int) (by omega) (by omega) (by omega)
  obtain ⟨qq1, qq2, qq3, qq4⟩ := wrapQ (q : Int) (C : Int) (by omega) (by omega) (by omega)
  have hC0 : ¬ C = 0 := by omega
  have HW := hide (show IntKind.i64.wrap (IntKind.i64.wrap ((p : Int) / (C : Int) * (C : Int)) + (q : Int) % (C : Int)) = rectM C p q from wrap2 y0 y1 d0 (by omega))
  have MK := hide (fun (W : World) (hW' : Below w.heap.size w W) => (⟨(hW'.cell (p := ⟨g, 0, none⟩) lg).trans hc, hW'⟩ : W.cell? ⟨g, 0, none⟩ = some (.int .i64 (C : Nat)) ∧ Below w.heap.size w W))
  go_enter Try.func51, Try.ntmps51
  go_wp2_with fail
  go_region_held3 (fun W => W.cell? ⟨g, 0, none⟩ = some (.int .i64 (C : Nat)) ∧ Below w.heap.size w W)
    (first
      | exact MK.out _ ((Below.refl _ _).drew))
    (fail)
  rename_i hHeld
  obtain ⟨_, hB⟩ := hHeld
  go_wp2
  go_ret
  exact ⟨ret_int HW.out, hB⟩
theorem rect2_nilI {w w' : World} {r c : Int} (h : canR r c = false) (hb : Below w.heap.size w w') : OwnTab2 w (rectOf r c) (canR r c) (.returned (.tuple #[.slice none 0 0, .bool false])) w' := by
  rw [rectOf_not h, h]; exact ⟨none, 0, rfl, hb, OMat.nil _ _ _ _⟩
set_option maxHeartbeats 4000000 in
theorem iRectangleOf_any (r c : Int) (w : World) : Calls Try.prog 16 #[.int .i64 r, .int .i64 c] w (OwnTab2 w (rectOf r c) (canR r c)) := by
  have b0 := (Below.refl w.heap.size w).alloc (Nat.le_refl _) (.cells #[.int .i64 c] 3)
  by_cases h1 : r < 1
  · have HF := hide (rect2_nilI (w := w) (r := r) (c := c) (by unfold canR; simp; omega) b0)
    go_enter Try.func16, Try.ntmps16
    go_wp2
    go_ret2
    exact HF.out
  by_cases h2 : c < 1
  · have HF := hide (rect2_nilI (w := w) (r := r) (c := c) (by unfold canR; simp; omega) b0)
    go_enter Try.func16, Try.ntmps16
    go_wp2
    go_ret2
    exact HF.out
  have hc0 : ¬ c = 0 := by omega
  obtain ⟨q1, q2, q3, q4⟩ := wrapQ 9 c (by omega) (by omega) (by omega)
  have hq := Int.le_ediv_iff_mul_le (a := r) (b := 9) (c := c) (by omega)
  by_cases h3 : r > 9 / c
  · have hr9 : ¬ r * c ≤ 9 := fun e => by have := hq.2 e; omega
    have HF := hide (rect2_nilI (w := w) (r := r) (c := c) (by unfold canR; simp; omega) b0)
    clear hq hr9
    go_enter Try.func16, Try.ntmps16
    go_wp2
    go_ret2
    exact HF.out
  · have hrc : r * c ≤ 9 := hq.1 (by omega)
    have hr9 : r ≤ 9 := by have := Int.mul_le_mul_of_nonneg_left (show (1 : Int) ≤ c by omega) (show (0 : Int) ≤ r by omega); omega
    have hc9 : c ≤ 9 := by have := Int.mul_le_mul_of_nonneg_right (show (1 : Int) ≤ r by omega) (show (0 : Int) ≤ c by omega); omega
    have hcan : canR r c = true := by unfold canR; simp; omega
    clear hq
    obtain ⟨R, C, rfl, rfl, r1, r9, c1, c9, rc9⟩ := canR_iff.1 hcan
    have HE := hide (rectOf_ok hcan)
    have HC := hide hcan
    obtain ⟨m0, m1⟩ := mulB (by omega : (0 : Int) ≤ (R : Int)) (by omega) (by omega : (0 : Int) ≤ (C : Int)) (by omega)
    have hw : IntKind.i64.wrap ((R : Int) * (C : Int)) = ((R * C : Nat) : Int) := by rw [IntWalk.i64_in _ ⟨by omega, by omega⟩]; simp
    have hC0 : ¬ C = 0 := by omega
    have hcf : ∀ (args : Array Value) (w : World), (callFunc 51 args).run Try.prog w = .ok (.enter 51 args) w := fun args w => by kernel_rfl
    have HCF := hide hcf
    clear hcf hcan hr9 hc9
    have es : (w.alloc (.cells #[.int .i64 (C : Nat)] 3)).heap.size = w.heap.size + 1 := by simp
    have ec : (w.alloc (.cells #[.int .i64 (C : Nat)] 3)).cell? ⟨w.heap.size, 0, none⟩ = some (.int .i64 (C : Nat)) := by simp
    have ES := hide es
    have EC := hide ec
    clear es ec
    have hmf : ∀ (fn : Fn) (first cap : Array Value) (w : World), (Instr.makeFunc fn first cap).run Try.prog w = .ok (.func fn first cap) w := fun _ _ _ _ => rfl
    go_enter Try.func16, Try.ntmps16
    go_wp2_with fail
    refine (filledRows_any 51 #[.pointer (some ⟨w.heap.size, 0, none⟩)] (R * C) (rectM C) _ rc9 HCF.out (fun wr a b ha hb hbl => ?_)).mono ?_
    · rw [ES.out] at hbl
      exact rect1_any C a b w.heap.size wr ((hbl.cell (p := ⟨w.heap.size, 0, none⟩) (by show w.heap.size < _; omega)).trans EC.out) c1 c9 (by omega) (by omega)
    · rw [ES.out]
      rintro e w1 ⟨rfl, b1, o1⟩
      have Bf := b0.trans (b1.mono (by omega))
      have Of := o1.mono (lo' := w.heap.size) (hi' := w1.heap.size) (by omega) (Nat.le_refl _)
      go_wp2
      go_ret2
      rw [HE.out, HC.out]
      exact ⟨some ⟨w.heap.size + 1, 0, none⟩, R * C, ret2_slice (by rw [len_tabOf]), Bf, Of⟩
end Go.Proofs.Ytcegjiiondmchac
