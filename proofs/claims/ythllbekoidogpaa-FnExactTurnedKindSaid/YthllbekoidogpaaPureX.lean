/-  -/
import Derived.Test.YthllbekoidogpaaGrp
import Derived.Test.YthllbekoidogpaaSgrp
import Derived.Test.YthllbekoidogpaaFill
import Derived.Deep.RegionHeld3
namespace Go.Proofs.Ythllbekoidogpaa
open Go.RowKit
set_option linter.unusedVariables false


/-- A call that returns a new table. -/
def NewTab (w : World) (T : List (List Int)) (e : Ending) (w' : World) : Prop := ∃ A c, e = .returned (.slice A T.length c) ∧ Below w.heap.size w w' ∧ Mat w' w.heap.size w'.heap.size A T
/-- A call that returns a new table, each row in a block of its own. -/
def OwnTab (w : World) (T : List (List Int)) (e : Ending) (w' : World) : Prop := ∃ A c, e = .returned (.slice A T.length c) ∧ Below w.heap.size w w' ∧ OMat w' w.heap.size w'.heap.size A T

theorem ret_slice {A : Option Addr} {n m c : Nat} (h : n = m) : Ending.returned (.slice A n c) = .returned (.slice A m c) := by rw [h]
noncomputable def turnT (T : List (List Int)) : List (List Int) := if okT T = true then tabOf T.length fun a b => mul T b a else []
theorem turnT_ok {T : List (List Int)} (h : okT T = true) : turnT T = tabOf T.length fun a b => mul T b a := by unfold turnT; rw [if_pos h]
theorem turnT_not {T : List (List Int)} (h : okT T = false) : turnT T = [] := by unfold turnT; rw [if_neg (by rw [h]; exact Bool.false_ne_true)]

set_option maxHeartbeats 1000000 in
theorem turned1_any (A : Option Addr) (c lo hi B : Nat) (T : List (List Int)) (x y : Nat) (w : World) (h : Mat w lo hi A T) (hh : hi ≤ w.heap.size) (k : IsT T) (hB : w.cell? ⟨B, 0, none⟩ = some (.slice A T.length c)) (hx : x < T.length) (hy : y < T.length) :
    Calls Try.prog 61 #[.int .i64 x, .int .i64 y, .pointer (some ⟨B, 0, none⟩)] w fun e w' => e = .returned (.int .i64 (mul T y x)) ∧ Below w.heap.size w w' := by
  go_enter Try.func61, Try.ntmps61
  go_wp2_with (go_at_call 62; refine (product_any _ _ _ _ _ _ _ _ h hh k (by omega) (by omega) (by omega) (by omega)).mono ?_; rintro e w1 ⟨rfl, b1⟩)
  go_ret
  exact ⟨rfl, b1⟩

set_option maxHeartbeats 1000000 in
theorem iTurnedOf_any (A : Option Addr) (c lo hi : Nat) (T : List (List Int)) (w : World) (h : Mat w lo hi A T) (hh : hi ≤ w.heap.size) (hS : Small T) :
    Calls Try.prog 24 #[.slice A T.length c] w (OwnTab w (turnT T)) := by
  cases hk : okT T
  · have HT := hide (turnT_not hk)
    go_enter Try.func24, Try.ntmps24
    go_wp2_with (go_at_call 33; refine (iTableOk_any _ _ _ _ _ _ h hS).mono ?_; rintro e w' ⟨rfl, rfl⟩; rw [hk])
    go_ret
    refine ⟨none, 0, by rw [HT.out]; rfl, Below.refl _ _, ?_⟩
    rw [HT.out]; exact OMat.nil _ _ _ _
  · have k := okT_iff.1 hk
    have k9 := k.hi
    have HT := hide (turnT_ok hk)
    have hcf : ∀ (args : Array Value) (w : World), (callFunc 61 args).run Try.prog w = .ok (.enter 61 args) w := fun args w => by kernel_rfl
    have HC := hide hcf
    clear hcf
    have b0 := (Below.refl w.heap.size w).alloc (Nat.le_refl _) (.cells #[.slice A T.length c] 61)
    have hcell : ∀ wr, Below (w.alloc (.cells #[.slice A T.length c] 61)).heap.size (w.alloc (.cells #[.slice A T.length c] 61)) wr → wr.cell? ⟨w.heap.size, 0, none⟩ = some (.slice A T.length c) := fun wr hb => by
      rw [hb.cell (p := ⟨w.heap.size, 0, none⟩) (by simp)]; simp
    go_enter Try.func24, Try.ntmps24
    go_wp2_with fail
    refine (iTableOk_any _ _ _ _ _ _ h hS).mono ?_
    rintro e w' ⟨rfl, rfl⟩
    rw [hk]
    go_wp2_with fail
    refine (filledRows_any 61 #[.pointer (some ⟨w.heap.size, 0, none⟩)] T.length (fun a b => mul T b a) _ k9 HC.out (fun wr a b ha hb hbl => ?_)).mono ?_
    · have hs : w.heap.size ≤ wr.heap.size := Nat.le_trans (by simp) hbl.size
      exact turned1_any A c lo hi w.heap.size T a b wr (h.below (b0.trans (hbl.mono (by simp))) hh) (Nat.le_trans hh hs) k (hcell wr hbl) ha hb
    · rintro e w1 ⟨rfl, b1, o1⟩
      go_wp2
      go_ret
      have es : (w.alloc (Obj.cells #[Value.slice A T.length c] 61)).heap.size = w.heap.size + 1 := by simp
      rw [es] at o1
      refine ⟨some ⟨w.heap.size + 1, 0, none⟩, T.length, ret_slice (by rw [HT.out, len_tabOf]), b0.trans (b1.mono (by simp)), ?_⟩
      rw [HT.out]
      exact o1.mono (by omega) (Nat.le_refl _)

/-- The specification's table under way: k rows are there. -/
noncomputable def colT (T : List (List Int)) (x k : Nat) : List Int := (List.range k).map fun j => mul T (j : Nat) (x : Nat)
noncomputable def colsT (T : List (List Int)) (k : Nat) : List (List Int) := (List.range k).map fun x => colT T x T.length
theorem colT_succ (T : List (List Int)) (x k : Nat) : colT T x k ++ [mul T (k : Nat) (x : Nat)] = colT T x (k + 1) := by simp [colT, List.range_succ]
theorem colsT_succ (T : List (List Int)) (k : Nat) : colsT T k ++ [colT T k T.length] = colsT T (k + 1) := by simp [colsT, List.range_succ]
theorem len_colT (T : List (List Int)) (x k : Nat) : (colT T x k).length = k := by simp [colT]
theorem len_colsT (T : List (List Int)) (k : Nat) : (colsT T k).length = k := by simp [colsT]

end Go.Proofs.Ythllbekoidogpaa

namespace Go.Proofs.Ythllbekoidogpaa
set_option linter.unusedVariables false
theorem mul_turnT {T : List (List Int)} (h : okT T = true) {x y : Int} (hx0 : 0 ≤ x) (hx1 : x < T.length) (hy0 : 0 ≤ y) (hy1 : y < T.length) : mul (turnT T) x y = mul T y x := by
  rw [turnT_ok h]
  unfold mul
  rw [el_tabOf (by omega) (by omega), Int.toNat_of_nonneg hx0, Int.toNat_of_nonneg hy0]
theorem len_turnT {T : List (List Int)} (h : okT T = true) : (turnT T).length = T.length := by rw [turnT_ok h, len_tabOf]
theorem isT_turnT {T : List (List Int)} (h : okT T = true) : IsT (turnT T) := by
  have k := okT_iff.1 h
  refine ⟨by rw [len_turnT h]; exact k.lo, by rw [len_turnT h]; exact k.hi, fun i hi => ?_, fun i j hi hj => ?_⟩
  · rw [len_turnT h] at hi ⊢
    rw [turnT_ok h, rowlen_tabOf hi]
  · rw [len_turnT h] at hi hj ⊢
    rw [turnT_ok h, el_tabOf hi hj]
    exact k.mul (by omega) (by omega) (by omega) (by omega)
theorem turnT_turnT {T : List (List Int)} (h : okT T = true) : turnT (turnT T) = T := by
  have k := okT_iff.1 h
  have h2 : okT (turnT T) = true := okT_iff.2 (isT_turnT h)
  rw [turnT_ok h2, len_turnT h]
  apply List.ext_getElem
  · rw [len_tabOf]
  · intro i hi1 hi2
    rw [len_tabOf] at hi1
    rw [← rw_eq (by rw [len_tabOf]; exact hi1), ← rw_eq hi2, row_tabOf hi1]
    have hl := k.len i hi2
    apply List.ext_getElem
    · simp [hl]
    · intro j hj1 hj2
      have hj : j < T.length := by simpa using hj1
      rw [← el_eq hj2]
      simp only [List.getElem_map, List.getElem_range]
      rw [mul_turnT h (by omega) (by omega) (by omega) (by omega)]
      rfl
theorem small_turnT {T : List (List Int)} : Small (turnT T) := by
  cases hk : okT T
  · rw [turnT_not hk]; exact ⟨by simp, fun i hi => absurd hi (Nat.not_lt_zero _)⟩
  · exact (isT_turnT hk).small
theorem turnT_nil {T : List (List Int)} : (turnT T).length = 0 ↔ okT T = false := by
  cases h : okT T with
  | false => rw [turnT_not h]; simp
  | true => rw [len_turnT h]; have := (okT_iff.1 h).lo; exact ⟨fun hh => by omega, fun hh => by cases hh⟩
theorem isG_turnT {T : List (List Int)} (h : IsG T) : IsG (turnT T) := by
  have ho := okT_iff.2 h.tab
  refine ⟨isT_turnT ho, fun x y z hx0 hx1 hy0 hy1 hz0 hz1 => ?_⟩
  rw [len_turnT ho] at hx1 hy1 hz1
  obtain ⟨a0, a1⟩ := h.tab.mul hz0 hz1 hy0 hy1
  obtain ⟨b0, b1⟩ := h.tab.mul hy0 hy1 hx0 hx1
  rw [mul_turnT ho hy0 hy1 hz0 hz1, mul_turnT ho hx0 hx1 hy0 hy1, mul_turnT ho hx0 hx1 a0 a1, mul_turnT ho b0 b1 hz0 hz1]
  exact (h.grp z y x hz0 hz1 hy0 hy1 hx0 hx1).symm
theorem grpT_turnT {T : List (List Int)} (h : okT T = true) : grpT (turnT T) = grpT T := by
  cases e : grpT T with
  | true => exact grpT_iff.2 (isG_turnT (grpT_iff.1 e))
  | false =>
    cases e2 : grpT (turnT T) with
    | false => rfl
    | true =>
      have := isG_turnT (grpT_iff.1 e2)
      rw [turnT_turnT h, ← grpT_iff, e] at this
      cases this
end Go.Proofs.Ythllbekoidogpaa

namespace Go.Proofs.Ythllbekoidogpaa
open Go.RowKit
set_option linter.unusedVariables false


theorem wrapQ (x y : Int) (hx : 0 ≤ x) (hx2 : x ≤ 1000000) (hy : 1 ≤ y) : IntKind.i64.wrap (x / y) = x / y ∧ IntKind.i64.wrap (x.tdiv y) = x / y ∧ x.tdiv y = x / y ∧ x.tmod y = x % y := by
  have hd : x.tdiv y = x / y := Int.tdiv_eq_ediv_of_nonneg hx
  have h1 : 0 ≤ x / y := Int.ediv_nonneg hx (by omega)
  have h2 : x / y ≤ x := Int.ediv_le_self _ hx
  have e : IntKind.i64.wrap (x / y) = x / y := IntWalk.i64_in _ ⟨by omega, by omega⟩
  exact ⟨e, by rw [hd]; exact e, hd, Int.tmod_eq_emod_of_nonneg hx⟩
theorem divIn {p n m : Nat} (h1 : 1 ≤ m) (hp : p < n * m) : 0 ≤ (p : Int) / (m : Int) ∧ (p : Int) / (m : Int) < n := by
  rw [div_int]; exact ⟨Int.natCast_nonneg _, Int.ofNat_lt.2 (Nat.div_lt_of_lt_mul (by rw [Nat.mul_comm]; exact hp))⟩
theorem mulB {a b : Int} (a0 : 0 ≤ a) (a9 : a ≤ 9) (b0 : 0 ≤ b) (b9 : b ≤ 9) : 0 ≤ a * b ∧ a * b ≤ 81 :=
  ⟨Int.mul_nonneg a0 b0, Int.le_trans (Int.mul_le_mul a9 b9 b0 (by omega)) (by omega)⟩

/-- The product of two pairs, each counted as one number. -/
def pairM (T U : List (List Int)) (x y : Nat) : Int := mul T ((x : Int) / (U.length : Int)) ((y : Int) / (U.length : Int)) * (U.length : Int) + mul U ((x : Int) % (U.length : Int)) ((y : Int) % (U.length : Int))

end Go.Proofs.Ythllbekoidogpaa

namespace Go.Proofs.Ythllbekoidogpaa
open Go.RowKit
set_option linter.unusedVariables false


theorem ret2_slice {A : Option Addr} {n m c : Nat} {b : Bool} (h : n = m) : Ending.returned (.tuple #[.slice A n c, .bool b]) = .returned (.tuple #[.slice A m c, .bool b]) := by rw [h]
/-- Whether two tables have a table of pairs; and that table. -/
def canB (T U : List (List Int)) : Bool := okT T && okT U && decide (T.length * U.length ≤ 9)
def timesT (T U : List (List Int)) : List (List Int) := if canB T U = true then tabOf (T.length * U.length) (pairM T U) else []
theorem timesT_ok {T U : List (List Int)} (h : canB T U = true) : timesT T U = tabOf (T.length * U.length) (pairM T U) := by unfold timesT; rw [if_pos h]
theorem timesT_not {T U : List (List Int)} (h : canB T U = false) : timesT T U = [] := by unfold timesT; rw [if_neg (by rw [h]; exact Bool.false_ne_true)]
theorem canB_iff {T U : List (List Int)} : canB T U = true ↔ IsT T ∧ IsT U ∧ T.length * U.length ≤ 9 := by
  unfold canB
  rw [Bool.and_eq_true, Bool.and_eq_true, decide_eq_true_iff, okT_iff, okT_iff, and_assoc]
theorem small_timesT {T U : List (List Int)} : Small (timesT T U) := by
  cases h : canB T U
  · rw [timesT_not h]; exact ⟨by simp, fun i hi => absurd hi (Nat.not_lt_zero _)⟩
  · have := (canB_iff.1 h).2.2
    rw [timesT_ok h]
    refine ⟨by rw [len_tabOf]; omega, fun i hi => ?_⟩
    rw [len_tabOf] at hi
    rw [rowlen_tabOf hi]; omega
/-- A call that returns a new table and a truth. -/
def OwnTab2 (w : World) (T : List (List Int)) (b : Bool) (e : Ending) (w' : World) : Prop := ∃ A c, e = .returned (.tuple #[.slice A T.length c, .bool b]) ∧ Below w.heap.size w w' ∧ OMat w' w.heap.size w'.heap.size A T
def NewTab2 (w : World) (T : List (List Int)) (b : Bool) (e : Ending) (w' : World) : Prop := ∃ A c, e = .returned (.tuple #[.slice A T.length c, .bool b]) ∧ Below w.heap.size w w' ∧ Mat w' w.heap.size w'.heap.size A T
theorem own2_nil {w : World} {T U : List (List Int)} (h : canB T U = false) : OwnTab2 w (timesT T U) (canB T U) (.returned (.tuple #[.slice none 0 0, .bool false])) w := by
  rw [timesT_not h, h]; exact ⟨none, 0, rfl, Below.refl _ _, OMat.nil _ _ _ _⟩
theorem new2_nil {w : World} {T U : List (List Int)} (h : canB T U = false) : NewTab2 w (timesT T U) (canB T U) (.returned (.tuple #[.slice (some ⟨w.heap.size, 0, none⟩) 0 0, .bool false])) (w.alloc (.cells #[] 58)) := by
  rw [timesT_not h, h]; exact ⟨_, 0, rfl, (Below.refl w.heap.size w).alloc (Nat.le_refl _) _, Mat.nil _ _ _ _⟩

theorem three_c0 (w : World) (u v z : Value) (t1 t2 t3 : TypeId) : (((w.alloc (.cells #[u] t1)).alloc (.cells #[v] t2)).alloc (.cells #[z] t3)).cell? ⟨w.heap.size, 0, none⟩ = some u := by
  have e := heap_alloc_new w (.cells #[u] t1)
  have e1 := (Below.heap_alloc (w.alloc (.cells #[u] t1)) (.cells #[v] t2) w.heap.size (by simp)).trans e
  have e2 := (Below.heap_alloc ((w.alloc (.cells #[u] t1)).alloc (.cells #[v] t2)) (.cells #[z] t3) w.heap.size (by simp; omega)).trans e1
  rw [cell_of_row _ _ _ _ _ _ e2]; rfl
theorem three_c1 (w : World) (u v z : Value) (t1 t2 t3 : TypeId) : (((w.alloc (.cells #[u] t1)).alloc (.cells #[v] t2)).alloc (.cells #[z] t3)).cell? ⟨w.heap.size + 1, 0, none⟩ = some v := by
  have e := heap_alloc_new (w.alloc (.cells #[u] t1)) (.cells #[v] t2)
  have hs : (w.alloc (.cells #[u] t1)).heap.size = w.heap.size + 1 := by simp
  rw [hs] at e
  have e2 := (Below.heap_alloc ((w.alloc (.cells #[u] t1)).alloc (.cells #[v] t2)) (.cells #[z] t3) (w.heap.size + 1) (by simp)).trans e
  rw [cell_of_row _ _ _ _ _ _ e2]; rfl
theorem three_c2 (w : World) (u v z : Value) (t1 t2 t3 : TypeId) : (((w.alloc (.cells #[u] t1)).alloc (.cells #[v] t2)).alloc (.cells #[z] t3)).cell? ⟨w.heap.size + 2, 0, none⟩ = some z := by
  have e := heap_alloc_new ((w.alloc (.cells #[u] t1)).alloc (.cells #[v] t2)) (.cells #[z] t3)
  have hs : ((w.alloc (.cells #[u] t1)).alloc (.cells #[v] t2)).heap.size = w.heap.size + 2 := by simp
  rw [hs] at e
  rw [cell_of_row _ _ _ _ _ _ e]; rfl

theorem wrap2 {a m b : Int} (h0 : 0 ≤ a * m) (h1 : a * m ≤ 81) (b0 : 0 ≤ b) (b1 : b ≤ 9) : IntKind.i64.wrap (IntKind.i64.wrap (a * m) + b) = a * m + b := by
  have e1 : IntKind.i64.wrap (a * m) = a * m := IntWalk.i64_in _ ⟨by omega, by omega⟩
  rw [e1]
  exact IntWalk.i64_in _ ⟨by omega, by omega⟩
/-- The specification's table of pairs under way. -/
def rowP (T U : List (List Int)) (x k : Nat) : List Int := (List.range k).map fun y => pairM T U x y
def rowsP (T U : List (List Int)) (k : Nat) : List (List Int) := (List.range k).map fun x => rowP T U x (T.length * U.length)
theorem rowP_succ (T U : List (List Int)) (x k : Nat) : rowP T U x k ++ [pairM T U x k] = rowP T U x (k + 1) := by simp [rowP, List.range_succ]
theorem rowsP_succ (T U : List (List Int)) (k : Nat) : rowsP T U k ++ [rowP T U k (T.length * U.length)] = rowsP T U (k + 1) := by simp [rowsP, List.range_succ]
theorem len_rowP (T U : List (List Int)) (x k : Nat) : (rowP T U x k).length = k := by simp [rowP]
theorem len_rowsP (T U : List (List Int)) (k : Nat) : (rowsP T U k).length = k := by simp [rowsP]

set_option maxHeartbeats 4000000 in
theorem sTimesOf_any (A A2 : Option Addr) (c c2 lo hi lo2 hi2 : Nat) (T U : List (List Int)) (w : World) (h : Mat w lo hi A T) (hh : hi ≤ w.heap.size) (hS : Small T) (h2 : Mat w lo2 hi2 A2 U) (hh2 : hi2 ≤ w.heap.size) (hS2 : Small U) :
    Calls Try.prog 22 #[.slice A T.length c, .slice A2 U.length c2] w (NewTab2 w (timesT T U) (canB T U)) := by
  have b0 := (Below.refl w.heap.size w).alloc (Nat.le_refl _) (.cells #[] 58)
  have h' := h.below b0 hh
  have h2' := h2.below b0 hh2
  cases hk : okT T
  · have hc : canB T U = false := by unfold canB; rw [hk]; rfl
    have HF := hide (new2_nil (w := w) hc)
    go_enter Try.func22, Try.ntmps22
    go_wp2_with fail
    refine (sTableOk_any _ _ _ _ _ _ h' hS).mono ?_
    rintro e w' ⟨rfl, rfl⟩
    rw [hk]
    go_wp2
    go_ret2
    exact HF.out
  cases hk2 : okT U
  · have hc : canB T U = false := by unfold canB; rw [hk, hk2]; rfl
    have HF := hide (new2_nil (w := w) hc)
    go_enter Try.func22, Try.ntmps22
    go_wp2_with fail
    refine (sTableOk_any _ _ _ _ _ _ h' hS).mono ?_
    rintro e w' ⟨rfl, rfl⟩
    rw [hk]
    go_wp2_with fail
    refine (sTableOk_any _ _ _ _ _ _ h2' hS2).mono ?_
    rintro e w' ⟨rfl, rfl⟩
    rw [hk2]
    go_wp2
    go_ret2
    exact HF.out
  have k := okT_iff.1 hk
  have k2 := okT_iff.1 hk2
  have t9 := k.hi
  have u9 := k2.hi
  have u1 := k2.lo
  obtain ⟨m0, m1⟩ := mulB (by omega : (0 : Int) ≤ (T.length : Int)) (by omega) (by omega : (0 : Int) ≤ (U.length : Int)) (by omega)
  by_cases h9 : T.length * U.length ≤ 9
  · have hc : canB T U = true := canB_iff.2 ⟨k, k2, h9⟩
    have h9i : (T.length : Int) * (U.length : Int) ≤ 9 := by rw [← Int.natCast_mul]; exact Int.ofNat_le.2 h9
    have HE := hide (timesT_ok hc)
    have HC := hide hc
    have HM := hide (show ((T.length * U.length : Nat) : Int) = (T.length : Int) * (U.length : Int) from by simp)
    clear hc
    go_enter Try.func22, Try.ntmps22
    go_wp2_with fail
    refine (sTableOk_any _ _ _ _ _ _ h' hS).mono ?_
    rintro e w' ⟨rfl, rfl⟩
    rw [hk]
    go_wp2_with fail
    refine (sTableOk_any _ _ _ _ _ _ h2' hS2).mono ?_
    rintro e w' ⟨rfl, rfl⟩
    rw [hk2]
    go_wp2
    go_loopg [8, 6] (T.length * U.length) (fun g i v wr => ∃ p : Nat, p ≤ T.length * U.length ∧ g = T.length * U.length - p ∧ i = .int .i64 p ∧ ATab w.heap.size wr v (rowsP T U p) ∧ Below w.heap.size w wr)
    case atStart => exact ⟨0, Nat.zero_le _, rfl, rfl, ATab.made (Nat.le_refl _), b0⟩
    case round =>
      obtain ⟨p, hp, rfl, rfl, hA, hB⟩ := hrel
      clear b0 h' h2'
      by_cases hlt : p < T.length * U.length
      · obtain ⟨wo, rfl⟩ : ∃ wo : World, wo = wr := ⟨_, rfl⟩
        have hlti : (p : Int) < (T.length : Int) * (U.length : Int) := by have := HM.out; omega
        go_wp2
        have hb1 := (Below.refl wo.heap.size wo).alloc (Nat.le_refl _) (.cells #[] 3)
        have hr0 := ARow.made (w := wo) (Nat.le_refl _)
        go_loopg [10, 9] (T.length * U.length) (fun g i u wi => ∃ q : Nat, q ≤ T.length * U.length ∧ g = T.length * U.length - q ∧ i = .int .i64 q ∧ ARow wo.heap.size wi u (rowP T U p q) ∧ Below wo.heap.size wo wi)
        case atStart => exact ⟨0, Nat.zero_le _, rfl, rfl, hr0, hb1⟩
        case round =>
          clear hb1 hr0
          obtain ⟨q, hq, rfl, rfl, hR, hW⟩ := hrel
          have hwi : w.heap.size ≤ wo.heap.size := hB.size
          by_cases hqt : q < T.length * U.length
          · have hqti : (q : Int) < (T.length : Int) * (U.length : Int) := by have := HM.out; omega
            have hBi := hB.trans (hW.mono hwi)
            have hl' : (rowP T U p q).length ≤ 1048576 := by rw [len_rowP]; omega
            have hs := hW.size
            obtain ⟨a0, a1⟩ := divIn u1 hlt
            obtain ⟨d0, d1⟩ := divIn u1 hqt
            have rp0 : 0 ≤ (p : Int) % (U.length : Int) := Int.emod_nonneg _ (by omega)
            have rp1 : (p : Int) % (U.length : Int) < (U.length : Int) := Int.emod_lt_of_pos _ (by omega)
            have rq0 : 0 ≤ (q : Int) % (U.length : Int) := Int.emod_nonneg _ (by omega)
            have rq1 : (q : Int) % (U.length : Int) < (U.length : Int) := Int.emod_lt_of_pos _ (by omega)
            obtain ⟨v0, v1⟩ := k.mul a0 a1 d0 d1
            obtain ⟨x0, x1⟩ := k2.mul rp0 rp1 rq0 rq1
            obtain ⟨y0, y1⟩ := mulB v0 (by omega) (by omega : (0 : Int) ≤ (U.length : Int)) (by omega)
            obtain ⟨b, o, b2, o2, c', rfl, _, hbl, hc1, _, hbl2, hc2⟩ := h.at_ k a0 a1 d0 d1
            obtain ⟨b3, o3, b4, o4, c4, rfl, _, hbl3, hc3, _, hbl4, hc4⟩ := h2.at_ k2 rp0 rp1 rq0 rq1
            obtain ⟨qp1, qp2, qp3, qp4⟩ := wrapQ (p : Int) (U.length : Int) (by omega) (by omega) (by omega)
            obtain ⟨qq1, qq2, qq3, qq4⟩ := wrapQ (q : Int) (U.length : Int) (by omega) (by omega) (by omega)
            have hm3 : ¬ U.length = 0 := by omega
            have hm5 : ¬ U = [] := fun e => by subst e; exact hm3 rfl
            have HW := hide (show IntKind.i64.wrap (IntKind.i64.wrap (mul T ((p : Int) / (U.length : Int)) ((q : Int) / (U.length : Int)) * (U.length : Int)) + mul U ((p : Int) % (U.length : Int)) ((q : Int) % (U.length : Int))) = pairM T U p q from wrap2 y0 y1 x0 (by omega))
            have MK := hide (fun (W : World) (hW' : Below w.heap.size w W) =>
              (⟨(hW'.cell (p := ⟨b, o + ((p : Int) / (U.length : Int)).toNat, none⟩) (by show b < _; omega)).trans hc1, (hW'.cell (p := ⟨b2, o2 + ((q : Int) / (U.length : Int)).toNat, none⟩) (by show b2 < _; omega)).trans hc2,
                (hW'.cell (p := ⟨b3, o3 + ((p : Int) % (U.length : Int)).toNat, none⟩) (by show b3 < _; omega)).trans hc3, (hW'.cell (p := ⟨b4, o4 + ((q : Int) % (U.length : Int)).toNat, none⟩) (by show b4 < _; omega)).trans hc4, hW'⟩ :
                W.cell? ⟨b, o + ((p : Int) / (U.length : Int)).toNat, none⟩ = some (.slice (some ⟨b2, o2, none⟩) T.length c') ∧ W.cell? ⟨b2, o2 + ((q : Int) / (U.length : Int)).toNat, none⟩ = some (.int .i64 (mul T ((p : Int) / (U.length : Int)) ((q : Int) / (U.length : Int)))) ∧
                W.cell? ⟨b3, o3 + ((p : Int) % (U.length : Int)).toNat, none⟩ = some (.slice (some ⟨b4, o4, none⟩) U.length c4) ∧ W.cell? ⟨b4, o4 + ((q : Int) % (U.length : Int)).toNat, none⟩ = some (.int .i64 (mul U ((p : Int) % (U.length : Int)) ((q : Int) % (U.length : Int)))) ∧ Below w.heap.size w W))
            clear hc1 hc2 hc3 hc4
            go_wp2
            go_region_held3 (fun W => W.cell? ⟨b, o + ((p : Int) / (U.length : Int)).toNat, none⟩ = some (.slice (some ⟨b2, o2, none⟩) T.length c') ∧ W.cell? ⟨b2, o2 + ((q : Int) / (U.length : Int)).toNat, none⟩ = some (.int .i64 (mul T ((p : Int) / (U.length : Int)) ((q : Int) / (U.length : Int)))) ∧
                W.cell? ⟨b3, o3 + ((p : Int) % (U.length : Int)).toNat, none⟩ = some (.slice (some ⟨b4, o4, none⟩) U.length c4) ∧ W.cell? ⟨b4, o4 + ((q : Int) % (U.length : Int)).toNat, none⟩ = some (.int .i64 (mul U ((p : Int) % (U.length : Int)) ((q : Int) % (U.length : Int)))) ∧ Below w.heap.size w W)
              (first
                | exact MK.out _ hBi.drew
                | (go_split_ands
                   exact MK.out _ (Below.alloc (by assumption) (Below.size (by assumption)) _))
                | (go_split_ands
                   exact MK.out _ (Below.trans hBi (by assumption))))
              (first
                | (refine step_app_drew (by rfl) (.tmp 47) (.tmp 73) (by rfl) wo.heap.size _ (rowP T U p q) _ 1 (by rfl) (by rfl) hR hl' hs ?_
                   intro v1 w1 hown1 hg1
                   have hb1 : Below w.heap.size wr w1 := ARow.belowOf hR hg1 hwi (Nat.le_trans hwi hs)))
            go_wp2
            go_roundg (T.length * U.length - (q + 1))
            case measure => go_light; omega
            case rel => go_light; exact ⟨q + 1, by omega, rfl, by go_num, by rw [← rowP_succ, ← HW.out]; exact hown1, hW.trans (hR.belowOf hg1 (Nat.le_refl _) hs)⟩
          · obtain rfl : T.length * U.length = q := by omega
            have hA2 := hA.below hW
            obtain ⟨Ar, cr, hAr, _, _, _⟩ := hR.val
            rw [len_rowP] at hAr
            subst hAr
            have hl' : (rowsP T U p).length ≤ 1048576 := by rw [len_rowsP]; omega
            have hs2 : w.heap.size ≤ wr.heap.size := Nat.le_trans hwi hW.size
            go_wp2_with (at_builtin; refine wp_app_row rfl (.tmp 75) (.tmp 77) rfl w.heap.size _ _ _ _ _ rfl rfl hA2 (hR.mono hwi) hl' hs2 ?_; intro v1 w1 hown1 hg1)
            go_roundg (T.length * U.length - (p + 1))
            case measure => go_light; omega
            case rel => go_light; exact ⟨p + 1, by omega, rfl, by go_num, by rw [← rowsP_succ]; exact hown1, (hB.trans (hW.mono hwi)).trans (hA2.belowOf hg1 (Nat.le_refl _) hs2)⟩
      · obtain rfl : T.length * U.length = p := by omega
        obtain ⟨A', c', hv, _, _, hM⟩ := hA.val
        rw [len_rowsP] at hv
        subst hv
        go_wp2
        go_ret2
        rw [HE.out, HC.out]
        exact ⟨A', c', ret2_slice (by rw [len_tabOf]), hB, hM⟩
  · have hc : canB T U = false := by
      cases e : canB T U with
      | false => rfl
      | true => exact absurd (canB_iff.1 e).2.2 h9
    have h9i : 9 < (T.length : Int) * (U.length : Int) := by rw [← Int.natCast_mul]; omega
    have HF := hide (new2_nil (w := w) hc)
    go_enter Try.func22, Try.ntmps22
    go_wp2_with fail
    refine (sTableOk_any _ _ _ _ _ _ h' hS).mono ?_
    rintro e w' ⟨rfl, rfl⟩
    rw [hk]
    go_wp2_with fail
    refine (sTableOk_any _ _ _ _ _ _ h2' hS2).mono ?_
    rintro e w' ⟨rfl, rfl⟩
    rw [hk2]
    go_wp2
    go_ret2
    exact HF.out
end Go.Proofs.Ythllbekoidogpaa

namespace Go.Proofs.Ythllbekoidogpaa
set_option linter.unusedVariables false
theorem pair_div {e f m : Int} (hm : 0 < m) (f0 : 0 ≤ f) (f1 : f < m) : (e * m + f) / m = e ∧ (e * m + f) % m = f := by
  have h : e * m + f = f + e * m := by omega
  rw [h]
  refine ⟨?_, ?_⟩
  · rw [Int.add_mul_ediv_right _ _ (by omega), Int.ediv_eq_zero_of_lt f0 f1, Int.zero_add]
  · rw [Int.add_mul_emod_self_right, Int.emod_eq_of_lt f0 f1]
/-- The product of two pairs, at integers. -/
def pairZ (T U : List (List Int)) (x y : Int) : Int := mul T (x / (U.length : Int)) (y / (U.length : Int)) * (U.length : Int) + mul U (x % (U.length : Int)) (y % (U.length : Int))
section
variable {T U : List (List Int)}
theorem in_div (h : canB T U = true) {x : Int} (x0 : 0 ≤ x) (x1 : x < ((T.length * U.length : Nat) : Int)) : (0 ≤ x / (U.length : Int) ∧ x / (U.length : Int) < T.length) ∧ 0 ≤ x % (U.length : Int) ∧ x % (U.length : Int) < U.length := by
  obtain ⟨_, k2, _⟩ := canB_iff.1 h
  have u1 := k2.lo
  have := divIn (p := x.toNat) (n := T.length) (m := U.length) u1 (by omega)
  rw [Int.toNat_of_nonneg x0] at this
  exact ⟨this, Int.emod_nonneg _ (by omega), Int.emod_lt_of_pos _ (by omega)⟩
theorem pair_in (h : canB T U = true) {e f : Int} (e0 : 0 ≤ e) (e1 : e < T.length) (f0 : 0 ≤ f) (f1 : f < U.length) : 0 ≤ e * (U.length : Int) + f ∧ e * (U.length : Int) + f < ((T.length * U.length : Nat) : Int) := by
  have hm : 0 ≤ e * (U.length : Int) := Int.mul_nonneg e0 (by omega)
  have h2 : (e + 1) * (U.length : Int) ≤ (T.length : Int) * (U.length : Int) := Int.mul_le_mul_of_nonneg_right (by omega) (by omega)
  rw [Int.add_mul, Int.one_mul] at h2
  rw [Int.natCast_mul]
  omega
theorem len_times (h : canB T U = true) : (timesT T U).length = T.length * U.length := by rw [timesT_ok h, len_tabOf]
theorem mul_times (h : canB T U = true) {x y : Int} (x0 : 0 ≤ x) (x1 : x < ((T.length * U.length : Nat) : Int)) (y0 : 0 ≤ y) (y1 : y < ((T.length * U.length : Nat) : Int)) : mul (timesT T U) x y = pairZ T U x y := by
  rw [timesT_ok h]
  unfold mul
  rw [el_tabOf (by omega) (by omega)]
  unfold pairM pairZ
  rw [Int.toNat_of_nonneg x0, Int.toNat_of_nonneg y0]
theorem pairZ_div (h : canB T U = true) {x y : Int} (x0 : 0 ≤ x) (x1 : x < ((T.length * U.length : Nat) : Int)) (y0 : 0 ≤ y) (y1 : y < ((T.length * U.length : Nat) : Int)) :
    pairZ T U x y / (U.length : Int) = mul T (x / (U.length : Int)) (y / (U.length : Int)) ∧ pairZ T U x y % (U.length : Int) = mul U (x % (U.length : Int)) (y % (U.length : Int)) ∧ 0 ≤ pairZ T U x y ∧ pairZ T U x y < ((T.length * U.length : Nat) : Int) := by
  obtain ⟨k, k2, _⟩ := canB_iff.1 h
  obtain ⟨⟨a0, a1⟩, b0, b1⟩ := in_div h x0 x1
  obtain ⟨⟨c0, c1⟩, d0, d1⟩ := in_div h y0 y1
  obtain ⟨e0, e1⟩ := k.mul a0 a1 c0 c1
  obtain ⟨f0, f1⟩ := k2.mul b0 b1 d0 d1
  have u1 := k2.lo
  obtain ⟨p1, p2⟩ := pair_div (e := mul T (x / (U.length : Int)) (y / (U.length : Int))) (m := (U.length : Int)) (by omega) f0 f1
  exact ⟨p1, p2, pair_in h e0 e1 f0 f1⟩
theorem isT_times (h : canB T U = true) : IsT (timesT T U) := by
  obtain ⟨k, k2, h9⟩ := canB_iff.1 h
  have hl := len_times h
  refine ⟨by rw [hl]; exact Nat.mul_pos k.lo k2.lo, by rw [hl]; exact h9, fun i hi => ?_, fun i j hi hj => ?_⟩
  · rw [hl] at hi ⊢
    rw [timesT_ok h, rowlen_tabOf hi]
  · rw [hl] at hi hj ⊢
    have := pairZ_div h (x := (i : Nat)) (y := (j : Nat)) (by omega) (by omega) (by omega) (by omega)
    rw [timesT_ok h, el_tabOf hi hj]
    exact this.2.2
theorem isG_times (h : canB T U = true) (g1 : IsG T) (g2 : IsG U) : IsG (timesT T U) := by
  have hl := len_times h
  refine ⟨isT_times h, fun x y z x0 x1 y0 y1 z0 z1 => ?_⟩
  rw [hl] at x1 y1 z1
  obtain ⟨⟨a0, a1⟩, b0, b1⟩ := in_div h x0 x1
  obtain ⟨⟨c0, c1⟩, d0, d1⟩ := in_div h y0 y1
  obtain ⟨⟨e0, e1⟩, f0, f1⟩ := in_div h z0 z1
  obtain ⟨p1, p2, p3, p4⟩ := pairZ_div h y0 y1 z0 z1
  obtain ⟨q1, q2, q3, q4⟩ := pairZ_div h x0 x1 y0 y1
  rw [mul_times h y0 y1 z0 z1, mul_times h x0 x1 y0 y1, mul_times h x0 x1 p3 p4, mul_times h q3 q4 z0 z1]
  show mul T _ _ * _ + mul U _ _ = mul T _ _ * _ + mul U _ _
  rw [p1, p2, q1, q2, g1.grp _ _ _ a0 a1 c0 c1 e0 e1, g2.grp _ _ _ b0 b1 d0 d1 f0 f1]
theorem isG_of_times (h : canB T U = true) (g : IsG (timesT T U)) : IsG T ∧ IsG U := by
  obtain ⟨k, k2, _⟩ := canB_iff.1 h
  have hl := len_times h
  have t1 := k.lo
  have u1 := k2.lo
  have main : ∀ a b c d e f : Int, 0 ≤ a → a < T.length → 0 ≤ b → b < U.length → 0 ≤ c → c < T.length → 0 ≤ d → d < U.length → 0 ≤ e → e < T.length → 0 ≤ f → f < U.length →
      mul T a (mul T c e) = mul T (mul T a c) e ∧ mul U b (mul U d f) = mul U (mul U b d) f := fun a b c d e f a0 a1 b0 b1 c0 c1 d0 d1 e0 e1 f0 f1 => by
    obtain ⟨x0, x1⟩ := pair_in h a0 a1 b0 b1
    obtain ⟨y0, y1⟩ := pair_in h c0 c1 d0 d1
    obtain ⟨z0, z1⟩ := pair_in h e0 e1 f0 f1
    obtain ⟨dx, mx⟩ := pair_div (e := a) (by omega : (0 : Int) < (U.length : Int)) b0 b1
    obtain ⟨dy, my⟩ := pair_div (e := c) (by omega : (0 : Int) < (U.length : Int)) d0 d1
    obtain ⟨dz, mz⟩ := pair_div (e := e) (by omega : (0 : Int) < (U.length : Int)) f0 f1
    have := g.grp _ _ _ x0 (by rw [hl]; exact x1) y0 (by rw [hl]; exact y1) z0 (by rw [hl]; exact z1)
    obtain ⟨p1, p2, p3, p4⟩ := pairZ_div h y0 y1 z0 z1
    obtain ⟨q1, q2, q3, q4⟩ := pairZ_div h x0 x1 y0 y1
    rw [mul_times h y0 y1 z0 z1, mul_times h x0 x1 y0 y1, mul_times h x0 x1 p3 p4, mul_times h q3 q4 z0 z1] at this
    obtain ⟨r1, r2, _⟩ := pairZ_div h x0 x1 p3 p4
    obtain ⟨s1, s2, _⟩ := pairZ_div h q3 q4 z0 z1
    rw [this] at r1 r2
    rw [p1, dx, dy, dz] at r1
    rw [p2, mx, my, mz] at r2
    rw [q1, dx, dy, dz] at s1
    rw [q2, mx, my, mz] at s2
    exact ⟨r1.symm.trans s1, r2.symm.trans s2⟩
  exact ⟨⟨k, fun x y z x0 x1 y0 y1 z0 z1 => (main x 0 y 0 z 0 x0 x1 (by omega) (by omega) y0 y1 (by omega) (by omega) z0 z1 (by omega) (by omega)).1⟩,
    ⟨k2, fun x y z x0 x1 y0 y1 z0 z1 => (main 0 x 0 y 0 z (by omega) (by omega) x0 x1 (by omega) (by omega) y0 y1 (by omega) (by omega) z0 z1).2⟩⟩
theorem grpT_times (h : canB T U = true) : grpT (timesT T U) = (grpT T && grpT U) := by
  cases e1 : grpT T <;> cases e2 : grpT U
  · exact grpT_false fun g => by have := grpT_iff.2 (isG_of_times h g).1; rw [e1] at this; cases this
  · exact grpT_false fun g => by have := grpT_iff.2 (isG_of_times h g).1; rw [e1] at this; cases this
  · exact grpT_false fun g => by have := grpT_iff.2 (isG_of_times h g).2; rw [e2] at this; cases this
  · exact grpT_iff.2 (isG_times h (grpT_iff.1 e1) (grpT_iff.1 e2))
theorem can_one (h : okT T = true) : canB T [[0]] = true := by
  have := (okT_iff.1 h).hi
  exact canB_iff.2 ⟨okT_iff.1 h, okT_iff.1 (by decide), by simpa using this⟩
theorem times_one (h : okT T = true) : timesT T [[0]] = T := by
  have k := okT_iff.1 h
  have hc := can_one h
  rw [timesT_ok hc]
  apply List.ext_getElem
  · rw [len_tabOf]; simp
  · intro i hi1 hi2
    rw [len_tabOf] at hi1
    rw [← rw_eq (by rw [len_tabOf]; exact hi1), ← rw_eq hi2, row_tabOf hi1]
    have hl := k.len i hi2
    apply List.ext_getElem
    · simp [hl]
    · intro j hj1 hj2
      have hj : j < T.length := by simpa using hj1
      rw [← el_eq hj2]
      simp only [List.getElem_map, List.getElem_range]
      unfold pairM mul
      simp [rw_, el]
end
end Go.Proofs.Ythllbekoidogpaa
