
/- Tables of pairs, whole: the program's, and the specification's. -/
import Derived.Test.YtaceakfbkhkopaaTimes
import Derived.Test.YtaceakfbkhkopaaApp
import Derived.Deep.RegionHeld3
namespace Go.Proofs.Ytaceakfbkhkopaa
open Go.RowKit
set_option linter.unusedVariables false


theorem ret2_slice {A : Option Addr} {n m c : Nat} {b : Bool} (h : n = m) : Ending.returned (.tuple #[.slice A n c, .bool b]) = .returned (.tuple #[.slice A m c, .bool b]) := by rw [h]
/-- Whether two tables have a table of pairs; and that table. -/
def canB (T U : List (List Int)) : Bool := okT T && okT U && decide (T.length * U.length ≤ 9)
def timesT (T U : List (List Int)) : List (List Int) := if canB T U = true then tabOf (T.length * U.length) (pairM T U) else []
theorem timesT_ok {T U : List (List Int)} (h : canB T U = true) : timesT T U = tabOf (T.length * U.length) (pairM T U) := by unfold timesT; rw [if_pos h]
theorem timesT_not {T U : List (List Int)} (h : canB T U = false) : timesT T U = [] := by unfold timesT; rw [if_neg (by rw [h]; exact Bool.false_ne_true)]
theorem canB_iff {T U : List (List Int)} : canB T U = true ↔ IsT T ∧ IsT U ∧ T.length * U.length ≤ 9 := by
  unfold canB
  rw [Bool.and_eq_true, Bool.and_eq_true, decide_eq_true_iff, okT_iff, okT_iff, and_assoc]
theorem small_timesT {T U : List (List Int)} : Small (timesT T U) := by
  cases h : canB T U
  · rw [timesT_not h]; exact ⟨by simp, fun i hi => absurd hi (Nat.not_lt_zero _)⟩
  · have := (canB_iff.1 h).2.2
    rw [timesT_ok h]
    refine ⟨by rw [len_tabOf]; omega, fun i hi => ?_⟩
    rw [len_tabOf] at hi
    rw [rowlen_tabOf hi]; omega
/-- A call that returns a new table and a truth. -/
def OwnTab2 (w : World) (T : List (List Int)) (b : Bool) (e : Ending) (w' : World) : Prop := ∃ A c, e = .returned (.tuple #[.slice A T.length c, .bool b]) ∧ Below w.heap.size w w' ∧ OMat w' w.heap.size w'.heap.size A T
def NewTab2 (w : World) (T : List (List Int)) (b : Bool) (e : Ending) (w' : World) : Prop := ∃ A c, e = .returned (.tuple #[.slice A T.length c, .bool b]) ∧ Below w.heap.size w w' ∧ Mat w' w.heap.size w'.heap.size A T
theorem own2_nil {w : World} {T U : List (List Int)} (h : canB T U = false) : OwnTab2 w (timesT T U) (canB T U) (.returned (.tuple #[.slice none 0 0, .bool false])) w := by
  rw [timesT_not h, h]; exact ⟨none, 0, rfl, Below.refl _ _, OMat.nil _ _ _ _⟩
theorem new2_nil {w : World} {T U : List (List Int)} (h : canB T U = false) : NewTab2 w (timesT T U) (canB T U) (.returned (.tuple #[.slice (some ⟨w.heap.size, 0, none⟩) 0 0, .bool false])) (w.alloc (.cells #[] 28)) := by
  rw [timesT_not h, h]; exact ⟨_, 0, rfl, (Below.refl w.heap.size w).alloc (Nat.le_refl _) _, Mat.nil _ _ _ _⟩

theorem three_c0 (w : World) (u v z : Value) (t1 t2 t3 : TypeId) : (((w.alloc (.cells #[u] t1)).alloc (.cells #[v] t2)).alloc (.cells #[z] t3)).cell? ⟨w.heap.size, 0, none⟩ = some u := by
  have e := heap_alloc_new w (.cells #[u] t1)
  have e1 := (Below.heap_alloc (w.alloc (.cells #[u] t1)) (.cells #[v] t2) w.heap.size (by simp)).trans e
  have e2 := (Below.heap_alloc ((w.alloc (.cells #[u] t1)).alloc (.cells #[v] t2)) (.cells #[z] t3) w.heap.size (by simp; omega)).trans e1
  rw [cell_of_row _ _ _ _ _ _ e2]; rfl
theorem three_c1 (w : World) (u v z : Value) (t1 t2 t3 : TypeId) : (((w.alloc (.cells #[u] t1)).alloc (.cells #[v] t2)).alloc (.cells #[z] t3)).cell? ⟨w.heap.size + 1, 0, none⟩ = some v := by
  have e := heap_alloc_new (w.alloc (.cells #[u] t1)) (.cells #[v] t2)
  have hs : (w.alloc (.cells #[u] t1)).heap.size = w.heap.size + 1 := by simp
  rw [hs] at e
  have e2 := (Below.heap_alloc ((w.alloc (.cells #[u] t1)).alloc (.cells #[v] t2)) (.cells #[z] t3) (w.heap.size + 1) (by simp)).trans e
  rw [cell_of_row _ _ _ _ _ _ e2]; rfl
theorem three_c2 (w : World) (u v z : Value) (t1 t2 t3 : TypeId) : (((w.alloc (.cells #[u] t1)).alloc (.cells #[v] t2)).alloc (.cells #[z] t3)).cell? ⟨w.heap.size + 2, 0, none⟩ = some z := by
  have e := heap_alloc_new ((w.alloc (.cells #[u] t1)).alloc (.cells #[v] t2)) (.cells #[z] t3)
  have hs : ((w.alloc (.cells #[u] t1)).alloc (.cells #[v] t2)).heap.size = w.heap.size + 2 := by simp
  rw [hs] at e
  rw [cell_of_row _ _ _ _ _ _ e]; rfl

set_option maxHeartbeats 2000000 in
theorem iTimesOf_any (A A2 : Option Addr) (c c2 lo hi lo2 hi2 : Nat) (T U : List (List Int)) (w : World) (h : Mat w lo hi A T) (hh : hi ≤ w.heap.size) (hS : Small T) (h2 : Mat w lo2 hi2 A2 U) (hh2 : hi2 ≤ w.heap.size) (hS2 : Small U) :
    Calls Try.prog 21 #[.slice A T.length c, .slice A2 U.length c2] w (OwnTab2 w (timesT T U) (canB T U)) := by
  cases hk : okT T
  · have hc : canB T U = false := by unfold canB; rw [hk]; rfl
    have HF := hide (own2_nil (w := w) hc)
    go_enter Try.func21, Try.ntmps21
    go_wp2_with fail
    refine (iTableOk_any _ _ _ _ _ _ h hS).mono ?_
    rintro e w' ⟨rfl, rfl⟩
    rw [hk]
    go_wp2
    go_ret2
    exact HF.out
  cases hk2 : okT U
  · have hc : canB T U = false := by unfold canB; rw [hk, hk2]; rfl
    have HF := hide (own2_nil (w := w) hc)
    go_enter Try.func21, Try.ntmps21
    go_wp2_with fail
    refine (iTableOk_any _ _ _ _ _ _ h hS).mono ?_
    rintro e w' ⟨rfl, rfl⟩
    rw [hk]
    go_wp2_with fail
    refine (iTableOk_any _ _ _ _ _ _ h2 hS2).mono ?_
    rintro e w' ⟨rfl, rfl⟩
    rw [hk2]
    go_wp2
    go_ret2
    exact HF.out
  have k := okT_iff.1 hk
  have k2 := okT_iff.1 hk2
  have t9 := k.hi
  have u9 := k2.hi
  obtain ⟨m0, m1⟩ := mulB (by omega : (0 : Int) ≤ (T.length : Int)) (by omega) (by omega : (0 : Int) ≤ (U.length : Int)) (by omega)
  by_cases h9 : T.length * U.length ≤ 9
  · have hc : canB T U = true := canB_iff.2 ⟨k, k2, h9⟩
    have h9i : (T.length : Int) * (U.length : Int) ≤ 9 := by rw [← Int.natCast_mul]; exact Int.ofNat_le.2 h9
    have HE := hide (timesT_ok hc)
    have HC := hide hc
    have hcf : ∀ (args : Array Value) (w : World), (callFunc 52 args).run Try.prog w = .ok (.enter 52 args) w := fun args w => by kernel_rfl
    have HCF := hide hcf
    clear hcf hc
    have b0 := (((Below.refl w.heap.size w).alloc (Nat.le_refl _) (.cells #[.slice A T.length c] 42)).alloc (by simp) (.cells #[.slice A2 U.length c2] 42)).alloc (by simp; omega) (.cells #[.int .i64 (U.length : Nat)] 3)
    have es : (((w.alloc (.cells #[.slice A T.length c] 42)).alloc (.cells #[.slice A2 U.length c2] 42)).alloc (.cells #[.int .i64 (U.length : Nat)] 3)).heap.size = w.heap.size + 3 := by simp
    have ES := hide es
    clear es
    have hcell : ∀ wr, Below (w.heap.size + 3) (((w.alloc (.cells #[.slice A T.length c] 42)).alloc (.cells #[.slice A2 U.length c2] 42)).alloc (.cells #[.int .i64 (U.length : Nat)] 3)) wr →
        wr.cell? ⟨w.heap.size, 0, none⟩ = some (.slice A T.length c) ∧ wr.cell? ⟨w.heap.size + 1, 0, none⟩ = some (.slice A2 U.length c2) ∧ wr.cell? ⟨w.heap.size + 2, 0, none⟩ = some (.int .i64 (U.length : Nat)) := fun wr hb =>
      ⟨by rw [hb.cell (p := ⟨w.heap.size, 0, none⟩) (by show w.heap.size < _; omega)]; exact three_c0 w _ _ _ _ _ _, by rw [hb.cell (p := ⟨w.heap.size + 1, 0, none⟩) (by show w.heap.size + 1 < _; omega)]; exact three_c1 w _ _ _ _ _ _, by rw [hb.cell (p := ⟨w.heap.size + 2, 0, none⟩) (by show w.heap.size + 2 < _; omega)]; exact three_c2 w _ _ _ _ _ _⟩
    have HCELL := hide hcell
    clear hcell
    go_enter Try.func21, Try.ntmps21
    go_wp2_with fail
    refine (iTableOk_any _ _ _ _ _ _ h hS).mono ?_
    rintro e w' ⟨rfl, rfl⟩
    rw [hk]
    go_wp2_with fail
    refine (iTableOk_any _ _ _ _ _ _ h2 hS2).mono ?_
    rintro e w' ⟨rfl, rfl⟩
    rw [hk2]
    go_wp2_with fail
    rw [← Int.natCast_mul]
    refine (filledRows_any 52 #[.pointer (some ⟨w.heap.size, 0, none⟩), .pointer (some ⟨w.heap.size + 2, 0, none⟩), .pointer (some ⟨w.heap.size + 1, 0, none⟩)] (T.length * U.length) (pairM T U) _ h9 HCF.out (fun wr a b ha hb hbl => ?_)).mono ?_
    · rw [ES.out] at hbl
      obtain ⟨d1, d2, d3⟩ := HCELL.out wr hbl
      have bw := b0.trans (hbl.mono (by omega))
      exact times1_any A A2 c c2 lo hi lo2 hi2 _ _ _ T U a b wr (h.below bw hh) (Nat.le_trans hh bw.size) (h2.below bw hh2) (Nat.le_trans hh2 bw.size) k k2 d1 d3 d2 ha hb
    · rw [ES.out]
      rintro e w1 ⟨rfl, b1, o1⟩
      have Bf := b0.trans (b1.mono (by omega))
      have Of := o1.mono (lo' := w.heap.size) (hi' := w1.heap.size) (by omega) (Nat.le_refl _)
      go_wp2
      go_ret2
      rw [HE.out, HC.out]
      exact ⟨some ⟨w.heap.size + 3, 0, none⟩, T.length * U.length, ret2_slice (by rw [len_tabOf]), Bf, Of⟩
  · have hc : canB T U = false := by
      cases e : canB T U with
      | false => rfl
      | true => exact absurd (canB_iff.1 e).2.2 h9
    have h9i : 9 < (T.length : Int) * (U.length : Int) := by rw [← Int.natCast_mul]; omega
    have HF := hide (own2_nil (w := w) hc)
    go_enter Try.func21, Try.ntmps21
    go_wp2_with fail
    refine (iTableOk_any _ _ _ _ _ _ h hS).mono ?_
    rintro e w' ⟨rfl, rfl⟩
    rw [hk]
    go_wp2_with fail
    refine (iTableOk_any _ _ _ _ _ _ h2 hS2).mono ?_
    rintro e w' ⟨rfl, rfl⟩
    rw [hk2]
    go_wp2
    go_ret2
    exact HF.out

theorem wrap2 {a m b : Int} (h0 : 0 ≤ a * m) (h1 : a * m ≤ 81) (b0 : 0 ≤ b) (b1 : b ≤ 9) : IntKind.i64.wrap (IntKind.i64.wrap (a * m) + b) = a * m + b := by
  have e1 : IntKind.i64.wrap (a * m) = a * m := IntWalk.i64_in _ ⟨by omega, by omega⟩
  rw [e1]
  exact IntWalk.i64_in _ ⟨by omega, by omega⟩
/-- The specification's table of pairs under way. -/
def rowP (T U : List (List Int)) (x k : Nat) : List Int := (List.range k).map fun y => pairM T U x y
def rowsP (T U : List (List Int)) (k : Nat) : List (List Int) := (List.range k).map fun x => rowP T U x (T.length * U.length)
theorem rowP_succ (T U : List (List Int)) (x k : Nat) : rowP T U x k ++ [pairM T U x k] = rowP T U x (k + 1) := by simp [rowP, List.range_succ]
theorem rowsP_succ (T U : List (List Int)) (k : Nat) : rowsP T U k ++ [rowP T U k (T.length * U.length)] = rowsP T U (k + 1) := by simp [rowsP, List.range_succ]
theorem len_rowP (T U : List (List Int)) (x k : Nat) : (rowP T U x k).length = k := by simp [rowP]
theorem len_rowsP (T U : List (List Int)) (k : Nat) : (rowsP T U k).length = k := by simp [rowsP]

end Go.Proofs.Ytaceakfbkhkopaa
