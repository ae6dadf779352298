
/- A table turned over: the program's, and the specification's. -/
import Derived.Test.YtaceakfbkhkopaaGrp
import Derived.Test.YtaceakfbkhkopaaSgrp
import Derived.Test.YtaceakfbkhkopaaFill
import Derived.Test.YtaceakfbkhkopaaApp
namespace Go.Proofs.Ytaceakfbkhkopaa
open Go.RowKit
set_option linter.unusedVariables false


/-- A call that returns a new table. -/
def NewTab (w : World) (T : List (List Int)) (e : Ending) (w' : World) : Prop := ∃ A c, e = .returned (.slice A T.length c) ∧ Below w.heap.size w w' ∧ Mat w' w.heap.size w'.heap.size A T
/-- A call that returns a new table, each row in a block of its own. -/
def OwnTab (w : World) (T : List (List Int)) (e : Ending) (w' : World) : Prop := ∃ A c, e = .returned (.slice A T.length c) ∧ Below w.heap.size w w' ∧ OMat w' w.heap.size w'.heap.size A T

theorem ret_slice {A : Option Addr} {n m c : Nat} (h : n = m) : Ending.returned (.slice A n c) = .returned (.slice A m c) := by rw [h]
noncomputable def turnT (T : List (List Int)) : List (List Int) := if okT T = true then tabOf T.length fun a b => mul T b a else []
theorem turnT_ok {T : List (List Int)} (h : okT T = true) : turnT T = tabOf T.length fun a b => mul T b a := by unfold turnT; rw [if_pos h]
theorem turnT_not {T : List (List Int)} (h : okT T = false) : turnT T = [] := by unfold turnT; rw [if_neg (by rw [h]; exact Bool.false_ne_true)]

set_option maxHeartbeats 1000000 in
theorem turned1_any (A : Option Addr) (c lo hi B : Nat) (T : List (List Int)) (x y : Nat) (w : World) (h : Mat w lo hi A T) (hh : hi ≤ w.heap.size) (k : IsT T) (hB : w.cell? ⟨B, 0, none⟩ = some (.slice A T.length c)) (hx : x < T.length) (hy : y < T.length) :
    Calls Try.prog 56 #[.int .i64 x, .int .i64 y, .pointer (some ⟨B, 0, none⟩)] w fun e w' => e = .returned (.int .i64 (mul T y x)) ∧ Below w.heap.size w w' := by
  go_enter Try.func56, Try.ntmps56
  go_wp2_with (go_at_call 53; refine (product_any _ _ _ _ _ _ _ _ h hh k (by omega) (by omega) (by omega) (by omega)).mono ?_; rintro e w1 ⟨rfl, b1⟩)
  go_ret
  exact ⟨rfl, b1⟩

set_option maxHeartbeats 1000000 in
theorem iTurnedOf_any (A : Option Addr) (c lo hi : Nat) (T : List (List Int)) (w : World) (h : Mat w lo hi A T) (hh : hi ≤ w.heap.size) (hS : Small T) :
    Calls Try.prog 23 #[.slice A T.length c] w (OwnTab w (turnT T)) := by
  cases hk : okT T
  · have HT := hide (turnT_not hk)
    go_enter Try.func23, Try.ntmps23
    go_wp2_with (go_at_call 36; refine (iTableOk_any _ _ _ _ _ _ h hS).mono ?_; rintro e w' ⟨rfl, rfl⟩; rw [hk])
    go_ret
    refine ⟨none, 0, by rw [HT.out]; rfl, Below.refl _ _, ?_⟩
    rw [HT.out]; exact OMat.nil _ _ _ _
  · have k := okT_iff.1 hk
    have k9 := k.hi
    have HT := hide (turnT_ok hk)
    have hcf : ∀ (args : Array Value) (w : World), (callFunc 56 args).run Try.prog w = .ok (.enter 56 args) w := fun args w => by kernel_rfl
    have HC := hide hcf
    clear hcf
    have b0 := (Below.refl w.heap.size w).alloc (Nat.le_refl _) (.cells #[.slice A T.length c] 42)
    have hcell : ∀ wr, Below (w.alloc (.cells #[.slice A T.length c] 42)).heap.size (w.alloc (.cells #[.slice A T.length c] 42)) wr → wr.cell? ⟨w.heap.size, 0, none⟩ = some (.slice A T.length c) := fun wr hb => by
      rw [hb.cell (p := ⟨w.heap.size, 0, none⟩) (by simp)]; simp
    go_enter Try.func23, Try.ntmps23
    go_wp2_with fail
    refine (iTableOk_any _ _ _ _ _ _ h hS).mono ?_
    rintro e w' ⟨rfl, rfl⟩
    rw [hk]
    go_wp2_with fail
    refine (filledRows_any 56 #[.pointer (some ⟨w.heap.size, 0, none⟩)] T.length (fun a b => mul T b a) _ k9 HC.out (fun wr a b ha hb hbl => ?_)).mono ?_
    · have hs : w.heap.size ≤ wr.heap.size := Nat.le_trans (by simp) hbl.size
      exact turned1_any A c lo hi w.heap.size T a b wr (h.below (b0.trans (hbl.mono (by simp))) hh) (Nat.le_trans hh hs) k (hcell wr hbl) ha hb
    · rintro e w1 ⟨rfl, b1, o1⟩
      go_wp2
      go_ret
      have es : (w.alloc (Obj.cells #[Value.slice A T.length c] 42)).heap.size = w.heap.size + 1 := by simp
      rw [es] at o1
      refine ⟨some ⟨w.heap.size + 1, 0, none⟩, T.length, ret_slice (by rw [HT.out, len_tabOf]), b0.trans (b1.mono (by simp)), ?_⟩
      rw [HT.out]
      exact o1.mono (by omega) (Nat.le_refl _)

/-- The specification's table under way: k rows are there. -/
noncomputable def colT (T : List (List Int)) (x k : Nat) : List Int := (List.range k).map fun j => mul T (j : Nat) (x : Nat)
noncomputable def colsT (T : List (List Int)) (k : Nat) : List (List Int) := (List.range k).map fun x => colT T x T.length
theorem colT_succ (T : List (List Int)) (x k : Nat) : colT T x k ++ [mul T (k : Nat) (x : Nat)] = colT T x (k + 1) := by simp [colT, List.range_succ]
theorem colsT_succ (T : List (List Int)) (k : Nat) : colsT T k ++ [colT T k T.length] = colsT T (k + 1) := by simp [colsT, List.range_succ]
theorem len_colT (T : List (List Int)) (x k : Nat) : (colT T x k).length = k := by simp [colT]
theorem len_colsT (T : List (List Int)) (k : Nat) : (colsT T k).length = k := by simp [colsT]

set_option maxHeartbeats 2000000 in
theorem sTurnedOf_any (A : Option Addr) (c lo hi : Nat) (T : List (List Int)) (w : World) (h : Mat w lo hi A T) (hh : hi ≤ w.heap.size) (hS : Small T) :
    Calls Try.prog 60 #[.slice A T.length c] w (NewTab w (turnT T)) := by
  have hlT := hS.len
  cases hk : okT T
  · have HT := hide (turnT_not hk)
    have b0 := (Below.refl w.heap.size w).alloc (Nat.le_refl _) (.cells #[] 28)
    have fin : NewTab w (turnT T) (.returned (.slice (some ⟨w.heap.size, 0, none⟩) 0 0)) (w.alloc (.cells #[] 28)) := by
      rw [HT.out]; exact ⟨_, 0, rfl, b0, Mat.nil _ _ _ _⟩
    by_cases h0 : T.length = 0
    · have hz : ¬ (0 : Int) < (T.length : Int) := by omega
      clear h0
      go_enter Try.func60, Try.ntmps60
      go_wp2
      go_loopg [4, 3] 1 (fun g i v wr => i = .int .i64 0 ∧ v = .slice (some ⟨w.heap.size, 0, none⟩) 0 0 ∧ wr = w.alloc (.cells #[] 28))
      case atStart => exact ⟨rfl, rfl, rfl⟩
      case round =>
        obtain ⟨rfl, rfl, rfl⟩ := hrel
        go_wp2
        go_ret
        exact fin
    · have hz : (0 : Int) < (T.length : Int) := by omega
      go_enter Try.func60, Try.ntmps60
      go_wp2
      go_loopg [4, 3] 1 (fun g i v wr => i = .int .i64 0 ∧ v = .slice (some ⟨w.heap.size, 0, none⟩) 0 0 ∧ wr = w.alloc (.cells #[] 28))
      case atStart => exact ⟨rfl, rfl, rfl⟩
      case round =>
        obtain ⟨rfl, rfl, rfl⟩ := hrel
        go_wp2_with (go_at_call 62; refine (sTableOk_any _ _ _ _ _ _ (h.below b0 hh) hS).mono ?_; rintro e w' ⟨rfl, rfl⟩; rw [hk])
        go_ret
        exact fin
  · have k := okT_iff.1 hk
    have k9 := k.hi
    have HT := hide (turnT_ok hk)
    have b0 := (Below.refl w.heap.size w).alloc (Nat.le_refl _) (.cells #[] 28)
    go_enter Try.func60, Try.ntmps60
    go_wp2
    go_loopg [4, 3] T.length (fun g i v wr => ∃ p : Nat, p ≤ T.length ∧ g = T.length - p ∧ i = .int .i64 p ∧ ATab w.heap.size wr v (colsT T p) ∧ Below w.heap.size w wr)
    case atStart => exact ⟨0, Nat.zero_le _, rfl, rfl, ATab.made (Nat.le_refl _), b0⟩
    case round =>
      obtain ⟨p, hp, rfl, rfl, hA, hB⟩ := hrel
      clear b0
      by_cases hlt : p < T.length
      · go_wp2_with (go_at_call 62; refine (sTableOk_any _ _ _ _ _ _ (h.below hB hh) hS).mono ?_; rintro e w' ⟨rfl, rfl⟩; rw [hk])
        obtain ⟨wo, rfl⟩ : ∃ wo : World, wo = wr := ⟨_, rfl⟩
        have hb1 := (Below.refl wo.heap.size wo).alloc (Nat.le_refl _) (.cells #[] 3)
        have hr0 := ARow.made (w := wo) (Nat.le_refl _)
        go_loopg [6, 5] T.length (fun g i u wi => ∃ q : Nat, q ≤ T.length ∧ g = T.length - q ∧ i = .int .i64 q ∧ ARow wo.heap.size wi u (colT T p q) ∧ Below wo.heap.size wo wi)
        case atStart => exact ⟨0, Nat.zero_le _, rfl, rfl, hr0, hb1⟩
        case round =>
          clear hb1 hr0
          obtain ⟨q, hq, rfl, rfl, hR, hW⟩ := hrel
          have hwi : w.heap.size ≤ wo.heap.size := hB.size
          by_cases hqt : q < T.length
          · have hBi := hB.trans (hW.mono hwi)
            obtain ⟨b, o, b2, o2, c', rfl, _, _, hc1, _, _, hc2⟩ := (h.below hBi hh).at_ k (x := (q : Nat)) (y := (p : Nat)) (by omega) (by omega) (by omega) (by omega)
            have hc1' : wr.cell? ⟨b, o + q, none⟩ = some (.slice (some ⟨b2, o2, none⟩) T.length c') := hc1
            have hc2' : wr.cell? ⟨b2, o2 + p, none⟩ = some (.int .i64 (mul T (q : Nat) (p : Nat))) := hc2
            clear hc1 hc2
            have hl := len_colT T p q
            have hl' : (colT T p q).length ≤ 1048576 := by omega
            clear hl
            have hs := hW.size
            go_wp2_with (at_builtin; refine wp_app_int rfl (.tmp 25) (.tmp 33) rfl wo.heap.size _ _ _ _ rfl rfl hR hl' hs ?_; intro v1 w1 hown1 hg1)
            go_roundg (T.length - (q + 1))
            case measure => go_light; omega
            case rel => go_light; exact ⟨q + 1, by omega, rfl, by go_num, by rw [← colT_succ]; exact hown1, hW.trans (hR.belowOf hg1 (Nat.le_refl _) hs)⟩
          · obtain rfl : q = T.length := by omega
            have hA2 := hA.below hW
            obtain ⟨Ar, cr, rfl, _, _, _⟩ := hR.val
            have hl' : (colsT T p).length ≤ 1048576 := by rw [len_colsT]; omega
            have hs2 : w.heap.size ≤ wr.heap.size := Nat.le_trans hwi hW.size
            go_wp2_with (at_builtin; refine wp_app_row rfl (.tmp 35) (.tmp 37) rfl w.heap.size _ _ _ _ _ rfl rfl hA2 (hR.mono hwi) hl' hs2 ?_; intro v1 w1 hown1 hg1)
            go_roundg (T.length - (p + 1))
            case measure => go_light; omega
            case rel => go_light; exact ⟨p + 1, by omega, rfl, by go_num, by rw [← colsT_succ]; exact hown1, (hB.trans (hW.mono hwi)).trans (hA2.belowOf hg1 (Nat.le_refl _) hs2)⟩
      · obtain rfl : p = T.length := by omega
        go_wp2
        go_ret
        obtain ⟨A', c', rfl, _, _, hM⟩ := hA.val
        have e : turnT T = colsT T T.length := HT.out
        exact ⟨A', c', ret_slice (by rw [e]), hB, by rw [e]; exact hM⟩
end Go.Proofs.Ytaceakfbkhkopaa
