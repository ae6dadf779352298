
/- Marks written into a table of the call's own, and read back. -/
import Derived.Test.YtnennilpedediaaHelp
namespace Go.Proofs.Ytnennilpedediaa
open Go.RowKit
set_option linter.unusedVariables false


/-- n numbers from k on. -/
def marks (n : Nat) (k : Int) : List Int := (List.range n).map fun i => k + (i : Nat)
theorem len_marks (n : Nat) (k : Int) : (marks n k).length = n := by simp [marks]
theorem el_marks {n j : Nat} {k : Int} (h : j < n) : el (marks n k) j = k + j := by simp [el, marks, List.getD, h]
/-- How many numbers the first i rows have. -/
def off (T : List (List Int)) : Nat → Nat
  | 0 => 0
  | i + 1 => off T i + (rw_ T i).length
theorem off_le {T : List (List Int)} (hS : Small T) : ∀ i, i ≤ T.length → off T i ≤ i * 1048576
  | 0, _ => Nat.zero_le _
  | i + 1, h => by
    have := off_le hS i (by omega)
    have := hS.row i (by omega)
    simp only [off]; omega
/-- The table with its first p rows marked from k on. -/
def mixT (T : List (List Int)) (k : Int) (p : Nat) : List (List Int) := (List.range T.length).map fun i => if i < p then marks (rw_ T i).length (k + off T i) else rw_ T i
theorem len_mixT (T : List (List Int)) (k : Int) (p : Nat) : (mixT T k p).length = T.length := by simp [mixT]
theorem row_mixT {T : List (List Int)} {k : Int} {p i : Nat} (h : i < T.length) : rw_ (mixT T k p) i = if i < p then marks (rw_ T i).length (k + off T i) else rw_ T i := by
  simp [mixT, rw_, List.getD, h]
theorem rowlen_mixT {T : List (List Int)} {k : Int} {p i : Nat} (h : i < T.length) : (rw_ (mixT T k p) i).length = (rw_ T i).length := by
  rw [row_mixT h]; split
  · rw [len_marks]
  · rfl
theorem mixT_zero (T : List (List Int)) (k : Int) : mixT T k 0 = T := by
  apply List.ext_getElem
  · simp [mixT]
  · intro i h1 h2
    simp [mixT, rw_, List.getD, h2]

theorem cell_set_same {w : World} {p : Addr} {u v : Value} (h : w.cell? p = some u) : (w.setCell p v).cell? p = some v := by
  have hs := World.cell?_spot h
  simp only [World.cell?, World.setCell, Array.getElem?_modify, if_true] at h ⊢
  cases e : w.heap[p.block]? with
  | none => simp [e] at h
  | some o =>
    cases o <;> simp [e, hs] at h ⊢
    rw [Array.getElem?_setIfInBounds, if_pos rfl]
    obtain ⟨hlt, _⟩ := Array.getElem?_eq_some_iff.1 h
    rw [if_pos hlt]
theorem frozen_set (w : World) (p q : Addr) (v : Value) : (w.setCell p v).frozen? q = w.frozen? q := by
  simp only [World.frozen?, World.setCell, Array.getElem?_modify]
  by_cases e : p.block = q.block
  · rw [if_pos e]
    cases w.heap[q.block]? with
    | none => rfl
    | some o => cases o <;> rfl
  · rw [if_neg e]

set_option maxHeartbeats 1000000 in
theorem markIntS_any (g c : Nat) (xs : List Int) (k : Int) (w : World) (h : Cells w g xs) (hn : xs.length ≤ 1048576) (h0 : 0 ≤ k) (h1 : k ≤ 8796093022208) :
    Calls Try.prog 62 #[.slice (some ⟨g, 0, none⟩) xs.length c, .int .i64 k] w fun e w' => e = .returned (.int .i64 (k + xs.length)) ∧ Only g (g + 1) w w' ∧ Cells w' g (marks xs.length k) := by
  go_enter Try.func62, Try.ntmps62
  go_wp2
  go_loopg [5, 1] xs.length (fun m i v wr => ∃ p : Nat, p ≤ xs.length ∧ m = xs.length - p ∧ i = .int .i64 p ∧ v = .int .i64 (k + p) ∧ Only g (g + 1) w wr ∧ ∀ j, j < xs.length → ∃ z : Int, z = (if j < p then k + j else el xs j) ∧ wr.cell? ⟨g, j, none⟩ = some (.int .i64 z) ∧ wr.frozen? ⟨g, j, none⟩ = false)
  case atStart => exact ⟨0, Nat.zero_le _, rfl, rfl, by simp, Only.refl _ _ _, fun j hj => ⟨_, by simp, (h j hj).1, (h j hj).2⟩⟩
  case round =>
    obtain ⟨p, hp, rfl, rfl, rfl, hO, hC⟩ := hrel
    by_cases hlt : p < xs.length
    · obtain ⟨z, hz, hc, hf⟩ := hC p hlt
      clear hz
      go_wp2
      go_roundg (xs.length - (p + 1))
      case measure => go_light; omega
      case rel => go_light; exact ⟨p + 1, by omega, rfl, by go_num, by rw [show k + (p : Int) + 1 = k + ((p + 1 : Nat) : Int) from by omega], hO.setCell (Nat.le_refl _) (by show g < g + 1; omega) _, fun j hj => by
        by_cases e : j = p
        · subst e
          refine ⟨k + j, by rw [if_pos (by omega)], ?_, ?_⟩
          · exact cell_set_same hc
          · rw [frozen_set]; exact hf
        · obtain ⟨y, hy, hcy, hfy⟩ := hC j hj
          refine ⟨y, ?_, ?_, ?_⟩
          · rw [hy]
            by_cases hlt2 : j < p
            · rw [if_pos hlt2, if_pos (by omega)]
            · rw [if_neg hlt2, if_neg (by omega)]
          · rw [World.cell?_setCell_other _ _ _ _ (fun e2 => e (by injection e2 with _ h2 _; exact h2.symm))]; exact hcy
          · rw [frozen_set]; exact hfy⟩
    · obtain rfl : p = xs.length := by omega
      go_wp2
      go_ret
      refine ⟨rfl, hO, fun j hj => ?_⟩
      rw [len_marks] at hj
      obtain ⟨z, hz, hc, hf⟩ := hC j hj
      rw [el_marks hj, hc, hz, if_pos hj]
      exact ⟨rfl, hf⟩

theorem OMat.marked {w w' : World} {lo hi : Nat} {A : Option Addr} {T : List (List Int)} {k : Int} {p : Nat} {b o : Nat} {g C : Nat → Nat} (hp : p < T.length)
    (h1 : ∀ i, i < (mixT T k p).length → A = some ⟨b, o, none⟩ ∧ lo ≤ b ∧ b < hi ∧ g i ≠ b ∧ lo ≤ g i ∧ g i < hi ∧
      w.cell? ⟨b, o + i, none⟩ = some (.slice (some ⟨g i, 0, none⟩) (rw_ (mixT T k p) i).length (C i)) ∧ Cells w (g i) (rw_ (mixT T k p) i)) (h2 : ∀ i j, i < (mixT T k p).length → j < (mixT T k p).length → i ≠ j → g i ≠ g j)
    (hs : hi ≤ w.heap.size) (hO : Only (g p) (g p + 1) w w') (hC : Cells w' (g p) (marks (rw_ T p).length (k + off T p))) : OMat w' lo hi A (mixT T k (p + 1)) := by
  rw [len_mixT] at h1 h2
  refine ⟨b, o, g, C, fun i hi' => ?_, fun i j hi' hj hne => ?_⟩
  · rw [len_mixT] at hi'
    obtain ⟨e, a1, a2, a3, a4, a5, a6, a7⟩ := h1 i hi'
    obtain ⟨_, _, _, c3, c4, c5, _, _⟩ := h1 p hp
    refine ⟨e, a1, a2, a3, a4, a5, ?_, ?_⟩
    · rw [rowlen_mixT hi'] at a6 ⊢
      exact (World.cell?_of_block (w := w) (hO.block b (by omega) (by omega))).trans a6
    · by_cases ei : i = p
      · subst ei
        rw [row_mixT hi', if_pos (by omega)]; exact hC
      · have hne := h2 i p hi' hp ei
        rw [row_mixT hi'] at a7 ⊢
        have : (if i < p + 1 then marks (rw_ T i).length (k + off T i) else rw_ T i) = if i < p then marks (rw_ T i).length (k + off T i) else rw_ T i := by
          by_cases hlt : i < p
          · rw [if_pos hlt, if_pos (by omega)]
          · rw [if_neg hlt, if_neg (by omega)]
        rw [this]
        exact a7.keep (hO.block _ (by omega) (by omega))
  · rw [len_mixT] at hi' hj
    exact h2 i j hi' hj hne

set_option maxHeartbeats 1000000 in
theorem markIntSS_any (A : Option Addr) (c lo hi : Nat) (T : List (List Int)) (w : World) (h : OMat w lo hi A T) (hs : hi ≤ w.heap.size) (hS : Small T) (k : Int) (h0 : 0 ≤ k) (h1 : k ≤ 4398046511104) :
    Calls Try.prog 30 #[.slice A T.length c, .int .i64 k] w fun e w' => e = .returned (.int .i64 (k + off T T.length)) ∧ Only lo hi w w' ∧ OMat w' lo hi A (mixT T k T.length) := by
  have hl := hS.len
  go_enter Try.func30, Try.ntmps30
  go_wp2
  go_loopg [5, 1] T.length (fun m i v wr => ∃ p : Nat, p ≤ T.length ∧ m = T.length - p ∧ i = .int .i64 p ∧ v = .int .i64 (k + off T p) ∧ Only lo hi w wr ∧ OMat wr lo hi A (mixT T k p))
  case atStart => exact ⟨0, Nat.zero_le _, rfl, rfl, by simp [off], Only.refl _ _ _, by rw [mixT_zero]; exact h⟩
  case round =>
    obtain ⟨p, hp, rfl, rfl, rfl, hO, hM⟩ := hrel
    have hoff := off_le hS p hp
    by_cases hlt : p < T.length
    · obtain ⟨b, o, g, C, hM1, hM2⟩ := hM
      obtain ⟨rfl, a1, a2, a3, a4, a5, a6, a7⟩ := hM1 p (by rw [len_mixT]; exact hlt)
      rw [rowlen_mixT hlt] at a6
      rw [row_mixT hlt, if_neg (by omega)] at a7
      have hrl := hS.row p hlt
      have hws := hO.size
      have HN := hide (fun (w1 : World) (hO1 : Only (g p) (g p + 1) wr w1) (hC1 : Cells w1 (g p) (marks (rw_ T p).length (k + off T p))) => OMat.marked hlt hM1 hM2 (by omega) hO1 hC1)
      clear hM1 hM2
      go_wp2_with fail
      refine (markIntS_any (g p) _ (rw_ T p) (k + off T p) _ a7 hrl (by omega) (by omega)).mono ?_
      rintro e w1 ⟨rfl, hO1, hC1⟩
      have hnext := HN.out w1 hO1 hC1
      have hO2 := hO.trans (hO1.mono a4 (by omega : g p + 1 ≤ hi))
      clear a6 a7 hO1 hC1
      go_wp2
      go_roundg (T.length - (p + 1))
      case measure => go_light; omega
      case rel => go_light; exact ⟨p + 1, by omega, rfl, by go_num, by rw [show k + (off T p : Int) + ((rw_ T p).length : Int) = k + ((off T (p + 1) : Nat) : Int) from by simp only [off]; omega], hO2, hnext⟩
    · obtain rfl : p = T.length := by omega
      go_wp2
      go_ret
      exact ⟨rfl, hO, hM⟩

set_option maxHeartbeats 1000000 in
theorem heldIntS_any (A : Option Addr) (c lo hi n : Nat) (k : Int) (w : World) (h : Row w lo hi A (marks n k)) (hn : n ≤ 1048576) (h0 : 0 ≤ k) (h1 : k ≤ 8796093022208) :
    Calls Try.prog 63 #[.slice A n c, .int .i64 k] w fun e w' => e = .returned (.int .i64 (k + n)) ∧ w = w' := by
  go_enter Try.func63, Try.ntmps63
  go_wp2
  go_loopg [5, 1] n (fun m i v wr => ∃ p : Nat, p ≤ n ∧ m = n - p ∧ i = .int .i64 p ∧ v = .int .i64 (k + p) ∧ w = wr)
  case atStart => exact ⟨0, Nat.zero_le _, rfl, rfl, by simp, rfl⟩
  case round =>
    obtain ⟨p, hp, rfl, rfl, rfl, rfl⟩ := hrel
    by_cases hlt : p < n
    · obtain ⟨b, o, rfl, _, _, hc⟩ := h p (by rw [len_marks]; exact hlt)
      rw [el_marks hlt] at hc
      go_wp2
      go_roundg (n - (p + 1))
      case measure => go_light; omega
      case rel => go_light; exact ⟨p + 1, by omega, rfl, by go_num, by rw [show k + (p : Int) + 1 = k + ((p + 1 : Nat) : Int) from by omega], rfl⟩
    · obtain rfl : p = n := by omega
      go_wp2
      go_ret
      exact ⟨rfl, rfl⟩

set_option maxHeartbeats 1000000 in
theorem heldIntSS_any (A : Option Addr) (c lo hi : Nat) (T : List (List Int)) (w : World) (k : Int) (h : Mat w lo hi A (mixT T k T.length)) (hS : Small T) (h0 : 0 ≤ k) (h1 : k ≤ 4398046511104) :
    Calls Try.prog 31 #[.slice A T.length c, .int .i64 k] w fun e w' => e = .returned (.int .i64 (k + off T T.length)) ∧ w = w' := by
  have hl := hS.len
  go_enter Try.func31, Try.ntmps31
  go_wp2
  go_loopg [5, 1] T.length (fun m i v wr => ∃ p : Nat, p ≤ T.length ∧ m = T.length - p ∧ i = .int .i64 p ∧ v = .int .i64 (k + off T p) ∧ w = wr)
  case atStart => exact ⟨0, Nat.zero_le _, rfl, rfl, by simp [off], rfl⟩
  case round =>
    obtain ⟨p, hp, rfl, rfl, rfl, rfl⟩ := hrel
    have hoff := off_le hS p hp
    by_cases hlt : p < T.length
    · obtain ⟨b, o, A', c', rfl, _, _, hc, hR⟩ := h p (by rw [len_mixT]; exact hlt)
      rw [rowlen_mixT hlt] at hc
      rw [row_mixT hlt, if_pos hlt] at hR
      have hrl := hS.row p hlt
      have hsum : 0 ≤ k + (off T p : Int) + ((rw_ T p).length : Int) := by omega
      go_wp2_with fail
      refine (heldIntS_any _ _ _ _ _ _ _ hR hrl (by omega) (by omega)).mono ?_
      rintro e w1 ⟨rfl, rfl⟩
      go_wp2
      go_roundg (T.length - (p + 1))
      case measure => go_light; omega
      case rel => go_light; exact ⟨p + 1, by omega, rfl, by go_num, by rw [show k + (off T p : Int) + ((rw_ T p).length : Int) = k + ((off T (p + 1) : Nat) : Int) from by simp only [off]; omega], rfl⟩
    · obtain rfl : p = T.length := by omega
      go_wp2
      go_ret
      exact ⟨rfl, rfl⟩
end Go.Proofs.Ytnennilpedediaa
