/-  -/
import Derived.Test.YtnennilpedediaaLevQ
import Derived.Test.YtnennilpedediaaIband
import Derived.Test.YtnennilpedediaaIrectOk
import Derived.Test.YtnennilpedediaaPartI
import Derived.Test.YtnennilpedediaaORow
import Derived.Deep.RegionHeld3
namespace Go.Proofs.Ytnennilpedediaa
open Go.RowKit
set_option linter.unusedVariables false


theorem inLev_rules (T : List (List Int)) (a b : Nat) : inLev T a b = (rRect T a b && rRect T b a) := rfl
theorem inLev_comm (T : List (List Int)) (a b : Nat) : inLev T a b = inLev T b a := by unfold inLev; exact Bool.and_comm _ _

set_option maxHeartbeats 2000000 in
theorem onLevel_any (A : Option Addr) (c lo hi : Nat) (T : List (List Int)) (a b : Nat) (w : World) (h : Mat w lo hi A T) (hh : hi ≤ w.heap.size) (k : IsT T) (ha : a < T.length) (hb : b < T.length) :
    Calls Try.prog 81 #[.agg #[.slice A T.length c], .int .i64 a, .int .i64 b] w fun e w' => e = .returned (.bool (inLev T a b)) ∧ Below w.heap.size w w' := by
  have b0 := (Below.refl w.heap.size w).alloc (Nat.le_refl _) (.cells #[.slice A T.length c] 61)
  have z0 : hi ≤ (w.alloc (.cells #[.slice A T.length c] 61)).heap.size := by simp; omega
  have HL := hide (inLev_rules T a b)
  cases e1 : rRect T a b
  · go_enter Try.func81, Try.ntmps81
    go_wp2_with fail
    refine (back_any A c lo hi T a b _ (h.below b0 hh) z0 k ha hb).mono ?_
    rw [e1]
    rintro e w1 ⟨rfl, b1⟩
    have bb1 := b0.trans (b1.mono (by simp))
    go_wp2
    go_ret
    exact ⟨ret_bool (by rw [HL.out, e1]; rfl), bb1⟩
  · go_enter Try.func81, Try.ntmps81
    go_wp2_with fail
    refine (back_any A c lo hi T a b _ (h.below b0 hh) z0 k ha hb).mono ?_
    rw [e1]
    rintro e w1 ⟨rfl, b1⟩
    have bb1 := b0.trans (b1.mono (by simp))
    have z1 := bb1.size
    have hcell : w1.cell? ⟨w.heap.size, 0, none⟩ = some (.slice A T.length c) := (b1.cell (p := ⟨w.heap.size, 0, none⟩) (by simp)).trans (by simp)
    go_wp2_with fail
    refine (back_any A c lo hi T b a _ (h.below bb1 hh) (by omega) k hb ha).mono ?_
    rintro e w2 ⟨rfl, b2⟩
    go_wp2
    go_ret
    exact ⟨ret_bool (by rw [HL.out, e1]; rfl), bb1.trans (b2.mono z1)⟩

theorem fs_at {r : Nat → Nat → Bool} {a p : Nat} (hp : p < a) (h : r a p = true) (hH : ∀ q, q < p → r a q = false) : fs r a = p := by
  have hn : rp r a = false := by
    cases e : rp r a with
    | false => rfl
    | true => rw [rp_iff.1 e p hp] at h; cases h
  obtain ⟨h1, h2, h3⟩ := fs_some hn
  rcases Nat.lt_trichotomy (fs r a) p with hl | hl | hl
  · rw [hH _ hl] at h2; cases h2
  · exact hl
  · rw [h3 p hl] at h; cases h
/-- The things on a level with a thing. -/
def levA (T : List (List Int)) (a k : Nat) : Nat := msk (inLev T a) k
theorem levA_no {T : List (List Int)} {a k : Nat} (h : inLev T a k = false) : levA T a (k + 1) = levA T a k := by unfold levA; simp [msk, h]
theorem levA_yes {T : List (List Int)} {a k : Nat} (h : inLev T a k = true) : levA T a (k + 1) = levA T a k ||| 2 ^ k := by unfold levA; rw [msk_or, if_pos h]
theorem levA_lt (T : List (List Int)) (a k : Nat) : levA T a k < 2 ^ k := msk_lt _ _
theorem levA_is {T : List (List Int)} (h : bandT T = true) {a : Nat} (ha : a < T.length) : levA T a T.length = levB T (num (inLev T) a) := by
  have E := band_eqvL h
  apply Nat.eq_of_testBit_eq
  intro i
  rw [Bool.eq_iff_iff, levB_bit]
  unfold levA
  rw [msk_bit, Bool.and_eq_true, decide_eq_true_iff]
  constructor
  · rintro ⟨h1, h2⟩
    exact ⟨h1, (E.num_eq ha h1 h2).symm⟩
  · rintro ⟨h1, h2⟩
    exact ⟨h1, E.num_ne ha h1 h2.symm⟩

set_option maxHeartbeats 2000000 in
theorem firstOn_any (A : Option Addr) (c lo hi : Nat) (T : List (List Int)) (a : Nat) (w : World) (h : Mat w lo hi A T) (hh : hi ≤ w.heap.size) (k : IsT T) (ha : a < T.length) :
    Calls Try.prog 68 #[.agg #[.slice A T.length c], .int .i64 a] w fun e w' => e = .returned (.int .i64 ((fs (inLev T) a : Nat) : Int)) ∧ Below w.heap.size w w' := by
  have k9 := k.hi
  have b0 := (Below.refl w.heap.size w).alloc (Nat.le_refl _) (.cells #[.slice A T.length c] 61)
  have e0 := heap_alloc_new w (.cells #[.slice A T.length c] 61)
  have z0 : (w.alloc (.cells #[.slice A T.length c] 61)).heap.size = w.heap.size + 1 := by simp
  have MK := hide (fun (W : World) (hW : Below (w.heap.size + 1) (w.alloc (.cells #[.slice A T.length c] 61)) W) =>
    (show W.cell? ⟨w.heap.size, 0, none⟩ = some (.slice A T.length c) from by
      rw [cell_of_row W w.heap.size 0 _ _ _ ((hW.block w.heap.size (by omega)).trans e0)]; rfl))
  have MM := hide (fun (W : World) (hW : Below (w.heap.size + 1) (w.alloc (.cells #[.slice A T.length c] 61)) W) =>
    (⟨h.below (b0.trans (hW.mono (by omega))) hh, Nat.le_trans hh (b0.trans (hW.mono (by omega))).size, b0.trans (hW.mono (by omega)), Nat.le_trans (Nat.le_of_eq z0.symm) hW.size⟩ : Mat W lo hi A T ∧ hi ≤ W.heap.size ∧ Below w.heap.size w W ∧ w.heap.size + 1 ≤ W.heap.size))
  clear e0 z0
  go_enter Try.func68, Try.ntmps68
  go_wp2
  go_loopg [7] a (fun g i wr => ∃ p : Nat, p ≤ a ∧ Hid (g = a - p) ∧ i = .int .i64 p ∧ Below (w.heap.size + 1) (w.alloc (.cells #[.slice A T.length c] 61)) wr ∧ Hid (∀ q, q < p → inLev T a q = false))
  case atStart => exact ⟨0, Nat.zero_le _, rfl, rfl, Below.refl _ _, fun _ hj => absurd hj (Nat.not_lt_zero _)⟩
  case round =>
    obtain ⟨p, hp, hgk, rfl, hB, hH⟩ := hrel
    have hcell := MK.out _ hB
    obtain ⟨hM, hs, hW, hz⟩ := MM.out _ hB
    by_cases hlt : p < a
    · cases hr : inLev T p a
      · go_wp2_with (refine (onLevel_any A c lo hi T p a wr hM hs k (by omega) ha).mono ?_; rw [hr]; rintro e w1 ⟨rfl, b1⟩)
        go_roundg (a - (p + 1))
        case measure => go_light; have := hgk.out; omega
        case rel => go_light; exact ⟨p + 1, by omega, rfl, by go_num, hB.trans (b1.mono hz), fun j hj => by
          by_cases e : j = p
          · subst e; rw [inLev_comm]; exact hr
          · exact hH j (by omega)⟩
      · have HF := hide (show fs (inLev T) a = p from fs_at hlt (by rw [inLev_comm]; exact hr) hH.out)
        go_wp2_with (refine (onLevel_any A c lo hi T p a wr hM hs k (by omega) ha).mono ?_; rw [hr]; rintro e w1 ⟨rfl, b1⟩)
        go_ret
        rw [HF.out]
        exact ⟨rfl, hW.trans (b1.mono hW.size)⟩
    · obtain rfl : a = p := by omega
      have HF := hide (show fs (inLev T) a = a from fs_rp (rp_iff.2 hH.out))
      go_wp2
      go_ret
      rw [HF.out]
      exact ⟨rfl, hW⟩

end Go.Proofs.Ytnennilpedediaa

namespace Go.Proofs.Ytnennilpedediaa
open Go.RowKit
set_option linter.unusedVariables false

section
variable {P : Program} {w W : World} {t k e : TypeId} {b clock i : Nat} {es : Array MapEntry} {x : Int} {v : Value}
theorem updI_run (ht : P.underlying t = some (.map k e)) (hk : P.underlying k = some (.int .i64)) (hM : MapAt w W b es clock) (hnew : Instr.findNow (.int .i64) (.int .i64 x) es.toList 0 = some none) :
    ∃ W', (Instr.mapUpdate t (.map (some b)) (.int .i64 x) v).run P W = .ok () W' ∧ MapAt w W' b (es.push { key := .int .i64 x, val := v, born := clock }) (clock + 1) ∧ ∀ j, j ≠ b → W'.heap[j]? = W.heap[j]? := by
  obtain ⟨hb, h1, h2⟩ := hM
  refine ⟨{ W with heap := W.heap.setIfInBounds b (.map (es.push { key := .int .i64 x, val := v, born := clock }) (clock + 1)) }, ?_, ⟨(MapKept.heap_set hb).1, h1, ⟨h2.os, h2.tape, h2.output, by simpa using h2.size, fun j hj => ((MapKept.heap_set hb).2 j (by omega)).trans (h2.block j hj)⟩⟩, (MapKept.heap_set hb).2⟩
  simp [Instr.mapUpdate, run_underlying ht, MapKept.run_getObj_map hb, MapKept.run_checkKey (k := .int .i64 x) hk (by simp [MapKept.IsKey]), MapKept.run_findKey hk hnew, MapKept.run_setObj_map _ hb, Result.andThen]
theorem lookI_run (ht : P.underlying t = some (.map k e)) (hk : P.underlying k = some (.int .i64)) (hM : MapAt w W b es clock) (hold : Instr.findNow (.int .i64) (.int .i64 x) es.toList 0 = some (some (i, v))) :
    (Instr.lookup t (.map (some b)) (.int .i64 x) false).run P W = .ok v W := by
  obtain ⟨hb, h1, h2⟩ := hM
  cases he : es.isEmpty
  all_goals simp [Instr.lookup, run_underlying ht, MapKept.run_getObj_map hb, MapKept.run_checkKey (k := .int .i64 x) hk (by simp [MapKept.IsKey]), MapKept.run_findKey hk hold, Result.andThen]
theorem lenI_run {r : TypeId} (ht : P.underlying t = some (.map k e)) (hM : MapAt w W b es clock) :
    (Builtin.len_ #[t] r #[.map (some b)]).run P W = .ok (.int .i64 (es.size : Nat)) W := by
  obtain ⟨hb, h1, h2⟩ := hM
  simp [Builtin.len_, run_underlying ht, MapKept.run_getObj_map hb, Result.andThen, goInt]
end

theorem find_app {d : TypeDesc} {x : Value} : ∀ (l m : List MapEntry) (i : Nat), Instr.findNow d x l i = some none → Instr.findNow d x (l ++ m) i = Instr.findNow d x m (i + l.length)
  | [], m, i, _ => rfl
  | e :: l, m, i, h => by
    simp only [List.cons_append, Instr.findNow] at h ⊢
    cases hs : Instr.sameNow d x e.key with
    | none => rw [hs] at h; cases h
    | some r =>
      cases r with
      | true => rw [hs] at h; cases h
      | false =>
        rw [hs] at h
        have := find_app l m (i + 1) h
        simp only [List.length_cons]
        rw [show i + (l.length + 1) = i + 1 + l.length from by omega]
        exact this
theorem find_hit {d : TypeDesc} {x : Value} {r : Nat × Value} : ∀ (l m : List MapEntry) (i : Nat), Instr.findNow d x l i = some (some r) → Instr.findNow d x (l ++ m) i = some (some r)
  | [], m, i, h => by cases h
  | e :: l, m, i, h => by
    simp only [List.cons_append, Instr.findNow] at h ⊢
    cases hs : Instr.sameNow d x e.key with
    | none => rw [hs] at h; cases h
    | some q =>
      cases q with
      | true => rw [hs] at h; exact h
      | false =>
        rw [hs] at h
        exact find_hit l m (i + 1) h
/-- The entries for the first things below k. -/
def entL (T : List (List Int)) : Nat → List MapEntry
  | 0 => []
  | k + 1 => entL T k ++ (if rp (inLev T) k = true then [{ key := .int .i64 (k : Nat), val := .int .i64 (ct (inLev T) k : Nat), born := ct (inLev T) k }] else [])
section
variable {T : List (List Int)}
theorem entL_no {k : Nat} (h : rp (inLev T) k = false) : entL T (k + 1) = entL T k := by simp [entL, h]
theorem entL_yes {k : Nat} (h : rp (inLev T) k = true) : entL T (k + 1) = entL T k ++ [{ key := .int .i64 (k : Nat), val := .int .i64 (ct (inLev T) k : Nat), born := ct (inLev T) k }] := by simp [entL, h]
theorem len_entL : ∀ k, (entL T k).length = ct (inLev T) k
  | 0 => rfl
  | k + 1 => by
    cases h : rp (inLev T) k
    · rw [entL_no h, ct_not h, len_entL k]
    · rw [entL_yes h, ct_rp h, List.length_append, len_entL k]; rfl
theorem same_int (a b : Int) : Instr.sameNow (.int .i64) (.int .i64 a) (.int .i64 b) = some (a == b) := by simp [Instr.sameNow]
theorem find_none (T : List (List Int)) {a : Nat} : ∀ k i, k ≤ a → Instr.findNow (.int .i64) (.int .i64 (a : Nat)) (entL T k) i = some none
  | 0, i, _ => rfl
  | k + 1, i, hk => by
    have hp := find_none T (a := a) k i (by omega)
    cases h : rp (inLev T) k
    · rw [entL_no h]; exact hp
    · rw [entL_yes h, find_app _ _ _ hp]
      have e : (((a : Nat) : Int) == ((k : Nat) : Int)) = false := beq_eq_false_iff_ne.2 (by omega)
      simp only [Instr.findNow, same_int, e]
theorem find_some {a : Nat} (ha : rp (inLev T) a = true) : ∀ k, a < k → Instr.findNow (.int .i64) (.int .i64 (a : Nat)) (entL T k) 0 = some (some (ct (inLev T) a, .int .i64 (ct (inLev T) a : Nat)))
  | 0, hk => absurd hk (Nat.not_lt_zero _)
  | k + 1, hk => by
    by_cases e : a = k
    · subst e
      rw [entL_yes ha, find_app _ _ _ (find_none T (a := a) a 0 (Nat.le_refl _)), len_entL]
      simp [Instr.findNow, same_int]
    · have hp := find_some ha k (by omega)
      cases h : rp (inLev T) k
      · rw [entL_no h]; exact hp
      · rw [entL_yes h]; exact find_hit _ _ _ hp
theorem entA_push {k : Nat} (h : rp (inLev T) k = true) : (entL T k).toArray.push { key := .int .i64 (k : Nat), val := .int .i64 (ct (inLev T) k : Nat), born := ct (inLev T) k } = (entL T (k + 1)).toArray := by rw [entL_yes h]; simp
end
end Go.Proofs.Ytnennilpedediaa

namespace Go.Proofs.Ytnennilpedediaa
open Go.RowKit
set_option linter.unusedVariables false


theorem MapAt.below {w W W' : World} {b clock : Nat} {es : Array MapEntry} (h : MapAt w W b es clock) (hb : Below W.heap.size W W') : MapAt w W' b es clock := by
  obtain ⟨h1, h2, h3⟩ := h
  exact ⟨(hb.block b (Array.getElem?_eq_some_iff.1 h1).1).trans h1, h2, h3.trans (hb.mono h3.size)⟩
theorem MapAt.later {w W W' : World} {b clock n : Nat} {es : Array MapEntry} (h : MapAt w W b es clock) (hb : Below n W W') (hn : b < n) (hw : w.heap.size ≤ n) : MapAt w W' b es clock := by
  obtain ⟨h1, h2, h3⟩ := h
  exact ⟨(hb.block b hn).trans h1, h2, h3.trans (hb.mono hw)⟩
theorem MapAt.lt {w W : World} {b clock : Nat} {es : Array MapEntry} (h : MapAt w W b es clock) : b < W.heap.size := (Array.getElem?_eq_some_iff.1 h.1).1
theorem fs_same_rp (r : Nat → Nat → Bool) (a : Nat) : (((fs r a : Nat) : Int) == ((a : Nat) : Int)) = rp r a := by
  cases h : rp r a
  · have := (fs_some h).1
    exact beq_eq_false_iff_ne.2 (by omega)
  · rw [fs_rp h]; simp
theorem size_entA (T : List (List Int)) (k : Nat) : (entL T k).toArray.size = ct (inLev T) k := by rw [List.size_toArray, len_entL]

set_option maxRecDepth 20000 in
set_option maxHeartbeats 4000000 in
theorem levelNumbers_any (A : Option Addr) (c lo hi : Nat) (T : List (List Int)) (w : World) (h : Mat w lo hi A T) (hh : hi ≤ w.heap.size) (k : IsT T) :
    Calls Try.prog 49 #[.agg #[.slice A T.length c]] w fun e w' => ∃ b, e = .returned (.map (some b)) ∧ MapAt w w' b (entL T T.length).toArray (ct (inLev T) T.length) := by
  have k9 := k.hi
  have hmm := @run_makeMap Try.prog
  obtain ⟨w0, hw0⟩ : ∃ w0, w0 = w.alloc (.cells #[.slice A T.length c] 61) := ⟨_, rfl⟩
  have b0 : Below w.heap.size w w0 := by rw [hw0]; exact (Below.refl w.heap.size w).alloc (Nat.le_refl _) _
  have e0 : w0.heap[w.heap.size]? = some (.cells #[.slice A T.length c] 61) := by rw [hw0]; exact heap_alloc_new w _
  have z0 : w0.heap.size = w.heap.size + 1 := by rw [hw0]; simp
  have hM0 : MapAt w0 (w0.alloc (.map #[] 0)) w0.heap.size (entL T 0).toArray (ct (inLev T) 0) := ⟨(MapKept.heap_alloc w0 _).1, Nat.le_refl _, (Below.refl w0.heap.size w0).alloc (Nat.le_refl _) _⟩
  have MK := hide (fun (W : World) b es cl (hW : MapAt w0 W b es cl) =>
    (⟨by rw [cell_of_row W w.heap.size 0 _ _ _ ((hW.2.2.block w.heap.size (by omega)).trans e0)]; rfl, h.below (b0.trans (hW.2.2.mono (by omega))) hh, Nat.le_trans hh (b0.trans (hW.2.2.mono (by omega))).size, b0.trans (hW.2.2.mono (by omega))⟩ :
      W.cell? ⟨w.heap.size, 0, none⟩ = some (.slice A T.length c) ∧ Mat W lo hi A T ∧ hi ≤ W.heap.size ∧ Below w.heap.size w W))
  have HZ := hide z0
  rw [z0] at hM0
  have HM0 := hide hM0
  have HW0 := hide hw0
  clear e0 z0 hM0 hw0
  go_enter Try.func49, Try.ntmps49
  go_wp2
  rw [← HW0.out]
  go_loopg [10] T.length (fun g i wr => ∃ p : Nat, p ≤ T.length ∧ Hid (g = T.length - p) ∧ i = .int .i64 p ∧ MapAt w0 wr (w.heap.size + 1) (entL T p).toArray (ct (inLev T) p))
  case atStart => exact ⟨0, Nat.zero_le _, rfl, rfl, HM0.out⟩
  case round =>
    obtain ⟨p, hp, hgk, rfl, hM⟩ := hrel
    obtain ⟨hcell, hT, hs, hW⟩ := MK.out _ _ _ _ hM
    by_cases hlt : p < T.length
    · cases hr : rp (inLev T) p
      · have HN := hide (entL_no hr)
        have HC := hide (ct_not hr)
        have hq := fs_same_rp (inLev T) p
        rw [hr] at hq
        go_wp2_with fail
        refine (firstOn_any A c lo hi T p wr hT hs k hlt).mono ?_
        rintro e w1 ⟨rfl, b1⟩
        have HM := hide (hM.below b1)
        clear hM
        go_wp2
        go_roundg (T.length - (p + 1))
        case measure => go_light; have := hgk.out; omega
        case rel => go_light; exact ⟨p + 1, by omega, rfl, by go_num, by rw [HN.out, HC.out]; exact HM.out⟩
      · have hq := fs_same_rp (inLev T) p
        rw [hr] at hq
        have HP := hide (entA_push hr)
        have HC := hide (ct_rp hr)
        go_wp2_with fail
        refine (firstOn_any A c lo hi T p wr hT hs k hlt).mono ?_
        rintro e w1 ⟨rfl, b1⟩
        have hM1 := hM.below b1
        clear hM
        have hlen := lenI_run (r := 3) Try.underlying59 hM1
        rw [size_entA] at hlen
        obtain ⟨w2, hup, hM2, _⟩ := updI_run (v := .int .i64 (ct (inLev T) p : Nat)) Try.underlying59 Try.underlying3 hM1 (find_none T (a := p) p 0 (Nat.le_refl _))
        have HM2 := hide hM2
        clear hM1 hM2
        go_wp2
        go_roundg (T.length - (p + 1))
        case measure => go_light; have := hgk.out; omega
        case rel => go_light; exact ⟨p + 1, by omega, rfl, by go_num, by rw [← HP.out, HC.out]; exact HM2.out⟩
    · obtain rfl : T.length = p := by omega
      go_wp2
      go_ret
      exact ⟨w.heap.size + 1, rfl, ⟨hM.1, by omega, hW⟩⟩

theorem nL_ct (T : List (List Int)) : ct (inLev T) T.length = nL T := rfl
set_option maxHeartbeats 2000000 in
theorem iCountLevels_any (A : Option Addr) (c lo hi : Nat) (T : List (List Int)) (w : World) (h : Mat w lo hi A T) (hh : hi ≤ w.heap.size) (hS : Small T) :
    Calls Try.prog 17 #[.slice A T.length c] w fun e w' => e = .returned (.int .i64 (countT T)) ∧ Below w.heap.size w w' := by
  cases hb : bandT T
  · have HE : Hid (countT T = -1) := by show _ = _; unfold countT; rw [if_neg (by rw [hb]; exact Bool.false_ne_true)]
    go_enter Try.func17, Try.ntmps17
    go_wp2_with fail
    refine (iBandOk_any A c lo hi T w h hh hS).mono ?_
    rw [hb]
    rintro e w1 ⟨rfl, b1⟩
    go_wp2
    go_ret
    exact ⟨ret_int HE.out.symm, b1⟩
  · have HE : Hid (countT T = ((ct (inLev T) T.length : Nat) : Int)) := by show _ = _; unfold countT; rw [if_pos hb]; rfl
    have k := band_tab hb
    go_enter Try.func17, Try.ntmps17
    go_wp2_with fail
    refine (iBandOk_any A c lo hi T w h hh hS).mono ?_
    rw [hb]
    rintro e w1 ⟨rfl, b1⟩
    go_wp2_with fail
    refine (levelNumbers_any A c lo hi T w1 (h.below b1 hh) (Nat.le_trans hh b1.size) k).mono ?_
    rintro e w2 ⟨bm, rfl, hM⟩
    have hlen := lenI_run (r := 3) Try.underlying59 hM
    rw [size_entA] at hlen
    have hB := b1.trans (hM.2.2.mono b1.size)
    clear hM
    go_wp2
    go_ret
    exact ⟨ret_int HE.out.symm, hB⟩

/-- A row of numbers under way. -/
def LvF (w : World) (g n k : Nat) (f : Nat → Int) : Prop := w.rowIs g 3 n (fun i => .int .i64 (if i < k then f i else 0))
theorem LvF.next {w : World} {g n k : Nat} {f : Nat → Int} (h : LvF w g n k f) : LvF (w.setCell ⟨g, k, none⟩ (.int .i64 (f k))) g n (k + 1) f := (World.rowIs.set h k _).congr fun i _ => by
  by_cases e : i = k
  · subst e; simp
  · rw [if_neg e]
    by_cases hl : i < k
    · rw [if_pos hl, if_pos (by omega)]
    · rw [if_neg hl, if_neg (by omega)]
theorem LvF.done {w : World} {g n : Nat} {f : Nat → Int} (h : LvF w g n n f) {lo hi : Nat} (h1 : lo ≤ g) (h2 : g < hi) : ORow w lo hi (some ⟨g, 0, none⟩) ((List.range n).map f) :=
  .inr ⟨g, rfl, h1, h2, Cells.of_rowIs h (by simp) (fun j hj => by
    have hj' : j < n := by simpa using hj
    simp [hj', el, List.getD])⟩
theorem LvF.below {w w' : World} {g n k : Nat} {f : Nat → Int} (h : LvF w g n k f) (hb : Below w.heap.size w w') : LvF w' g n k f := by
  have hl := World.rowIs.lt h
  exact World.rowIs.of_block h (hb.block g hl)
end Go.Proofs.Ytnennilpedediaa
