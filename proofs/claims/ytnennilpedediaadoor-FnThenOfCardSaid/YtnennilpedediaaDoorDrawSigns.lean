
/- What chapter 9's laws draw: rows of signs. -/
import Derived.Test.YtnennilpedediaaDoorDrawWords
import Derived.Test.YtnennilpedediaaDoorDrawFrees
namespace Go.Proofs.YtnennilpedediaaDoor
open Go.RowKit
set_option linter.unusedVariables false
set_option linter.unusedSimpArgs false

/-- A step that gives a row of so many signs. -/
def RowStep (many : Nat) (w wi : World) (B g P : Nat) (A : Option Addr) (n c : Nat) (e : Ending) (wj : World) : Prop :=
  ∃ u P', e = .returned (.string (bs u)) ∧ u.length ≤ many ∧ St w wj B g P' A n c ∧ P' ≤ P + 45 ∧ Only g (g + 1) wi wj
set_option maxRecDepth 20000 in
set_option maxHeartbeats 4000000 in
theorem row3_st {w wi : World} {B g P n c : Nat} {A : Option Addr} (many : Nat) (s : St w wi B g P A n c) (hP : P ≤ 500) (hm : many ≤ 41) :
    Calls Tryd.prog 25 #[.pointer (some ⟨g, 0, none⟩), .int .i64 (many : Nat)] wi (RowStep many w wi B g P A n c) := by
  go_enter Tryd.func25, Tryd.ntmps25
  go_wp2
  go_loopg [6, 5] many (fun gk i v wr => ∃ (j : Nat) (u : List UInt8) (P' : Nat), j ≤ many ∧ Hid (gk = many - j) ∧ i = .int .i64 j ∧ v = .string (bs u) ∧ Hid (u.length = j) ∧ St w wr B g P' A n c ∧ Hid (P' ≤ P + j) ∧ Only g (g + 1) wi wr)
  case atStart => exact ⟨0, [], P, Nat.zero_le _, rfl, rfl, rfl, rfl, s, (show P ≤ P + 0 from Nat.le_refl _), Only.refl _ _ _⟩
  case round =>
    obtain ⟨j, u, P', hj, hg, rfl, rfl, hul, sj, hPj, hO⟩ := hrel
    by_cases hlt : j < many
    · have hji : (j : Int) < (many : Int) := by omega
      have hul' := hul.out
      have hP' := hPj.out
      have hz1 : (bs u).size = u.length := size_bs u
      have s5 := sj.below ((Below.refl wr.heap.size wr).alloc (Nat.le_refl _) (.cells #[.string ⟨#[48]⟩, .string ⟨#[43]⟩, .string ⟨#[45]⟩, .string ⟨#[48]⟩] 9))
      have hg4 := sj.lt
      have hz4 := sj.only.size
      go_wp2_with fail
      refine (pick_st 4 s5 (by omega) (by omega) (by omega)).mono ?_
      rintro e_ w6 ⟨a, rfl, ha, s6, o6⟩
      have hb6 : w6.heap[wr.heap.size]? = (wr.alloc (.cells #[.string ⟨#[48]⟩, .string ⟨#[43]⟩, .string ⟨#[45]⟩, .string ⟨#[48]⟩] 9)).heap[wr.heap.size]? := o6.block wr.heap.size (by simp) (.inr (by omega))
      have O6 := (hO.trans (Only.of_below ((Below.refl wr.heap.size wr).alloc (Nat.le_refl _) _))).trans o6
      obtain rfl | rfl | rfl | rfl : a = 0 ∨ a = 1 ∨ a = 2 ∨ a = 3 := by omega
      · have hc : w6.cell? ⟨wr.heap.size, 0, none⟩ = some (.string ⟨#[48]⟩) := (World.cell?_of_block hb6).trans (by simp)
        have hadd : ∀ w, (Op.stringOp .add (bs u) ⟨#[48]⟩).run Tryd.prog w = .ok (.string (bs (u ++ [48]))) w := fun w => by
          rw [run_string_add_sum w _ _ (by rw [hz1]; show u.length + 1 ≤ _; omega)]
          exact congrArg (fun s => Result.ok (Value.string s) w) (app_bs u [48])
        clear hb6 hul'
        go_wp2
        go_roundg (many - (j + 1))
        case measure => go_light; have := hg.out; omega
        case rel => go_light; exact ⟨j + 1, u ++ [48], _, hlt, rfl, by go_num, rfl, hide (by rw [List.length_append, hul.out]; rfl), s6, (show P' + 1 ≤ P + (j + 1) from by omega), O6⟩
      · have hc : w6.cell? ⟨wr.heap.size, 1, none⟩ = some (.string ⟨#[43]⟩) := (World.cell?_of_block hb6).trans (by simp)
        have hadd : ∀ w, (Op.stringOp .add (bs u) ⟨#[43]⟩).run Tryd.prog w = .ok (.string (bs (u ++ [43]))) w := fun w => by
          rw [run_string_add_sum w _ _ (by rw [hz1]; show u.length + 1 ≤ _; omega)]
          exact congrArg (fun s => Result.ok (Value.string s) w) (app_bs u [43])
        clear hb6 hul'
        go_wp2
        go_roundg (many - (j + 1))
        case measure => go_light; have := hg.out; omega
        case rel => go_light; exact ⟨j + 1, u ++ [43], _, hlt, rfl, by go_num, rfl, hide (by rw [List.length_append, hul.out]; rfl), s6, (show P' + 1 ≤ P + (j + 1) from by omega), O6⟩
      · have hc : w6.cell? ⟨wr.heap.size, 2, none⟩ = some (.string ⟨#[45]⟩) := (World.cell?_of_block hb6).trans (by simp)
        have hadd : ∀ w, (Op.stringOp .add (bs u) ⟨#[45]⟩).run Tryd.prog w = .ok (.string (bs (u ++ [45]))) w := fun w => by
          rw [run_string_add_sum w _ _ (by rw [hz1]; show u.length + 1 ≤ _; omega)]
          exact congrArg (fun s => Result.ok (Value.string s) w) (app_bs u [45])
        clear hb6 hul'
        go_wp2
        go_roundg (many - (j + 1))
        case measure => go_light; have := hg.out; omega
        case rel => go_light; exact ⟨j + 1, u ++ [45], _, hlt, rfl, by go_num, rfl, hide (by rw [List.length_append, hul.out]; rfl), s6, (show P' + 1 ≤ P + (j + 1) from by omega), O6⟩
      · have hc : w6.cell? ⟨wr.heap.size, 3, none⟩ = some (.string ⟨#[48]⟩) := (World.cell?_of_block hb6).trans (by simp)
        have hadd : ∀ w, (Op.stringOp .add (bs u) ⟨#[48]⟩).run Tryd.prog w = .ok (.string (bs (u ++ [48]))) w := fun w => by
          rw [run_string_add_sum w _ _ (by rw [hz1]; show u.length + 1 ≤ _; omega)]
          exact congrArg (fun s => Result.ok (Value.string s) w) (app_bs u [48])
        clear hb6 hul'
        go_wp2
        go_roundg (many - (j + 1))
        case measure => go_light; have := hg.out; omega
        case rel => go_light; exact ⟨j + 1, u ++ [48], _, hlt, rfl, by go_num, rfl, hide (by rw [List.length_append, hul.out]; rfl), s6, (show P' + 1 ≤ P + (j + 1) from by omega), O6⟩
    · obtain rfl : many = j := by omega
      have hu40 : u.length ≤ many := by have := hul.out; omega
      have hP40 : P' ≤ P + 45 := by have := hPj.out; omega
      go_wp2
      go_ret
      exact ⟨u, P', rfl, hu40, sj, hP40, hO⟩

/-- A step that gives a row of signs. -/
def SignStep (w wi : World) (B g P : Nat) (A : Option Addr) (n c : Nat) (e : Ending) (wj : World) : Prop :=
  ∃ u P', e = .returned (.string (bs u)) ∧ u.length ≤ 41 ∧ St w wj B g P' A n c ∧ P' ≤ P + 60 ∧ Only g (g + 1) wi wj
set_option maxRecDepth 20000 in
set_option maxHeartbeats 4000000 in
theorem srow_st {w wi : World} {B g P n c : Nat} {A : Option Addr} (m : Int) (s : St w wi B g P A n c) (hP : P ≤ 400) (hm0 : 1 ≤ m) (hm : m ≤ 1000) :
    Calls Tryd.prog 19 #[.pointer (some ⟨g, 0, none⟩), .int .i64 m] wi (SignStep w wi B g P A n c) := by
  go_enter Tryd.func19, Tryd.ntmps19
  go_wp2_with fail
  refine (pick_st 6 s (by omega) (by omega) (by omega)).mono ?_
  rintro e_ w1 ⟨k, rfl, hk, s1, o1⟩
  go_wp2_with fail
  have e1 : (1 : Int) + (k : Int) = ((1 + k : Nat) : Int) := by omega
  rw [e1]
  clear e1
  refine (row3_st (1 + k) s1 (by omega) (by omega)).mono ?_
  rintro e_ w2 ⟨u, P2, rfl, hu, s2, hP2, o2⟩
  have O2 := o1.trans o2
  go_wp2_with fail
  refine (odd_any B g P2 A n c m _ s2.rd (by omega) (by omega) hm).mono ?_
  rintro e w4 ⟨⟨b4, rfl⟩, r4, o4, _⟩
  have s4 : St w w4 B g (P2 + 1) A n c := ⟨r4, s2.only.trans o4, s2.lt⟩
  have O4 := O2.trans o4
  have hz1 : (bs u).size = u.length := size_bs u
  have hadd : ∀ w, (Op.stringOp .add (bs u) ⟨#[49]⟩).run Tryd.prog w = .ok (.string (bs (u ++ [49]))) w := fun w => by
    rw [run_string_add_sum w _ _ (by rw [hz1]; show u.length + 1 ≤ _; omega)]
    exact congrArg (fun s => Result.ok (Value.string s) w) (app_bs u [49])
  cases b4
  · go_wp2
    go_ret
    exact ⟨u, P2 + 1, rfl, by omega, s4, by omega, O4⟩
  · have s5 := s4.below ((Below.refl w4.heap.size w4).alloc (Nat.le_refl _) (.cells #[.string ⟨#[]⟩, .string (bs (u ++ [49])), .string ⟨#[43, 43, 43, 43, 43, 43, 43]⟩] 9))
    have hg4 := s4.lt
    have hz4 := s4.only.size
    go_wp2_with fail
    refine (pick_st 3 s5 (by omega) (by omega) (by omega)).mono ?_
    rintro e_ w6 ⟨a, rfl, ha, s6, o6⟩
    have hb6 : w6.heap[w4.heap.size]? = (w4.alloc (.cells #[.string ⟨#[]⟩, .string (bs (u ++ [49])), .string ⟨#[43, 43, 43, 43, 43, 43, 43]⟩] 9)).heap[w4.heap.size]? := o6.block w4.heap.size (by simp) (.inr (by omega))
    have FIN := hide (fun (v : List UInt8) (hv : v.length ≤ 41) => (show SignStep w wi B g P A n c (.returned (.string (bs v))) w6 from ⟨v, _, rfl, hv, s6, by omega, (O4.trans (Only.of_below ((Below.refl w4.heap.size w4).alloc (Nat.le_refl _) _))).trans o6⟩))
    obtain rfl | rfl | rfl : a = 0 ∨ a = 1 ∨ a = 2 := by omega
    · have hc : w6.cell? ⟨w4.heap.size, 0, none⟩ = some (.string ⟨#[]⟩) := (World.cell?_of_block hb6).trans (by simp)
      clear hb6
      go_wp2
      go_ret
      exact FIN.out [] (by simp)
    · have hc : w6.cell? ⟨w4.heap.size, 1, none⟩ = some (.string (bs (u ++ [49]))) := (World.cell?_of_block hb6).trans (by simp)
      clear hb6
      go_wp2
      go_ret
      exact FIN.out (u ++ [49]) (by rw [List.length_append]; simp; omega)
    · have hc : w6.cell? ⟨w4.heap.size, 2, none⟩ = some (.string ⟨#[43, 43, 43, 43, 43, 43, 43]⟩) := (World.cell?_of_block hb6).trans (by simp)
      clear hb6
      go_wp2
      go_ret
      exact FIN.out [43, 43, 43, 43, 43, 43, 43] (by simp)

def DrawnG (w : World) (e : Ending) (w' : World) : Prop := ∃ u, e = .returned (.string (bs u)) ∧ u.length ≤ 41 ∧ Below w.heap.size w w'
def DrawnG2 (w : World) (e : Ending) (w' : World) : Prop := ∃ u v, e = .returned (.tuple #[.string (bs u), .string (bs v)]) ∧ u.length ≤ 41 ∧ v.length ≤ 41 ∧ Below w.heap.size w w'
set_option maxHeartbeats 1000000 in
theorem drawSignsOk_any (A : Option Addr) (n c : Nat) (w : World) (h : Bytes w w.heap.size A n) (hc : n ≤ c) (hc2 : c ≤ 9223372036854775807) :
    Calls Tryd.prog 9 #[.slice A n c] w (DrawnG w) := by
  go_enter Tryd.func9, Tryd.ntmps9
  go_wp2_with fail
  refine (open_any A n c w h hc hc2).mono ?_
  rintro e w1 ⟨A1, n1, c1, rfl, b1, s1⟩
  go_wp2_with fail
  refine (srow_st 2 s1 (by omega) (by omega) (by omega)).mono ?_
  rintro e w2 ⟨u, P2, rfl, hu, s2, _, _⟩
  go_wp2
  go_ret
  exact ⟨u, rfl, hu, b1.trans (s2.only.below (Nat.le_refl _) b1.size)⟩
set_option maxHeartbeats 1000000 in
theorem drawSupportOf_any (A : Option Addr) (n c : Nat) (w : World) (h : Bytes w w.heap.size A n) (hc : n ≤ c) (hc2 : c ≤ 9223372036854775807) :
    Calls Tryd.prog 17 #[.slice A n c] w (DrawnG w) := by
  go_enter Tryd.func17, Tryd.ntmps17
  go_wp2_with fail
  refine (open_any A n c w h hc hc2).mono ?_
  rintro e w1 ⟨A1, n1, c1, rfl, b1, s1⟩
  go_wp2_with fail
  refine (srow_st 9 s1 (by omega) (by omega) (by omega)).mono ?_
  rintro e w2 ⟨u, P2, rfl, hu, s2, _, _⟩
  go_wp2
  go_ret
  exact ⟨u, rfl, hu, b1.trans (s2.only.below (Nat.le_refl _) b1.size)⟩
set_option maxHeartbeats 1000000 in
theorem drawThenOf_any (A : Option Addr) (n c : Nat) (w : World) (h : Bytes w w.heap.size A n) (hc : n ≤ c) (hc2 : c ≤ 9223372036854775807) :
    Calls Tryd.prog 13 #[.slice A n c] w (DrawnG2 w) := by
  go_enter Tryd.func13, Tryd.ntmps13
  go_wp2_with fail
  refine (open_any A n c w h hc hc2).mono ?_
  rintro e w1 ⟨A1, n1, c1, rfl, b1, s1⟩
  go_wp2_with fail
  refine (srow_st 12 s1 (by omega) (by omega) (by omega)).mono ?_
  rintro e w2 ⟨u, P2, rfl, hu, s2, hP2, o2⟩
  have hz1 : (bs u).size = u.length := size_bs u
  go_wp2_with fail
  refine (odd_any _ _ P2 _ _ _ 9 _ s2.rd (by omega) (by omega) (by omega)).mono ?_
  rintro e w4 ⟨⟨b4, rfl⟩, r4, o4, _⟩
  have s4 := (⟨r4, s2.only.trans o4, s2.lt⟩ : St _ w4 _ _ (P2 + 1) _ _ _)
  cases b4
  · go_wp2_with fail
    refine (row3_st u.length s4 (by omega) hu).mono ?_
    rintro e w5 ⟨v, P5, rfl, hv, s5, _, _⟩
    go_wp2
    refine bodyPost_ret (results_tmp2 rfl _ _ _) rfl ?_
    exact ⟨u, v, rfl, hu, by omega, b1.trans (s5.only.below (Nat.le_refl _) b1.size)⟩
  · go_wp2_with fail
    refine (srow_st 6 s4 (by omega) (by omega) (by omega)).mono ?_
    rintro e w5 ⟨v, P5, rfl, hv, s5, _, _⟩
    go_wp2
    refine bodyPost_ret (results_tmp2 rfl _ _ _) rfl ?_
    exact ⟨u, v, rfl, hu, hv, b1.trans (s5.only.below (Nat.le_refl _) b1.size)⟩
end Go.Proofs.YtnennilpedediaaDoor
