/-  -/
import Derived.Test.YthllbekoidogpaaDrawS
import Derived.Test.YthllbekoidogpaaSword
import Derived.Test.YthllbekoidogpaaDrawAll
namespace Go.Proofs.Ythllbekoidogpaa
open Go.RowKit
set_option linter.unusedVariables false


/-- A step that gives a word. -/
def WordStep (w wi : World) (B g P : Nat) (A : Option Addr) (n c : Nat) (e : Ending) (wj : World) : Prop :=
  ∃ u P', e = .returned (.string (bs u)) ∧ u.length ≤ 40 ∧ St w wj B g P' A n c ∧ P' ≤ P + 40 ∧ Only g (g + 1) wi wj
set_option maxHeartbeats 1000000 in
theorem odd0_any (g : Nat) (w : World) : Calls Try.prog 99 #[.pointer (some ⟨g, 0, none⟩), .int .i64 0] w fun e w' => e = .returned (.bool false) ∧ w = w' := by
  go_enter Try.func99, Try.ntmps99
  go_wp2
  go_ret
  exact ⟨rfl, rfl⟩
set_option maxRecDepth 20000 in
set_option maxHeartbeats 4000000 in
theorem word_st {w wi : World} {B g P n c : Nat} {A : Option Addr} (most m : Int) (s : St w wi B g P A n c) (hP : P ≤ 5000) (h1 : 1 ≤ most) (h30 : most ≤ 30) (hm0 : 0 ≤ m) (hm : m ≤ 1000) :
    Calls Try.prog 80 #[.pointer (some ⟨g, 0, none⟩), .int .i64 most, .int .i64 m] wi (WordStep w wi B g P A n c) := by
  go_enter Try.func80, Try.ntmps80
  go_wp2_with fail
  refine (pick_st 3 s (by omega) (by omega) (by omega)).mono ?_
  rintro e_ w1 ⟨ls, rfl, hls, s1, o1⟩
  go_wp2_with fail
  refine (pick_st most s1 (by omega) (by omega) (by omega)).mono ?_
  rintro e_ w2 ⟨k2, rfl, hk2, s2, o2⟩
  have O2 := o1.trans o2
  go_wp2
  go_loopg [9, 8] (k2 + 1) (fun gk i v wr => ∃ (j : Nat) (u : List UInt8) (P' : Nat), Hid (gk = j) ∧ Hid (j + u.length ≤ 30) ∧ i = .int .i64 j ∧ v = .string (bs u) ∧ St w wr B g P' A n c ∧ Hid (P' + j ≤ P + 35) ∧ Only g (g + 1) wi wr)
  case atStart => exact ⟨k2 + 1, [], _, rfl, (show k2 + 1 + 0 ≤ 30 from by omega), by first | rfl | (exact congrArg _ (by omega)), rfl, s2, (show P + 1 + 1 + (k2 + 1) ≤ P + 35 from by omega), O2⟩
  case round =>
    clear s1 s2 o1 o2 O2
    obtain ⟨j, u, P', hg, hl, rfl, rfl, sj, hPj, hO⟩ := hrel
    have hl' := hl.out
    have hP' := hPj.out
    by_cases hj : (j : Int) > 0
    · go_wp2_with fail
      refine (pick_st (1 + (ls : Int)) sj (by omega) (by omega) (by omega)).mono ?_
      rintro e_ w3 ⟨a, rfl, ha, s3, o3⟩
      have ha3 : a < [97, 98, 99].length := by simp; omega
      have hx : ∀ w, (Instr.slice 9 (.string ⟨#[97, 98, 99]⟩) (some (.int .i64 (a : Int))) (some (.int .i64 ((a : Int) + 1))) none).run Try.prog w = .ok (.string (bs [lt [97, 98, 99] a])) w := fun w => slice_one Try.underlying9 [97, 98, 99] (a : Int) ((a : Int) + 1) a rfl rfl ha3 w
      have hap := app_bs u [lt [97, 98, 99] a]
      have hz1 : (bs u).size = u.length := size_bs u
      have hz2 : (bs [lt [97, 98, 99] a]).size = 1 := by rw [size_bs]; rfl
      obtain ⟨V2, hV2⟩ : ∃ V2, V2 = bs [lt [97, 98, 99] a] := ⟨_, rfl⟩
      rw [← hV2] at hap hz2 hx
      have HA := hide hap
      obtain ⟨i, rfl⟩ : ∃ i, j = i + 1 := ⟨j - 1, by omega⟩
      have e0 : ((i + 1 : Nat) : Int) - 1 = (i : Int) := by omega
      have hul : u.length ≤ 30 := by omega
      have hadd : ∀ w, (Op.stringOp .add (bs u) V2).run Try.prog w = .ok (.string (bs u ++ V2)) w := fun w => run_string_add_sum w _ _ (by rw [hz1, hz2]; omega)
      clear hV2 hap ha3 hz1 hz2
      go_wp2
      go_roundg i
      case measure => go_light; have := hg.out; omega
      case rel => go_light; exact ⟨i, u ++ [lt [97, 98, 99] a], _, rfl, (show i + (u ++ [lt [97, 98, 99] a]).length ≤ 30 from by rw [List.length_append]; simp; omega), by first | rfl | (exact congrArg _ (by omega)), congrArg Value.string HA.out, s3, (show P' + 1 + i ≤ P + 35 from by omega), hO.trans o3⟩
    · obtain rfl : j = 0 := by omega
      clear hj
      by_cases hmz : m = 0
      · subst hmz
        go_wp2_with fail
        refine (odd0_any g _).mono ?_
        rintro e w_ ⟨rfl, rfl⟩
        have hu30 : u.length ≤ 30 := by omega
        go_wp2
        go_ret
        exact ⟨u, P', rfl, by omega, sj, by omega, hO⟩
      · go_wp2_with fail
        refine (odd_any B g P' A n c m _ sj.rd (by omega) (by omega) hm).mono ?_
        rintro e w4 ⟨⟨b4, rfl⟩, r4, o4, _⟩
        have s4 : St w w4 B g (P' + 1) A n c := ⟨r4, sj.only.trans o4, sj.lt⟩
        have O4 := hO.trans o4
        have hu30 : u.length ≤ 30 := by omega
        have hadd : ∀ w, (Op.stringOp .add (bs u) ⟨#[100]⟩).run Try.prog w = .ok (.string (bs (u ++ [100]))) w := fun w => by
          rw [run_string_add_sum w _ _ (by rw [size_bs]; show u.length + 1 ≤ _; omega)]
          exact congrArg (fun s => Result.ok (Value.string s) w) (app_bs u [100])
        cases b4
        · go_wp2
          go_ret
          exact ⟨u, P' + 1, rfl, by omega, s4, by omega, O4⟩
        · have s5 := s4.below ((Below.refl w4.heap.size w4).alloc (Nat.le_refl _) (.cells #[.string ⟨#[]⟩, .string (bs (u ++ [100])), .string ⟨#[97, 97, 97, 97, 97, 97, 97, 97, 97, 97, 97, 97, 97, 97, 97, 97, 97, 97, 97, 97, 97, 97, 97, 97, 97]⟩, .string ⟨#[65]⟩] 9))
          go_wp2_with fail
          refine (pick_st 4 s5 (by omega) (by omega) (by omega)).mono ?_
          rintro e_ w6 ⟨a, rfl, ha, s6, o6⟩
          have hg4 := s4.lt
          have hz4 := s4.only.size
          have hb6 : w6.heap[w4.heap.size]? = (w4.alloc (.cells #[.string ⟨#[]⟩, .string (bs (u ++ [100])), .string ⟨#[97, 97, 97, 97, 97, 97, 97, 97, 97, 97, 97, 97, 97, 97, 97, 97, 97, 97, 97, 97, 97, 97, 97, 97, 97]⟩, .string ⟨#[65]⟩] 9)).heap[w4.heap.size]? := o6.block w4.heap.size (by simp) (.inr (by omega))
          have FIN := hide (fun (v : List UInt8) (hv : v.length ≤ 40) => (show WordStep w wi B g P A n c (.returned (.string (bs v))) w6 from ⟨v, _, rfl, hv, s6, by omega, (O4.trans (Only.of_below ((Below.refl w4.heap.size w4).alloc (Nat.le_refl _) _))).trans o6⟩))
          obtain rfl | rfl | rfl | rfl : a = 0 ∨ a = 1 ∨ a = 2 ∨ a = 3 := by omega
          · have hc : w6.cell? ⟨w4.heap.size, 0, none⟩ = some (.string ⟨#[]⟩) := (World.cell?_of_block hb6).trans (by simp)
            clear hb6
            go_wp2
            go_ret
            exact FIN.out [] (by simp)
          · have hc : w6.cell? ⟨w4.heap.size, 1, none⟩ = some (.string (bs (u ++ [100]))) := (World.cell?_of_block hb6).trans (by simp)
            clear hb6
            go_wp2
            go_ret
            exact FIN.out (u ++ [100]) (by rw [List.length_append]; simp; omega)
          · have hc : w6.cell? ⟨w4.heap.size, 2, none⟩ = some (.string ⟨#[97, 97, 97, 97, 97, 97, 97, 97, 97, 97, 97, 97, 97, 97, 97, 97, 97, 97, 97, 97, 97, 97, 97, 97, 97]⟩) := (World.cell?_of_block hb6).trans (by simp)
            clear hb6
            go_wp2
            go_ret
            exact FIN.out [97, 97, 97, 97, 97, 97, 97, 97, 97, 97, 97, 97, 97, 97, 97, 97, 97, 97, 97, 97, 97, 97, 97, 97, 97] (by simp)
          · have hc : w6.cell? ⟨w4.heap.size, 3, none⟩ = some (.string ⟨#[65]⟩) := (World.cell?_of_block hb6).trans (by simp)
            clear hb6
            go_wp2
            go_ret
            exact FIN.out [65] (by simp)
end Go.Proofs.Ythllbekoidogpaa

namespace Go.Proofs.Ythllbekoidogpaa
open Go.RowKit
set_option linter.unusedVariables false


def DrawnW (w : World) (e : Ending) (w' : World) : Prop := ∃ u, e = .returned (.string (bs u)) ∧ u.length ≤ 40 ∧ Below w.heap.size w w'
def DrawnV (w : World) (e : Ending) (w' : World) : Prop := ∃ A c T u, ∃ x y z : Int, e = .returned (.tuple #[.slice A T.length c, .string (bs u), .int .i64 x, .int .i64 y, .int .i64 z]) ∧ Below w.heap.size w w' ∧ Mat w' w.heap.size w'.heap.size A T ∧ Small T ∧ u.length ≤ 40
theorem bytes_later {w w' : World} {n : Nat} {A : Option Addr} (h : Bytes w w.heap.size A n) (b : Below w.heap.size w w') : Bytes w' w'.heap.size A n := fun j hj => by
  obtain ⟨bb, o, z, e, hlt, hc, hz⟩ := h j hj
  exact ⟨bb, o, z, e, Nat.lt_of_lt_of_le hlt b.size, (b.cell (p := ⟨bb, o + j, none⟩) hlt).trans hc, hz⟩
end Go.Proofs.Ythllbekoidogpaa
