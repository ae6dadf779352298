/- The drawn rows; a row appended to a row. -/
import Derived.Test.YthiiniahkfjgmaaDrawAll
import Derived.WalkLawsBesides
namespace Go.Proofs.Ythiiniahkfjgmaa
open Go.RowKit
set_option linter.unusedVariables false


/-- A drawn row. -/
def DrawRow (w : World) (B g P : Nat) (A : Option Addr) (n c : Nat) (wi : World) (e : Ending) (w' : World) : Prop :=
  ∃ A' c' xs, e = .returned (.slice A' xs.length c') ∧ Row w' w.heap.size w'.heap.size A' xs ∧ xs.length ≤ 7 ∧ xs.length ≤ c' ∧ c' ≤ 9223372036854775807 ∧ (∃ P', St w w' B g P' A n c ∧ P' ≤ P + 30) ∧ Only g (g + 1) wi w'

set_option maxHeartbeats 4000000 in
theorem row_st {w wi : World} {B g P n c : Nat} {A : Option Addr} (th : Nat) (s : St w wi B g P A n c) (hP : P ≤ 500) (hth : th ≤ 100) :
    Calls Try.prog 56 #[.pointer (some ⟨g, 0, none⟩), .int .i64 th] wi (DrawRow w B g P A n c wi) := by
  have hg := s.lt
  have hwi := s.only.size
  have b0 := (Below.refl wi.heap.size wi).alloc (Nat.le_refl _) (.cells #[] 3)
  have s0 := s.below b0
  have r0 := ARow.made (w := wi) (Nat.le_refl _)
  have o0 : Only g (g + 1) wi (wi.alloc (.cells #[] 3)) := Only.of_below b0
  go_enter Try.func56, Try.ntmps56
  go_wp2_with fail
  refine (pick_st 6 s0 (by omega) (by omega) (by omega)).mono ?_
  rintro e w1 ⟨k, rfl, hk, s1, o1⟩
  replace o0 := o0.trans o1
  have r1 := r0.low o1 (by omega)
  clear s0 r0 b0
  go_wp2
  go_loopg [6, 5] (k + 1) (fun gh i v wr => ∃ (j P2 : Nat) (xs : List Int), Hid (gh = j) ∧ i = .int .i64 j ∧ ARow wi.heap.size wr v xs ∧ xs.length + j ≤ 6 ∧ Only g (g + 1) wi wr ∧ St w wr B g P2 A n c ∧ P2 + 2 * j ≤ P + 1 + 2 * 6)
  case atStart => exact ⟨k + 1, P + 1, [], rfl, by go_num, r1, by simp; omega, o0, s1, by omega⟩
  case round =>
    obtain ⟨j, P2, xs, hgj, rfl, hR, hl, hO, sr, hP2⟩ := hrel
    clear r1 s1 o0
    by_cases hj : 0 < j
    · have hji : (0 : Int) < (j : Int) := by omega
      have hl' : xs.length ≤ 1048576 := by omega
      have HL := hide hl
      go_wp2_with fail
      all_goals
        refine (pick_st _ sr (by omega) (by omega) (by omega)).mono ?_
        rintro e w2 ⟨k2, rfl, hk2, s2, o2⟩
        go_wp2_with fail
        refine (pick_st 60 s2 (by omega) (by omega) (by omega)).mono ?_
        rintro e w3 ⟨k3, rfl, hk3, s3, o3⟩
        have hR3 := (hR.low o2 (by omega)).low o3 (by omega)
        have hO3 := (hO.trans o2).trans o3
        have hs3 : wi.heap.size ≤ w3.heap.size := hO3.size
        go_wp2_with (at_builtin; refine wp_app_int rfl (.tmp 15) (.tmp 25) rfl wi.heap.size _ _ _ _ rfl rfl hR3 hl' hs3 ?_; intro v4 w4 hown4 hg4)
        have hb4 := hR3.belowOf hg4 (Nat.le_refl _) hs3
        go_roundg (j - 1)
        case measure => go_light; have := hgj.out; omega
        case rel => go_light; exact ⟨j - 1, P2 + 1 + 1, _, rfl, by rw [show (j : Int) - 1 = ((j - 1 : Nat) : Int) from by omega], hown4, by simp; have := HL.out; omega, hO3.thenBelow hb4 (Nat.le_refl _), ⟨s3.rd.belowM hb4 (by omega), s3.only.thenBelow hb4 hwi, hg⟩, by omega⟩
    · have hj0 : j = 0 := by omega
      subst hj0
      obtain ⟨A', c', rfl, hc1, hc2, hRow⟩ := hR.val
      go_wp2_with fail
      refine (odd_any B g P2 A n c 20 _ sr.rd (by omega) (by omega) (by omega)).mono ?_
      rintro e w5 ⟨⟨b5, rfl⟩, r5, o5, _⟩
      have s5 : St w w5 B g (P2 + 1) A n c := ⟨r5, sr.only.trans o5, hg⟩
      have hR5 := hR.low o5 (by omega)
      obtain ⟨A5, c5, hv5, hc15, hc25, hRow5⟩ := hR5.val
      injection hv5 with hA5 _ _
      subst hA5
      have hO5 := hO.trans o5
      cases b5
      · go_wp2
        go_ret
        exact ⟨A', c5, xs, rfl, hRow5.mono hwi (Nat.le_refl _), by omega, hc15, hc25, ⟨P2 + 1, s5, by omega⟩, hO5⟩
      · have b6 := (Below.refl w5.heap.size w5).alloc (Nat.le_refl _) (.cells #[] 3)
        have fin : DrawRow w B g P A n c wi (.returned (.slice (some ⟨w5.heap.size, 0, none⟩) 0 0)) (w5.alloc (.cells #[] 3)) :=
          ⟨_, 0, [], rfl, Row.nil _ _ _ _, by simp, by simp, by omega, ⟨P2 + 1, s5.below b6, by omega⟩, hO5.thenBelow b6 hO5.size⟩
        have FIN := hide fin
        clear fin
        go_wp2
        go_ret
        exact FIN.out

/-- 'row = append(row, source...)' where the source holds numbers. -/
theorem wp_app_src {ops : Array Oper} {rest : List Oper} {o : Oper} {a : Act} {Q : Exit → Act → World → Prop} {w : World} (hgd : o.guard = none) (s x : Operand)
    (ho : o.op = .call { callee := .builtin .append, args := #[s, x], argTypes := #[26, 26] }) (base lo hi : Nat) (v : Value) (xs ys : List Int) (A' : Option Addr) (c : Nat) (hs : a.eval s = v) (hx : a.eval x = .slice A' ys.length c)
    (hown : ARow base w v xs) (hsrc : Row w lo hi A' ys) (hy : 1 ≤ ys.length) (hy2 : ys.length ≤ 1048576) (hn : xs.length ≤ 1048576) (hb : base ≤ w.heap.size)
    (h : ∀ v' w', ARow base w' v' (xs ++ ys) → w.grownBy w' v.ownBlock → wpList Try.prog ops Q rest (a.put o.dst v') w') : wpList Try.prog ops Q (o :: rest) a w := by
  obtain ⟨i0, hi0, hz0, hz1, hz2⟩ := info_parts info_int
  obtain ⟨b, off, rfl, _, _, _⟩ := hsrc 0 (by omega)
  refine wpList_append_own _ hgd s x 26 ho base 3 i0 (.int .i64 0) 1 8 Try.underlying26 hi0 hz0 hz1 hz2 rfl (by decide) v _ _ hs hown ⟨b, off, none⟩ ys.length c (ys.map (Value.int .i64)) hx (by simp) (fun j u hu => ?_) (by simp [Value.oneCell']) (by rw [maxLen_is]; omega) (by omega) hb ?_
  · have hj : j < ys.length := by
      rcases Nat.lt_or_ge j ys.length with h1 | h1
      · exact h1
      · simp [List.getElem?_eq_none h1] at hu
    obtain ⟨b', o', e, _, _, hc⟩ := hsrc j hj
    obtain ⟨rfl, rfl⟩ : b = b' ∧ off = o' := by simpa using e
    have hu2 : u = .int .i64 (el ys j) := by
      simp [hj] at hu
      rw [← hu, el_eq hj]
    rw [hu2, Addr.add_lit]
    exact hc
  · intro v' w' h1 h2 _
    exact h v' w' (by unfold ARow; simpa using h1) h2
end Go.Proofs.Ythiiniahkfjgmaa
