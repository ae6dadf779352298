
/- The drawn sets. -/
import Derived.Test.YteoekfebhmeiiaaDrawAll
import Derived.Test.YteoekfebhmeiiaaMadeS
import Derived.Test.YteoekfebhmeiiaaTimes
import Derived.Deep.RegionHeld3
namespace Go.Proofs.Yteoekfebhmeiiaa
open Go.RowKit
set_option linter.unusedVariables false


theorem or2_pow {a b : Nat} (ha : a ≤ 9) (hb : b ≤ 9) : ∃ x : Nat, bits .or .i64 ((2 : Int) ^ a) ((2 : Int) ^ b) = (x : Int) ∧ x < 1024 := by
  have h := pow_le9 ha
  have h2 := pow_le9 hb
  have e : (2 : Int) ^ a = ((2 ^ a : Nat) : Int) := by simp
  refine ⟨2 ^ a ||| 2 ^ b, by rw [e]; exact or_pow (by omega) hb, Nat.or_lt_two_pow (n := 10) (by omega) (by omega)⟩
theorem or1_pow {x b : Nat} (hx : x < 1024) (hb : b ≤ 9) : ∃ y : Nat, bits .or .i64 (x : Int) ((2 : Int) ^ b) = (y : Int) ∧ y < 1024 := by
  have h2 := pow_le9 hb
  exact ⟨x ||| 2 ^ b, or_pow hx hb, Nat.or_lt_two_pow (n := 10) (by omega) (by omega)⟩

theorem QD.below0 {w w' : World} (q : QD w w') : w.heap.size ≤ w'.heap.size := (q.below 0).size

/-- A drawn table and a drawn set. -/
def SetD (w : World) (g : Nat) (e : Ending) (w' : World) : Prop :=
  ∃ A' c' T, ∃ z : Int, e = .returned (.tuple #[.slice A' T.length c', .int .i64 z]) ∧ Mat w' w.heap.size w'.heap.size A' T ∧ Small T ∧ Only g (g + 1) w w' ∧ -10000 ≤ z ∧ z ≤ 10000

set_option maxHeartbeats 4000000 in
theorem set_st {w : World} {B g n c : Nat} {A : Option Addr} (s : St w w B g 0 A n c) :
    Calls Try.prog 59 #[.pointer (some ⟨g, 0, none⟩)] w (SetD w g) := by
  have hg := s.lt
  go_enter Try.func59, Try.ntmps59
  go_wp2_with fail
  refine (table_st 12 s (by omega) (by omega) (by omega)).mono ?_
  rintro e w1 ⟨A1, c1, T, P1, rfl, hM, hS, s1, hP1, h9⟩
  clear s
  have z1 := s1.only.size
  have s1d : St w w1.drew B g P1 A n c := ⟨s1.rd.drewN 1, s1.only.drewN 1, s1.lt⟩
  go_wp2_with fail
  all_goals
    go_region_held3 (fun W => ∃ P', St w W B g P' A n c)
      (first
        | exact ⟨_, s1d⟩
        | exact ⟨_, by assumption⟩)
      (first
        | (go_at_call 80
           refine (pick_st _ s1d ?_ ?_ ?_).mono ?_
           · omega
           · omega
           · omega
           rintro e wa ⟨ka, rfl, hka, ska, oka⟩
           have ha9 : ka ≤ 9 := by omega
           obtain ⟨ga1, ga2⟩ := pow_int ha9
           have ha0 : (0 : Int) ≤ (ka : Int) := by omega)
        | (go_at_call 80
           refine (pick_st _ ska ?_ ?_ ?_).mono ?_
           · omega
           · omega
           · omega
           rintro e wb ⟨kb, rfl, hkb, skb, okb⟩
           have hb9 : kb ≤ 9 := by omega
           obtain ⟨gb1, gb2⟩ := pow_int hb9
           have hb0 : (0 : Int) ≤ (kb : Int) := by omega
           obtain ⟨x, hx, hx1⟩ := or2_pow ha9 hb9))
    have zb : w1.heap.size ≤ wb.heap.size := Nat.le_trans oka.size okb.size
    have hM2 := ((hM.drewN 1).only oka (Nat.le_refl _) (.inr hg)).only okb oka.size (.inr hg)
    go_wp2_with fail
    refine (pick_st 4 skb (by omega) (by omega) (by omega)).mono ?_
    rintro e w4 ⟨k4, rfl, hk4, s4, o4⟩
    have z4 := o4.size
    have hM4 := hM2.only o4 zb (.inr hg)
    by_cases h4 : k4 = 0
    · subst h4
      go_wp2_with fail
      refine (pick_st _ s4 (by omega) (by omega) (by omega)).mono ?_
      rintro e w5 ⟨kc, rfl, hkc, s5, o5⟩
      have z5 := o5.size
      have hM5 := hM4.only o5 (by omega) (.inr hg)
      have hc9 : kc ≤ 9 := by omega
      obtain ⟨gc1, gc2⟩ := pow_int hc9
      obtain ⟨y, hy, hy1⟩ := or1_pow hx1 hc9
      go_wp2_with fail
      refine (pick_st 40 s5 (by omega) (by omega) (by omega)).mono ?_
      rintro e w6 ⟨k6, rfl, hk6, s6, o6⟩
      obtain ⟨qa1, qa2, qa3, qa4⟩ := wrapQ (k6 : Int) 39 (by omega) (by omega) (by omega)
      have qa5 : 0 ≤ (k6 : Int) / 39 := by omega
      have qa6 : (k6 : Int) / 39 ≤ 1 := by omega
      go_wp2_with fail
      refine (pick_st 50 s6 (by omega) (by omega) (by omega)).mono ?_
      rintro e w7 ⟨k7, rfl, hk7, s7, o7⟩
      obtain ⟨qb1, qb2, qb3, qb4⟩ := wrapQ (k7 : Int) 49 (by omega) (by omega) (by omega)
      have qb5 : 0 ≤ (k7 : Int) / 49 := by omega
      have qb6 : (k7 : Int) / 49 ≤ 1 := by omega
      have z6 := o6.size
      have z7 := o7.size
      have hM7 := (hM5.only o6 (by omega) (.inr hg)).only o7 (by omega) (.inr hg)
      have hM8 := hM7.mono (Nat.le_refl _) (show w1.heap.size ≤ w7.heap.size by omega)
      go_wp2
      go_ret2
      exact ⟨A1, c1, T, _, rfl, hM8, hS, s7.only, by omega, by omega⟩
    · have h4b : ((k4 : Int) == 0) = false := beq_eq_false_iff_ne.2 (by omega)
      go_wp2_with fail
      refine (pick_st 40 s4 (by omega) (by omega) (by omega)).mono ?_
      rintro e w6 ⟨k6, rfl, hk6, s6, o6⟩
      obtain ⟨qa1, qa2, qa3, qa4⟩ := wrapQ (k6 : Int) 39 (by omega) (by omega) (by omega)
      have qa5 : 0 ≤ (k6 : Int) / 39 := by omega
      have qa6 : (k6 : Int) / 39 ≤ 1 := by omega
      go_wp2_with fail
      refine (pick_st 50 s6 (by omega) (by omega) (by omega)).mono ?_
      rintro e w7 ⟨k7, rfl, hk7, s7, o7⟩
      obtain ⟨qb1, qb2, qb3, qb4⟩ := wrapQ (k7 : Int) 49 (by omega) (by omega) (by omega)
      have qb5 : 0 ≤ (k7 : Int) / 49 := by omega
      have qb6 : (k7 : Int) / 49 ≤ 1 := by omega
      have z6 := o6.size
      have z7 := o7.size
      have hM7 := (hM4.only o6 (by omega) (.inr hg)).only o7 (by omega) (.inr hg)
      have hM8 := hM7.mono (Nat.le_refl _) (show w1.heap.size ≤ w7.heap.size by omega)
      go_wp2
      go_ret2
      exact ⟨A1, c1, T, _, rfl, hM8, hS, s7.only, by omega, by omega⟩

/-- A drawn table and a drawn set: new, small. -/
def DrawnS (w : World) (e : Ending) (w' : World) : Prop := ∃ A c T, ∃ z : Int, e = .returned (.tuple #[.slice A T.length c, .int .i64 z]) ∧ Below w.heap.size w w' ∧ Mat w' w.heap.size w'.heap.size A T ∧ Small T
set_option maxHeartbeats 1000000 in
theorem drawMadeBy_any (A : Option Addr) (n c : Nat) (w : World) (h : Bytes w w.heap.size A n) (hc : n ≤ c) (hc2 : c ≤ 9223372036854775807) :
    Calls Try.prog 20 #[.slice A n c] w (DrawnS w) := by
  go_enter Try.func20, Try.ntmps20
  go_wp2_with fail
  refine (open_any A n c w h hc hc2).mono ?_
  rintro e w1 ⟨A1, n1, c1, rfl, b1, s1⟩
  go_wp2_with fail
  refine (set_st s1).mono ?_
  rintro e w2 ⟨A2, c2, T, z, rfl, hM, hS, o2, _, _⟩
  go_wp2
  go_ret2
  exact ⟨A2, c2, T, z, rfl, b1.trans (o2.below (Nat.le_refl _) b1.size), hM.mono b1.size (Nat.le_refl _), hS⟩
set_option maxHeartbeats 1000000 in
theorem drawPartOf_any (A : Option Addr) (n c : Nat) (w : World) (h : Bytes w w.heap.size A n) (hc : n ≤ c) (hc2 : c ≤ 9223372036854775807) :
    Calls Try.prog 24 #[.slice A n c] w (DrawnS w) := by
  go_enter Try.func24, Try.ntmps24
  go_wp2_with fail
  refine (open_any A n c w h hc hc2).mono ?_
  rintro e w1 ⟨A1, n1, c1, rfl, b1, s1⟩
  go_wp2_with fail
  refine (set_st s1).mono ?_
  rintro e w2 ⟨A2, c2, T, z, rfl, hM, hS, o2, _, _⟩
  have B2 := b1.trans (o2.below (Nat.le_refl _) b1.size)
  have M2 := hM.mono b1.size (Nat.le_refl _)
  clear hM o2
  by_cases hz : 0 ≤ madeT T z
  · go_wp2_with fail
    refine (sMadeBy_any _ _ _ _ _ _ _ M2 hS).mono ?_
    rintro e w3 ⟨rfl, q3⟩
    go_wp2_with fail
    refine (sMadeBy_any _ _ _ _ _ _ _ (M2.quiet q3) hS).mono ?_
    rintro e w4 ⟨rfl, q4⟩
    go_wp2
    go_ret2
    exact ⟨A2, c2, T, _, rfl, (B2.trans (q3.below _)).trans (q4.below _), ((M2.quiet q3).quiet q4).mono (Nat.le_refl _) (q3.trans q4).below0, hS⟩
  · go_wp2_with fail
    refine (sMadeBy_any _ _ _ _ _ _ _ M2 hS).mono ?_
    rintro e w3 ⟨rfl, q3⟩
    go_wp2
    go_ret2
    exact ⟨A2, c2, T, z, rfl, B2.trans (q3.below _), (M2.quiet q3).mono (Nat.le_refl _) q3.below0, hS⟩
end Go.Proofs.Yteoekfebhmeiiaa
