
/- Values of words: the specification's. -/
import Derived.Test.YthllbekoidogpaaSword
import Derived.Test.YthllbekoidogpaaWordV
import Derived.Test.YthllbekoidogpaaOrdP
import Derived.Test.YthllbekoidogpaaProd
import Derived.Test.YthllbekoidogpaaFill
namespace Go.Proofs.Ythllbekoidogpaa
open Go.RowKit
set_option linter.unusedVariables false


/-- What letters stand for. -/
def ltf (a b c : Int) (y : UInt8) : Int := if y = 97 then a else if y = 98 then b else c
noncomputable def valW (T : List (List Int)) (u : List UInt8) (a b c : Int) : Int := if (okW u && (inT T a && (inT T b && inT T c))) = true then prodT T (u.map (ltf a b c)) else -1
theorem valW_not {T : List (List Int)} {u : List UInt8} {a b c : Int} (h : (okW u && (inT T a && (inT T b && inT T c))) = false) : valW T u a b c = -1 := by unfold valW; rw [h]; rfl
theorem valW_ok {T : List (List Int)} {u : List UInt8} {a b c : Int} (h1 : okW u = true) (h2 : inT T a = true) (h3 : inT T b = true) (h4 : inT T c = true) : valW T u a b c = prodT T (u.map (ltf a b c)) := by unfold valW; rw [h1, h2, h3, h4]; rfl
/-- The row of things under way. -/
def vrow (f : UInt8 → Int) (u : List UInt8) (k : Nat) : List Int := (u.take k).map f
theorem len_vrow {f : UInt8 → Int} {u : List UInt8} {k : Nat} (h : k ≤ u.length) : (vrow f u k).length = k := by unfold vrow; rw [List.length_map, List.length_take]; omega
theorem vrow_succ {f : UInt8 → Int} {u : List UInt8} {k : Nat} (hk : k < u.length) : vrow f u k ++ [f (lt u k)] = vrow f u (k + 1) := by unfold vrow; rw [take_lt hk, List.map_append]; rfl
theorem vrow_all (f : UInt8 → Int) (u : List UInt8) : vrow f u u.length = u.map f := by unfold vrow; rw [List.take_length]
theorem map_take {u : List UInt8} {k : Nat} (hk : k < u.length) (f : UInt8 → Int) : (u.take k).map f ++ [f (lt u k)] = (u.take (k + 1)).map f := by rw [take_lt hk, List.map_append]; rfl

set_option maxRecDepth 20000 in
set_option maxHeartbeats 4000000 in
theorem sValueIn_any (A : Option Addr) (ca lo hi : Nat) (T : List (List Int)) (u : List UInt8) (a b c : Int) (w : World) (h : Mat w lo hi A T) (hh : hi ≤ w.heap.size) (hS : Small T) (hn : u.length ≤ 1048576) :
    Calls Try.prog 82 #[.slice A T.length ca, .string (bs u), .int .i64 a, .int .i64 b, .int .i64 c] w fun e w' => e = .returned (.int .i64 (valW T u a b c)) ∧ Below w.heap.size w w' := by
  have hlT := hS.len
  have hsz := size_bs u
  cases hw : okW u
  · have HF := hide (valW_not (T := T) (u := u) (a := a) (b := b) (c := c) (by rw [hw]; simp))
    go_enter Try.func82, Try.ntmps82
    go_wp2_with fail
    refine (sWordOk_any u _ hn).mono ?_
    rw [hw]
    rintro e w' ⟨rfl, rfl⟩
    go_wp2
    go_ret
    exact ⟨ret_int HF.out.symm, Below.refl _ _⟩
  cases hx : inT T a
  · have HF := hide (valW_not (T := T) (u := u) (a := a) (b := b) (c := c) (by rw [hw, hx]; simp))
    go_enter Try.func82, Try.ntmps82
    go_wp2_with fail
    refine (sWordOk_any u _ hn).mono ?_
    rw [hw]
    rintro e w' ⟨rfl, rfl⟩
    go_wp2_with fail
    refine (l1In_any a _ _ _).mono ?_
    rw [show (decide (0 ≤ a) && decide (a ≤ (T.length : Int) - 1)) = false from hx]
    rintro e w' ⟨rfl, rfl⟩
    go_wp2
    go_ret
    exact ⟨ret_int HF.out.symm, Below.refl _ _⟩
  cases hy : inT T b
  · have HF := hide (valW_not (T := T) (u := u) (a := a) (b := b) (c := c) (by rw [hw, hx, hy]; simp))
    go_enter Try.func82, Try.ntmps82
    go_wp2_with fail
    refine (sWordOk_any u _ hn).mono ?_
    rw [hw]
    rintro e w' ⟨rfl, rfl⟩
    go_wp2_with fail
    refine (l1In_any a _ _ _).mono ?_
    rw [show (decide (0 ≤ a) && decide (a ≤ (T.length : Int) - 1)) = true from hx]
    rintro e w' ⟨rfl, rfl⟩
    go_wp2_with fail
    refine (l1In_any b _ _ _).mono ?_
    rw [show (decide (0 ≤ b) && decide (b ≤ (T.length : Int) - 1)) = false from hy]
    rintro e w' ⟨rfl, rfl⟩
    go_wp2
    go_ret
    exact ⟨ret_int HF.out.symm, Below.refl _ _⟩
  cases hz : inT T c
  · have HF := hide (valW_not (T := T) (u := u) (a := a) (b := b) (c := c) (by rw [hw, hx, hy, hz]; simp))
    go_enter Try.func82, Try.ntmps82
    go_wp2_with fail
    refine (sWordOk_any u _ hn).mono ?_
    rw [hw]
    rintro e w' ⟨rfl, rfl⟩
    go_wp2_with fail
    refine (l1In_any a _ _ _).mono ?_
    rw [show (decide (0 ≤ a) && decide (a ≤ (T.length : Int) - 1)) = true from hx]
    rintro e w' ⟨rfl, rfl⟩
    go_wp2_with fail
    refine (l1In_any b _ _ _).mono ?_
    rw [show (decide (0 ≤ b) && decide (b ≤ (T.length : Int) - 1)) = true from hy]
    rintro e w' ⟨rfl, rfl⟩
    go_wp2_with fail
    refine (l1In_any c _ _ _).mono ?_
    rw [show (decide (0 ≤ c) && decide (c ≤ (T.length : Int) - 1)) = false from hz]
    rintro e w' ⟨rfl, rfl⟩
    go_wp2
    go_ret
    exact ⟨ret_int HF.out.symm, Below.refl _ _⟩
  have HE := hide (valW_ok hw hx hy hz)
  have HW := hide hw
  have b0 := (Below.refl w.heap.size w).alloc (Nat.le_refl _) (.cells #[] 3)
  go_enter Try.func82, Try.ntmps82
  go_wp2_with fail
  refine (sWordOk_any u _ hn).mono ?_
  rw [hw]
  rintro e w' ⟨rfl, rfl⟩
  go_wp2_with fail
  refine (l1In_any a _ _ _).mono ?_
  rw [show (decide (0 ≤ a) && decide (a ≤ (T.length : Int) - 1)) = true from hx]
  rintro e w' ⟨rfl, rfl⟩
  go_wp2_with fail
  refine (l1In_any b _ _ _).mono ?_
  rw [show (decide (0 ≤ b) && decide (b ≤ (T.length : Int) - 1)) = true from hy]
  rintro e w' ⟨rfl, rfl⟩
  go_wp2_with fail
  refine (l1In_any c _ _ _).mono ?_
  rw [show (decide (0 ≤ c) && decide (c ≤ (T.length : Int) - 1)) = true from hz]
  rintro e w' ⟨rfl, rfl⟩
  clear hw hx hy hz
  go_wp2
  go_loopg [12, 11] u.length (fun g i v wr => ∃ k : Nat, k ≤ u.length ∧ Hid (g = u.length - k) ∧ i = .int .i64 k ∧ ARow w.heap.size wr v (vrow (ltf a b c) u k) ∧ Below w.heap.size w wr)
  case atStart => exact ⟨0, Nat.zero_le _, rfl, rfl, ARow.made (Nat.le_refl _), b0⟩
  case round =>
    obtain ⟨k, hk, hgk, rfl, hR, hB⟩ := hrel
    clear b0
    have hl : (vrow (ltf a b c) u k).length ≤ 1048576 := by rw [len_vrow hk]; omega
    obtain ⟨Ar, cr, rfl, hc1, hc2, hRo⟩ := hR.val
    rw [len_vrow hk] at hR hc1 ⊢
    by_cases hlt : k < u.length
    · have hg : ∀ h, (bs u)[k]'h = lt u k := fun h => get_bs h
      have hs := hB.size
      have hA := (Below.refl wr.heap.size wr).alloc (Nat.le_refl _) (.cells #[.int .i64 a, .int .i64 b, .int .i64 c] 3)
      have hR1 := hR.below hA
      have hs1 : w.heap.size ≤ (wr.alloc (.cells #[.int .i64 a, .int .i64 b, .int .i64 c] 3)).heap.size := by simp; omega
      have HS := hide (show (wr.alloc (.cells #[.int .i64 a, .int .i64 b, .int .i64 c] 3)).heap.size = wr.heap.size + 1 from by simp)
      have HM := hide (vrow_succ (f := ltf a b c) hlt)
      rcases okC_iff.1 (okW_ok HW.out hlt) with hc | hc | hc
      all_goals
        have hN := congrArg UInt8.toNat hc
        have HF := hide (congrArg (ltf a b c) hc)
        clear hc
        simp only [UInt8.reduceToNat] at hN
        go_wp2_with (at_builtin; refine wp_app_int rfl (.tmp 47) (.tmp 58) rfl w.heap.size _ _ _ 1 rfl (by rw [HS.out]; rfl) hR1 hl hs1 ?_; intro v2 w2 hown2 hg2)
        go_roundg (u.length - (k + 1))
        case measure => go_light; have := hgk.out; omega
        case rel => go_light; exact ⟨k + 1, by omega, rfl, by go_num, by rw [← HM.out, HF.out]; exact hown2, (hB.trans (hA.mono hs)).trans (hR1.belowOf hg2 (Nat.le_refl _) hs1)⟩
    · obtain rfl : u.length = k := by omega
      rw [vrow_all] at hRo hl
      have hm := h.below hB hh
      go_wp2_with fail
      refine (show Calls _ _ #[.slice A T.length ca, .slice Ar u.length cr] wr _ from (by have := sProductOf_any A Ar ca cr lo hi _ _ T (u.map (ltf a b c)) wr hm hS hRo hl; rw [List.length_map] at this; exact this)).mono ?_
      rintro e w1 ⟨rfl, q1⟩
      go_wp2
      go_ret
      exact ⟨ret_int HE.out.symm, hB.trans (q1.below _)⟩
end Go.Proofs.Ythllbekoidogpaa
