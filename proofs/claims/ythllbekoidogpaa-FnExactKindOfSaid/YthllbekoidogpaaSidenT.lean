/-  -/
import Derived.Test.YthllbekoidogpaaIdenQ
import Derived.Test.YthllbekoidogpaaSsame
import Derived.Test.YthllbekoidogpaaTab
namespace Go.Proofs.Ythllbekoidogpaa
open Go.RowKit
set_option linter.unusedVariables false
set_option linter.unusedSimpArgs false

theorem hldW_can {T : List (List Int)} {u v : List UInt8} (h : canA T u v = true) : hldW T u v = (apart T u v).isNone := by unfold hldW; rw [h]; rfl
set_option maxRecDepth 20000 in
set_option maxHeartbeats 4000000 in
theorem sHoldsIn_any (A : Option Addr) (ca lo hi : Nat) (T : List (List Int)) (u v : List UInt8) (w : World) (h : Mat w lo hi A T) (hh : hi ≤ w.heap.size) (hS : Small T) (hn : u.length ≤ 1048576) (hm : v.length ≤ 1048576) :
    Calls Try.prog 15 #[.slice A T.length ca, .string (bs u), .string (bs v)] w fun e w' => e = .returned (.bool (hldW T u v)) ∧ Below w.heap.size w w' := by
  cases hk : okT T
  · have HE := hide (hldW_false (T := T) (u := u) (v := v) (by unfold canA; rw [hk]; rfl))
    go_enter Try.func15, Try.ntmps15
    go_wp2_with fail
    refine (sTableOk_any _ _ _ _ _ _ h hS).mono ?_
    rw [hk]
    rintro e w' ⟨rfl, rfl⟩
    go_wp2
    go_ret
    exact ⟨ret_bool HE.out.symm, Below.refl _ _⟩
  cases hu : okW u
  · have HE := hide (hldW_false (T := T) (u := u) (v := v) (by unfold canA; rw [hk, hu]; rfl))
    go_enter Try.func15, Try.ntmps15
    go_wp2_with fail
    refine (sTableOk_any _ _ _ _ _ _ h hS).mono ?_
    rw [hk]
    rintro e w' ⟨rfl, rfl⟩
    go_wp2_with fail
    refine (sWordOk_any u _ hn).mono ?_
    rw [hu]
    rintro e w' ⟨rfl, rfl⟩
    go_wp2
    go_ret
    exact ⟨ret_bool HE.out.symm, Below.refl _ _⟩
  cases hv : okW v
  · have HE := hide (hldW_false (T := T) (u := u) (v := v) (by unfold canA; rw [hk, hu, hv]; rfl))
    go_enter Try.func15, Try.ntmps15
    go_wp2_with fail
    refine (sTableOk_any _ _ _ _ _ _ h hS).mono ?_
    rw [hk]
    rintro e w' ⟨rfl, rfl⟩
    go_wp2_with fail
    refine (sWordOk_any u _ hn).mono ?_
    rw [hu]
    rintro e w' ⟨rfl, rfl⟩
    go_wp2_with fail
    refine (sWordOk_any v _ hm).mono ?_
    rw [hv]
    rintro e w' ⟨rfl, rfl⟩
    go_wp2
    go_ret
    exact ⟨ret_bool HE.out.symm, Below.refl _ _⟩
  have hc := canA_words hk hu hv
  cases ha : apart T u v with
  | none =>
    have HE := hide (show hldW T u v = true from by rw [hldW_can hc, ha]; rfl)
    have HA := hide (apR_none ha)
    clear ha hc
    go_enter Try.func15, Try.ntmps15
    go_wp2_with fail
    refine (sTableOk_any _ _ _ _ _ _ h hS).mono ?_
    rw [hk]
    rintro e w' ⟨rfl, rfl⟩
    go_wp2_with fail
    refine (sWordOk_any u _ hn).mono ?_
    rw [hu]
    rintro e w' ⟨rfl, rfl⟩
    go_wp2_with fail
    refine (sWordOk_any v _ hm).mono ?_
    rw [hv]
    rintro e w' ⟨rfl, rfl⟩
    go_wp2_with fail
    refine (sApartIn_any A ca lo hi T u v _ h hh hS hn hm).mono ?_
    rw [HA.out]
    rintro e w1 ⟨rfl, b1⟩
    go_wp2
    go_ret
    exact ⟨ret_bool HE.out.symm, b1⟩
  | some k =>
    have HE := hide (show hldW T u v = false from by rw [hldW_can hc, ha]; rfl)
    have HA := hide (apR_some ha)
    clear ha hc
    obtain ⟨p, hp⟩ : ∃ p, p = ((k : Int) / (T.length : Int) / (T.length : Int)) := ⟨_, rfl⟩
    obtain ⟨q, hq⟩ : ∃ p, p = ((k : Int) / (T.length : Int) % (T.length : Int)) := ⟨_, rfl⟩
    obtain ⟨r, hr⟩ : ∃ p, p = ((k : Int) % (T.length : Int)) := ⟨_, rfl⟩
    rw [← hp, ← hq, ← hr] at HA
    clear hp hq hr
    go_enter Try.func15, Try.ntmps15
    go_wp2_with fail
    refine (sTableOk_any _ _ _ _ _ _ h hS).mono ?_
    rw [hk]
    rintro e w' ⟨rfl, rfl⟩
    go_wp2_with fail
    refine (sWordOk_any u _ hn).mono ?_
    rw [hu]
    rintro e w' ⟨rfl, rfl⟩
    go_wp2_with fail
    refine (sWordOk_any v _ hm).mono ?_
    rw [hv]
    rintro e w' ⟨rfl, rfl⟩
    go_wp2_with fail
    refine (sApartIn_any A ca lo hi T u v _ h hh hS hn hm).mono ?_
    rw [HA.out]
    rintro e w1 ⟨rfl, b1⟩
    go_wp2
    go_ret
    exact ⟨ret_bool HE.out.symm, b1⟩

/-- What IdentityAt answers. -/
def inI (n : Int) : Bool := decide (0 ≤ n) && decide (n ≤ 8)
def iuW (n : Int) : List UInt8 := if inI n = true then idU n.toNat else []
def ivW (n : Int) : List UInt8 := if inI n = true then idV n.toNat else []
theorem iuW_not {n : Int} (h : inI n = false) : iuW n = [] := by unfold iuW; rw [h]; rfl
theorem ivW_not {n : Int} (h : inI n = false) : ivW n = [] := by unfold ivW; rw [h]; rfl
set_option maxRecDepth 20000 in
set_option maxHeartbeats 8000000 in
theorem sIdentityAt_any (n : Int) (w : World) :
    Calls Try.prog 28 #[.int .i64 n] w fun e w' => e = .returned (.tuple #[.string (bs (iuW n)), .string (bs (ivW n)), .bool (inI n)]) ∧ Below w.heap.size w w' := by
  cases hc : inI n
  · have HE := hide (iuW_not hc)
    have HF := hide (ivW_not hc)
    have hc' : (decide (0 ≤ n) && decide (n ≤ 8)) = false := hc
    go_enter Try.func28, Try.ntmps28
    go_wp2_with fail
    refine (l1In_any n 0 8 _).mono ?_
    rw [hc']
    rintro e w' ⟨rfl, rfl⟩
    go_wp2
    refine bodyPost_ret (results_tmp3 rfl _ _ _) rfl ?_
    rw [HE.out, HF.out]
    exact ⟨rfl, Below.refl _ _⟩
  · have hr : n = 0 ∨ n = 1 ∨ n = 2 ∨ n = 3 ∨ n = 4 ∨ n = 5 ∨ n = 6 ∨ n = 7 ∨ n = 8 := by
      unfold inI at hc
      rw [Bool.and_eq_true, decide_eq_true_iff, decide_eq_true_iff] at hc
      omega
    clear hc
    rcases hr with rfl | rfl | rfl | rfl | rfl | rfl | rfl | rfl | rfl
    · have b1 := (Below.refl w.heap.size w).alloc (Nat.le_refl _) (.cells #[.string ⟨#[97, 97]⟩, .string ⟨#[97, 98]⟩, .string ⟨#[97, 98]⟩, .string ⟨#[97, 98]⟩, .string ⟨#[97, 98, 97]⟩, .string ⟨#[97, 98, 97]⟩, .string ⟨#[97, 98, 97]⟩, .string ⟨#[97, 98, 99, 97]⟩, .string ⟨#[97, 98, 97, 99, 97]⟩] 9)
      have b2 := b1.alloc (by simp) (.cells #[.string ⟨#[97]⟩, .string ⟨#[98, 97]⟩, .string ⟨#[97]⟩, .string ⟨#[98]⟩, .string ⟨#[97]⟩, .string ⟨#[97, 98]⟩, .string ⟨#[98, 97]⟩, .string ⟨#[97, 99, 98, 97]⟩, .string ⟨#[97, 98, 99, 97]⟩] 9)
      go_enter Try.func28, Try.ntmps28
      go_wp2_with fail
      refine (l1In_any 0 0 8 _).mono ?_
      rw [show (decide ((0 : Int) ≤ 0) && decide ((0 : Int) ≤ 8)) = true from rfl]
      rintro e w' ⟨rfl, rfl⟩
      go_wp2
      refine bodyPost_ret (results_tmp3 rfl _ _ _) rfl ?_
      exact ⟨rfl, b2⟩
    · have b1 := (Below.refl w.heap.size w).alloc (Nat.le_refl _) (.cells #[.string ⟨#[97, 97]⟩, .string ⟨#[97, 98]⟩, .string ⟨#[97, 98]⟩, .string ⟨#[97, 98]⟩, .string ⟨#[97, 98, 97]⟩, .string ⟨#[97, 98, 97]⟩, .string ⟨#[97, 98, 97]⟩, .string ⟨#[97, 98, 99, 97]⟩, .string ⟨#[97, 98, 97, 99, 97]⟩] 9)
      have b2 := b1.alloc (by simp) (.cells #[.string ⟨#[97]⟩, .string ⟨#[98, 97]⟩, .string ⟨#[97]⟩, .string ⟨#[98]⟩, .string ⟨#[97]⟩, .string ⟨#[97, 98]⟩, .string ⟨#[98, 97]⟩, .string ⟨#[97, 99, 98, 97]⟩, .string ⟨#[97, 98, 99, 97]⟩] 9)
      go_enter Try.func28, Try.ntmps28
      go_wp2_with fail
      refine (l1In_any 1 0 8 _).mono ?_
      rw [show (decide ((0 : Int) ≤ 1) && decide ((1 : Int) ≤ 8)) = true from rfl]
      rintro e w' ⟨rfl, rfl⟩
      go_wp2
      refine bodyPost_ret (results_tmp3 rfl _ _ _) rfl ?_
      exact ⟨rfl, b2⟩
    · have b1 := (Below.refl w.heap.size w).alloc (Nat.le_refl _) (.cells #[.string ⟨#[97, 97]⟩, .string ⟨#[97, 98]⟩, .string ⟨#[97, 98]⟩, .string ⟨#[97, 98]⟩, .string ⟨#[97, 98, 97]⟩, .string ⟨#[97, 98, 97]⟩, .string ⟨#[97, 98, 97]⟩, .string ⟨#[97, 98, 99, 97]⟩, .string ⟨#[97, 98, 97, 99, 97]⟩] 9)
      have b2 := b1.alloc (by simp) (.cells #[.string ⟨#[97]⟩, .string ⟨#[98, 97]⟩, .string ⟨#[97]⟩, .string ⟨#[98]⟩, .string ⟨#[97]⟩, .string ⟨#[97, 98]⟩, .string ⟨#[98, 97]⟩, .string ⟨#[97, 99, 98, 97]⟩, .string ⟨#[97, 98, 99, 97]⟩] 9)
      go_enter Try.func28, Try.ntmps28
      go_wp2_with fail
      refine (l1In_any 2 0 8 _).mono ?_
      rw [show (decide ((0 : Int) ≤ 2) && decide ((2 : Int) ≤ 8)) = true from rfl]
      rintro e w' ⟨rfl, rfl⟩
      go_wp2
      refine bodyPost_ret (results_tmp3 rfl _ _ _) rfl ?_
      exact ⟨rfl, b2⟩
    · have b1 := (Below.refl w.heap.size w).alloc (Nat.le_refl _) (.cells #[.string ⟨#[97, 97]⟩, .string ⟨#[97, 98]⟩, .string ⟨#[97, 98]⟩, .string ⟨#[97, 98]⟩, .string ⟨#[97, 98, 97]⟩, .string ⟨#[97, 98, 97]⟩, .string ⟨#[97, 98, 97]⟩, .string ⟨#[97, 98, 99, 97]⟩, .string ⟨#[97, 98, 97, 99, 97]⟩] 9)
      have b2 := b1.alloc (by simp) (.cells #[.string ⟨#[97]⟩, .string ⟨#[98, 97]⟩, .string ⟨#[97]⟩, .string ⟨#[98]⟩, .string ⟨#[97]⟩, .string ⟨#[97, 98]⟩, .string ⟨#[98, 97]⟩, .string ⟨#[97, 99, 98, 97]⟩, .string ⟨#[97, 98, 99, 97]⟩] 9)
      go_enter Try.func28, Try.ntmps28
      go_wp2_with fail
      refine (l1In_any 3 0 8 _).mono ?_
      rw [show (decide ((0 : Int) ≤ 3) && decide ((3 : Int) ≤ 8)) = true from rfl]
      rintro e w' ⟨rfl, rfl⟩
      go_wp2
      refine bodyPost_ret (results_tmp3 rfl _ _ _) rfl ?_
      exact ⟨rfl, b2⟩
    · have b1 := (Below.refl w.heap.size w).alloc (Nat.le_refl _) (.cells #[.string ⟨#[97, 97]⟩, .string ⟨#[97, 98]⟩, .string ⟨#[97, 98]⟩, .string ⟨#[97, 98]⟩, .string ⟨#[97, 98, 97]⟩, .string ⟨#[97, 98, 97]⟩, .string ⟨#[97, 98, 97]⟩, .string ⟨#[97, 98, 99, 97]⟩, .string ⟨#[97, 98, 97, 99, 97]⟩] 9)
      have b2 := b1.alloc (by simp) (.cells #[.string ⟨#[97]⟩, .string ⟨#[98, 97]⟩, .string ⟨#[97]⟩, .string ⟨#[98]⟩, .string ⟨#[97]⟩, .string ⟨#[97, 98]⟩, .string ⟨#[98, 97]⟩, .string ⟨#[97, 99, 98, 97]⟩, .string ⟨#[97, 98, 99, 97]⟩] 9)
      go_enter Try.func28, Try.ntmps28
      go_wp2_with fail
      refine (l1In_any 4 0 8 _).mono ?_
      rw [show (decide ((0 : Int) ≤ 4) && decide ((4 : Int) ≤ 8)) = true from rfl]
      rintro e w' ⟨rfl, rfl⟩
      go_wp2
      refine bodyPost_ret (results_tmp3 rfl _ _ _) rfl ?_
      exact ⟨rfl, b2⟩
    · have b1 := (Below.refl w.heap.size w).alloc (Nat.le_refl _) (.cells #[.string ⟨#[97, 97]⟩, .string ⟨#[97, 98]⟩, .string ⟨#[97, 98]⟩, .string ⟨#[97, 98]⟩, .string ⟨#[97, 98, 97]⟩, .string ⟨#[97, 98, 97]⟩, .string ⟨#[97, 98, 97]⟩, .string ⟨#[97, 98, 99, 97]⟩, .string ⟨#[97, 98, 97, 99, 97]⟩] 9)
      have b2 := b1.alloc (by simp) (.cells #[.string ⟨#[97]⟩, .string ⟨#[98, 97]⟩, .string ⟨#[97]⟩, .string ⟨#[98]⟩, .string ⟨#[97]⟩, .string ⟨#[97, 98]⟩, .string ⟨#[98, 97]⟩, .string ⟨#[97, 99, 98, 97]⟩, .string ⟨#[97, 98, 99, 97]⟩] 9)
      go_enter Try.func28, Try.ntmps28
      go_wp2_with fail
      refine (l1In_any 5 0 8 _).mono ?_
      rw [show (decide ((0 : Int) ≤ 5) && decide ((5 : Int) ≤ 8)) = true from rfl]
      rintro e w' ⟨rfl, rfl⟩
      go_wp2
      refine bodyPost_ret (results_tmp3 rfl _ _ _) rfl ?_
      exact ⟨rfl, b2⟩
    · have b1 := (Below.refl w.heap.size w).alloc (Nat.le_refl _) (.cells #[.string ⟨#[97, 97]⟩, .string ⟨#[97, 98]⟩, .string ⟨#[97, 98]⟩, .string ⟨#[97, 98]⟩, .string ⟨#[97, 98, 97]⟩, .string ⟨#[97, 98, 97]⟩, .string ⟨#[97, 98, 97]⟩, .string ⟨#[97, 98, 99, 97]⟩, .string ⟨#[97, 98, 97, 99, 97]⟩] 9)
      have b2 := b1.alloc (by simp) (.cells #[.string ⟨#[97]⟩, .string ⟨#[98, 97]⟩, .string ⟨#[97]⟩, .string ⟨#[98]⟩, .string ⟨#[97]⟩, .string ⟨#[97, 98]⟩, .string ⟨#[98, 97]⟩, .string ⟨#[97, 99, 98, 97]⟩, .string ⟨#[97, 98, 99, 97]⟩] 9)
      go_enter Try.func28, Try.ntmps28
      go_wp2_with fail
      refine (l1In_any 6 0 8 _).mono ?_
      rw [show (decide ((0 : Int) ≤ 6) && decide ((6 : Int) ≤ 8)) = true from rfl]
      rintro e w' ⟨rfl, rfl⟩
      go_wp2
      refine bodyPost_ret (results_tmp3 rfl _ _ _) rfl ?_
      exact ⟨rfl, b2⟩
    · have b1 := (Below.refl w.heap.size w).alloc (Nat.le_refl _) (.cells #[.string ⟨#[97, 97]⟩, .string ⟨#[97, 98]⟩, .string ⟨#[97, 98]⟩, .string ⟨#[97, 98]⟩, .string ⟨#[97, 98, 97]⟩, .string ⟨#[97, 98, 97]⟩, .string ⟨#[97, 98, 97]⟩, .string ⟨#[97, 98, 99, 97]⟩, .string ⟨#[97, 98, 97, 99, 97]⟩] 9)
      have b2 := b1.alloc (by simp) (.cells #[.string ⟨#[97]⟩, .string ⟨#[98, 97]⟩, .string ⟨#[97]⟩, .string ⟨#[98]⟩, .string ⟨#[97]⟩, .string ⟨#[97, 98]⟩, .string ⟨#[98, 97]⟩, .string ⟨#[97, 99, 98, 97]⟩, .string ⟨#[97, 98, 99, 97]⟩] 9)
      go_enter Try.func28, Try.ntmps28
      go_wp2_with fail
      refine (l1In_any 7 0 8 _).mono ?_
      rw [show (decide ((0 : Int) ≤ 7) && decide ((7 : Int) ≤ 8)) = true from rfl]
      rintro e w' ⟨rfl, rfl⟩
      go_wp2
      refine bodyPost_ret (results_tmp3 rfl _ _ _) rfl ?_
      exact ⟨rfl, b2⟩
    · have b1 := (Below.refl w.heap.size w).alloc (Nat.le_refl _) (.cells #[.string ⟨#[97, 97]⟩, .string ⟨#[97, 98]⟩, .string ⟨#[97, 98]⟩, .string ⟨#[97, 98]⟩, .string ⟨#[97, 98, 97]⟩, .string ⟨#[97, 98, 97]⟩, .string ⟨#[97, 98, 97]⟩, .string ⟨#[97, 98, 99, 97]⟩, .string ⟨#[97, 98, 97, 99, 97]⟩] 9)
      have b2 := b1.alloc (by simp) (.cells #[.string ⟨#[97]⟩, .string ⟨#[98, 97]⟩, .string ⟨#[97]⟩, .string ⟨#[98]⟩, .string ⟨#[97]⟩, .string ⟨#[97, 98]⟩, .string ⟨#[98, 97]⟩, .string ⟨#[97, 99, 98, 97]⟩, .string ⟨#[97, 98, 99, 97]⟩] 9)
      go_enter Try.func28, Try.ntmps28
      go_wp2_with fail
      refine (l1In_any 8 0 8 _).mono ?_
      rw [show (decide ((0 : Int) ≤ 8) && decide ((8 : Int) ≤ 8)) = true from rfl]
      rintro e w' ⟨rfl, rfl⟩
      go_wp2
      refine bodyPost_ret (results_tmp3 rfl _ _ _) rfl ?_
      exact ⟨rfl, b2⟩

set_option maxRecDepth 20000 in
set_option maxHeartbeats 4000000 in
theorem sKindOf_any (A : Option Addr) (ca lo hi : Nat) (T : List (List Int)) (w : World) (h : Mat w lo hi A T) (hh : hi ≤ w.heap.size) (hS : Small T) :
    Calls Try.prog 32 #[.slice A T.length ca] w fun e w' => e = .returned (.int .i64 (kinW T)) ∧ Below w.heap.size w w' := by
  cases hk : okT T
  · have HE := hide (kinW_not hk)
    go_enter Try.func32, Try.ntmps32
    go_wp2_with fail
    refine (sTableOk_any _ _ _ _ _ _ h hS).mono ?_
    rw [hk]
    rintro e w' ⟨rfl, rfl⟩
    go_wp2
    go_ret
    exact ⟨ret_int HE.out.symm, Below.refl _ _⟩
  · have HE := hide (kinW_ok hk)
    go_enter Try.func32, Try.ntmps32
    go_wp2_with fail
    refine (sTableOk_any _ _ _ _ _ _ h hS).mono ?_
    rw [hk]
    rintro e w' ⟨rfl, rfl⟩
    clear hk
    go_wp2
    go_loopg [4, 3] 9 (fun g i v wr => ∃ k : Nat, k ≤ 9 ∧ Hid (g = 9 - k) ∧ i = .int .i64 k ∧ v = .int .i64 ((msk (fun k => hldW T (idU k) (idV k)) k : Nat) : Int) ∧ Below w.heap.size w wr)
    case atStart => exact ⟨0, Nat.zero_le _, rfl, rfl, rfl, Below.refl _ _⟩
    case round =>
      obtain ⟨k, hk, hg, rfl, rfl, hB⟩ := hrel
      by_cases hkt : k < 9
      · have hki : (k : Int) < 9 := by omega
        have hin : inI (k : Int) = true := by unfold inI; rw [Bool.and_eq_true, decide_eq_true_iff, decide_eq_true_iff]; omega
        have e1 : iuW (k : Int) = idU k := by unfold iuW; rw [hin]; rfl
        have e2 : ivW (k : Int) = idV k := by unfold ivW; rw [hin]; rfl
        have n1 : (idU k).length ≤ 1048576 := by have := (okW_iff.1 (idU_ok hkt)).2.2; omega
        have n2 : (idV k).length ≤ 1048576 := by have := (okW_iff.1 (idV_ok hkt)).2.2; omega
        obtain ⟨p0, p1⟩ := pow_int (show k ≤ 9 by omega)
        have hml : msk (fun k => hldW T (idU k) (idV k)) k < 1024 := Nat.lt_of_lt_of_le (msk_lt _ k) (Nat.le_trans (Nat.pow_le_pow_right (n := 2) (by omega) (show k ≤ 10 by omega)) (by decide))
        have hor := or_pow hml (show k ≤ 9 by omega)
        have hmo := msk_or (fun k => hldW T (idU k) (idV k)) k
        go_wp2_with fail
        refine (sIdentityAt_any (k : Int) _).mono ?_
        rw [e1, e2, hin]
        rintro e w1 ⟨rfl, b1⟩
        have B1 := hB.trans (b1.mono hB.size)
        go_wp2_with fail
        refine (sHoldsIn_any A ca lo hi T (idU k) (idV k) _ (h.below B1 hh) (Nat.le_trans hh B1.size) hS n1 n2).mono ?_
        rintro e w2 ⟨rfl, b2⟩
        have B2 := hide (B1.trans (b2.mono B1.size))
        cases hd : hldW T (idU k) (idV k)
        · rw [hd] at hmo
          have HM := hide (show msk (fun k => hldW T (idU k) (idV k)) (k + 1) = msk (fun k => hldW T (idU k) (idV k)) k from by rw [hmo]; simp)
          clear hmo hor hB b1 B1 b2
          go_wp2
          go_roundg (9 - (k + 1))
          case measure => go_light; have := hg.out; omega
          case rel => go_light; exact ⟨k + 1, by omega, rfl, by go_num, by rw [HM.out], B2.out⟩
        · rw [hd] at hmo
          have HM := hide (show msk (fun k => hldW T (idU k) (idV k)) (k + 1) = msk (fun k => hldW T (idU k) (idV k)) k ||| 2 ^ k from by rw [hmo]; simp)
          clear hmo hB b1 B1 b2
          go_wp2
          go_roundg (9 - (k + 1))
          case measure => go_light; have := hg.out; omega
          case rel => go_light; exact ⟨k + 1, by omega, rfl, by go_num, by rw [HM.out], B2.out⟩
      · obtain rfl : k = 9 := by omega
        go_wp2
        go_ret
        exact ⟨ret_int HE.out.symm, hB⟩

set_option maxHeartbeats 1000000 in
theorem sAlwaysOk_any (u v : List UInt8) (w : World) (hn : u.length ≤ 1048576) (hm : v.length ≤ 1048576) :
    Calls Try.prog 46 #[.string (bs u), .string (bs v)] w fun e w' => e = .returned (.bool (okW u && (okW v && sameB u v))) ∧ QD w w' := by
  go_enter Try.func46, Try.ntmps46
  go_wp2_with fail
  refine (sSameWords_any u v _ hn hm).mono ?_
  rintro e w1 ⟨rfl, q1⟩
  go_wp2
  go_ret
  exact ⟨rfl, q1⟩
end Go.Proofs.Ythllbekoidogpaa

namespace Go.Proofs.Ythllbekoidogpaa
open Go.RowKit
set_option linter.unusedVariables false
set_option linter.unusedSimpArgs false

theorem tkW_not {s : Int} (h : (decide (0 ≤ s) && decide (s ≤ 511)) = false) : tkW s = -1 := by unfold tkW; rw [h]; rfl
theorem tkW_ok {s : Nat} (h : s ≤ 511) : tkW (s : Int) = ((tkN s : Nat) : Int) := by
  unfold tkW
  rw [if_pos (by rw [Bool.and_eq_true, decide_eq_true_iff, decide_eq_true_iff]; omega)]
  rfl
/-- Under way. -/
def toK (s : Nat) : Nat → Nat
  | 0 => 0
  | k + 1 => toK s k ||| (if s.testBit k = true then 2 ^ prm k else 0)
theorem toK_lt (s : Nat) : ∀ k, k ≤ 9 → toK s k < 512
  | 0, _ => by simp [toK]
  | k + 1, hk => by
    rw [toK]
    refine Nat.or_lt_two_pow (n := 9) (toK_lt s k (by omega)) ?_
    split
    · exact Nat.pow_lt_pow_right (by omega) (prm_lt ⟨k, by omega⟩)
    · decide
theorem toK_all : ∀ s : Fin 512, toK s 9 = tkN s := by decide +kernel
theorem toK_no {s k : Nat} (h : s.testBit k = false) : toK s (k + 1) = toK s k := by rw [toK, h]; simp
theorem toK_yes {s k : Nat} (h : s.testBit k = true) : toK s (k + 1) = toK s k ||| 2 ^ prm k := by rw [toK, h]; simp
theorem bit_half {s k : Nat} : s / 2 ^ k % 2 = if s.testBit k = true then 1 else 0 := by
  rw [Nat.testBit_eq_decide_div_mod_eq]
  by_cases h : s / 2 ^ k % 2 = 1
  · simp [h]
  · have : s / 2 ^ k % 2 = 0 := by omega
    simp [this]

set_option maxRecDepth 20000 in
set_option maxHeartbeats 8000000 in
theorem sTurnedKind_any (s : Int) (w : World) :
    Calls Try.prog 42 #[.int .i64 s] w fun e w' => e = .returned (.int .i64 (tkW s)) ∧ Below w.heap.size w w' := by
  cases hc : (decide (0 ≤ s) && decide (s ≤ 511))
  · have HE := hide (tkW_not hc)
    go_enter Try.func42, Try.ntmps42
    go_wp2_with fail
    refine (l1In_any s 0 511 _).mono ?_
    rw [hc]
    rintro e w' ⟨rfl, rfl⟩
    go_wp2
    go_ret
    exact ⟨ret_int HE.out.symm, Below.refl _ _⟩
  · obtain ⟨n, rfl, hn⟩ : ∃ n : Nat, s = n ∧ n ≤ 511 := by
      rw [Bool.and_eq_true, decide_eq_true_iff, decide_eq_true_iff] at hc
      exact ⟨s.toNat, by omega, by omega⟩
    have HE := hide ((tkW_ok hn).trans (congrArg (fun x : Nat => (x : Int)) (toK_all ⟨n, by omega⟩).symm))
    go_enter Try.func42, Try.ntmps42
    go_wp2_with fail
    refine (l1In_any (n : Int) 0 511 _).mono ?_
    rw [hc]
    rintro e w' ⟨rfl, rfl⟩
    clear hc
    go_wp2
    go_loopg [4, 3] 9 (fun g i v wr => ∃ k : Nat, k ≤ 9 ∧ Hid (g = 9 - k) ∧ i = .int .i64 k ∧ v = .int .i64 ((toK n k : Nat) : Int) ∧ Below w.heap.size w wr)
    case atStart => exact ⟨0, Nat.zero_le _, rfl, rfl, rfl, Below.refl _ _⟩
    case round =>
      obtain ⟨k, hk, hg, rfl, rfl, hB⟩ := hrel
      have hml := toK_lt n k hk
      obtain rfl | rfl | rfl | rfl | rfl | rfl | rfl | rfl | rfl | rfl : k = 0 ∨ k = 1 ∨ k = 2 ∨ k = 3 ∨ k = 4 ∨ k = 5 ∨ k = 6 ∨ k = 7 ∨ k = 8 ∨ k = 9 := by omega
      · have hh := bit_half (s := n) (k := 0)
        have q1 : ((n : Int) / 1) = ((n / 2 ^ 0 : Nat) : Int) := by rw [show (2 : Nat) ^ 0 = 1 from rfl]; omega
        have q2 : n / 2 ^ 0 ≤ 511 := Nat.le_trans (Nat.div_le_self _ _) hn
        obtain ⟨m, hm⟩ : ∃ m, m = n / 2 ^ 0 := ⟨_, rfl⟩
        rw [← hm] at hh q1 q2
        have q3 : ((m : Int) % 2) = ((m % 2 : Nat) : Int) := by omega
        have q4 : ((m : Int).tmod 2) = ((m % 2 : Nat) : Int) := by rw [Int.tmod_eq_emod_of_nonneg (by omega)]; exact q3
        clear hm
        cases hb : n.testBit 0
        · rw [hb] at hh
          have hm0 : m % 2 = 0 := by simpa using hh
          rw [hm0] at q3 q4
          have HN := hide (toK_no hb)
          clear hh hb
          go_wp2
          go_roundg (9 - 1)
          case measure => go_light; have := hg.out; omega
          case rel => go_light; exact ⟨1, by omega, rfl, rfl, by rw [HN.out], hB⟩
        · rw [hb] at hh
          have hm1 : m % 2 = 1 := by simpa using hh
          rw [hm1] at q3 q4
          have HN := hide (toK_yes hb)
          have hor : bits .or .i64 ((toK n 0 : Nat) : Int) 1 = ((toK n 0 ||| 2 ^ prm 0 : Nat) : Int) := bits_or31 (by omega) (by decide)
          have B2 := hide (hB.alloc hB.size (.cells #[.int .i64 0, .int .i64 1, .int .i64 3, .int .i64 2, .int .i64 4, .int .i64 6, .int .i64 5, .int .i64 7, .int .i64 8] 3))
          clear hh hb
          go_wp2
          go_roundg (9 - 1)
          case measure => go_light; have := hg.out; omega
          case rel => go_light; exact ⟨1, by omega, rfl, rfl, by rw [HN.out], B2.out⟩
      · have hh := bit_half (s := n) (k := 1)
        have q1 : ((n : Int) / 2) = ((n / 2 ^ 1 : Nat) : Int) := by rw [show (2 : Nat) ^ 1 = 2 from rfl]; omega
        have q2 : n / 2 ^ 1 ≤ 511 := Nat.le_trans (Nat.div_le_self _ _) hn
        obtain ⟨m, hm⟩ : ∃ m, m = n / 2 ^ 1 := ⟨_, rfl⟩
        rw [← hm] at hh q1 q2
        have q3 : ((m : Int) % 2) = ((m % 2 : Nat) : Int) := by omega
        have q4 : ((m : Int).tmod 2) = ((m % 2 : Nat) : Int) := by rw [Int.tmod_eq_emod_of_nonneg (by omega)]; exact q3
        clear hm
        cases hb : n.testBit 1
        · rw [hb] at hh
          have hm0 : m % 2 = 0 := by simpa using hh
          rw [hm0] at q3 q4
          have HN := hide (toK_no hb)
          clear hh hb
          go_wp2
          go_roundg (9 - 2)
          case measure => go_light; have := hg.out; omega
          case rel => go_light; exact ⟨2, by omega, rfl, rfl, by rw [HN.out], hB⟩
        · rw [hb] at hh
          have hm1 : m % 2 = 1 := by simpa using hh
          rw [hm1] at q3 q4
          have HN := hide (toK_yes hb)
          have hor : bits .or .i64 ((toK n 1 : Nat) : Int) 2 = ((toK n 1 ||| 2 ^ prm 1 : Nat) : Int) := bits_or31 (by omega) (by decide)
          have B2 := hide (hB.alloc hB.size (.cells #[.int .i64 0, .int .i64 1, .int .i64 3, .int .i64 2, .int .i64 4, .int .i64 6, .int .i64 5, .int .i64 7, .int .i64 8] 3))
          clear hh hb
          go_wp2
          go_roundg (9 - 2)
          case measure => go_light; have := hg.out; omega
          case rel => go_light; exact ⟨2, by omega, rfl, rfl, by rw [HN.out], B2.out⟩
      · have hh := bit_half (s := n) (k := 2)
        have q1 : ((n : Int) / 4) = ((n / 2 ^ 2 : Nat) : Int) := by rw [show (2 : Nat) ^ 2 = 4 from rfl]; omega
        have q2 : n / 2 ^ 2 ≤ 511 := Nat.le_trans (Nat.div_le_self _ _) hn
        obtain ⟨m, hm⟩ : ∃ m, m = n / 2 ^ 2 := ⟨_, rfl⟩
        rw [← hm] at hh q1 q2
        have q3 : ((m : Int) % 2) = ((m % 2 : Nat) : Int) := by omega
        have q4 : ((m : Int).tmod 2) = ((m % 2 : Nat) : Int) := by rw [Int.tmod_eq_emod_of_nonneg (by omega)]; exact q3
        clear hm
        cases hb : n.testBit 2
        · rw [hb] at hh
          have hm0 : m % 2 = 0 := by simpa using hh
          rw [hm0] at q3 q4
          have HN := hide (toK_no hb)
          clear hh hb
          go_wp2
          go_roundg (9 - 3)
          case measure => go_light; have := hg.out; omega
          case rel => go_light; exact ⟨3, by omega, rfl, rfl, by rw [HN.out], hB⟩
        · rw [hb] at hh
          have hm1 : m % 2 = 1 := by simpa using hh
          rw [hm1] at q3 q4
          have HN := hide (toK_yes hb)
          have hor : bits .or .i64 ((toK n 2 : Nat) : Int) 8 = ((toK n 2 ||| 2 ^ prm 2 : Nat) : Int) := bits_or31 (by omega) (by decide)
          have B2 := hide (hB.alloc hB.size (.cells #[.int .i64 0, .int .i64 1, .int .i64 3, .int .i64 2, .int .i64 4, .int .i64 6, .int .i64 5, .int .i64 7, .int .i64 8] 3))
          clear hh hb
          go_wp2
          go_roundg (9 - 3)
          case measure => go_light; have := hg.out; omega
          case rel => go_light; exact ⟨3, by omega, rfl, rfl, by rw [HN.out], B2.out⟩
      · have hh := bit_half (s := n) (k := 3)
        have q1 : ((n : Int) / 8) = ((n / 2 ^ 3 : Nat) : Int) := by rw [show (2 : Nat) ^ 3 = 8 from rfl]; omega
        have q2 : n / 2 ^ 3 ≤ 511 := Nat.le_trans (Nat.div_le_self _ _) hn
        obtain ⟨m, hm⟩ : ∃ m, m = n / 2 ^ 3 := ⟨_, rfl⟩
        rw [← hm] at hh q1 q2
        have q3 : ((m : Int) % 2) = ((m % 2 : Nat) : Int) := by omega
        have q4 : ((m : Int).tmod 2) = ((m % 2 : Nat) : Int) := by rw [Int.tmod_eq_emod_of_nonneg (by omega)]; exact q3
        clear hm
        cases hb : n.testBit 3
        · rw [hb] at hh
          have hm0 : m % 2 = 0 := by simpa using hh
          rw [hm0] at q3 q4
          have HN := hide (toK_no hb)
          clear hh hb
          go_wp2
          go_roundg (9 - 4)
          case measure => go_light; have := hg.out; omega
          case rel => go_light; exact ⟨4, by omega, rfl, rfl, by rw [HN.out], hB⟩
        · rw [hb] at hh
          have hm1 : m % 2 = 1 := by simpa using hh
          rw [hm1] at q3 q4
          have HN := hide (toK_yes hb)
          have hor : bits .or .i64 ((toK n 3 : Nat) : Int) 4 = ((toK n 3 ||| 2 ^ prm 3 : Nat) : Int) := bits_or31 (by omega) (by decide)
          have B2 := hide (hB.alloc hB.size (.cells #[.int .i64 0, .int .i64 1, .int .i64 3, .int .i64 2, .int .i64 4, .int .i64 6, .int .i64 5, .int .i64 7, .int .i64 8] 3))
          clear hh hb
          go_wp2
          go_roundg (9 - 4)
          case measure => go_light; have := hg.out; omega
          case rel => go_light; exact ⟨4, by omega, rfl, rfl, by rw [HN.out], B2.out⟩
      · have hh := bit_half (s := n) (k := 4)
        have q1 : ((n : Int) / 16) = ((n / 2 ^ 4 : Nat) : Int) := by rw [show (2 : Nat) ^ 4 = 16 from rfl]; omega
        have q2 : n / 2 ^ 4 ≤ 511 := Nat.le_trans (Nat.div_le_self _ _) hn
        obtain ⟨m, hm⟩ : ∃ m, m = n / 2 ^ 4 := ⟨_, rfl⟩
        rw [← hm] at hh q1 q2
        have q3 : ((m : Int) % 2) = ((m % 2 : Nat) : Int) := by omega
        have q4 : ((m : Int).tmod 2) = ((m % 2 : Nat) : Int) := by rw [Int.tmod_eq_emod_of_nonneg (by omega)]; exact q3
        clear hm
        cases hb : n.testBit 4
        · rw [hb] at hh
          have hm0 : m % 2 = 0 := by simpa using hh
          rw [hm0] at q3 q4
          have HN := hide (toK_no hb)
          clear hh hb
          go_wp2
          go_roundg (9 - 5)
          case measure => go_light; have := hg.out; omega
          case rel => go_light; exact ⟨5, by omega, rfl, rfl, by rw [HN.out], hB⟩
        · rw [hb] at hh
          have hm1 : m % 2 = 1 := by simpa using hh
          rw [hm1] at q3 q4
          have HN := hide (toK_yes hb)
          have hor : bits .or .i64 ((toK n 4 : Nat) : Int) 16 = ((toK n 4 ||| 2 ^ prm 4 : Nat) : Int) := bits_or31 (by omega) (by decide)
          have B2 := hide (hB.alloc hB.size (.cells #[.int .i64 0, .int .i64 1, .int .i64 3, .int .i64 2, .int .i64 4, .int .i64 6, .int .i64 5, .int .i64 7, .int .i64 8] 3))
          clear hh hb
          go_wp2
          go_roundg (9 - 5)
          case measure => go_light; have := hg.out; omega
          case rel => go_light; exact ⟨5, by omega, rfl, rfl, by rw [HN.out], B2.out⟩
      · have hh := bit_half (s := n) (k := 5)
        have q1 : ((n : Int) / 32) = ((n / 2 ^ 5 : Nat) : Int) := by rw [show (2 : Nat) ^ 5 = 32 from rfl]; omega
        have q2 : n / 2 ^ 5 ≤ 511 := Nat.le_trans (Nat.div_le_self _ _) hn
        obtain ⟨m, hm⟩ : ∃ m, m = n / 2 ^ 5 := ⟨_, rfl⟩
        rw [← hm] at hh q1 q2
        have q3 : ((m : Int) % 2) = ((m % 2 : Nat) : Int) := by omega
        have q4 : ((m : Int).tmod 2) = ((m % 2 : Nat) : Int) := by rw [Int.tmod_eq_emod_of_nonneg (by omega)]; exact q3
        clear hm
        cases hb : n.testBit 5
        · rw [hb] at hh
          have hm0 : m % 2 = 0 := by simpa using hh
          rw [hm0] at q3 q4
          have HN := hide (toK_no hb)
          clear hh hb
          go_wp2
          go_roundg (9 - 6)
          case measure => go_light; have := hg.out; omega
          case rel => go_light; exact ⟨6, by omega, rfl, rfl, by rw [HN.out], hB⟩
        · rw [hb] at hh
          have hm1 : m % 2 = 1 := by simpa using hh
          rw [hm1] at q3 q4
          have HN := hide (toK_yes hb)
          have hor : bits .or .i64 ((toK n 5 : Nat) : Int) 64 = ((toK n 5 ||| 2 ^ prm 5 : Nat) : Int) := bits_or31 (by omega) (by decide)
          have B2 := hide (hB.alloc hB.size (.cells #[.int .i64 0, .int .i64 1, .int .i64 3, .int .i64 2, .int .i64 4, .int .i64 6, .int .i64 5, .int .i64 7, .int .i64 8] 3))
          clear hh hb
          go_wp2
          go_roundg (9 - 6)
          case measure => go_light; have := hg.out; omega
          case rel => go_light; exact ⟨6, by omega, rfl, rfl, by rw [HN.out], B2.out⟩
      · have hh := bit_half (s := n) (k := 6)
        have q1 : ((n : Int) / 64) = ((n / 2 ^ 6 : Nat) : Int) := by rw [show (2 : Nat) ^ 6 = 64 from rfl]; omega
        have q2 : n / 2 ^ 6 ≤ 511 := Nat.le_trans (Nat.div_le_self _ _) hn
        obtain ⟨m, hm⟩ : ∃ m, m = n / 2 ^ 6 := ⟨_, rfl⟩
        rw [← hm] at hh q1 q2
        have q3 : ((m : Int) % 2) = ((m % 2 : Nat) : Int) := by omega
        have q4 : ((m : Int).tmod 2) = ((m % 2 : Nat) : Int) := by rw [Int.tmod_eq_emod_of_nonneg (by omega)]; exact q3
        clear hm
        cases hb : n.testBit 6
        · rw [hb] at hh
          have hm0 : m % 2 = 0 := by simpa using hh
          rw [hm0] at q3 q4
          have HN := hide (toK_no hb)
          clear hh hb
          go_wp2
          go_roundg (9 - 7)
          case measure => go_light; have := hg.out; omega
          case rel => go_light; exact ⟨7, by omega, rfl, rfl, by rw [HN.out], hB⟩
        · rw [hb] at hh
          have hm1 : m % 2 = 1 := by simpa using hh
          rw [hm1] at q3 q4
          have HN := hide (toK_yes hb)
          have hor : bits .or .i64 ((toK n 6 : Nat) : Int) 32 = ((toK n 6 ||| 2 ^ prm 6 : Nat) : Int) := bits_or31 (by omega) (by decide)
          have B2 := hide (hB.alloc hB.size (.cells #[.int .i64 0, .int .i64 1, .int .i64 3, .int .i64 2, .int .i64 4, .int .i64 6, .int .i64 5, .int .i64 7, .int .i64 8] 3))
          clear hh hb
          go_wp2
          go_roundg (9 - 7)
          case measure => go_light; have := hg.out; omega
          case rel => go_light; exact ⟨7, by omega, rfl, rfl, by rw [HN.out], B2.out⟩
      · have hh := bit_half (s := n) (k := 7)
        have q1 : ((n : Int) / 128) = ((n / 2 ^ 7 : Nat) : Int) := by rw [show (2 : Nat) ^ 7 = 128 from rfl]; omega
        have q2 : n / 2 ^ 7 ≤ 511 := Nat.le_trans (Nat.div_le_self _ _) hn
        obtain ⟨m, hm⟩ : ∃ m, m = n / 2 ^ 7 := ⟨_, rfl⟩
        rw [← hm] at hh q1 q2
        have q3 : ((m : Int) % 2) = ((m % 2 : Nat) : Int) := by omega
        have q4 : ((m : Int).tmod 2) = ((m % 2 : Nat) : Int) := by rw [Int.tmod_eq_emod_of_nonneg (by omega)]; exact q3
        clear hm
        cases hb : n.testBit 7
        · rw [hb] at hh
          have hm0 : m % 2 = 0 := by simpa using hh
          rw [hm0] at q3 q4
          have HN := hide (toK_no hb)
          clear hh hb
          go_wp2
          go_roundg (9 - 8)
          case measure => go_light; have := hg.out; omega
          case rel => go_light; exact ⟨8, by omega, rfl, rfl, by rw [HN.out], hB⟩
        · rw [hb] at hh
          have hm1 : m % 2 = 1 := by simpa using hh
          rw [hm1] at q3 q4
          have HN := hide (toK_yes hb)
          have hor : bits .or .i64 ((toK n 7 : Nat) : Int) 128 = ((toK n 7 ||| 2 ^ prm 7 : Nat) : Int) := bits_or31 (by omega) (by decide)
          have B2 := hide (hB.alloc hB.size (.cells #[.int .i64 0, .int .i64 1, .int .i64 3, .int .i64 2, .int .i64 4, .int .i64 6, .int .i64 5, .int .i64 7, .int .i64 8] 3))
          clear hh hb
          go_wp2
          go_roundg (9 - 8)
          case measure => go_light; have := hg.out; omega
          case rel => go_light; exact ⟨8, by omega, rfl, rfl, by rw [HN.out], B2.out⟩
      · have hh := bit_half (s := n) (k := 8)
        have q1 : ((n : Int) / 256) = ((n / 2 ^ 8 : Nat) : Int) := by rw [show (2 : Nat) ^ 8 = 256 from rfl]; omega
        have q2 : n / 2 ^ 8 ≤ 511 := Nat.le_trans (Nat.div_le_self _ _) hn
        obtain ⟨m, hm⟩ : ∃ m, m = n / 2 ^ 8 := ⟨_, rfl⟩
        rw [← hm] at hh q1 q2
        have q3 : ((m : Int) % 2) = ((m % 2 : Nat) : Int) := by omega
        have q4 : ((m : Int).tmod 2) = ((m % 2 : Nat) : Int) := by rw [Int.tmod_eq_emod_of_nonneg (by omega)]; exact q3
        clear hm
        cases hb : n.testBit 8
        · rw [hb] at hh
          have hm0 : m % 2 = 0 := by simpa using hh
          rw [hm0] at q3 q4
          have HN := hide (toK_no hb)
          clear hh hb
          go_wp2
          go_roundg (9 - 9)
          case measure => go_light; have := hg.out; omega
          case rel => go_light; exact ⟨9, by omega, rfl, rfl, by rw [HN.out], hB⟩
        · rw [hb] at hh
          have hm1 : m % 2 = 1 := by simpa using hh
          rw [hm1] at q3 q4
          have HN := hide (toK_yes hb)
          have hor : bits .or .i64 ((toK n 8 : Nat) : Int) 256 = ((toK n 8 ||| 2 ^ prm 8 : Nat) : Int) := bits_or31 (by omega) (by decide)
          have B2 := hide (hB.alloc hB.size (.cells #[.int .i64 0, .int .i64 1, .int .i64 3, .int .i64 2, .int .i64 4, .int .i64 6, .int .i64 5, .int .i64 7, .int .i64 8] 3))
          clear hh hb
          go_wp2
          go_roundg (9 - 9)
          case measure => go_light; have := hg.out; omega
          case rel => go_light; exact ⟨9, by omega, rfl, rfl, by rw [HN.out], B2.out⟩
      · go_wp2
        go_ret
        exact ⟨ret_int HE.out.symm, hB⟩
end Go.Proofs.Ythllbekoidogpaa
