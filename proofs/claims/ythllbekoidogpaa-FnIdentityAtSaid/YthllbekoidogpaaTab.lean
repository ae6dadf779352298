/-  -/
import Derived.Test.YthllbekoidogpaaMem
import Derived.Test.YthllbekoidogpaaHelp
namespace Go.Proofs.Ythllbekoidogpaa
set_option linter.unusedVariables false

def okRow (n : Nat) (xs : List Int) : Bool := xs.all fun x => decide (0 ≤ x) && decide (x < n)
def okT (T : List (List Int)) : Bool := decide (1 ≤ T.length) && decide (T.length ≤ 9) && T.all fun r => decide (r.length = T.length) && okRow T.length r

/-- A table of n things, told by its indices. -/
structure IsT (T : List (List Int)) : Prop where
  lo : 1 ≤ T.length
  hi : T.length ≤ 9
  len : ∀ i, i < T.length → (rw_ T i).length = T.length
  cell : ∀ i j, i < T.length → j < T.length → 0 ≤ el (rw_ T i) j ∧ el (rw_ T i) j < T.length

theorem el_eq {xs : List Int} {j : Nat} (h : j < xs.length) : el xs j = xs[j] := by simp [el, List.getD, h]
theorem rw_eq {T : List (List Int)} {j : Nat} (h : j < T.length) : rw_ T j = T[j] := by simp [rw_, List.getD, h]

theorem okRow_iff {n : Nat} {xs : List Int} : okRow n xs = true ↔ ∀ j, j < xs.length → 0 ≤ el xs j ∧ el xs j < n := by
  unfold okRow
  rw [List.all_eq_true]
  constructor
  · intro h j hj
    have := h _ (List.getElem_mem hj)
    rw [el_eq hj]
    simpa using this
  · intro h x hx
    obtain ⟨j, hj, rfl⟩ := List.getElem_of_mem hx
    have := h j hj
    rw [el_eq hj] at this
    simpa using this
theorem okRow_false {n j : Nat} {xs : List Int} (hj : j < xs.length) (h : el xs j < 0 ∨ (n : Int) ≤ el xs j) : okRow n xs = false := by
  cases e : okRow n xs with
  | false => rfl
  | true => have := okRow_iff.1 e j hj; omega
theorem okT_iff {T : List (List Int)} : okT T = true ↔ IsT T := by
  unfold okT
  rw [Bool.and_eq_true, Bool.and_eq_true, List.all_eq_true, decide_eq_true_iff, decide_eq_true_iff]
  constructor
  · rintro ⟨⟨h1, h2⟩, h⟩
    have hrow : ∀ i, i < T.length → (rw_ T i).length = T.length ∧ okRow T.length (rw_ T i) = true := fun i hi => by
      have := h _ (List.getElem_mem hi)
      rw [rw_eq hi]
      simpa using this
    exact ⟨h1, h2, fun i hi => (hrow i hi).1, fun i j hi hj => okRow_iff.1 (hrow i hi).2 j (by rw [(hrow i hi).1]; exact hj)⟩
  · rintro ⟨h1, h2, h3, h4⟩
    refine ⟨⟨h1, h2⟩, fun r hr => ?_⟩
    obtain ⟨i, hi, rfl⟩ := List.getElem_of_mem hr
    have e := h3 i hi
    have c := h4 i
    rw [rw_eq hi] at e c
    rw [Bool.and_eq_true, decide_eq_true_iff]
    exact ⟨e, okRow_iff.2 fun j hj => c j hi (by omega)⟩
theorem okT_false {T : List (List Int)} (h : ¬ IsT T) : okT T = false := by
  cases e : okT T with
  | false => rfl
  | true => exact absurd (okT_iff.1 e) h
theorem okT_size {T : List (List Int)} (h : T.length < 1 ∨ 9 < T.length) : okT T = false := okT_false fun k => by have := k.lo; have := k.hi; omega
theorem okT_len {T : List (List Int)} {i : Nat} (hi : i < T.length) (h : (rw_ T i).length ≠ T.length) : okT T = false := okT_false fun k => h (k.len i hi)
theorem okT_row {T : List (List Int)} {i : Nat} (hi : i < T.length) (h : okRow T.length (rw_ T i) = false) : okT T = false := okT_false fun k => by
  have : okRow T.length (rw_ T i) = true := okRow_iff.2 fun j hj => k.cell i j hi (by rw [← k.len i hi]; exact hj)
  rw [h] at this; cases this
theorem okT_cell {T : List (List Int)} {i j : Nat} (hi : i < T.length) (hj : j < (rw_ T i).length) (h : el (rw_ T i) j < 0 ∨ (T.length : Int) ≤ el (rw_ T i) j) : okT T = false := okT_row hi (okRow_false hj h)

/-- The product of two things, told by their numbers. -/
def mul (T : List (List Int)) (x y : Int) : Int := el (rw_ T x.toNat) y.toNat
theorem IsT.mul {T : List (List Int)} (h : IsT T) {x y : Int} (hx0 : 0 ≤ x) (hx1 : x < T.length) (hy0 : 0 ≤ y) (hy1 : y < T.length) : 0 ≤ mul T x y ∧ mul T x y < T.length := h.cell _ _ (by omega) (by omega)
theorem IsT.small {T : List (List Int)} (h : IsT T) : Small T := ⟨by have := h.hi; omega, fun i hi => by rw [h.len i hi]; have := h.hi; omega⟩

/-- Whether brackets matter at three things. -/
def assoc (T : List (List Int)) (x y z : Int) : Bool := mul T x (mul T y z) == mul T (mul T x y) z
theorem assoc_iff {T : List (List Int)} {x y z : Int} : assoc T x y z = true ↔ mul T x (mul T y z) = mul T (mul T x y) z := by unfold assoc; simp
/-- A table in which brackets do not matter. -/
structure IsG (T : List (List Int)) : Prop where
  tab : IsT T
  grp : ∀ x y z : Int, 0 ≤ x → x < T.length → 0 ≤ y → y < T.length → 0 ≤ z → z < T.length → mul T x (mul T y z) = mul T (mul T x y) z
noncomputable def grpT (T : List (List Int)) : Bool := @decide (IsG T) (Classical.propDecidable _)
theorem grpT_iff {T : List (List Int)} : grpT T = true ↔ IsG T := by unfold grpT; exact @decide_eq_true_iff _ (Classical.propDecidable _)
theorem grpT_false {T : List (List Int)} (h : ¬ IsG T) : grpT T = false := by
  cases e : grpT T with
  | false => rfl
  | true => exact absurd (grpT_iff.1 e) h
theorem grpT_not {T : List (List Int)} (h : okT T = false) : grpT T = false := grpT_false fun k => by rw [okT_iff.2 k.tab] at h; cases h
theorem grpT_at {T : List (List Int)} {x y z : Int} (hx0 : 0 ≤ x) (hx1 : x < T.length) (hy0 : 0 ≤ y) (hy1 : y < T.length) (hz0 : 0 ≤ z) (hz1 : z < T.length) (h : assoc T x y z = false) : grpT T = false :=
  grpT_false fun k => by rw [assoc_iff.2 (k.grp x y z hx0 hx1 hy0 hy1 hz0 hz1)] at h; cases h
theorem grpT_all {T : List (List Int)} (k : IsT T) (h : ∀ x, x < T.length → ∀ y, y < T.length → ∀ z, z < T.length → assoc T (x : Nat) (y : Nat) (z : Nat) = true) : grpT T = true :=
  grpT_iff.2 ⟨k, fun x y z hx0 hx1 hy0 hy1 hz0 hz1 => by
    have := assoc_iff.1 (h x.toNat (by omega) y.toNat (by omega) z.toNat (by omega))
    rwa [Int.toNat_of_nonneg hx0, Int.toNat_of_nonneg hy0, Int.toNat_of_nonneg hz0] at this⟩

/-- Three things, counted as one number. -/
def atK (T : List (List Int)) (k : Nat) : Bool := assoc T (k / T.length / T.length : Nat) (k / T.length % T.length : Nat) (k % T.length : Nat)
theorem three_lt {n k : Nat} (h0 : 0 < n) (hk : k < n * n * n) : k / n / n < n ∧ k / n % n < n ∧ k % n < n :=
  ⟨by rw [Nat.div_div_eq_div_mul]; exact Nat.div_lt_of_lt_mul hk, Nat.mod_lt _ h0, Nat.mod_lt _ h0⟩
theorem three_of {n x y z : Nat} (hx : x < n) (hy : y < n) (hz : z < n) : (x * n + y) * n + z < n * n * n ∧ ((x * n + y) * n + z) / n / n = x ∧ ((x * n + y) * n + z) / n % n = y ∧ ((x * n + y) * n + z) % n = z := by
  have h0 : 0 < n := by omega
  have e1 : ((x * n + y) * n + z) / n = x * n + y := by rw [Nat.mul_comm, Nat.mul_add_div h0, Nat.div_eq_of_lt hz, Nat.add_zero]
  have e2 : ((x * n + y) * n + z) % n = z := by rw [Nat.mul_comm, Nat.mul_add_mod, Nat.mod_eq_of_lt hz]
  refine ⟨?_, ?_, ?_, e2⟩
  · have h1 : x * n + y < n * n := by
      have : (x + 1) * n ≤ n * n := Nat.mul_le_mul_right _ (by omega)
      rw [Nat.succ_mul] at this; omega
    have : (x * n + y + 1) * n ≤ n * n * n := Nat.mul_le_mul_right _ (by omega)
    rw [Nat.succ_mul] at this; omega
  · rw [e1, Nat.mul_comm, Nat.mul_add_div h0, Nat.div_eq_of_lt hy, Nat.add_zero]
  · rw [e1, Nat.mul_comm, Nat.mul_add_mod, Nat.mod_eq_of_lt hy]
theorem grpT_kall {T : List (List Int)} (k : IsT T) (h : ∀ j, j < T.length * T.length * T.length → atK T j = true) : grpT T = true :=
  grpT_all k fun x hx y hy z hz => by
    obtain ⟨h1, h2, h3, h4⟩ := three_of hx hy hz
    have := h _ h1
    unfold atK at this
    rwa [h2, h3, h4] at this
theorem grpT_kat {T : List (List Int)} (k : IsT T) {j : Nat} (hj : j < T.length * T.length * T.length) (h : atK T j = false) : grpT T = false := by
  obtain ⟨h1, h2, h3⟩ := three_lt (by have := k.lo; omega) hj
  exact grpT_at (Int.natCast_nonneg _) (Int.ofNat_lt.2 h1) (Int.natCast_nonneg _) (Int.ofNat_lt.2 h2) (Int.natCast_nonneg _) (Int.ofNat_lt.2 h3) h
theorem sq_le {n : Nat} (h : n ≤ 9) : n * n ≤ 81 ∧ n * n * n ≤ 729 := by
  have h2 : n * n ≤ 9 * 9 := Nat.mul_le_mul h h
  exact ⟨h2, Nat.mul_le_mul h2 h⟩
theorem sq_int {n : Nat} (h : n ≤ 9) : (0 ≤ (n : Int) * (n : Int) ∧ (n : Int) * (n : Int) ≤ 81) ∧ 0 ≤ (n : Int) * (n : Int) * (n : Int) ∧ (n : Int) * (n : Int) * (n : Int) ≤ 729 := by
  obtain ⟨h2, h3⟩ := sq_le h
  have e2 : (n : Int) * (n : Int) = ((n * n : Nat) : Int) := by simp
  have e3 : (n : Int) * (n : Int) * (n : Int) = ((n * n * n : Nat) : Int) := by simp
  rw [e2, ← e2, e3] 
  omega

theorem div_int (p n : Nat) : (p : Int) / (n : Int) = ((p / n : Nat) : Int) := by simp
theorem mod_int (p n : Nat) : (p : Int) % (n : Int) = ((p % n : Nat) : Int) := by simp
theorem three_int {n p : Nat} (h0 : 1 ≤ n) (h9 : n ≤ 9) (hp : p < n * n * n) :
    (0 ≤ (p : Int) / (n : Int) ∧ (p : Int) / (n : Int) ≤ 729) ∧ (0 ≤ (p : Int) / (n : Int) / (n : Int) ∧ (p : Int) / (n : Int) / (n : Int) < n) ∧ (0 ≤ (p : Int) / (n : Int) % (n : Int) ∧ (p : Int) / (n : Int) % (n : Int) < n) ∧ (0 ≤ (p : Int) % (n : Int) ∧ (p : Int) % (n : Int) < n) := by
  obtain ⟨h1, h2, h3⟩ := three_lt (by omega) hp
  have h4 := (sq_le h9).2
  have h5 : p / n ≤ p := Nat.div_le_self _ _
  have h6 : p ≤ 729 := by omega
  rw [div_int, div_int, mod_int, mod_int]
  exact ⟨⟨Int.natCast_nonneg _, Int.ofNat_le.2 (Nat.le_trans h5 h6)⟩, ⟨Int.natCast_nonneg _, Int.ofNat_lt.2 h1⟩, ⟨Int.natCast_nonneg _, Int.ofNat_lt.2 h2⟩, Int.natCast_nonneg _, Int.ofNat_lt.2 h3⟩
end Go.Proofs.Ythllbekoidogpaa

namespace Go.Proofs.Ythllbekoidogpaa
open Go.RowKit
set_option linter.unusedVariables false

set_option maxHeartbeats 400000 in
theorem allThings_any (A : Option Addr) (c lo hi n : Nat) (xs : List Int) (w : World) (h : Row w lo hi A xs) (hn : xs.length ≤ 1048576) (hm : n ≤ 1048576) :
    Calls Try.prog 66 #[.slice A xs.length c, .int .i64 n] w fun e w' => e = .returned (.bool (okRow n xs)) ∧ w = w' := by
  go_enter Try.func66, Try.ntmps66
  go_wp2
  go_loopg [9] xs.length (fun g i wr => ∃ k : Nat, k ≤ xs.length ∧ g = xs.length - k ∧ i = .int .i64 k ∧ w = wr ∧ Hid (∀ j, j < k → 0 ≤ el xs j ∧ el xs j < n))
  case atStart => exact ⟨0, Nat.zero_le _, rfl, rfl, rfl, fun _ hj => absurd hj (Nat.not_lt_zero _)⟩
  case round =>
    obtain ⟨k, hk, rfl, rfl, rfl, hH⟩ := hrel
    by_cases hlt : k < xs.length
    · obtain ⟨b, o, rfl, _, _, hc⟩ := h k hlt
      by_cases h0 : el xs k < 0
      · go_wp2
        go_ret
        exact ⟨ret_bool (okRow_false hlt (.inl h0)).symm, rfl⟩
      · by_cases h1 : (n : Int) ≤ el xs k
        · go_wp2
          go_ret
          exact ⟨ret_bool (okRow_false hlt (.inr h1)).symm, rfl⟩
        · go_wp2
          go_roundg (xs.length - (k + 1))
          case measure => go_light; omega
          case rel => go_light; exact ⟨k + 1, by omega, rfl, by go_num, rfl, fun j hj => by
            by_cases e : j = k
            · subst e; exact ⟨by omega, by omega⟩
            · exact hH j (by omega)⟩
    · obtain rfl : k = xs.length := by omega
      go_wp2
      go_ret
      exact ⟨ret_bool (okRow_iff.2 hH.out).symm, rfl⟩

set_option maxHeartbeats 400000 in
theorem l1In_any (n lo hi : Int) (w : World) : Calls Try.prog 59 #[.int .i64 n, .int .i64 lo, .int .i64 hi] w fun e w' => e = .returned (.bool (decide (lo ≤ n) && decide (n ≤ hi))) ∧ w = w' := by
  by_cases h0 : lo ≤ n <;> by_cases h1 : n ≤ hi
  all_goals
    go_enter Try.func59, Try.ntmps59
    go_wp2
    go_ret
    exact ⟨ret_bool (by simp [h0, h1]), rfl⟩

set_option maxHeartbeats 400000 in
theorem iTableOk_any (A : Option Addr) (c lo hi : Nat) (T : List (List Int)) (w : World) (h : Mat w lo hi A T) (hS : Small T) :
    Calls Try.prog 33 #[.slice A T.length c] w fun e w' => e = .returned (.bool (okT T)) ∧ w = w' := by
  have hn := hS.len
  by_cases h1 : T.length < 1
  · go_enter Try.func33, Try.ntmps33
    go_wp2
    go_ret
    exact ⟨ret_bool (okT_size (.inl h1)).symm, rfl⟩
  · by_cases h9 : 9 < T.length
    · go_enter Try.func33, Try.ntmps33
      go_wp2
      go_ret
      exact ⟨ret_bool (okT_size (.inr h9)).symm, rfl⟩
    · go_enter Try.func33, Try.ntmps33
      go_wp2
      go_loopg [15] T.length (fun g i wr => ∃ k : Nat, k ≤ T.length ∧ g = T.length - k ∧ i = .int .i64 k ∧ w = wr ∧ Hid (∀ j, j < k → (rw_ T j).length = T.length ∧ okRow T.length (rw_ T j) = true))
      case atStart => exact ⟨0, Nat.zero_le _, rfl, rfl, rfl, fun _ hj => absurd hj (Nat.not_lt_zero _)⟩
      case round =>
        obtain ⟨k, hk, rfl, rfl, rfl, hH⟩ := hrel
        by_cases hlt : k < T.length
        · obtain ⟨b, o, A', c', rfl, _, _, hc, hR⟩ := h k hlt
          have hl := hS.row k hlt
          by_cases he : (rw_ T k).length = T.length
          · have hz : ((rw_ T k).length : Int) = (T.length : Int) := by omega
            have Hz := hide he
            have hq : (((rw_ T k).length : Int) == (T.length : Int)) = true := by simp [he]
            have hq2 : (((rw_ T k).length : Int) != (T.length : Int)) = false := by simp [he]
            clear he hz
            cases hb : okRow T.length (rw_ T k)
            · go_wp2_with (go_at_call 66; refine (allThings_any _ _ _ _ _ _ _ hR hl hn).mono ?_; rintro e w' ⟨rfl, rfl⟩)
              go_ret
              exact ⟨ret_bool (okT_row hlt hb).symm, rfl⟩
            · go_wp2_with (go_at_call 66; refine (allThings_any _ _ _ _ _ _ _ hR hl hn).mono ?_; rintro e w' ⟨rfl, rfl⟩)
              go_roundg (T.length - (k + 1))
              case measure => go_light; omega
              case rel => go_light; exact ⟨k + 1, by omega, rfl, by go_num, rfl, fun j hj => by
                by_cases e : j = k
                · subst e; exact ⟨Hz.out, hb⟩
                · exact hH j (by omega)⟩
          · have hq : (((rw_ T k).length : Int) == (T.length : Int)) = false := by simp; omega
            have hq2 : (((rw_ T k).length : Int) != (T.length : Int)) = true := by simp; omega
            go_wp2
            go_ret
            exact ⟨ret_bool (okT_len hlt he).symm, rfl⟩
        · obtain rfl : k = T.length := by omega
          go_wp2
          go_ret
          exact ⟨ret_bool (okT_iff.2 ⟨by omega, by omega, fun i hi => (hH i hi).1, fun i j hi hj => okRow_iff.1 (hH i hi).2 j (by rw [(hH i hi).1]; exact hj)⟩).symm, rfl⟩

set_option maxHeartbeats 400000 in
theorem sTableOk_any (A : Option Addr) (c lo hi : Nat) (T : List (List Int)) (w : World) (h : Mat w lo hi A T) (hS : Small T) :
    Calls Try.prog 16 #[.slice A T.length c] w fun e w' => e = .returned (.bool (okT T)) ∧ w = w' := by
  have hn := hS.len
  go_enter Try.func16, Try.ntmps16
  go_wp2
  go_loopg [4] T.length (fun g i wr => ∃ k : Nat, k ≤ T.length ∧ g = T.length - k ∧ i = .int .i64 k ∧ w = wr ∧ Hid (∀ j, j < k → (rw_ T j).length = T.length ∧ okRow T.length (rw_ T j) = true))
  case atStart => exact ⟨0, Nat.zero_le _, rfl, rfl, rfl, fun _ hj => absurd hj (Nat.not_lt_zero _)⟩
  case round =>
    obtain ⟨k, hk, rfl, rfl, rfl, hH⟩ := hrel
    by_cases hlt : k < T.length
    · obtain ⟨b, o, A', c', rfl, _, _, hc, hR⟩ := h k hlt
      have hl := hS.row k hlt
      by_cases he : (rw_ T k).length = T.length
      · have Hz := hide he
        have hq2 : (((rw_ T k).length : Int) != (T.length : Int)) = false := by simp [he]
        clear he
        go_wp2
        go_loopg [5] T.length (fun g i wr => ∃ m : Nat, m ≤ T.length ∧ g = T.length - m ∧ i = .int .i64 m ∧ w = wr ∧ Hid (∀ j, j < m → 0 ≤ el (rw_ T k) j ∧ el (rw_ T k) j < T.length))
        case atStart => exact ⟨0, Nat.zero_le _, rfl, rfl, rfl, fun _ hj => absurd hj (Nat.not_lt_zero _)⟩
        case round =>
          obtain ⟨m, hm, rfl, rfl, rfl, hH2⟩ := hrel
          by_cases hmt : m < T.length
          · have hml : m < (rw_ T k).length := by rw [Hz.out]; exact hmt
            obtain ⟨b2, o2, rfl, _, _, hc2⟩ := hR m hml
            have hmi : (m : Int) < ((rw_ T k).length : Int) := by omega
            by_cases hv : 0 ≤ el (rw_ T k) m ∧ el (rw_ T k) m < T.length
            · obtain ⟨hv0, hv1⟩ := hv
              have hb : (decide (0 ≤ el (rw_ T k) m) && decide (el (rw_ T k) m ≤ (T.length : Int) - 1)) = true := by simp; omega
              go_wp2_with (go_at_call 59; refine (l1In_any _ _ _ _).mono ?_; rintro e w' ⟨rfl, rfl⟩; rw [hb])
              go_roundg (T.length - (m + 1))
              case measure => go_light; omega
              case rel => go_light; exact ⟨m + 1, by omega, rfl, by go_num, rfl, fun j hj => by
                by_cases e : j = m
                · subst e; exact ⟨hv0, hv1⟩
                · exact hH2 j (by omega)⟩
            · have hb : (decide (0 ≤ el (rw_ T k) m) && decide (el (rw_ T k) m ≤ (T.length : Int) - 1)) = false := by simp; omega
              go_wp2_with (go_at_call 59; refine (l1In_any _ _ _ _).mono ?_; rintro e w' ⟨rfl, rfl⟩; rw [hb])
              go_ret
              exact ⟨ret_bool (okT_cell hlt hml (by omega)).symm, rfl⟩
          · obtain rfl : m = T.length := by omega
            go_wp2
            go_roundg (T.length - (k + 1))
            case measure => go_light; omega
            case rel => go_light; exact ⟨k + 1, by omega, rfl, by go_num, rfl, fun j hj => by
              by_cases e : j = k
              · subst e; exact ⟨Hz.out, okRow_iff.2 fun i hi => hH2 i (by rw [← Hz.out]; exact hi)⟩
              · exact hH j (by omega)⟩
      · have hq2 : (((rw_ T k).length : Int) != (T.length : Int)) = true := by simp; omega
        go_wp2
        go_ret
        exact ⟨ret_bool (okT_len hlt he).symm, rfl⟩
    · obtain rfl : k = T.length := by omega
      by_cases hz : 1 ≤ T.length ∧ T.length ≤ 9
      · have hb : (decide ((1 : Int) ≤ (T.length : Int)) && decide ((T.length : Int) ≤ 9)) = true := by simp; omega
        go_wp2_with (go_at_call 59; refine (l1In_any _ _ _ _).mono ?_; rintro e w' ⟨rfl, rfl⟩; rw [hb])
        go_ret
        exact ⟨ret_bool (okT_iff.2 ⟨by omega, by omega, fun i hi => (hH i hi).1, fun i j hi hj => okRow_iff.1 (hH i hi).2 j (by rw [(hH i hi).1]; exact hj)⟩).symm, rfl⟩
      · have hb : (decide ((1 : Int) ≤ (T.length : Int)) && decide ((T.length : Int) ≤ 9)) = false := by simp; omega
        go_wp2_with (go_at_call 59; refine (l1In_any _ _ _ _).mono ?_; rintro e w' ⟨rfl, rfl⟩; rw [hb])
        go_ret
        exact ⟨ret_bool (okT_size (by omega)).symm, rfl⟩
end Go.Proofs.Ythllbekoidogpaa
