/-  -/
import Derived.Test.YthllbekoidogpaaAlw07
import Derived.Test.YthllbekoidogpaaAlw04
import Derived.Test.YthllbekoidogpaaAlw08
import Derived.Test.YthllbekoidogpaaAlw06
import Derived.Test.YthllbekoidogpaaAlw02
import Derived.Test.YthllbekoidogpaaAlw05
import Derived.RangeFuncNested
import Derived.RangeFuncFrom
import Derived.RangeFuncCalls
import Derived.RangeFuncBox
import Derived.Test.YthllbekoidogpaaAlw01
import Derived.Shelf.Abstract
import Derived.Shelf.RegionOpen
import Derived.RangeFuncLeaves
import Derived.WalkKit
import Derived.OwnWalkIn
import Derived.TacticsInMore
import Derived.LoopNIn
import Derived.LoopIn
import Derived.Maps.OwnIn
import Derived.Deep.WholeRow
namespace Go.Proofs.Ythllbekoidogpaa
open Go.RowKit
set_option linter.unusedVariables false
set_option linter.unusedSimpArgs false

/-- Whether two words have different values where the letters stand for x, y and z. -/
noncomputable def nd (T : List (List Int)) (u v : List UInt8) (x y z : Nat) : Bool := valW T u (x : Int) (y : Int) (z : Int) != valW T v (x : Int) (y : Int) (z : Int)
section
variable {T : List (List Int)} {u v : List UInt8} {a b c k : Nat}
theorem difA_nd : difA T u v k = nd T u v (k / T.length / T.length) (k / T.length % T.length) (k % T.length) := by
  unfold difA nd
  rw [Int.natCast_ediv, Int.natCast_ediv, Int.natCast_emod, Int.natCast_emod, Int.natCast_ediv]
theorem cube_at (n a b c : Nat) (hb : b < n) (hc : c < n) : ((a * n + b) * n + c) / n / n = a ∧ ((a * n + b) * n + c) / n % n = b ∧ ((a * n + b) * n + c) % n = c := by
  have h0 : 0 < n := by omega
  have e1 : ((a * n + b) * n + c) / n = a * n + b := by rw [Nat.mul_comm, Nat.mul_add_div h0, Nat.div_eq_of_lt hc, Nat.add_zero]
  have e2 : ((a * n + b) * n + c) % n = c := by rw [Nat.mul_comm, Nat.mul_add_mod, Nat.mod_eq_of_lt hc]
  have e3 : (a * n + b) / n = a := by rw [Nat.mul_comm, Nat.mul_add_div h0, Nat.div_eq_of_lt hb, Nat.add_zero]
  have e4 : (a * n + b) % n = b := by rw [Nat.mul_comm, Nat.mul_add_mod, Nat.mod_eq_of_lt hb]
  rw [e1]
  exact ⟨e3, e4, e2⟩
theorem cube_at_lt {n a b c : Nat} (ha : a < n) (hb : b < n) (hc : c < n) : (a * n + b) * n + c < n * n * n := by
  have h1 : a * n + b + 1 ≤ n * n := by
    have := Nat.mul_le_mul_right n (show a + 1 ≤ n by omega)
    rw [Nat.add_mul] at this; omega
  have h2 := Nat.mul_le_mul_right n h1
  rw [Nat.add_mul] at h2; omega
/-- The first three things, told by three loops. -/
theorem apR_at (hcan : canA T u v = true) (ha : a < T.length) (hb : b < T.length) (hc : c < T.length) (h : nd T u v a b c = true)
    (h1 : ∀ x, x < a → ∀ y, y < T.length → ∀ z, z < T.length → nd T u v x y z = false) (h2 : ∀ y, y < b → ∀ z, z < T.length → nd T u v a y z = false) (h3 : ∀ z, z < c → nd T u v a b z = false) :
    apR T u v = .tuple #[.int .i64 a, .int .i64 b, .int .i64 c, .bool true] := by
  obtain ⟨e1, e2, e3⟩ := cube_at T.length a b c hb hc
  have h0 : 0 < T.length := by omega
  have hk : apart T u v = some ((a * T.length + b) * T.length + c) := by
    refine apart_at hcan (cube_at_lt ha hb hc) (by rw [difA_nd, e1, e2, e3]; exact h) fun j hj => ?_
    rw [difA_nd]
    have y1 : j / T.length % T.length < T.length := Nat.mod_lt _ h0
    have z1 : j % T.length < T.length := Nat.mod_lt _ h0
    have d1 := Nat.div_add_mod j T.length
    have d2 := Nat.div_add_mod (j / T.length) T.length
    have m1 : j / T.length ≤ a * T.length + b := by
      have := Nat.div_le_div_right (c := T.length) (Nat.le_of_lt hj)
      rwa [Nat.mul_comm, Nat.mul_add_div h0, Nat.div_eq_of_lt hc, Nat.add_zero] at this
    have m2 : j / T.length / T.length ≤ a := by
      have := Nat.div_le_div_right (c := T.length) m1
      rwa [Nat.mul_comm, Nat.mul_add_div h0, Nat.div_eq_of_lt hb, Nat.add_zero] at this
    by_cases q1 : j / T.length / T.length < a
    · exact h1 _ q1 _ y1 _ z1
    have q2 : j / T.length / T.length = a := by omega
    rw [q2] at d2 ⊢
    have d3 : a * T.length = T.length * a := Nat.mul_comm _ _
    by_cases q3 : j / T.length % T.length < b
    · exact h2 _ q3 _ z1
    have q4 : j / T.length % T.length = b := by omega
    rw [q4] at d2 ⊢
    have q5 : j / T.length = a * T.length + b := by omega
    rw [q5] at d1
    have d4 : T.length * (a * T.length + b) = (a * T.length + b) * T.length := Nat.mul_comm _ _
    exact h3 _ (by omega)
  rw [apR_some hk, ← Int.natCast_ediv, ← Int.natCast_ediv, ← Int.natCast_emod, ← Int.natCast_emod, e1, e2, e3]
theorem apR_all (hcan : canA T u v = true) (h1 : ∀ x, x < T.length → ∀ y, y < T.length → ∀ z, z < T.length → nd T u v x y z = false) : apR T u v = .tuple #[.int .i64 (-1), .int .i64 (-1), .int .i64 (-1), .bool false] := by
  refine apR_none (apart_all hcan fun j hj => ?_)
  have h0 : 0 < T.length := by
    rcases Nat.eq_zero_or_pos T.length with e | e
    · rw [e] at hj; simp at hj
    · exact e
  rw [difA_nd]
  refine h1 _ ?_ _ (Nat.mod_lt _ h0) _ (Nat.mod_lt _ h0)
  rw [Nat.div_div_eq_div_mul]
  exact Nat.div_lt_of_lt_mul hj
theorem can_parts (hk : okT T = true) (hu : okW u = true) (hv : okW v = true) : canA T u v = true := by unfold canA; rw [hk, hu, hv]; rfl
end
set_option maxRecDepth 20000 in
set_option maxHeartbeats 8000000 in
theorem iApartIn_any (A : Option Addr) (ca lo hi : Nat) (T : List (List Int)) (u v : List UInt8) (w : World) (h : Mat w lo hi A T) (hh : hi ≤ w.heap.size) (hS : Small T) (hn : u.length ≤ 1048576) (hm : v.length ≤ 1048576) :
    Calls Try.prog 57 #[.slice A T.length ca, .string (bs u), .string (bs v)] w fun e w' => e = .returned (apR T u v) ∧ Below w.heap.size w w' := by
  have hlT := hS.len
  cases hk : okT T
  · have HE := hide (apR_none (apart_not (T := T) (u := u) (v := v) (by unfold canA; rw [hk]; rfl)))
    go_enter Try.func57, Try.ntmps57
    go_wp2_with fail
    refine (iTableOk_any _ _ _ _ _ _ h hS).mono ?_
    rw [hk]
    rintro e w1 ⟨rfl, rfl⟩
    go_wp2
    refine bodyPost_ret (by simp [results, Try.f57]; rfl) rfl ?_
    rw [HE.out]
    exact ⟨rfl, Below.refl _ _⟩
  cases hu : okW u
  · have HE := hide (apR_none (apart_not (T := T) (u := u) (v := v) (by unfold canA; rw [hk, hu]; rfl)))
    go_enter Try.func57, Try.ntmps57
    go_wp2_with fail
    refine (iTableOk_any _ _ _ _ _ _ h hS).mono ?_
    rw [hk]
    rintro e w1 ⟨rfl, rfl⟩
    go_wp2_with fail
    refine (iWordOk_any u _ hn).mono ?_
    rw [hu]
    rintro e w1 ⟨rfl, b1⟩
    go_wp2
    refine bodyPost_ret (by simp [results, Try.f57]; rfl) rfl ?_
    rw [HE.out]
    exact ⟨rfl, b1⟩
  cases hv : okW v
  · have HE := hide (apR_none (apart_not (T := T) (u := u) (v := v) (by unfold canA; rw [hk, hu, hv]; rfl)))
    go_enter Try.func57, Try.ntmps57
    go_wp2_with fail
    refine (iTableOk_any _ _ _ _ _ _ h hS).mono ?_
    rw [hk]
    rintro e w1 ⟨rfl, rfl⟩
    go_wp2_with fail
    refine (iWordOk_any u _ hn).mono ?_
    rw [hu]
    rintro e w1 ⟨rfl, b1⟩
    go_wp2_with fail
    refine (iWordOk_any v _ hm).mono ?_
    rw [hv]
    rintro e w2 ⟨rfl, b2⟩
    go_wp2
    refine bodyPost_ret (by simp [results, Try.f57]; rfl) rfl ?_
    rw [HE.out]
    exact ⟨rfl, b1.trans (b2.mono b1.size)⟩
  have k := okT_iff.1 hk
  have HCAN := hide (can_parts hk hu hv)
  have HU := hide hu
  have HV := hide hv
  go_enter Try.func57, Try.ntmps57
  go_wp2_with fail
  refine (iTableOk_any _ _ _ _ _ _ h hS).mono ?_
  rw [hk]
  rintro e w1 ⟨rfl, rfl⟩
  go_wp2_with fail
  refine (iWordOk_any u _ hn).mono ?_
  rw [hu]
  rintro e w1 ⟨rfl, b1⟩
  go_wp2_with fail
  refine (iWordOk_any v _ hm).mono ?_
  rw [hv]
  rintro e w2 ⟨rfl, b2⟩
  have B2 := b1.trans (b2.mono b1.size)
  clear b1 b2 hk hu hv
  go_wp2
  go_loopg [29] T.length (fun g i wr => ∃ a : Nat, a ≤ T.length ∧ Hid (g = T.length - a) ∧ i = .int .i64 a ∧ Below w.heap.size w wr ∧ Hid (∀ x, x < a → ∀ y, y < T.length → ∀ z, z < T.length → nd T u v x y z = false))
  case atStart => exact ⟨0, Nat.zero_le _, rfl, rfl, B2, fun _ hj => absurd hj (Nat.not_lt_zero _)⟩
  case round =>
    clear B2
    obtain ⟨a, hle1, hg1, rfl, B2, hH1⟩ := hrel
    by_cases hat : a < T.length
    · go_wp2
      go_loopg [34] T.length (fun g i wr => ∃ b : Nat, b ≤ T.length ∧ Hid (g = T.length - b) ∧ i = .int .i64 b ∧ Below w.heap.size w wr ∧ Hid (∀ y, y < b → ∀ z, z < T.length → nd T u v a y z = false))
      case atStart => exact ⟨0, Nat.zero_le _, rfl, rfl, B2, fun _ hj => absurd hj (Nat.not_lt_zero _)⟩
      case round =>
        clear B2
        obtain ⟨b, hle2, hg2, rfl, B2, hH2⟩ := hrel
        by_cases hbt : b < T.length
        · go_wp2
          go_loopg [39] T.length (fun g i wr => ∃ c : Nat, c ≤ T.length ∧ Hid (g = T.length - c) ∧ i = .int .i64 c ∧ Below w.heap.size w wr ∧ Hid (∀ z, z < c → nd T u v a b z = false))
          case atStart => exact ⟨0, Nat.zero_le _, rfl, rfl, B2, fun _ hj => absurd hj (Nat.not_lt_zero _)⟩
          case round =>
            clear B2
            obtain ⟨c, hle3, hg3, rfl, B2, hH3⟩ := hrel
            by_cases hct : c < T.length
            · have ia : inT T (a : Int) = true := inT_iff.2 ⟨a, rfl, hat⟩
              have ib : inT T (b : Int) = true := inT_iff.2 ⟨b, rfl, hbt⟩
              have ic : inT T (c : Int) = true := inT_iff.2 ⟨c, rfl, hct⟩
              have HI := hide (And.intro ia (And.intro ib ic))
              have HND := hide (show nd T u v a b c = (prodT T (u.map (ltf a b c)) != prodT T (v.map (ltf a b c))) by unfold nd; rw [valW_ok HU.out ia ib ic, valW_ok HV.out ia ib ic])
              obtain ⟨x1, hx1⟩ : ∃ x1, x1 = prodT T (u.map (ltf (a : Int) (b : Int) (c : Int))) := ⟨_, rfl⟩
              obtain ⟨x2, hx2⟩ : ∃ x2, x2 = prodT T (v.map (ltf (a : Int) (b : Int) (c : Int))) := ⟨_, rfl⟩
              rw [← hx1, ← hx2] at HND
              have HX1 := hide hx1.symm
              have HX2 := hide hx2.symm
              have HAT := hide (And.intro hat (And.intro hbt hct))
              clear ia ib ic hx1 hx2
              go_wp2_with fail
              refine (valuing_any A ca T.length a b c _).mono ?_
              rintro e w3 ⟨p, q, rfl, b3, p0, p1, p2, hq⟩
              have B3 := B2.trans (b3.mono B2.size)
              have hM3 := h.below B3 hh
              go_wp2_with fail
              refine (valued_any A ca lo hi p q T u a b c _ hM3 (Nat.le_trans hh B3.size) k HU.out HI.out.1 HI.out.2.1 HI.out.2.2 p0 p1 p2 hq).mono ?_
              rw [HX1.out]
              rintro e w4 ⟨rfl, b4⟩
              have B4 := B3.trans (b4.mono B3.size)
              have hM4 := h.below B4 hh
              have lp := World.block_lt_of_cell? _ _ p0
              have lq := World.block_lt_of_cell? _ _ hq
              have r0 := (b4.cell (p := ⟨p, 0, none⟩) lp).trans p0
              have r1 := (b4.cell (p := ⟨p, 1, none⟩) lp).trans p1
              have r2 := (b4.cell (p := ⟨p, 2, none⟩) lp).trans p2
              have rq := (b4.cell (p := ⟨q, 0, none⟩) lq).trans hq
              clear p0 p1 p2 hq hM3 lp lq
              go_wp2_with fail
              refine (valued_any A ca lo hi p q T v a b c _ hM4 (Nat.le_trans hh B4.size) k HV.out HI.out.1 HI.out.2.1 HI.out.2.2 r0 r1 r2 rq).mono ?_
              rw [HX2.out]
              rintro e w5 ⟨rfl, b5⟩
              have B5 := B4.trans (b5.mono B4.size)
              clear r0 r1 r2 rq hM4 b3 b4 b5
              cases hdf : (x1 != x2)
              · rw [hdf] at HND
                go_wp2
                go_roundg (T.length - (c + 1))
                case measure => go_light; have := hg3.out; omega
                case rel => go_light; exact ⟨c + 1, HAT.out.2.2, rfl, by go_num, B5, fun j hj => by
                  by_cases e : j = c
                  · subst e; exact HND.out
                  · exact hH3.out j (by omega)⟩
              · rw [hdf] at HND
                have HE := hide (apR_at HCAN.out HAT.out.1 HAT.out.2.1 HAT.out.2.2 HND.out hH1.out hH2.out hH3.out)
                go_wp2
                refine bodyPost_ret (by simp [results, Try.f57]; rfl) rfl ?_
                rw [HE.out]
                exact ⟨rfl, B5⟩
            · obtain rfl : c = T.length := by omega
              go_wp2
              go_roundg (T.length - (b + 1))
              case measure => go_light; have := hg2.out; omega
              case rel => go_light; exact ⟨b + 1, hbt, rfl, by go_num, B2, fun j hj => by
                by_cases e : j = b
                · subst e; exact hH3.out
                · exact hH2.out j (by omega)⟩
        · obtain rfl : b = T.length := by omega
          go_wp2
          go_roundg (T.length - (a + 1))
          case measure => go_light; have := hg1.out; omega
          case rel => go_light; exact ⟨a + 1, hat, rfl, by go_num, B2, fun j hj => by
            by_cases e : j = a
            · subst e; exact hH2.out
            · exact hH1.out j (by omega)⟩
    · obtain rfl : a = T.length := by omega
      have HE := hide (apR_all HCAN.out hH1.out)
      go_wp2
      refine bodyPost_ret (by simp [results, Try.f57]; rfl) rfl ?_
      rw [HE.out]
      exact ⟨rfl, B2⟩
end Go.Proofs.Ythllbekoidogpaa

namespace Go.Proofs.Ythllbekoidogpaa
open Go.RowKit
set_option linter.unusedVariables false
set_option linter.unusedSimpArgs false
set_option maxRecDepth 20000 in
set_option maxHeartbeats 4000000 in
theorem iHoldsIn_any (A : Option Addr) (ca lo hi : Nat) (T : List (List Int)) (u v : List UInt8) (w : World) (h : Mat w lo hi A T) (hh : hi ≤ w.heap.size) (hS : Small T) (hn : u.length ≤ 1048576) (hm : v.length ≤ 1048576) :
    Calls Try.prog 14 #[.slice A T.length ca, .string (bs u), .string (bs v)] w fun e w' => e = .returned (.bool (hldW T u v)) ∧ Below w.heap.size w w' := by
  cases hk : okT T
  · have HE := hide (hldW_false (T := T) (u := u) (v := v) (by unfold canA; rw [hk]; rfl))
    go_enter Try.func14, Try.ntmps14
    go_wp2_with fail
    refine (iTableOk_any _ _ _ _ _ _ h hS).mono ?_
    rw [hk]
    rintro e w' ⟨rfl, rfl⟩
    go_wp2
    go_ret
    exact ⟨ret_bool HE.out.symm, Below.refl _ _⟩
  cases hu : okW u
  · have HE := hide (hldW_false (T := T) (u := u) (v := v) (by unfold canA; rw [hk, hu]; rfl))
    go_enter Try.func14, Try.ntmps14
    go_wp2_with fail
    refine (iTableOk_any _ _ _ _ _ _ h hS).mono ?_
    rw [hk]
    rintro e w' ⟨rfl, rfl⟩
    go_wp2_with fail
    refine (iWordOk_any u _ hn).mono ?_
    rw [hu]
    rintro e w1 ⟨rfl, b1⟩
    go_wp2
    go_ret
    exact ⟨ret_bool HE.out.symm, b1⟩
  cases hv : okW v
  · have HE := hide (hldW_false (T := T) (u := u) (v := v) (by unfold canA; rw [hk, hu, hv]; rfl))
    go_enter Try.func14, Try.ntmps14
    go_wp2_with fail
    refine (iTableOk_any _ _ _ _ _ _ h hS).mono ?_
    rw [hk]
    rintro e w' ⟨rfl, rfl⟩
    go_wp2_with fail
    refine (iWordOk_any u _ hn).mono ?_
    rw [hu]
    rintro e w1 ⟨rfl, b1⟩
    go_wp2_with fail
    refine (iWordOk_any v _ hm).mono ?_
    rw [hv]
    rintro e w2 ⟨rfl, b2⟩
    have B2 := b1.trans (b2.mono b1.size)
    go_wp2
    go_ret
    exact ⟨ret_bool HE.out.symm, B2⟩
  have hc := canA_words hk hu hv
  cases ha : apart T u v with
  | none =>
    have HE := hide (show hldW T u v = true from by rw [hldW_can hc, ha]; rfl)
    have HA := hide (apR_none ha)
    clear ha hc
    go_enter Try.func14, Try.ntmps14
    go_wp2_with fail
    refine (iTableOk_any _ _ _ _ _ _ h hS).mono ?_
    rw [hk]
    rintro e w' ⟨rfl, rfl⟩
    go_wp2_with fail
    refine (iWordOk_any u _ hn).mono ?_
    rw [hu]
    rintro e w1 ⟨rfl, b1⟩
    go_wp2_with fail
    refine (iWordOk_any v _ hm).mono ?_
    rw [hv]
    rintro e w2 ⟨rfl, b2⟩
    have B2 := b1.trans (b2.mono b1.size)
    go_wp2_with fail
    refine (iApartIn_any A ca lo hi T u v _ (h.below B2 hh) (Nat.le_trans hh B2.size) hS hn hm).mono ?_
    rw [HA.out]
    rintro e w3 ⟨rfl, b3⟩
    go_wp2
    go_ret
    exact ⟨ret_bool HE.out.symm, B2.trans (b3.mono B2.size)⟩
  | some k =>
    have HE := hide (show hldW T u v = false from by rw [hldW_can hc, ha]; rfl)
    have HA := hide (apR_some ha)
    clear ha hc
    obtain ⟨p, hp⟩ : ∃ p, p = ((k : Int) / (T.length : Int) / (T.length : Int)) := ⟨_, rfl⟩
    obtain ⟨q, hq⟩ : ∃ p, p = ((k : Int) / (T.length : Int) % (T.length : Int)) := ⟨_, rfl⟩
    obtain ⟨r, hr⟩ : ∃ p, p = ((k : Int) % (T.length : Int)) := ⟨_, rfl⟩
    rw [← hp, ← hq, ← hr] at HA
    clear hp hq hr
    go_enter Try.func14, Try.ntmps14
    go_wp2_with fail
    refine (iTableOk_any _ _ _ _ _ _ h hS).mono ?_
    rw [hk]
    rintro e w' ⟨rfl, rfl⟩
    go_wp2_with fail
    refine (iWordOk_any u _ hn).mono ?_
    rw [hu]
    rintro e w1 ⟨rfl, b1⟩
    go_wp2_with fail
    refine (iWordOk_any v _ hm).mono ?_
    rw [hv]
    rintro e w2 ⟨rfl, b2⟩
    have B2 := b1.trans (b2.mono b1.size)
    go_wp2_with fail
    refine (iApartIn_any A ca lo hi T u v _ (h.below B2 hh) (Nat.le_trans hh B2.size) hS hn hm).mono ?_
    rw [HA.out]
    rintro e w3 ⟨rfl, b3⟩
    go_wp2
    go_ret
    exact ⟨ret_bool HE.out.symm, B2.trans (b3.mono B2.size)⟩
set_option maxHeartbeats 1000000 in
theorem iAlwaysOk_any (u v : List UInt8) (w : World) (hn : u.length ≤ 1048576) (hm : v.length ≤ 1048576) :
    Calls Try.prog 45 #[.string (bs u), .string (bs v)] w fun e w' => e = .returned (.bool (okW u && (okW v && sameB u v))) ∧ Below w.heap.size w w' := by
  go_enter Try.func45, Try.ntmps45
  go_wp2_with fail
  refine (iSameWords_any u v _ hn hm).mono ?_
  rintro e w1 ⟨rfl, q1⟩
  go_wp2
  go_ret
  exact ⟨rfl, q1⟩
end Go.Proofs.Ythllbekoidogpaa

namespace Go.Proofs.Ythllbekoidogpaa
open Go.RowKit
set_option linter.unusedVariables false

/-- The numbers of the letters of a set. -/
def numN (s : Nat) : List Nat := (List.range 3).filter fun i => s.testBit i
theorem num_lt {s i : Nat} (h : i ∈ numN s) : i < 3 ∧ s.testBit i = true := by
  unfold numN at h
  rw [List.mem_filter, List.mem_range] at h
  exact h
end Go.Proofs.Ythllbekoidogpaa

namespace Go.Proofs.Ythllbekoidogpaa
open Go.RowKit
set_option linter.unusedVariables false

/-- Each block below n that is none of X lies as it lay. -/
structure Kept (n : Nat) (X : Nat → Prop) (V V' : World) : Prop where
  low : Below 0 V V'
  same : ∀ b, b < n → ¬ X b → V'.heap[b]? = V.heap[b]?
section
variable {n n' : Nat} {X X' : Nat → Prop} {A B C : World}
theorem Kept.refl (n : Nat) (X : Nat → Prop) (A : World) : Kept n X A A := ⟨Below.refl _ _, fun _ _ _ => rfl⟩
theorem Kept.trans (h : Kept n X A B) (k : Kept n X B C) : Kept n X A C := ⟨h.low.trans k.low, fun b hb hx => (k.same b hb hx).trans (h.same b hb hx)⟩
theorem Kept.mono (h : Kept n X A B) (hn : n' ≤ n) (hX : ∀ b, X b → X' b) : Kept n' X' A B := ⟨h.low, fun b hb hx => h.same b (by omega) (fun k => hx (hX b k))⟩
theorem Kept.of (h : Below n A B) (X : Nat → Prop) : Kept n X A B := ⟨h.mono (Nat.zero_le _), fun b hb _ => h.block b hb⟩
theorem Kept.put {l : Nat} (o : Obj) (h : n ≤ l ∨ X l) : Kept n X A (A.putObj l o) := ⟨⟨rfl, rfl, rfl, by simp, fun k hk => absurd hk (Nat.not_lt_zero _)⟩, fun b hb hx => World.putObj_heap_other (fun e => by subst e; rcases h with h | h; omega; exact hx h)⟩
end

/-- What speaks of the blocks below B, and of those of X, alone; these are there. -/
structure Rests {α : Type} (B : Nat) (J : List α → (Nat → Prop) → World → Prop) : Prop where
  there : ∀ {s X A}, J s X A → ∀ b, X b → b < A.heap.size
  move : ∀ {s X A A'}, J s X A → Below 0 A A' → (∀ b, (b < B ∨ X b) → b < A.heap.size → A'.heap[b]? = A.heap[b]?) → J s X A'
theorem Rests.mono {α : Type} {B B' : Nat} {J : List α → (Nat → Prop) → World → Prop} (h : Rests B J) (hB : B ≤ B') : Rests B' J := ⟨h.there, fun hj hl hs => h.move hj hl (fun b hb => hs b (hb.imp (fun k => by omega) id))⟩

end Go.Proofs.Ythllbekoidogpaa

namespace Go.Proofs.Ythllbekoidogpaa
open Go.RowKit
set_option linter.unusedVariables false
set_option linter.unusedSimpArgs false
attribute [local go_sem] Oper.semAt_some

/-- Blocks of one's own, which no round writes. -/
def Mine (O : List Nat) (w2 : World) (Y : Nat → Prop) (V : World) : Prop := ∀ b ∈ O, V.heap[b]? = w2.heap[b]? ∧ ¬ Y b
section
variable {O : List Nat} {w2 V V' : World} {Y Y' : Nat → Prop}
theorem Mine.keep (h : Mine O w2 Y V) (hk : ∀ b ∈ O, V'.heap[b]? = V.heap[b]?) : Mine O w2 Y V' := fun b hb => ⟨(hk b hb).trans (h b hb).1, (h b hb).2⟩
theorem Mine.kept {n : Nat} (h : Mine O w2 Y V) (hO : ∀ b ∈ O, b < n) (hk : Kept n Y V V') : Mine O w2 Y V' := h.keep fun b hb => hk.same b (hO b hb) (h b hb).2
theorem Mine.lt (h : Mine O w2 Y V) {b : Nat} (hb : b ∈ O) (h2 : b < w2.heap.size) : b < V.heap.size := by
  have e := (h b hb).1
  rw [Array.getElem?_eq_getElem h2] at e
  exact (Array.getElem?_eq_some_iff.1 e).1
end
end Go.Proofs.Ythllbekoidogpaa

namespace Go.Proofs.Ythllbekoidogpaa
open Go.RowKit
set_option linter.unusedVariables false
set_option linter.unusedSimpArgs false
attribute [local go_sem] Oper.semAt_some

theorem bxBelowI {W V : World} {B : Nat} {ty : TypeId} {v : Value} (h : Boxed W B ty v) (hb : Below W.heap.size W V) : Boxed V B ty v := (hb.block B h.lt).trans h
theorem bxOtherI {W : World} {B p : Nat} {ty : TypeId} {v : Value} (h : Boxed W B ty v) (u : Value) (hp : B ≠ p) : Boxed (W.setCell ⟨p, 0, none⟩ u) B ty v := h.kept (grownBy_setCell' W p u) (fun e => hp (by simpa using e))
/-- The blocks of three results, one after the other. -/
def threeI (B b : Nat) : Prop := b = B + 1 ∨ b = B + 2 ∨ b = B + 3
/-- Under way: the number asked for, and three results. -/
structure WayI (w : World) (n : Int) (u v : ByteArray) (ok : Bool) (X : Nat → Prop) (V : World) : Prop where
  low : Below w.heap.size w V
  num : Boxed V w.heap.size 3 (.int .i64 n)
  fst : Boxed V (w.heap.size + 1) 9 (.string u)
  snd : Boxed V (w.heap.size + 2) 9 (.string v)
  thd : Boxed V (w.heap.size + 3) 4 (.bool ok)
  own : ∀ b, X b ↔ threeI w.heap.size b
section
variable {w V V' : World} {n : Int} {u v : ByteArray} {ok : Bool} {X : Nat → Prop}
theorem WayI.there (h : WayI w n u v ok X V) : ∀ b, X b → b < V.heap.size := fun b hb => by
  rcases (h.own b).1 hb with rfl | rfl | rfl
  · exact h.fst.lt
  · exact h.snd.lt
  · exact h.thd.lt
theorem WayI.move (h : WayI w n u v ok X V) {B : Nat} (hB : w.heap.size + 1 ≤ B) (hl : Below 0 V V') (hs : ∀ b, (b < B ∨ X b) → b < V.heap.size → V'.heap[b]? = V.heap[b]?) : WayI w n u v ok X V' :=
  ⟨⟨hl.os.trans h.low.os, hl.tape.trans h.low.tape, hl.output.trans h.low.output, Nat.le_trans h.low.size hl.size, fun k hk => (hs k (.inl (by omega)) (by have := h.low.size; omega)).trans (h.low.block k hk)⟩,
   (hs _ (.inl (by omega)) h.num.lt).trans h.num, (hs _ (.inr ((h.own _).2 (.inl rfl))) h.fst.lt).trans h.fst, (hs _ (.inr ((h.own _).2 (.inr (.inl rfl)))) h.snd.lt).trans h.snd, (hs _ (.inr ((h.own _).2 (.inr (.inr rfl)))) h.thd.lt).trans h.thd, h.own⟩
theorem WayI.put (h : WayI w n u v ok X V) {u' v' : ByteArray} {ok' : Bool} (h1 : Boxed V' (w.heap.size + 1) 9 (.string u')) (h2 : Boxed V' (w.heap.size + 2) 9 (.string v')) (h3 : Boxed V' (w.heap.size + 3) 4 (.bool ok'))
    (hl : Below 0 V V') (hs : ∀ b, ¬ X b → b < V.heap.size → V'.heap[b]? = V.heap[b]?) : WayI w n u' v' ok' X V' :=
  ⟨⟨hl.os.trans h.low.os, hl.tape.trans h.low.tape, hl.output.trans h.low.output, Nat.le_trans h.low.size hl.size, fun k hk => (hs k (fun hx => by rcases (h.own _).1 hx with e | e | e <;> omega) (by have := h.low.size; omega)).trans (h.low.block k hk)⟩,
   (hs _ (fun hx => by rcases (h.own _).1 hx with e | e | e <;> omega) h.num.lt).trans h.num, h1, h2, h3, h.own⟩
theorem WayI.done (h : WayI w n u v ok X V) (u' v' : ByteArray) (ok' : Bool) : WayI w n u' v' ok' X (((V.setCell ⟨w.heap.size + 1, 0, none⟩ (.string u')).setCell ⟨w.heap.size + 2, 0, none⟩ (.string v')).setCell ⟨w.heap.size + 3, 0, none⟩ (.bool ok')) ∧
    Kept V.heap.size X V (((V.setCell ⟨w.heap.size + 1, 0, none⟩ (.string u')).setCell ⟨w.heap.size + 2, 0, none⟩ (.string v')).setCell ⟨w.heap.size + 3, 0, none⟩ (.bool ok')) := by
  have hl := (((Below.refl 0 V).setCell (p := ⟨w.heap.size + 1, 0, none⟩) (Nat.zero_le _) (.string u')).setCell (p := ⟨w.heap.size + 2, 0, none⟩) (Nat.zero_le _) (.string v')).setCell (p := ⟨w.heap.size + 3, 0, none⟩) (Nat.zero_le _) (.bool ok')
  have hs : ∀ b, ¬ X b → (((V.setCell ⟨w.heap.size + 1, 0, none⟩ (.string u')).setCell ⟨w.heap.size + 2, 0, none⟩ (.string v')).setCell ⟨w.heap.size + 3, 0, none⟩ (.bool ok')).heap[b]? = V.heap[b]? := fun b hb =>
    (Below.heap_setCell _ _ _ b (fun e => hb ((h.own b).2 (.inr (.inr e))))).trans ((Below.heap_setCell _ _ _ b (fun e => hb ((h.own b).2 (.inr (.inl e))))).trans (Below.heap_setCell _ _ _ b (fun e => hb ((h.own b).2 (.inl e)))))
  exact ⟨h.put (bxOtherI (bxOtherI (h.fst.set _) _ (by omega)) _ (by omega)) (bxOtherI ((bxOtherI h.snd _ (by omega)).set _) _ (by omega)) ((bxOtherI (bxOtherI h.thd _ (by omega)) _ (by omega)).set _) hl (fun b hb _ => hs b hb), hl, fun b _ hb => hs b hb⟩
theorem WayI.drew (h : WayI w n u v ok X V) : WayI w n u v ok X V.drew := h.move (B := w.heap.size + 1) (Nat.le_refl _) ((Below.refl 0 V).drew) (fun b _ hb => ((Below.refl V.heap.size V).drew).block b hb)
end
end Go.Proofs.Ythllbekoidogpaa

namespace Go.Proofs.Ythllbekoidogpaa
open Go.RowKit
set_option linter.unusedVariables false
set_option linter.unusedSimpArgs false
attribute [local go_sem] Oper.semAt_some

/-- Under way: the table, and the set so far. -/
structure WayJ (w : World) (A : Option Addr) (ca : Nat) (T : List (List Int)) (m : Nat) (X : Nat → Prop) (V : World) : Prop where
  low : Below w.heap.size w V
  tab : Boxed V w.heap.size 23 (.slice A T.length ca)
  set : Boxed V (w.heap.size + 1) 70 (.int .i64 (msk (fun k => hldW T (idU k) (idV k)) m : Nat))
  own : ∀ b, X b ↔ b = w.heap.size + 1
section
variable {w V V' : World} {A : Option Addr} {ca : Nat} {T : List (List Int)} {m : Nat} {X : Nat → Prop}
theorem WayJ.move (h : WayJ w A ca T m X V) {B : Nat} (hB : w.heap.size + 1 ≤ B) (hl : Below 0 V V') (hs : ∀ b, (b < B ∨ X b) → b < V.heap.size → V'.heap[b]? = V.heap[b]?) : WayJ w A ca T m X V' :=
  ⟨⟨hl.os.trans h.low.os, hl.tape.trans h.low.tape, hl.output.trans h.low.output, Nat.le_trans h.low.size hl.size, fun k hk => (hs k (.inl (by omega)) (by have := h.low.size; omega)).trans (h.low.block k hk)⟩,
   (hs _ (.inl (by omega)) h.tab.lt).trans h.tab, (hs _ (.inr ((h.own _).2 rfl)) h.set.lt).trans h.set, h.own⟩
theorem WayJ.below (h : WayJ w A ca T m X V) (hb : Below V.heap.size V V') : WayJ w A ca T m X V' :=
  ⟨h.low.trans (hb.mono h.low.size), bxBelowI h.tab hb, bxBelowI h.set hb, h.own⟩
end
end Go.Proofs.Ythllbekoidogpaa
