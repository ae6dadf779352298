
/- spec.GroupedOk: whether brackets matter, asked of all threes of things counted as one number. -/
import Derived.Test.YthllbekoidogpaaGrp
namespace Go.Proofs.Ythllbekoidogpaa
open Go.RowKit
set_option linter.unusedVariables false


/-- What a table of things holds in memory. -/
theorem Mat.head {w : World} {lo hi : Nat} {A : Option Addr} {T : List (List Int)} (h : Mat w lo hi A T) (k : IsT T) :
    ∃ b o, A = some ⟨b, o, none⟩ ∧ lo ≤ b ∧ b < hi ∧ ∀ x : Int, 0 ≤ x → x < T.length → ∃ b2 o2 c, w.cell? ⟨b, o + x.toNat, none⟩ = some (.slice (some ⟨b2, o2, none⟩) T.length c) ∧ lo ≤ b2 ∧ b2 < hi ∧
      ∀ y : Int, 0 ≤ y → y < T.length → w.cell? ⟨b2, o2 + y.toNat, none⟩ = some (.int .i64 (mul T x y)) := by
  have h0 := k.lo
  obtain ⟨b, o, _, _, rfl, h1, h2, _⟩ := h 0 (by omega)
  refine ⟨b, o, rfl, h1, h2, fun x hx0 hx1 => ?_⟩
  obtain ⟨b', o', A', c, e, _, _, hc, hR⟩ := h x.toNat (by omega)
  obtain ⟨rfl, rfl⟩ : b = b' ∧ o = o' := by simpa using e
  have hl := k.len x.toNat (by omega)
  rw [hl] at hc
  obtain ⟨b2, o2, rfl, h3, h4, _⟩ := hR 0 (by omega)
  refine ⟨b2, o2, c, hc, h3, h4, fun y hy0 hy1 => ?_⟩
  obtain ⟨b3, o3, e3, _, _, hc3⟩ := hR y.toNat (by omega)
  obtain ⟨rfl, rfl⟩ : b2 = b3 ∧ o2 = o3 := by simpa using e3
  exact hc3

set_option maxHeartbeats 2000000 in
theorem sGroupedOk_any (A : Option Addr) (c lo hi : Nat) (T : List (List Int)) (w : World) (h : Mat w lo hi A T) (hS : Small T) :
    Calls Try.prog 23 #[.slice A T.length c] w fun e w' => e = .returned (.bool (grpT T)) ∧ QD w w' := by
  have hn := hS.len
  cases hk : okT T
  · go_enter Try.func23, Try.ntmps23
    go_wp2_with (go_at_call 16; refine (sTableOk_any _ _ _ _ _ _ h hS).mono ?_; rintro e w' ⟨rfl, rfl⟩; rw [hk])
    go_ret
    exact ⟨ret_bool (grpT_not hk).symm, QD.refl _⟩
  · have k := okT_iff.1 hk
    obtain ⟨b, o, rfl, _, _, hcell⟩ := h.head k
    obtain ⟨⟨h20, h21⟩, h30, h31⟩ := sq_int k.hi
    have h01 := k.lo
    have h09 := k.hi
    go_enter Try.func23, Try.ntmps23
    go_wp2_with (go_at_call 16; refine (sTableOk_any _ _ _ _ _ _ h hS).mono ?_; rintro e w' ⟨rfl, rfl⟩; rw [hk])
    go_loopg [4] (T.length * T.length * T.length) (fun g i wr => ∃ p : Nat, p ≤ T.length * T.length * T.length ∧ g = T.length * T.length * T.length - p ∧ i = .int .i64 p ∧ QD w wr ∧ Hid (∀ j, j < p → atK T j = true))
    case atStart => exact ⟨0, Nat.zero_le _, rfl, rfl, QD.refl _, fun _ hj => absurd hj (Nat.not_lt_zero _)⟩
    case round =>
      obtain ⟨p, hp, rfl, rfl, hq, hH⟩ := hrel
      by_cases hpt : p < T.length * T.length * T.length
      · have hpi : (p : Int) < (T.length : Int) * (T.length : Int) * (T.length : Int) := by
          have e3 : (T.length : Int) * (T.length : Int) * (T.length : Int) = ((T.length * T.length * T.length : Nat) : Int) := by simp
          rw [e3]; omega
        obtain ⟨⟨d0, d1⟩, ⟨x0, x1⟩, ⟨y0, y1⟩, z0, z1⟩ := three_int h01 h09 hpt
        have ha : atK T p = assoc T ((p : Int) / (T.length : Int) / (T.length : Int)) ((p : Int) / (T.length : Int) % (T.length : Int)) ((p : Int) % (T.length : Int)) := by
          unfold atK
          rw [div_int, div_int, mod_int, mod_int]
        have HA := hide ha
        clear ha
        go_wp2
        generalize (p : Int) / (T.length : Int) / (T.length : Int) = x at HA x0 x1 ⊢
        generalize (p : Int) / (T.length : Int) % (T.length : Int) = y at HA y0 y1 ⊢
        generalize (p : Int) % (T.length : Int) = z at HA z0 z1 ⊢
        obtain ⟨m0, m1⟩ := k.mul y0 y1 z0 z1
        obtain ⟨l0, l1⟩ := k.mul x0 x1 y0 y1
        have hcw : ∀ a, wr.cell? a = w.cell? a := fun a => by simp [World.cell?, hq.heap]
        obtain ⟨bx, ox, cx, hcx, _, _, hvx⟩ := hcell x x0 x1
        obtain ⟨by_, oy, cy, hcy, _, _, hvy⟩ := hcell y y0 y1
        obtain ⟨bl, ol, cl, hcl, _, _, hvl⟩ := hcell _ l0 l1
        have v1 := hvx y y0 y1
        have v2 := hvx _ m0 m1
        have v3 := hvy z z0 z1
        have v4 := hvl z z0 z1
        rw [← hcw] at hcx hcy hcl v1 v2 v3 v4
        clear hcw hcell hvx hvy hvl d0 d1
        go_quiet (fail)
        cases hb : assoc T x y z
        · have hne : (mul T x (mul T y z) != mul T (mul T x y) z) = true := by unfold assoc at hb; simpa using hb
          go_wp2
          go_ret
          exact ⟨ret_bool (grpT_kat k hpt (HA.out.trans hb)).symm, hq.drewN _⟩
        · have hne : (mul T x (mul T y z) != mul T (mul T x y) z) = false := by unfold assoc at hb; simpa using hb
          go_wp2
          go_roundg (T.length * T.length * T.length - (p + 1))
          case measure => go_light; omega
          case rel => go_light; exact ⟨p + 1, by omega, rfl, by go_num, hq.drewN _, fun j hj => by
            by_cases e : j = p
            · subst e; exact HA.out.trans hb
            · exact hH j (by omega)⟩
      · have hpi : ¬ (p : Int) < (T.length : Int) * (T.length : Int) * (T.length : Int) := by
          have e3 : (T.length : Int) * (T.length : Int) * (T.length : Int) = ((T.length * T.length * T.length : Nat) : Int) := by simp
          rw [e3]; omega
        obtain rfl : p = T.length * T.length * T.length := by omega
        go_wp2
        go_ret
        exact ⟨ret_bool (grpT_kall k hH.out).symm, hq⟩
end Go.Proofs.Ythllbekoidogpaa
