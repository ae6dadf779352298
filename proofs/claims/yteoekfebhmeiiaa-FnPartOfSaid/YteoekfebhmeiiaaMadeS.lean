
/- The least closed set: what the specification's MadeBy answers. -/
import Derived.Test.YteoekfebhmeiiaaMadeI
import Derived.Test.YteoekfebhmeiiaaSgrp
namespace Go.Proofs.Yteoekfebhmeiiaa
open Go.RowKit
set_option linter.unusedVariables false


/-- How many things below k. -/
def cnt (m : Nat) : Nat → Nat
  | 0 => 0
  | k + 1 => cnt m k + (if m.testBit k = true then 1 else 0)
theorem cnt_mono {m m' : Nat} (h : ∀ x, m.testBit x = true → m'.testBit x = true) : ∀ k, cnt m k ≤ cnt m' k
  | 0 => Nat.le_refl _
  | k + 1 => by
    have := cnt_mono h k
    have hk := h k
    simp only [cnt]
    cases e : m.testBit k
    · simp; omega
    · rw [hk e]; simp; omega
theorem cnt_lt {m m' : Nat} (h : ∀ x, m.testBit x = true → m'.testBit x = true) {x : Nat} (hx : m'.testBit x = true) (hn : m.testBit x = false) : ∀ k, x < k → cnt m k < cnt m' k
  | 0, h0 => absurd h0 (Nat.not_lt_zero _)
  | k + 1, hk => by
    simp only [cnt]
    by_cases e : x = k
    · subst e
      rw [hx, hn]
      have := cnt_mono h x
      simp; omega
    · have := cnt_lt h hx hn k (by omega)
      have hk' := h k
      cases e2 : m.testBit k
      · simp; omega
      · rw [hk' e2]; simp; omega
theorem cnt_le (m : Nat) : ∀ k, cnt m k ≤ k
  | 0 => Nat.le_refl _
  | k + 1 => by
    have := cnt_le m k
    simp only [cnt]
    split <;> omega
theorem cnt_full {m x : Nat} (hn : m.testBit x = false) : ∀ k, x < k → cnt m k < k
  | 0, h0 => absurd h0 (Nat.not_lt_zero _)
  | k + 1, hk => by
    simp only [cnt]
    by_cases e : x = k
    · subst e
      rw [hn]
      have := cnt_le m x
      simp; omega
    · have := cnt_full hn k (by omega)
      split <;> omega
theorem Way.trans {T : List (List Int)} {s m m' : Nat} (h : Way T s m) (g : Way T m m') : Way T s m' :=
  ⟨g.lt, fun x hx => g.sub x (h.sub x hx), fun q hq hs x hx => g.least q hq (h.least q hq hs) x hx⟩
theorem Way.add {T : List (List Int)} {s m : Nat} (h : Way T s m) (k : IsT T) {a b : Nat} (ha : m.testBit a = true) (hb : m.testBit b = true) : Way T s (m ||| 2 ^ (mul T a b).toNat) :=
  h.grown ((Grown.refl h.lt).add k h.lt ha hb)
/-- After r rounds: closed, or r things at least. -/
theorem round_step {T : List (List Int)} {m m' r : Nat} (hW : Way T m m') (hP : ∀ a b : Nat, m.testBit a = true → m.testBit b = true → m'.testBit (mul T a b).toNat = true) (h : Clos T m ∨ r ≤ cnt m T.length) : Clos T m' ∨ r + 1 ≤ cnt m' T.length := by
  by_cases e : m' = m
  · subst e; exact .inl hP
  · obtain ⟨x, hx, hn⟩ : ∃ x, m'.testBit x = true ∧ m.testBit x = false := by
      refine Classical.byContradiction fun hc => e (Nat.eq_of_testBit_eq fun i => ?_)
      cases e1 : m'.testBit i <;> cases e2 : m.testBit i
      · rfl
      · rw [hW.sub i e2] at e1; cases e1
      · exact absurd ⟨i, e1, e2⟩ hc
      · rfl
    rcases h with h | h
    · have := hW.least m h (fun _ hx => hx) x hx
      rw [hn] at this; cases this
    · right
      have := cnt_lt hW.sub hx hn T.length (bit_lt hW.lt hx)
      omega
theorem round_end {T : List (List Int)} {m : Nat} (k : IsT T) (hm : m < 2 ^ T.length) (h : Clos T m ∨ T.length ≤ cnt m T.length) : Clos T m := by
  rcases h with h | h
  · exact h
  · intro a b ha hb
    have a1 := bit_lt hm ha
    have b1 := bit_lt hm hb
    obtain ⟨p0, p1⟩ := k.mul (x := (a : Nat)) (y := (b : Nat)) (by omega) (by omega) (by omega) (by omega)
    cases e : m.testBit (mul T a b).toNat
    · have := cnt_full e T.length (by omega)
      omega
    · rfl
theorem bit_tm (m a : Nat) : ((m : Int) / 2 ^ a).tmod 2 = ((m / 2 ^ a % 2 : Nat) : Int) := by
  have h : (m : Int) / 2 ^ a = ((m / 2 ^ a : Nat) : Int) := by simp
  rw [h, Int.tmod_eq_emod_of_nonneg (Int.natCast_nonneg _)]
  rfl
theorem bit_one {m a : Nat} (h : m.testBit a = true) : ((m : Int) / 2 ^ a).tmod 2 = 1 := by
  rw [Nat.testBit_eq_decide_div_mod_eq, decide_eq_true_iff] at h
  rw [bit_tm, h]; rfl
theorem bit_zero {m a : Nat} (h : m.testBit a = false) : ((m : Int) / 2 ^ a).tmod 2 = 0 := by
  rw [Nat.testBit_eq_decide_div_mod_eq, decide_eq_false_iff_not] at h
  rw [bit_tm, show m / 2 ^ a % 2 = 0 from by omega]; rfl

set_option maxHeartbeats 2000000 in
theorem sMadeBy_any (A : Option Addr) (c lo hi : Nat) (T : List (List Int)) (s : Int) (w : World) (h : Mat w lo hi A T) (hS : Small T) :
    Calls Try.prog 22 #[.slice A T.length c, .int .i64 s] w fun e w' => e = .returned (.int .i64 (madeT T s)) ∧ QD w w' := by
  have hlT := hS.len
  cases hk : okT T
  · go_enter Try.func22, Try.ntmps22
    go_wp2_with (go_at_call 63; refine (sTableOk_any _ _ _ _ _ _ h hS).mono ?_; rintro e w' ⟨rfl, rfl⟩; rw [hk])
    go_ret
    exact ⟨ret_int (madeT_not (fun hx => by rw [hk] at hx; cases hx.1)).symm, QD.refl _⟩
  · have k := okT_iff.1 hk
    have k9 := k.hi
    have hp9 := pow_le9 k9
    obtain ⟨i1, i2⟩ := pow_int k9
    by_cases hs : 0 ≤ s ∧ s < 2 ^ T.length
    · obtain ⟨n, rfl⟩ : ∃ n : Nat, s = n := ⟨s.toNat, by omega⟩
      have hb : (decide (0 ≤ (n : Int)) && decide ((n : Int) ≤ 2 ^ T.length - 1)) = true := by
        have := hs.2
        simp; omega
      have hn : n < 2 ^ T.length := by
        have h2 : (n : Int) < ((2 ^ T.length : Nat) : Int) := by simpa using hs.2
        omega
      clear hs
      obtain ⟨bb, oo, rfl, _, _, hcell⟩ := h.head k
      go_enter Try.func22, Try.ntmps22
      go_wp2_with (first
        | (go_at_call 63; refine (sTableOk_any _ _ _ _ _ _ h hS).mono ?_; rintro e w' ⟨rfl, rfl⟩; rw [hk])
        | (go_at_call 64; refine (l1In_any _ _ _ _).mono ?_; rintro e w' ⟨rfl, rfl⟩; rw [hb]))
      go_loopg [5, 1] T.length (fun g i v wr => ∃ r m : Nat, r ≤ T.length ∧ Hid (g = T.length - r) ∧ i = .int .i64 r ∧ v = .int .i64 (m : Nat) ∧ Way T n m ∧ QD w wr ∧ Hid (Clos T m ∨ r ≤ cnt m T.length))
      case atStart => exact ⟨0, n, Nat.zero_le _, rfl, rfl, rfl, Way.refl hn, QD.refl _, .inr (Nat.zero_le _)⟩
      case round =>
        obtain ⟨r, m, hr, hgk, rfl, rfl, hW, hq, hH⟩ := hrel
        by_cases hrt : r < T.length
        · go_wp2
          go_loopg [6, 1] T.length (fun g i v wr => ∃ a m1 : Nat, a ≤ T.length ∧ Hid (g = T.length - a) ∧ i = .int .i64 a ∧ v = .int .i64 (m1 : Nat) ∧ Way T m m1 ∧ QD w wr ∧ Hid (∀ i j : Nat, i < a → j < T.length → m.testBit i = true → m.testBit j = true → m1.testBit (mul T i j).toNat = true))
          case atStart => exact ⟨0, m, Nat.zero_le _, rfl, rfl, rfl, Way.refl hW.lt, hq, fun i j hi => absurd hi (Nat.not_lt_zero _)⟩
          case round =>
            clear hq
            obtain ⟨a, m1, ha, hgk1, rfl, rfl, hW1, hq1, hH1⟩ := hrel
            by_cases hat : a < T.length
            · go_wp2
              go_loopg [7, 1] T.length (fun g i v wr => ∃ b m2 : Nat, b ≤ T.length ∧ Hid (g = T.length - b) ∧ i = .int .i64 b ∧ v = .int .i64 (m2 : Nat) ∧ Way T m m2 ∧ QD w wr ∧ Hid (∀ i j : Nat, (i < a ∧ j < T.length ∨ i = a ∧ j < b) → m.testBit i = true → m.testBit j = true → m2.testBit (mul T i j).toNat = true))
              case atStart => exact ⟨0, m1, Nat.zero_le _, rfl, rfl, rfl, hW1, hq1, fun i j hij => by
                rcases hij with hij | hij
                · exact hH1 i j hij.1 hij.2
                · omega⟩
              case round =>
                clear hq1
                obtain ⟨b, m2, hb2, hgk2, rfl, rfl, hW2, hq2, hH2⟩ := hrel
                by_cases hbt : b < T.length
                · have hm2 := hW2.lt
                  by_cases hab : m2.testBit a = true ∧ m2.testBit b = true
                  · obtain ⟨ea, eb⟩ := hab
                    have hA := bit_one ea
                    have hB := bit_one eb
                    have hcw : ∀ a, wr.cell? a = w.cell? a := fun a => by simp [World.cell?, hq2.heap]
                    obtain ⟨bx, ox, cx, hcx, _, _, hvx⟩ := hcell (a : Nat) (by omega) (by omega)
                    have v2 := hvx (b : Nat) (by omega) (by omega)
                    obtain ⟨u0, u1⟩ := k.mul (x := (a : Nat)) (y := (b : Nat)) (by omega) (by omega) (by omega) (by omega)
                    have hGn := hW2.add k ea eb
                    obtain ⟨z, hz⟩ : ∃ z : Nat, mul T (a : Nat) (b : Nat) = (z : Nat) := ⟨(mul T (a : Nat) (b : Nat)).toNat, by omega⟩
                    rw [hz, Int.toNat_natCast] at hGn
                    rw [hz] at v2 u1
                    have HZZ := hide hz
                    rw [← hcw] at hcx v2
                    rw [Int.toNat_natCast] at hcx v2
                    clear hcw hcell hvx hz u0
                    have hz9 : z ≤ 9 := by omega
                    obtain ⟨g1, g2⟩ := pow_int hz9
                    have hm1 : m2 < 1024 := by omega
                    have hor := or_pow hm1 hz9
                    have HOR := hide hor
                    clear hor
                    go_wp2
                    go_roundg (T.length - (b + 1))
                    case measure => go_light; have := hgk2.out; omega
                    case rel => go_light; exact ⟨b + 1, m2 ||| 2 ^ z, by omega, rfl, by go_num, by rw [HOR.out], hGn, hq2, fun i j hij hi hj => by
                      rw [Nat.testBit_or, Bool.or_eq_true]
                      by_cases e : i = a ∧ j = b
                      · right
                        obtain ⟨rfl, rfl⟩ := e
                        rw [HZZ.out, Int.toNat_natCast, Nat.testBit_two_pow]
                        simp
                      · left
                        exact hH2 i j (by omega) hi hj⟩
                  · have hH3 : Hid (∀ i j : Nat, (i < a ∧ j < T.length ∨ i = a ∧ j < b + 1) → m.testBit i = true → m.testBit j = true → m2.testBit (mul T i j).toNat = true) := fun i j hij hi hj => by
                      by_cases e : i = a ∧ j = b
                      · obtain ⟨rfl, rfl⟩ := e
                        exact absurd ⟨hW2.sub _ hi, hW2.sub _ hj⟩ hab
                      · exact hH2 i j (by omega) hi hj
                    by_cases ea : m2.testBit a = true
                    · have eb : m2.testBit b = false := by
                        cases e : m2.testBit b
                        · rfl
                        · exact absurd ⟨ea, e⟩ hab
                      have hA := bit_one ea
                      have hB := bit_zero eb
                      go_wp2
                      go_roundg (T.length - (b + 1))
                      case measure => go_light; have := hgk2.out; omega
                      case rel => go_light; exact ⟨b + 1, m2, by omega, rfl, by go_num, rfl, hW2, hq2, hH3⟩
                    · have eb : m2.testBit a = false := by
                        cases e : m2.testBit a
                        · rfl
                        · exact absurd e ea
                      have hA := bit_zero eb
                      go_wp2
                      go_roundg (T.length - (b + 1))
                      case measure => go_light; have := hgk2.out; omega
                      case rel => go_light; exact ⟨b + 1, m2, by omega, rfl, by go_num, rfl, hW2, hq2, hH3⟩
                · obtain rfl : T.length = b := by omega
                  go_wp2
                  go_roundg (T.length - (a + 1))
                  case measure => go_light; have := hgk1.out; omega
                  case rel => go_light; exact ⟨a + 1, m2, by omega, rfl, by go_num, rfl, hW2, hq2, fun i j hi hj => hH2 i j (by omega)⟩
            · obtain rfl : T.length = a := by omega
              go_wp2
              go_roundg (T.length - (r + 1))
              case measure => go_light; have := hgk.out; omega
              case rel => go_light; exact ⟨r + 1, m1, by omega, rfl, by go_num, rfl, hW.trans hW1, hq1, round_step hW1 (fun i j hi hj => hH1 i j (bit_lt hW.lt hi) (bit_lt hW.lt hj) hi hj) hH⟩
        · obtain rfl : T.length = r := by omega
          go_wp2
          go_ret
          exact ⟨ret_int (madeT_of hk hn (hW.made (round_end k hW.lt hH))).symm, hq⟩
    · have hb : (decide (0 ≤ s) && decide (s ≤ 2 ^ T.length - 1)) = false := by
        by_cases h0 : 0 ≤ s
        · have : ¬ s ≤ 2 ^ T.length - 1 := fun h1 => hs ⟨h0, by omega⟩
          simp [this]
        · simp [h0]
      go_enter Try.func22, Try.ntmps22
      go_wp2_with (first
        | (go_at_call 63; refine (sTableOk_any _ _ _ _ _ _ h hS).mono ?_; rintro e w' ⟨rfl, rfl⟩; rw [hk])
        | (go_at_call 64; refine (l1In_any _ _ _ _).mono ?_; rintro e w' ⟨rfl, rfl⟩; rw [hb]))
      go_ret
      exact ⟨ret_int (madeT_not (fun hx => hs hx.2)).symm, QD.refl _⟩
end Go.Proofs.Yteoekfebhmeiiaa
