
/- Bands and their sides, zeros and ones: plain mathematics. -/
import Derived.Test.YthllbekoidogpaaPureX
namespace Go.Proofs.Ythllbekoidogpaa
set_option linter.unusedVariables false

/-- Whether a rule holds of a thing and all; of all and all; the first thing of which it holds with all. -/
def allR (n : Nat) (r : Nat → Nat → Bool) (a : Nat) : Bool := (List.range n).all (r a)
def allRR (n : Nat) (r : Nat → Nat → Bool) : Bool := (List.range n).all fun a => allR n r a
theorem allR_iff {n : Nat} {r : Nat → Nat → Bool} {a : Nat} : allR n r a = true ↔ ∀ b, b < n → r a b = true := by
  unfold allR
  rw [List.all_eq_true]
  exact ⟨fun h b hb => h b (List.mem_range.2 hb), fun h b hb => h b (List.mem_range.1 hb)⟩
theorem allR_false {n : Nat} {r : Nat → Nat → Bool} {a b : Nat} (hb : b < n) (h : r a b = false) : allR n r a = false := by
  cases e : allR n r a with
  | false => rfl
  | true => have := allR_iff.1 e b hb; rw [h] at this; cases this
theorem allRR_iff {n : Nat} {r : Nat → Nat → Bool} : allRR n r = true ↔ ∀ a b, a < n → b < n → r a b = true := by
  unfold allRR
  rw [List.all_eq_true]
  exact ⟨fun h a b ha hb => allR_iff.1 (h a (List.mem_range.2 ha)) b hb, fun h a ha => allR_iff.2 fun b hb => h a b (List.mem_range.1 ha) hb⟩
theorem allRR_at {n : Nat} {r : Nat → Nat → Bool} {a : Nat} (ha : a < n) (h : allR n r a = false) : allRR n r = false := by
  cases e : allRR n r with
  | false => rfl
  | true => have := allR_iff.2 fun b hb => allRR_iff.1 e a b ha hb; rw [h] at this; cases this
theorem allRR_false {n : Nat} {r : Nat → Nat → Bool} {a b : Nat} (ha : a < n) (hb : b < n) (h : r a b = false) : allRR n r = false := allRR_at ha (allR_false hb h)
theorem allRR_of {n : Nat} {r : Nat → Nat → Bool} (h : ∀ a, a < n → allR n r a = true) : allRR n r = true := allRR_iff.2 fun a b ha hb => allR_iff.1 (h a ha) b hb
/-- The first thing of which a rule holds with all; -1 if there is none. -/
def firstK (n : Nat) (r : Nat → Nat → Bool) : Int := match (List.range n).find? (fun a => allR n r a) with
  | some a => (a : Int)
  | none => -1
theorem firstK_none {n : Nat} {r : Nat → Nat → Bool} (h : ∀ a, a < n → allR n r a = false) : firstK n r = -1 := by
  unfold firstK
  rw [List.find?_eq_none.2 (fun a ha => by rw [h a (List.mem_range.1 ha)]; exact Bool.false_ne_true)]
theorem firstK_some {n k : Nat} {r : Nat → Nat → Bool} (hk : k < n) (h1 : allR n r k = true) (h : ∀ a, a < k → allR n r a = false) : firstK n r = (k : Int) := by
  unfold firstK
  cases e : (List.range n).find? (fun a => allR n r a) with
  | none =>
    have := List.find?_eq_none.1 e k (List.mem_range.2 hk)
    rw [h1] at this; exact absurd rfl this
  | some a =>
    have ha : allR n r a = true := by simpa using List.find?_some e
    have hle : a ≤ k := by
      rcases Nat.lt_or_ge k a with hl | hl
      · rw [List.find?_range_eq_some] at e
        have := e.2.2 k hl
        rw [h1] at this; cases this
      · exact hl
    rcases Nat.lt_or_ge a k with hl | hl
    · rw [h a hl] at ha; cases ha
    · show (a : Int) = (k : Int)
      omega
theorem firstK_or (n : Nat) (r : Nat → Nat → Bool) : (∃ k, k < n ∧ firstK n r = (k : Int) ∧ allR n r k = true) ∨ (firstK n r = -1 ∧ ∀ a, a < n → allR n r a = false) := by
  unfold firstK
  cases e : (List.range n).find? (fun a => allR n r a) with
  | none => exact .inr ⟨rfl, fun a ha => by
      have := List.find?_eq_none.1 e a (List.mem_range.2 ha)
      simpa using this⟩
  | some a => exact .inl ⟨a, List.mem_range.1 (List.mem_of_find?_eq_some e), rfl, by simpa using List.find?_some e⟩

def rOwn (T : List (List Int)) (a _b : Nat) : Bool := mul T (a : Int) (a : Int) == (a : Int)
def rEither (T : List (List Int)) (a b : Nat) : Bool := mul T (a : Int) (b : Int) == mul T (b : Int) (a : Int)
def rFirst (T : List (List Int)) (a b : Nat) : Bool := mul T (a : Int) (b : Int) == (a : Int)
def rLeft (T : List (List Int)) (a b : Nat) : Bool := mul T (mul T (a : Int) (b : Int)) (a : Int) == mul T (a : Int) (b : Int)
def rZero (T : List (List Int)) (a b : Nat) : Bool := mul T (a : Int) (b : Int) == (a : Int) && mul T (b : Int) (a : Int) == (a : Int)
def rOne (T : List (List Int)) (a b : Nat) : Bool := mul T (a : Int) (b : Int) == (b : Int) && mul T (b : Int) (a : Int) == (b : Int)
noncomputable def bandT (T : List (List Int)) : Bool := grpT T && allRR T.length (rOwn T)
noncomputable def meetT (T : List (List Int)) : Bool := bandT T && allRR T.length (rEither T)
noncomputable def firstT (T : List (List Int)) : Bool := bandT T && allRR T.length (rFirst T)
noncomputable def leftT (T : List (List Int)) : Bool := bandT T && allRR T.length (rLeft T)
noncomputable def rightT (T : List (List Int)) : Bool := leftT (turnT T)
def zeroT (T : List (List Int)) : Int := if okT T = true then firstK T.length (rZero T) else -1
def oneT (T : List (List Int)) : Int := if okT T = true then firstK T.length (rOne T) else -1

theorem grp_ok {T : List (List Int)} (h : grpT T = true) : okT T = true := okT_iff.2 (grpT_iff.1 h).tab
/-- A band. -/
structure IsB (T : List (List Int)) : Prop where
  g : IsG T
  sq : ∀ x : Int, 0 ≤ x → x < T.length → mul T x x = x
theorem bandT_iff {T : List (List Int)} : bandT T = true ↔ IsB T := by
  unfold bandT
  rw [Bool.and_eq_true, grpT_iff, allRR_iff]
  constructor
  · rintro ⟨g, h⟩
    refine ⟨g, fun x x0 x1 => ?_⟩
    have := h x.toNat x.toNat (by omega) (by omega)
    unfold rOwn at this
    rw [Int.toNat_of_nonneg x0] at this
    simpa using this
  · rintro ⟨g, h⟩
    exact ⟨g, fun a b ha hb => by unfold rOwn; rw [h (a : Nat) (by omega) (by omega)]; simp⟩
theorem bandT_grp {T : List (List Int)} (h : grpT T = false) : bandT T = false := by unfold bandT; rw [h]; rfl
theorem band_cond {T : List (List Int)} {r : Nat → Nat → Bool} {R : Int → Int → Prop} (hr : ∀ a b : Nat, r a b = true ↔ R a b) : (bandT T && allRR T.length r) = true ↔ IsB T ∧ ∀ x y : Int, 0 ≤ x → x < T.length → 0 ≤ y → y < T.length → R x y := by
  rw [Bool.and_eq_true, bandT_iff, allRR_iff]
  refine and_congr_right fun _ => ⟨fun h x y x0 x1 y0 y1 => ?_, fun h a b ha hb => (hr a b).2 (h a b (by omega) (by omega) (by omega) (by omega))⟩
  have := (hr _ _).1 (h x.toNat y.toNat (by omega) (by omega))
  rwa [Int.toNat_of_nonneg x0, Int.toNat_of_nonneg y0] at this
theorem meetT_iff {T : List (List Int)} : meetT T = true ↔ IsB T ∧ ∀ x y : Int, 0 ≤ x → x < T.length → 0 ≤ y → y < T.length → mul T x y = mul T y x := band_cond (R := fun x y => mul T x y = mul T y x) fun a b => by unfold rEither; exact beq_iff_eq
theorem firstT_iff {T : List (List Int)} : firstT T = true ↔ IsB T ∧ ∀ x y : Int, 0 ≤ x → x < T.length → 0 ≤ y → y < T.length → mul T x y = x := band_cond (R := fun x y => mul T x y = x) fun a b => by unfold rFirst; exact beq_iff_eq
theorem leftT_iff {T : List (List Int)} : leftT T = true ↔ IsB T ∧ ∀ x y : Int, 0 ≤ x → x < T.length → 0 ≤ y → y < T.length → mul T (mul T x y) x = mul T x y := band_cond (R := fun x y => mul T (mul T x y) x = mul T x y) fun a b => by unfold rLeft; exact beq_iff_eq

theorem isB_turn {T : List (List Int)} (h : IsB T) : IsB (turnT T) := by
  have ho := okT_iff.2 h.g.tab
  refine ⟨isG_turnT h.g, fun x x0 x1 => ?_⟩
  rw [len_turnT ho] at x1
  rw [mul_turnT ho x0 x1 x0 x1]
  exact h.sq x x0 x1
theorem bandT_turn {T : List (List Int)} (h : okT T = true) : bandT (turnT T) = bandT T := by
  cases e : bandT T with
  | true => exact bandT_iff.2 (isB_turn (bandT_iff.1 e))
  | false =>
    cases e2 : bandT (turnT T) with
    | false => rfl
    | true =>
      have := isB_turn (bandT_iff.1 e2)
      rw [turnT_turnT h, ← bandT_iff, e] at this
      cases this
theorem bandT_ok {T : List (List Int)} (h : okT T = false) : bandT T = false := bandT_grp (grpT_not h)
theorem bandT_turn_any (T : List (List Int)) : bandT (turnT T) = bandT T := by
  cases h : okT T
  · rw [turnT_not h, bandT_ok h]; exact bandT_ok (by decide)
  · exact bandT_turn h
section
variable {T U : List (List Int)}
theorem isB_times (h : canB T U = true) (b1 : IsB T) (b2 : IsB U) : IsB (timesT T U) := by
  have hl := len_times h
  refine ⟨isG_times h b1.g b2.g, fun x x0 x1 => ?_⟩
  rw [hl] at x1
  obtain ⟨⟨a0, a1⟩, c0, c1⟩ := in_div h x0 x1
  rw [mul_times h x0 x1 x0 x1]
  unfold pairZ
  rw [b1.sq _ a0 a1, b2.sq _ c0 c1]
  exact Int.ediv_mul_add_emod x _
theorem isB_of_times (h : canB T U = true) (g : IsB (timesT T U)) : IsB T ∧ IsB U := by
  obtain ⟨k, k2, _⟩ := canB_iff.1 h
  obtain ⟨g1, g2⟩ := isG_of_times h g.g
  have hl := len_times h
  have t1 := k.lo
  have u1 := k2.lo
  have main : ∀ a b : Int, 0 ≤ a → a < T.length → 0 ≤ b → b < U.length → mul T a a = a ∧ mul U b b = b := fun a b a0 a1 b0 b1 => by
    obtain ⟨x0, x1⟩ := pair_in h a0 a1 b0 b1
    obtain ⟨dx, mx⟩ := pair_div (e := a) (by omega : (0 : Int) < (U.length : Int)) b0 b1
    have := g.sq _ x0 (by rw [hl]; exact x1)
    rw [mul_times h x0 x1 x0 x1] at this
    obtain ⟨p1, p2, _⟩ := pairZ_div h x0 x1 x0 x1
    rw [this, dx] at p1
    rw [this, mx] at p2
    exact ⟨p1.symm, p2.symm⟩
  exact ⟨⟨g1, fun x x0 x1 => (main x 0 x0 x1 (by omega) (by omega)).1⟩, ⟨g2, fun x x0 x1 => (main 0 x (by omega) (by omega) x0 x1).2⟩⟩
theorem bandT_times (h : canB T U = true) : bandT (timesT T U) = (bandT T && bandT U) := by
  cases e1 : bandT T <;> cases e2 : bandT U
  all_goals
    cases e : bandT (timesT T U) <;> first | rfl | skip
  · have := bandT_iff.2 (isB_of_times h (bandT_iff.1 e)).1; rw [e1] at this; cases this
  · have := bandT_iff.2 (isB_of_times h (bandT_iff.1 e)).1; rw [e1] at this; cases this
  · have := bandT_iff.2 (isB_of_times h (bandT_iff.1 e)).2; rw [e2] at this; cases this
  · have := bandT_iff.2 (isB_times h (bandT_iff.1 e1) (bandT_iff.1 e2)); rw [e] at this; cases this
/-- Both weak sides are a meeting. -/
theorem meet_sides : meetT T = (leftT T && rightT T) := by
  have hleft_b : leftT T = true → okT T = true := fun h => okT_iff.2 (leftT_iff.1 h).1.g.tab
  cases e : meetT T
  · cases el : leftT T
    · rfl
    · cases er : rightT T
      · rfl
      · exfalso
        have ho := hleft_b el
        obtain ⟨b, hl⟩ := leftT_iff.1 el
        obtain ⟨_, hr⟩ := leftT_iff.1 er
        rw [len_turnT ho] at hr
        have hm : meetT T = true := meetT_iff.2 ⟨b, fun x y x0 x1 y0 y1 => by
          obtain ⟨p0, p1⟩ := b.g.tab.mul x0 x1 y0 y1
          obtain ⟨q0, q1⟩ := b.g.tab.mul y0 y1 x0 x1
          have h1 := hl x y x0 x1 y0 y1
          have h2 := hr x y x0 x1 y0 y1
          rw [mul_turnT ho x0 x1 y0 y1, mul_turnT ho q0 q1 x0 x1, b.g.grp x y x x0 x1 y0 y1 x0 x1] at h2
          rw [← h1, h2]⟩
        rw [e] at hm; cases hm
  · obtain ⟨b, hm⟩ := meetT_iff.1 e
    have ho := okT_iff.2 b.g.tab
    have aba : ∀ x y : Int, 0 ≤ x → x < T.length → 0 ≤ y → y < T.length → mul T (mul T x y) x = mul T x y := fun x y x0 x1 y0 y1 => by
      obtain ⟨p0, p1⟩ := b.g.tab.mul x0 x1 y0 y1
      rw [hm (mul T x y) x p0 p1 x0 x1, b.g.grp x x y x0 x1 x0 x1 y0 y1, b.sq x x0 x1]
    have el : leftT T = true := leftT_iff.2 ⟨b, aba⟩
    have er : rightT T = true := leftT_iff.2 ⟨isB_turn b, fun x y x0 x1 y0 y1 => by
      rw [len_turnT ho] at x1 y1
      obtain ⟨q0, q1⟩ := b.g.tab.mul y0 y1 x0 x1
      rw [mul_turnT ho x0 x1 y0 y1, mul_turnT ho q0 q1 x0 x1, b.g.grp x y x x0 x1 y0 y1 x0 x1, aba x y x0 x1 y0 y1, hm x y x0 x1 y0 y1]⟩
    rw [el, er]; rfl
theorem first_left (h : firstT T = true) : leftT T = true := by
  obtain ⟨b, hf⟩ := firstT_iff.1 h
  exact leftT_iff.2 ⟨b, fun x y x0 x1 y0 y1 => by
    obtain ⟨p0, p1⟩ := b.g.tab.mul x0 x1 y0 y1
    rw [hf _ _ p0 p1 x0 x1]⟩
theorem first_meet (h : firstT T = true) (hl : T.length ≠ 1) : meetT T = false := by
  obtain ⟨b, hf⟩ := firstT_iff.1 h
  cases e : meetT T with
  | false => rfl
  | true =>
    obtain ⟨_, hm⟩ := meetT_iff.1 e
    have := b.g.tab.lo
    have h1 := hm 0 1 (by omega) (by omega) (by omega) (by omega)
    rw [hf 0 1 (by omega) (by omega) (by omega) (by omega), hf 1 0 (by omega) (by omega) (by omega) (by omega)] at h1
    cases h1
theorem left_band (h : leftT T = true) : bandT T = true := bandT_iff.2 (leftT_iff.1 h).1
/-- The product of a row of three, and then any of its things. -/
theorem left_three (h : leftT T = true) {a b c : Int} (a0 : 0 ≤ a) (a1 : a < T.length) (b0 : 0 ≤ b) (b1 : b < T.length) (c0 : 0 ≤ c) (c1 : c < T.length) :
    mul T (mul T (mul T a b) c) a = mul T (mul T a b) c ∧ mul T (mul T (mul T a b) c) b = mul T (mul T a b) c ∧ mul T (mul T (mul T a b) c) c = mul T (mul T a b) c := by
  obtain ⟨bd, hl⟩ := leftT_iff.1 h
  have g := bd.g.grp
  obtain ⟨p0, p1⟩ := bd.g.tab.mul a0 a1 b0 b1
  obtain ⟨q0, q1⟩ := bd.g.tab.mul b0 b1 c0 c1
  obtain ⟨r0, r1⟩ := bd.g.tab.mul q0 q1 b0 b1
  refine ⟨?_, ?_, ?_⟩
  · rw [← g a b c a0 a1 b0 b1 c0 c1, hl a (mul T b c) a0 a1 q0 q1]
  · rw [← g a b c a0 a1 b0 b1 c0 c1, ← g a (mul T b c) b a0 a1 q0 q1 b0 b1, hl b c b0 b1 c0 c1]
  · rw [← g (mul T a b) c c p0 p1 c0 c1 c0 c1, bd.sq c c0 c1]
/-- A row of three twice. -/
theorem band_twice (h : bandT T = true) {a b c : Int} (a0 : 0 ≤ a) (a1 : a < T.length) (b0 : 0 ≤ b) (b1 : b < T.length) (c0 : 0 ≤ c) (c1 : c < T.length) :
    mul T (mul T (mul T (mul T (mul T a b) c) a) b) c = mul T (mul T a b) c := by
  have bd := bandT_iff.1 h
  have g := bd.g.grp
  obtain ⟨p0, p1⟩ := bd.g.tab.mul a0 a1 b0 b1
  obtain ⟨s0, s1⟩ := bd.g.tab.mul p0 p1 c0 c1
  rw [← g _ a b s0 s1 a0 a1 b0 b1, ← g _ (mul T a b) c s0 s1 p0 p1 c0 c1, bd.sq _ s0 s1]
theorem right_turn (h : okT T = true) : rightT (turnT T) = leftT T := by unfold rightT; rw [turnT_turnT h]
theorem right_not (h : okT T = false) : rightT T = false := by
  unfold rightT
  rw [turnT_not h]
  unfold leftT
  rw [bandT_ok (by decide)]; rfl
end
theorem rZero_iff {T : List (List Int)} {a b : Nat} : rZero T a b = true ↔ mul T (a : Int) (b : Int) = (a : Int) ∧ mul T (b : Int) (a : Int) = (a : Int) := by unfold rZero; rw [Bool.and_eq_true, beq_iff_eq, beq_iff_eq]
theorem rOne_iff {T : List (List Int)} {a b : Nat} : rOne T a b = true ↔ mul T (a : Int) (b : Int) = (b : Int) ∧ mul T (b : Int) (a : Int) = (b : Int) := by unfold rOne; rw [Bool.and_eq_true, beq_iff_eq, beq_iff_eq]
theorem zeroT_or (T : List (List Int)) : (∃ k : Nat, okT T = true ∧ k < T.length ∧ zeroT T = (k : Int) ∧ ∀ b, b < T.length → mul T (k : Int) (b : Nat) = (k : Int) ∧ mul T (b : Nat) (k : Int) = (k : Int)) ∨ zeroT T = -1 := by
  unfold zeroT
  cases h : okT T
  · exact .inr rfl
  · rw [if_pos rfl]
    rcases firstK_or T.length (rZero T) with ⟨k, hk, e, hr⟩ | ⟨e, _⟩
    · exact .inl ⟨k, rfl, hk, e, fun b hb => rZero_iff.1 (allR_iff.1 hr b hb)⟩
    · exact .inr e
theorem oneT_or (T : List (List Int)) : (∃ k : Nat, okT T = true ∧ k < T.length ∧ oneT T = (k : Int) ∧ ∀ b, b < T.length → mul T (k : Int) (b : Nat) = (b : Int) ∧ mul T (b : Nat) (k : Int) = (b : Int)) ∨ oneT T = -1 := by
  unfold oneT
  cases h : okT T
  · exact .inr rfl
  · rw [if_pos rfl]
    rcases firstK_or T.length (rOne T) with ⟨k, hk, e, hr⟩ | ⟨e, _⟩
    · exact .inl ⟨k, rfl, hk, e, fun b hb => rOne_iff.1 (allR_iff.1 hr b hb)⟩
    · exact .inr e
/-- There is one zero. -/
theorem zero_of {T : List (List Int)} {k : Nat} (h : okT T = true) (hk : k < T.length) (hz : ∀ b, b < T.length → mul T (k : Int) (b : Nat) = (k : Int) ∧ mul T (b : Nat) (k : Int) = (k : Int)) : zeroT T = (k : Int) := by
  unfold zeroT
  rw [if_pos h]
  rcases firstK_or T.length (rZero T) with ⟨j, hj, e, hr⟩ | ⟨_, hn⟩
  · have h1 := (rZero_iff.1 (allR_iff.1 hr k hk)).1
    have h2 := (hz j hj).2
    rw [e, ← h1, h2]
  · have := hn k hk
    rw [allR_iff.2 fun b hb => rZero_iff.2 (hz b hb)] at this
    cases this
theorem zero_turn {T : List (List Int)} {k : Nat} (h : okT T = true) (hk : k < T.length) (hz : ∀ b, b < T.length → mul T (k : Int) (b : Nat) = (k : Int) ∧ mul T (b : Nat) (k : Int) = (k : Int)) : zeroT (turnT T) = (k : Int) := by
  refine zero_of (okT_iff.2 (isT_turnT h)) (by rw [len_turnT h]; exact hk) fun b hb => ?_
  rw [len_turnT h] at hb
  rw [mul_turnT h (by omega) (by omega) (by omega) (by omega), mul_turnT h (by omega) (by omega) (by omega) (by omega)]
  exact ⟨(hz b hb).2, (hz b hb).1⟩
theorem one_first {T : List (List Int)} {k : Nat} (hk : k < T.length) (hz : ∀ b, b < T.length → mul T (k : Int) (b : Nat) = (b : Int) ∧ mul T (b : Nat) (k : Int) = (b : Int)) (hl : T.length ≠ 1) : firstT T = false := by
  cases e : firstT T with
  | false => rfl
  | true =>
    obtain ⟨b, hf⟩ := firstT_iff.1 e
    have h0 := hf k 0 (by omega) (by omega) (by omega) (by omega)
    have h1 := hf k 1 (by omega) (by omega) (by omega) (by omega)
    have e0 := (hz 0 (by omega)).1
    have e1 := (hz 1 (by omega)).1
    rw [show ((0 : Nat) : Int) = 0 from rfl] at e0
    rw [show ((1 : Nat) : Int) = 1 from rfl] at e1
    omega
theorem lit_first : firstT [[0, 0], [1, 1]] = true := firstT_iff.2 ⟨⟨⟨okT_iff.1 (by decide), fun x y z x0 x1 y0 y1 z0 z1 => by
    simp at x1 y1 z1
    rcases (by omega : x = 0 ∨ x = 1) with rfl | rfl <;> rcases (by omega : y = 0 ∨ y = 1) with rfl | rfl <;> rcases (by omega : z = 0 ∨ z = 1) with rfl | rfl <;> decide⟩, fun x x0 x1 => by
    simp at x1
    rcases (by omega : x = 0 ∨ x = 1) with rfl | rfl <;> decide⟩, fun x y x0 x1 y0 y1 => by
    simp at x1 y1
    rcases (by omega : x = 0 ∨ x = 1) with rfl | rfl <;> rcases (by omega : y = 0 ∨ y = 1) with rfl | rfl <;> decide⟩
theorem lit_left : leftT [[0, 0], [1, 1]] = true := first_left lit_first
end Go.Proofs.Ythllbekoidogpaa
