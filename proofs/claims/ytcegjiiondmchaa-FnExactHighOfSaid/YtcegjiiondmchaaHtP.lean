
/- How high each thing lies, and what lies directly under it: plain mathematics; sets without the things of others. -/
import Derived.Test.YtcegjiiondmchaaHighP
import Derived.Test.YtcegjiiondmchaaMadeS
namespace Go.Proofs.Ytcegjiiondmchaa
set_option linter.unusedVariables false

/-- The things of one set that another one has not. -/
def andn (a b : Nat) : Nat := (BitVec.ofNat 64 a &&& ~~~BitVec.ofNat 64 b).toNat
theorem small_bit {a i : Nat} (ha : a < 1024) (hi : 64 ≤ i) : a.testBit i = false :=
  Nat.testBit_lt_two_pow (Nat.lt_of_lt_of_le ha (Nat.pow_le_pow_right (n := 2) (by omega) (show 10 ≤ i by omega)))
theorem andn_bit {a b i : Nat} (ha : a < 1024) : (andn a b).testBit i = (a.testBit i && !b.testBit i) := by
  unfold andn
  rw [BitVec.testBit_toNat, BitVec.getLsbD_and, BitVec.getLsbD_not, BitVec.getLsbD_ofNat, BitVec.getLsbD_ofNat]
  by_cases h : i < 64
  · simp [h]
  · rw [small_bit ha (by omega)]; simp [h]
theorem andn_lt {a b : Nat} (ha : a < 1024) : andn a b < 1024 := by
  apply Nat.lt_of_not_le
  intro h
  obtain ⟨i, hi, hb⟩ := Nat.exists_ge_and_testBit_of_ge_two_pow (n := 10) h
  rw [andn_bit ha, Nat.testBit_lt_two_pow (Nat.lt_of_lt_of_le ha (Nat.pow_le_pow_right (n := 2) (by omega) hi))] at hb
  cases hb
theorem bits_andn {a b : Nat} (ha : a < 1024) (hb : b < 1024) : bits .andNot .i64 (a : Int) (b : Int) = ((andn a b : Nat) : Int) := by
  have h := andn_lt (b := b) ha
  have e : bits .andNot .i64 (a : Int) (b : Int) = IntKind.i64.wrap ((andn a b : Nat) : Int) := by
    unfold andn
    simp only [bits, BitVec.ofInt_natCast]
    rfl
  rw [e]
  exact IntWalk.i64_in _ ⟨by omega, by omega⟩

/-- A thing's height: so many things at most, each strictly below the next one, the last one the thing. -/
structure IsHt (T : List (List Int)) (a v : Nat) : Prop where
  one : 1 ≤ v
  has : HasH T (v - 1) a
  most : ∀ k, HasH T k a → k + 1 ≤ v
section
variable {T : List (List Int)} {a v v' : Nat}
theorem IsHt.unique (h : IsHt T a v) (h' : IsHt T a v') : v = v' := by
  have h1 := h'.most _ h.has
  have h2 := h.most _ h'.has
  have := h.one
  have := h'.one
  omega
theorem ht_ex (h : bandT T = true) (ha : a < T.length) : ∃ v, IsHt T a v := by
  obtain ⟨v, hv, hm⟩ := most_of (fun k => HasH T k a) (nL T) trivial (fun k hh => by have := HasH.le h ha hh; omega)
  exact ⟨v + 1, by omega, hv, fun k hk => by have := hm k hk; omega⟩
open Classical in
noncomputable def htA (T : List (List Int)) (a : Nat) : Nat := if h : ∃ v, IsHt T a v then Classical.choose h else 0
theorem htA_is (h : bandT T = true) (ha : a < T.length) : IsHt T a (htA T a) := by
  have hh := ht_ex h ha
  unfold htA
  rw [dif_pos hh]
  exact Classical.choose_spec hh
theorem htA_le (h : bandT T = true) (ha : a < T.length) : htA T a ≤ 9 := by
  have hi := htA_is h ha
  have := HasH.le h ha hi.has
  have := nL_le T
  have := (band_tab h).hi
  have := hi.one
  omega
/-- What lies strictly below is less high. -/
theorem htA_lt (h : bandT T = true) {b : Nat} (ha : a < T.length) (hb : b < T.length) (hs : sbl T b a = true) : htA T b < htA T a := by
  have hi := htA_is h hb
  have h1 := hi.one
  obtain ⟨m, hm⟩ : ∃ m, htA T b = m + 1 := ⟨htA T b - 1, by omega⟩
  have hh := hi.has
  rw [hm, Nat.add_sub_cancel] at hh
  have := (htA_is h ha).most (m + 1) ⟨b, hb, hs, hh⟩
  omega
/-- The things directly under a thing: no other thing lies between. -/
def DirS (T : List (List Int)) (a d : Nat) : Prop := d < 512 ∧ ∀ x, d.testBit x = true ↔ x < T.length ∧ sbl T x a = true ∧ ∀ c, c < T.length → sbl T c a = true → sbl T x c = false
/-- The most height of the first j things of a set. -/
def MostH (T : List (List Int)) (d j m : Nat) : Prop := (∀ i x, i < j → i < (thk d 9).length → el (thk d 9) i = (x : Nat) → htA T x ≤ m) ∧ (m = 0 ∨ ∃ x, x < T.length ∧ d.testBit x = true ∧ m = htA T x)
theorem mostH_start (d : Nat) : MostH T d 0 0 := ⟨fun i x hi => absurd hi (Nat.not_lt_zero _), .inl rfl⟩
theorem MostH.step {d j m x : Nat} (h : MostH T d j m) (hj : j < (thk d 9).length) (hx : el (thk d 9) j = (x : Int)) (h1 : x < T.length) (hb : d.testBit x = true) : MostH T d (j + 1) (max m (htA T x)) := by
  refine ⟨fun i y hi hl hy => ?_, ?_⟩
  · by_cases e : i = j
    · subst e
      have : y = x := by rw [hx] at hy; omega
      subst this
      exact Nat.le_max_right _ _
    · exact Nat.le_trans (h.1 i y (by omega) hl hy) (Nat.le_max_left _ _)
  · right
    rcases Nat.le_total m (htA T x) with hl | hl
    · rw [Nat.max_eq_right hl]; exact ⟨x, h1, hb, rfl⟩
    · rw [Nat.max_eq_left hl]
      rcases h.2 with e | hh
      · have := Nat.le_antisymm hl (by omega)
        exact ⟨x, h1, hb, this.symm⟩
      · exact hh
theorem DirS.next {d : Nat} (hd : DirS T a d) {x : Nat} (h : d.testBit x = true) : x < T.length ∧ sbl T x a = true := ⟨((hd.2 x).1 h).1, ((hd.2 x).1 h).2.1⟩
/-- A thing is one higher than the highest that lie directly under it. -/
theorem htA_step (h : bandT T = true) (ha : a < T.length) {d m : Nat} (hd : DirS T a d) (hm : MostH T d (thk d 9).length m) : htA T a = m + 1 := by
  have k9 := (band_tab h).hi
  have hi := htA_is h ha
  refine hi.unique ⟨by omega, ?_, fun k hk => ?_⟩
  · rw [Nat.add_sub_cancel]
    rcases hm.2 with e | ⟨x, hx, hb, e⟩
    · rw [e]; exact trivial
    · have hix := htA_is h hx
      have h1 := hix.one
      have hh := hix.has
      obtain ⟨p, hp⟩ : ∃ p, htA T x = p + 1 := ⟨htA T x - 1, by omega⟩
      rw [e]
      rw [hp, Nat.add_sub_cancel] at hh
      rw [hp]
      exact ⟨x, hx, (hd.next hb).2, hh⟩
  · have h1 := hi.most k hk
    have h2 := hi.one
    have hh := hi.has
    rcases Nat.eq_or_lt_of_le h2 with e | e
    · omega
    · obtain ⟨p, hp⟩ : ∃ p, htA T a = p + 2 := ⟨htA T a - 2, by omega⟩
      rw [hp, show p + 2 - 1 = p + 1 by omega] at hh
      obtain ⟨b, hb, hs, hhb⟩ := hh
      have hbit : d.testBit b = true := (hd.2 b).2 ⟨hb, hs, fun c hc hca => by
        cases e : sbl T b c with
        | false => rfl
        | true =>
          have := hi.most (p + 2) ⟨c, hc, hca, b, hb, e, hhb⟩
          omega⟩
      obtain ⟨i, hil, hie⟩ := thk_of hbit (by omega)
      have := hm.1 i b hil hil hie
      have := (htA_is h hb).most p hhb
      omega
/-- The highest thing of all. -/
def MostA (T : List (List Int)) (j m : Nat) : Prop := (∀ x, x < j → x < T.length → htA T x ≤ m) ∧ (j = 0 ∧ m = 0 ∨ ∃ x, x < T.length ∧ m = htA T x)
theorem mostA_start : MostA T 0 0 := ⟨fun x hx => absurd hx (Nat.not_lt_zero _), .inl ⟨rfl, rfl⟩⟩
theorem MostA.step {j m : Nat} (h : MostA T j m) (hj : j < T.length) : MostA T (j + 1) (max m (htA T j)) := by
  refine ⟨fun x hx hl => ?_, ?_⟩
  · by_cases e : x = j
    · subst e; exact Nat.le_max_right _ _
    · exact Nat.le_trans (h.1 x (by omega) hl) (Nat.le_max_left _ _)
  · right
    rcases Nat.le_total m (htA T j) with hl | hl
    · rw [Nat.max_eq_right hl]; exact ⟨j, hj, rfl⟩
    · rw [Nat.max_eq_left hl]
      rcases h.2 with ⟨_, e⟩ | hh
      · exact ⟨j, hj, by omega⟩
      · exact hh
theorem MostA.isHi (h : bandT T = true) {m : Nat} (hm : MostA T T.length m) : IsHi T m := by
  have k1 := (band_tab h).lo
  rcases hm.2 with ⟨e, _⟩ | ⟨x, hx, e⟩
  · omega
  · subst e
    have hi := htA_is h hx
    exact ⟨hi.one, ⟨x, hx, hi.has⟩, fun a k ha hh => Nat.le_trans ((htA_is h ha).most k hh) (hm.1 a ha ha)⟩
/-- What lies strictly under a thing, as a set. -/
theorem under_sbl (ha : a < T.length) {x : Nat} (h9 : T.length ≤ 9) : (andn (undB T a) (2 ^ a)).testBit x = true ↔ x < T.length ∧ sbl T x a = true := by
  have hu : undB T a < 1024 := by
    have := undB_lt (T := T) a
    have : 2 ^ T.length ≤ 2 ^ 9 := Nat.pow_le_pow_right (by omega) h9
    omega
  rw [andn_bit hu, Bool.and_eq_true, undB_bit, sbl_iff, Nat.testBit_two_pow]
  by_cases e : a = x
  · subst e; simp
  · have e' : ¬ x = a := fun h => e h.symm
    simp [e, e']
theorem under_lt {x : Nat} (h9 : T.length ≤ 9) : undB T x < 512 := by
  have := undB_lt (T := T) x
  have : 2 ^ T.length ≤ 2 ^ 9 := Nat.pow_le_pow_right (by omega) h9
  omega
/-- Directly under, when the first j things are left out. -/
def DirI (T : List (List Int)) (a L j d : Nat) : Prop := d < 512 ∧ ∀ x, d.testBit x = true ↔ L.testBit x = true ∧ ∀ i c, i < j → i < (thk L 9).length → el (thk L 9) i = (c : Nat) → sbl T x c = false
theorem dirI_start {L : Nat} (h : L < 512) : DirI T a L 0 L := ⟨h, fun x => ⟨fun hx => ⟨hx, fun i c hi => absurd hi (Nat.not_lt_zero _)⟩, fun hx => hx.1⟩⟩
theorem DirI.step {L j d c : Nat} (h9 : T.length ≤ 9) (hd : DirI T a L j d) (hj : j < (thk L 9).length) (hc : el (thk L 9) j = (c : Int)) (h1 : c < T.length) (hL : ∀ x, L.testBit x = true → x < T.length) :
    DirI T a L (j + 1) (andn d (andn (undB T c) (2 ^ c))) := by
  refine ⟨?_, fun x => ?_⟩
  · have hl := andn_lt (a := d) (b := andn (undB T c) (2 ^ c)) (by have := hd.1; omega)
    apply Nat.lt_of_not_le
    intro h
    obtain ⟨i, hi, hb⟩ := Nat.exists_ge_and_testBit_of_ge_two_pow (n := 9) h
    rw [andn_bit (by have := hd.1; omega), Nat.testBit_lt_two_pow (Nat.lt_of_lt_of_le hd.1 (Nat.pow_le_pow_right (n := 2) (by omega) hi))] at hb
    cases hb
  · rw [andn_bit (by have := hd.1; omega), Bool.and_eq_true, hd.2 x]
    have hu := under_sbl (T := T) (x := x) h1 h9
    constructor
    · rintro ⟨⟨hx, ho⟩, hn⟩
      refine ⟨hx, fun i y hi hl hy => ?_⟩
      by_cases e : i = j
      · subst e
        have : y = c := by rw [hc] at hy; omega
        subst this
        cases e2 : sbl T x y with
        | false => rfl
        | true =>
          rw [hu.2 ⟨hL x hx, e2⟩] at hn
          cases hn
      · exact ho i y (by omega) hl hy
    · rintro ⟨hx, ho⟩
      refine ⟨⟨hx, fun i y hi hl hy => ho i y (by omega) hl hy⟩, ?_⟩
      have hf := ho j c (by omega) hj hc
      cases e2 : (andn (undB T c) (2 ^ c)).testBit x with
      | false => rfl
      | true =>
        have := (hu.1 e2).2
        rw [hf] at this; cases this
theorem DirI.done {d : Nat} (h9 : T.length ≤ 9) (ha : a < T.length) (hd : DirI T a (andn (undB T a) (2 ^ a)) (thk (andn (undB T a) (2 ^ a)) 9).length d) : DirS T a d := by
  refine ⟨hd.1, fun x => ?_⟩
  rw [hd.2 x, under_sbl ha h9]
  constructor
  · rintro ⟨⟨hx, hs⟩, ho⟩
    refine ⟨hx, hs, fun c hc hca => ?_⟩
    obtain ⟨i, hil, hie⟩ := thk_of ((under_sbl ha h9).2 ⟨hc, hca⟩) (by omega)
    exact ho i c hil hil hie
  · rintro ⟨hx, hs, ho⟩
    refine ⟨⟨hx, hs⟩, fun i c hi hl hc => ?_⟩
    obtain ⟨y, hy, hb, _⟩ := thk_mem hl
    have : c = y := by rw [hc] at hy; omega
    subst this
    obtain ⟨c1, c2⟩ := (under_sbl ha h9).1 hb
    exact ho c c1 c2
end
end Go.Proofs.Ytcegjiiondmchaa
