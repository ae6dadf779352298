
/- Where letters come first in a word, and where the last of them does: plain mathematics. -/
import Derived.Test.YtjpdfkmlcjkcmaaWordB
namespace Go.Proofs.Ytjpdfkmlcjkcmaa
set_option linter.unusedVariables false

/-- Of the first k letters of a word: the place where a letter comes first, or -1. -/
def FP (u : List UInt8) (k : Nat) (c : UInt8) (p : Int) : Prop := (c ∉ u.take k ∧ p = -1) ∨ ∃ a : Nat, p = (a : Int) ∧ a < k ∧ lt u a = c ∧ c ∉ u.take a
section
variable {u : List UInt8} {k : Nat} {c : UInt8} {p : Int}
theorem FP.zero : FP u 0 c (-1) := .inl ⟨by simp, rfl⟩
theorem FP.lo (h : FP u k c p) : -1 ≤ p := by
  rcases h with ⟨_, rfl⟩ | ⟨a, rfl, _⟩ <;> omega
theorem FP.hi (h : FP u k c p) : p < k := by
  rcases h with ⟨_, rfl⟩ | ⟨a, rfl, h, _⟩ <;> omega
theorem FP.old (h : FP u k c p) (hk : k < u.length) (ho : lt u k ≠ c ∨ p ≠ -1) : FP u (k + 1) c p := by
  rcases h with ⟨hm, rfl⟩ | ⟨a, rfl, ha, e, hm⟩
  · rcases ho with ho | ho
    · refine .inl ⟨?_, rfl⟩
      rw [take_lt hk, List.mem_append, List.mem_singleton]
      rintro (h | h)
      · exact hm h
      · exact ho h.symm
    · exact (ho rfl).elim
  · exact .inr ⟨a, rfl, by omega, e, hm⟩
theorem FP.fresh (h : FP u k c (-1)) (e : lt u k = c) : FP u (k + 1) c k := by
  rcases h with ⟨hm, _⟩ | ⟨a, ha, _⟩
  · exact .inr ⟨k, rfl, by omega, e, hm⟩
  · omega
theorem FP.neg (h : FP u u.length c p) : p = -1 ↔ c ∉ u := by
  rcases h with ⟨hm, rfl⟩ | ⟨a, rfl, ha, e, hm⟩
  · rw [List.take_length] at hm
    exact ⟨fun _ => hm, fun _ => rfl⟩
  · have hu : c ∈ u := e ▸ lt_mem ha
    exact ⟨fun h => by omega, fun h => (h hu).elim⟩
theorem FP.hd {a : Nat} (h : FP u u.length c a) (hu : ∀ y, y ∈ u → ∃ p, FP u u.length y p ∧ p ≤ a) : HdIs u (u.take a) (lt u a) := by
  rcases h with ⟨_, e⟩ | ⟨b, e, hb, ec, hm⟩
  · omega
  · obtain rfl : a = b := by omega
    rw [ec]
    refine ⟨⟨u.drop (a + 1), ?_, fun y hy => ?_⟩, hm⟩
    · have e1 : lt u a = u[a] := by simp [lt, hb]
      rw [← ec, e1, ← List.drop_eq_getElem_cons hb, List.take_append_drop]
    · obtain ⟨p, hp, hpa⟩ := hu y (List.mem_of_mem_drop hy)
      rcases hp with ⟨hn, _⟩ | ⟨d, rfl, hd, ed, _⟩
      · rw [List.take_length] at hn
        exact (hn (List.mem_of_mem_drop hy)).elim
      · by_cases hda : d = a
        · subst hda; exact .inr (ed.symm.trans ec)
        · left
          have hda2 : d < a := by omega
          have hlen : d < (u.take a).length := by rw [List.length_take]; omega
          have : lt (u.take a) d = lt u d := by
            have h1 : d < u.length := by omega
            simp [lt, hda2]
          rw [← ed, ← this]
          exact lt_mem hlen
end
/-- The letters whose first places these are. -/
def letsN (x y z : Int) : Nat := (if x = -1 then 0 else 1) ||| (if y = -1 then 0 else 2) ||| (if z = -1 then 0 else 4)
/-- The last of three places. -/
def max3 (x y z : Int) : Int := max (max x y) z
section
variable {u : List UInt8} {x y z : Int}
theorem letsN_ltr (hx : FP u u.length 97 x) (hy : FP u u.length 98 y) (hz : FP u u.length 99 z) : letsN x y z = ltr u := by
  unfold letsN ltr
  simp only [hx.neg, hy.neg, hz.neg]
  by_cases h1 : (97 : UInt8) ∈ u <;> by_cases h2 : (98 : UInt8) ∈ u <;> by_cases h3 : (99 : UInt8) ∈ u <;> simp [h1, h2, h3]
theorem max3_hd (hw : okW u = true) (hx : FP u u.length 97 x) (hy : FP u u.length 98 y) (hz : FP u u.length 99 z) : ∃ a : Nat, max3 x y z = a ∧ a < u.length ∧ HdIs u (u.take a) (lt u a) := by
  obtain ⟨ho, h1, h2⟩ := okW_iff.1 hw
  have hle : ∀ q, q ∈ u → ∃ p, FP u u.length q p ∧ p ≤ max3 x y z := fun q hq => by
    unfold max3
    rcases okC_iff.1 (ho q hq) with rfl | rfl | rfl
    · exact ⟨x, hx, by omega⟩
    · exact ⟨y, hy, by omega⟩
    · exact ⟨z, hz, by omega⟩
  have h0 : 0 ≤ max3 x y z := by
    have hm := lt_mem (u := u) (k := 0) (by omega)
    obtain ⟨p, hp, hp2⟩ := hle _ hm
    have hne : p ≠ -1 := fun e => (hp.neg.1 e) hm
    have := hp.lo
    omega
  have hcase : ∃ c, FP u u.length c (max3 x y z) := by
    have : max3 x y z = x ∨ max3 x y z = y ∨ max3 x y z = z := by unfold max3; omega
    rcases this with e | e | e
    · exact ⟨97, by rw [e]; exact hx⟩
    · exact ⟨98, by rw [e]; exact hy⟩
    · exact ⟨99, by rw [e]; exact hz⟩
  obtain ⟨c, hc⟩ := hcase
  obtain ⟨a, ha⟩ : ∃ a : Nat, max3 x y z = a := ⟨(max3 x y z).toNat, by omega⟩
  rw [ha] at hc hle
  have hlt := hc.hi
  exact ⟨a, ha, by omega, hc.hd hle⟩
end
end Go.Proofs.Ytjpdfkmlcjkcmaa
