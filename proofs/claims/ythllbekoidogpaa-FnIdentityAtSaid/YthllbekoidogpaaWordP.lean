
/- Words, their heads and tails, and when two are the same in all bands: plain mathematics. -/
import Derived.Test.YthllbekoidogpaaTab
namespace Go.Proofs.Ythllbekoidogpaa
set_option linter.unusedVariables false

/-- The head h of a word and its letter x. -/
structure HdIs (u h : List UInt8) (x : UInt8) : Prop where
  ex : ∃ r, u = h ++ x :: r ∧ ∀ y, y ∈ r → y ∈ h ∨ y = x
  new : x ∉ h
/-- The tail t of a word and its letter x. -/
structure TlIs (u : List UInt8) (x : UInt8) (t : List UInt8) : Prop where
  ex : ∃ r, u = r ++ x :: t ∧ ∀ y, y ∈ r → y ∈ t ∨ y = x
  new : x ∉ t
section
variable {u v h h' t t' w : List UInt8} {x x' y z : UInt8}
theorem HdIs.mem (k : HdIs u h x) {y : UInt8} : y ∈ u ↔ y ∈ h ∨ y = x := by
  obtain ⟨r, rfl, hr⟩ := k.ex
  rw [List.mem_append, List.mem_cons]
  constructor
  · rintro (h | h | h)
    · exact .inl h
    · exact .inr h
    · exact hr y h
  · rintro (h | h)
    · exact .inl h
    · exact .inr (.inl h)
theorem TlIs.mem (k : TlIs u x t) {y : UInt8} : y ∈ u ↔ y ∈ t ∨ y = x := by
  obtain ⟨r, rfl, hr⟩ := k.ex
  rw [List.mem_append, List.mem_cons]
  constructor
  · rintro (h | h | h)
    · exact hr y h
    · exact .inr h
    · exact .inl h
  · rintro (h | h)
    · exact .inr (.inr h)
    · exact .inr (.inl h)
theorem HdIs.rev : HdIs u h x ↔ TlIs u.reverse x h.reverse := by
  constructor
  · rintro ⟨⟨r, rfl, hr⟩, hn⟩
    exact ⟨⟨r.reverse, by simp, fun y hy => by simpa using hr y (by simpa using hy)⟩, by simpa using hn⟩
  · rintro ⟨⟨r, e, hr⟩, hn⟩
    refine ⟨⟨r.reverse, ?_, fun y hy => by simpa using hr y (by simpa using hy)⟩, by simpa using hn⟩
    have := congrArg List.reverse e
    simpa using this
theorem TlIs.rev : TlIs u x t ↔ HdIs u.reverse t.reverse x := by
  have := HdIs.rev (u := u.reverse) (h := t.reverse) (x := x)
  rw [List.reverse_reverse, List.reverse_reverse] at this
  exact this.symm
theorem HdIs.unique (k : HdIs u h x) (k' : HdIs u h' x') : h = h' ∧ x = x' := by
  obtain ⟨r, e, hr⟩ := k.ex
  obtain ⟨r', e', hr'⟩ := k'.ex
  have hn := k.new
  have hn' := k'.new
  rw [e] at e'
  rcases List.append_eq_append_iff.1 e' with ⟨a, ha, hb⟩ | ⟨a, ha, hb⟩
  · cases a with
    | nil => simp at ha hb; exact ⟨ha.symm, hb.1⟩
    | cons b a =>
      rw [List.cons_append, List.cons.injEq] at hb
      obtain ⟨rfl, hb⟩ := hb
      subst ha
      have hx' : x' ∈ r := by rw [hb]; simp
      rcases hr x' hx' with hm | hm
      · exact (hn' (by simp [hm])).elim
      · exact (hn' (by simp [hm])).elim
  · cases a with
    | nil => simp at ha hb; exact ⟨ha, hb.1.symm⟩
    | cons b a =>
      rw [List.cons_append, List.cons.injEq] at hb
      obtain ⟨rfl, hb⟩ := hb
      subst ha
      have hx' : x ∈ r' := by rw [hb]; simp
      rcases hr' x hx' with hm | hm
      · exact (hn (by simp [hm])).elim
      · exact (hn (by simp [hm])).elim
theorem TlIs.unique (k : TlIs u x t) (k' : TlIs u x' t') : x = x' ∧ t = t' := by
  obtain ⟨e1, e2⟩ := (TlIs.rev.1 k).unique (TlIs.rev.1 k')
  exact ⟨e2, List.reverse_inj.1 e1⟩
theorem HdIs.lt (k : HdIs u h x) : h.length < u.length := by
  obtain ⟨r, rfl, _⟩ := k.ex
  simp
theorem TlIs.lt (k : TlIs u x t) : t.length < u.length := by
  obtain ⟨r, rfl, _⟩ := k.ex
  simp; omega
theorem HdIs.ne (k : HdIs u h x) : u ≠ [] := fun e => by have := k.lt; rw [e] at this; simp at this
/-- One letter more behind a word. -/
theorem HdIs.old (k : HdIs u h x) (hy : y ∈ u) : HdIs (u ++ [y]) h x := by
  have hm := k.mem.1 hy
  obtain ⟨r, rfl, hr⟩ := k.ex
  exact ⟨⟨r ++ [y], by simp, fun z hz => by
    rcases List.mem_append.1 hz with h | h
    · exact hr z h
    · rw [List.mem_singleton.1 h]; exact hm⟩, k.new⟩
theorem HdIs.fresh (hy : y ∉ u) : HdIs (u ++ [y]) u y := ⟨⟨[], rfl, fun z hz => by cases hz⟩, hy⟩
/-- A further word behind it. -/
theorem HdIs.more (k : HdIs u h x) (hw : ∀ y, y ∈ w → y ∈ u) : HdIs (u ++ w) h x := by
  have hm := fun y hy => k.mem.1 (hw y hy)
  obtain ⟨r, rfl, hr⟩ := k.ex
  exact ⟨⟨r ++ w, by simp, fun z hz => by
    rcases List.mem_append.1 hz with h | h
    · exact hr z h
    · exact hm z h⟩, k.new⟩
theorem TlIs.more (k : TlIs u x t) (hw : ∀ y, y ∈ w → y ∈ u) : TlIs (w ++ u) x t := by
  rw [TlIs.rev, List.reverse_append]
  exact (TlIs.rev.1 k).more fun y hy => by simpa using hw y (by simpa using hy)
/-- The head, reckoned: behind what was seen already. -/
def scanH : List UInt8 → List UInt8 → Option (List UInt8 × UInt8)
  | _, [] => none
  | seen, x :: r => match scanH (x :: seen) r with
    | some (h, y) => some (x :: h, y)
    | none => if seen.contains x then none else some ([], x)
theorem scanH_none : ∀ {u seen : List UInt8}, scanH seen u = none → ∀ y, y ∈ u → y ∈ seen
  | [], seen, e, y, hy => by cases hy
  | b :: u, seen, e, y, hy => by
    rw [scanH] at e
    split at e
    · cases e
    · next e' =>
      by_cases hc : seen.contains b = true
      · have hb : b ∈ seen := by simpa using hc
        rcases List.mem_cons.1 hy with rfl | hy
        · exact hb
        · rcases List.mem_cons.1 (scanH_none e' y hy) with rfl | h
          · exact hb
          · exact h
      · rw [if_neg hc] at e; cases e
theorem scanH_some : ∀ {u seen h : List UInt8} {x : UInt8}, scanH seen u = some (h, x) → (∃ r, u = h ++ x :: r ∧ ∀ y, y ∈ r → y ∈ seen ∨ y ∈ h ∨ y = x) ∧ x ∉ seen ∧ x ∉ h
  | [], seen, h, x, e => by simp [scanH] at e
  | a :: u, seen, h, x, e => by
    rw [scanH] at e
    split at e
    · next h' y e' =>
      obtain ⟨⟨r, rfl, hr⟩, h1, h2⟩ := scanH_some e'
      simp only [Option.some.injEq, Prod.mk.injEq] at e
      obtain ⟨rfl, rfl⟩ := e
      refine ⟨⟨r, rfl, fun z hz => ?_⟩, fun h => h1 (by simp [h]), fun h => ?_⟩
      · rcases hr z hz with h | h | h
        · rcases List.mem_cons.1 h with h | h
          · exact .inr (.inl (by simp [h]))
          · exact .inl h
        · exact .inr (.inl (by simp [h]))
        · exact .inr (.inr h)
      · rcases List.mem_cons.1 h with h | h
        · exact h1 (by simp [h])
        · exact h2 h
    · next e' =>
      by_cases hc : seen.contains a = true
      · rw [if_pos hc] at e; cases e
      · rw [if_neg hc] at e
        simp only [Option.some.injEq, Prod.mk.injEq] at e
        obtain ⟨rfl, rfl⟩ := e
        refine ⟨⟨u, rfl, fun z hz => ?_⟩, by simpa using hc, by simp⟩
        rcases List.mem_cons.1 (scanH_none e' z hz) with h | h
        · exact .inr (.inr h)
        · exact .inl h
/-- The last letter of w that is not in u, and comes not before it in w. -/
theorem split_new (u w : List UInt8) : (∀ y, y ∈ w → y ∈ u) ∨ ∃ w1 z w2, w = w1 ++ z :: w2 ∧ z ∉ u ∧ z ∉ w1 ∧ ∀ y, y ∈ w2 → y ∈ u ∨ y ∈ w1 ∨ y = z := by
  cases e : scanH u w with
  | none => exact .inl (scanH_none e)
  | some q =>
    obtain ⟨h, x⟩ := q
    obtain ⟨⟨r, e1, hr⟩, h1, h2⟩ := scanH_some e
    exact .inr ⟨h, x, r, e1, h1, h2, hr⟩
theorem split_old (u w : List UInt8) : (∀ y, y ∈ u → y ∈ w) ∨ ∃ r z t, u = r ++ z :: t ∧ z ∉ w ∧ z ∉ t ∧ ∀ y, y ∈ r → y ∈ w ∨ y ∈ t ∨ y = z := by
  rcases split_new w.reverse u.reverse with h | ⟨w1, z, w2, e, h1, h2, h3⟩
  · exact .inl fun y hy => by simpa using h y (by simpa using hy)
  · refine .inr ⟨w2.reverse, z, w1.reverse, ?_, by simpa using h1, by simpa using h2, fun y hy => by simpa using h3 y (by simpa using hy)⟩
    have := congrArg List.reverse e
    simpa using this
theorem scanH_ne {u : List UInt8} (hu : u ≠ []) : ∃ h x, scanH [] u = some (h, x) := by
  cases u with
  | nil => exact (hu rfl).elim
  | cons a u =>
    rw [scanH]
    split
    · next h y _ => exact ⟨_, _, rfl⟩
    · exact ⟨[], a, by simp⟩
def hd (u : List UInt8) : List UInt8 := match scanH [] u with | some (h, _) => h | none => []
def hl (u : List UInt8) : UInt8 := match scanH [] u with | some (_, x) => x | none => 0
def tl (u : List UInt8) : List UInt8 := (hd u.reverse).reverse
def ll (u : List UInt8) : UInt8 := hl u.reverse
theorem hdIs (hu : u ≠ []) : HdIs u (hd u) (hl u) := by
  obtain ⟨h, x, e⟩ := scanH_ne hu
  have e1 : hd u = h := by unfold hd; rw [e]
  have e2 : hl u = x := by unfold hl; rw [e]
  rw [e1, e2]
  obtain ⟨⟨r, e, hr⟩, _, h2⟩ := scanH_some e
  exact ⟨⟨r, e, fun y hy => (hr y hy).elim (fun h => by cases h) id⟩, h2⟩
theorem tlIs (hu : u ≠ []) : TlIs u (ll u) (tl u) := by
  rw [TlIs.rev]
  unfold tl ll
  rw [List.reverse_reverse]
  exact hdIs (by simpa using hu)
theorem HdIs.eq (k : HdIs u h x) : hd u = h ∧ hl u = x := (hdIs k.ne).unique k
theorem TlIs.ne (k : TlIs u x t) : u ≠ [] := fun e => by have := k.lt; rw [e] at this; simp at this
theorem TlIs.eq (k : TlIs u x t) : ll u = x ∧ tl u = t := (tlIs k.ne).unique k
theorem hd_nil : hd [] = [] := rfl
theorem tl_nil : tl [] = [] := rfl
theorem hd_lt (hu : u ≠ []) : (hd u).length < u.length := (hdIs hu).lt
theorem tl_lt (hu : u ≠ []) : (tl u).length < u.length := (tlIs hu).lt
theorem tl_rev (u : List UInt8) : hd u.reverse = (tl u).reverse := by unfold tl; rw [List.reverse_reverse]
theorem hd_rev (u : List UInt8) : tl u.reverse = (hd u).reverse := by unfold tl; rw [List.reverse_reverse]
end
end Go.Proofs.Ythllbekoidogpaa
