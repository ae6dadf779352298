/-  -/
import Derived.Test.YthllbekoidogpaaWordP
import Derived.Test.YthllbekoidogpaaMem
import Derived.Test.YthllbekoidogpaaMadeS
namespace Go.Proofs.Ythllbekoidogpaa
set_option linter.unusedVariables false

/-- Two words are the same. -/
inductive Same : List UInt8 → List UInt8 → Prop
  | nil : Same [] []
  | step {u v h h' t t' : List UInt8} {x y : UInt8} : HdIs u h x → HdIs v h' x → TlIs u y t → TlIs v y t' → Same h h' → Same t t' → Same u v
section
variable {u v w h h' t t' : List UInt8} {x x' y y' z : UInt8}
theorem Same.nil_iff (s : Same u v) : u = [] ↔ v = [] := by
  cases s with
  | nil => exact Iff.rfl
  | step k1 k2 _ _ _ _ => exact ⟨fun e => (k1.ne e).elim, fun e => (k2.ne e).elim⟩
theorem Same.mem (s : Same u v) : ∀ y, y ∈ u ↔ y ∈ v := by
  induction s with
  | nil => exact fun y => Iff.rfl
  | step k1 k2 _ _ _ _ ih _ => exact fun y => by rw [k1.mem, k2.mem, ih y]
theorem same_refl : ∀ (n : Nat) (u : List UInt8), u.length ≤ n → Same u u
  | 0, u, hn => by
    obtain rfl : u = [] := List.eq_nil_of_length_eq_zero (by omega)
    exact .nil
  | n + 1, u, hn => by
    by_cases hu : u = []
    · subst hu; exact .nil
    · have h1 := hd_lt hu
      have h2 := tl_lt hu
      exact .step (hdIs hu) (hdIs hu) (tlIs hu) (tlIs hu) (same_refl n _ (by omega)) (same_refl n _ (by omega))
theorem Same.refl (u : List UInt8) : Same u u := same_refl _ u (Nat.le_refl _)
theorem Same.symm (s : Same u v) : Same v u := by
  induction s with
  | nil => exact .nil
  | step k1 k2 k3 k4 _ _ i1 i2 => exact .step k2 k1 k4 k3 i1 i2
theorem Same.inv (s : Same u v) (hu : u ≠ []) : v ≠ [] ∧ hl u = hl v ∧ ll u = ll v ∧ Same (hd u) (hd v) ∧ Same (tl u) (tl v) := by
  cases s with
  | nil => exact (hu rfl).elim
  | step k1 k2 k3 k4 i1 i2 =>
    refine ⟨k2.ne, ?_, ?_, ?_, ?_⟩
    · rw [k1.eq.2, k2.eq.2]
    · rw [k3.eq.1, k4.eq.1]
    · rw [k1.eq.1, k2.eq.1]; exact i1
    · rw [k3.eq.2, k4.eq.2]; exact i2
theorem Same.intro (hu : u ≠ []) (hv : v ≠ []) (e1 : hl u = hl v) (e2 : ll u = ll v) (s1 : Same (hd u) (hd v)) (s2 : Same (tl u) (tl v)) : Same u v :=
  .step (hdIs hu) (e1 ▸ hdIs hv) (tlIs hu) (e2 ▸ tlIs hv) s1 s2
theorem same_iff (hu : u ≠ []) (hv : v ≠ []) : Same u v ↔ hl u = hl v ∧ ll u = ll v ∧ Same (hd u) (hd v) ∧ Same (tl u) (tl v) :=
  ⟨fun s => (s.inv hu).2, fun ⟨a, b, c, d⟩ => .intro hu hv a b c d⟩
theorem same_trans : ∀ (n : Nat) {u v w : List UInt8}, u.length ≤ n → Same u v → Same v w → Same u w
  | 0, u, v, w, hn, s1, s2 => by
    obtain rfl : u = [] := List.eq_nil_of_length_eq_zero (by omega)
    obtain rfl : v = [] := s1.nil_iff.1 rfl
    exact s2
  | n + 1, u, v, w, hn, s1, s2 => by
    by_cases hu : u = []
    · subst hu
      obtain rfl : v = [] := s1.nil_iff.1 rfl
      exact s2
    · obtain ⟨hv, a1, a2, a3, a4⟩ := s1.inv hu
      obtain ⟨hw, b1, b2, b3, b4⟩ := s2.inv hv
      have h1 := hd_lt hu
      have h2 := tl_lt hu
      exact .intro hu hw (a1.trans b1) (a2.trans b2) (same_trans n (by omega) a3 b3) (same_trans n (by omega) a4 b4)
theorem Same.trans (s1 : Same u v) (s2 : Same v w) : Same u w := same_trans _ (Nat.le_refl _) s1 s2
theorem Same.rev (s : Same u v) : Same u.reverse v.reverse := by
  induction s with
  | nil => exact .nil
  | step k1 k2 k3 k4 _ _ i1 i2 => exact .step (TlIs.rev.1 k3) (TlIs.rev.1 k4) (HdIs.rev.1 k1) (HdIs.rev.1 k2) i2 i1
/-- A word twice. -/
theorem same_twice (u : List UInt8) : Same u (u ++ u) := by
  by_cases hu : u = []
  · subst hu; exact .nil
  · exact .step (hdIs hu) ((hdIs hu).more fun _ h => h) (tlIs hu) ((tlIs hu).more fun _ h => h) (.refl _) (.refl _)
/-- What stands behind the last place of a letter. -/
theorem same_suf : ∀ (n : Nat) {u v : List UInt8}, u.length ≤ n → Same u v → z ∈ u → ∃ r s r' s', u = r ++ z :: s ∧ z ∉ s ∧ v = r' ++ z :: s' ∧ z ∉ s' ∧ Same s s'
  | 0, u, v, hn, s, hz => by
    obtain rfl : u = [] := List.eq_nil_of_length_eq_zero (by omega)
    cases hz
  | n + 1, u, v, hn, s, hz => by
    cases s with
    | nil => cases hz
    | @step _ _ h1 h2 t1 t2 x1 y1 k1 k2 k3 k4 i1 i2 =>
      have hlt := k3.lt
      have hm := k3.mem.1 hz
      obtain ⟨r, e, _⟩ := k3.ex
      obtain ⟨r', e', _⟩ := k4.ex
      rcases Classical.em (z ∈ t1) with ht | ht
      · obtain ⟨r1, s1, r2, s2, e1, n1, e2, n2, hs⟩ := same_suf n (by omega) i2 ht
        exact ⟨r ++ y1 :: r1, s1, r' ++ y1 :: r2, s2, by rw [e, e1]; simp, n1, by rw [e', e2]; simp, n2, hs⟩
      · rcases hm with h | rfl
        · exact (ht h).elim
        · exact ⟨r, _, r', _, e, k3.new, e', k4.new, i2⟩
theorem suf_unique {r s r' s' : List UInt8} (e : r ++ z :: s = r' ++ z :: s') (h : z ∉ s) (h' : z ∉ s') : s = s' := by
  rcases List.append_eq_append_iff.1 e with ⟨a, ha, hb⟩ | ⟨a, ha, hb⟩
  · cases a with
    | nil => simpa using hb
    | cons b a =>
      rw [List.cons_append, List.cons.injEq] at hb
      exact (h (by rw [hb.2]; simp)).elim
  · cases a with
    | nil => simpa using hb.symm
    | cons b a =>
      rw [List.cons_append, List.cons.injEq] at hb
      exact (h' (by rw [hb.2]; simp)).elim
/-- A further word behind both. -/
theorem same_right : ∀ (n : Nat) {u v w : List UInt8}, u.length + w.length ≤ n → Same u v → Same (u ++ w) (v ++ w)
  | n, u, v, w, hn, s => by
    by_cases hu : u = []
    · subst hu
      obtain rfl : v = [] := s.nil_iff.1 rfl
      exact .refl _
    · obtain ⟨hv, a1, a2, a3, a4⟩ := s.inv hu
      have m := s.mem
      have hn0 : 0 < u.length := List.length_pos_iff.2 hu
      match n, hn with
      | 0, hn => omega
      | n + 1, hn =>
        have HH : ∃ p q x, HdIs (u ++ w) p x ∧ HdIs (v ++ w) q x ∧ Same p q := by
          rcases split_new u w with hw | ⟨w1, z, w2, e, h1, h2, h3⟩
          · exact ⟨hd u, hd v, hl u, (hdIs hu).more hw, a1 ▸ (hdIs hv).more (fun y hy => (m y).1 (hw y hy)), a3⟩
          · have hlw : w1.length < w.length := by rw [e]; simp
            refine ⟨u ++ w1, v ++ w1, z, ⟨⟨w2, by rw [e]; simp, fun y hy => ?_⟩, ?_⟩, ⟨⟨w2, by rw [e]; simp, fun y hy => ?_⟩, ?_⟩, same_right n (by omega) s⟩
            · rw [List.mem_append]
              rcases h3 y hy with h | h | h
              · exact .inl (.inl h)
              · exact .inl (.inr h)
              · exact .inr h
            · rw [List.mem_append]; exact fun h => h.elim h1 h2
            · rw [List.mem_append]
              rcases h3 y hy with h | h | h
              · exact .inl (.inl ((m y).1 h))
              · exact .inl (.inr h)
              · exact .inr h
            · rw [List.mem_append]; exact fun h => h.elim (fun h => h1 ((m z).2 h)) h2
        have HT : ∃ p q x, TlIs (u ++ w) x p ∧ TlIs (v ++ w) x q ∧ Same p q := by
          rcases split_old u w with hw | ⟨r, z, t1, e, h1, h2, h3⟩
          · have hwn : w ≠ [] := fun e => by
              cases u with
              | nil => exact hu rfl
              | cons b u' => have := hw b (by simp); rw [e] at this; cases this
            exact ⟨tl w, tl w, ll w, (tlIs hwn).more hw, (tlIs hwn).more (fun y hy => hw y ((m y).2 hy)), .refl _⟩
          · obtain ⟨r1, s1, r2, s2, e1, n1, e2, n2, hs⟩ := same_suf (z := z) _ (Nat.le_refl _) s (by rw [e]; simp)
            have hst : s1 = t1 := suf_unique (e1.symm.trans e) n1 h2
            subst hst
            have hlt : s1.length < u.length := by rw [e]; simp; omega
            refine ⟨s1 ++ w, s2 ++ w, z, ⟨⟨r, by rw [e]; simp, fun y hy => ?_⟩, ?_⟩, ⟨⟨r2, by rw [e2]; simp, fun y hy => ?_⟩, ?_⟩, same_right n (by omega) hs⟩
            · rw [List.mem_append]
              rcases h3 y hy with h | h | h
              · exact .inl (.inr h)
              · exact .inl (.inl h)
              · exact .inr h
            · rw [List.mem_append]; exact fun h => h.elim h2 h1
            · rw [List.mem_append]
              have hyu : y ∈ u := (m y).2 (by rw [e2]; simp [hy])
              rw [e, List.mem_append, List.mem_cons] at hyu
              have : y ∈ w ∨ y ∈ s1 ∨ y = z := by
                rcases hyu with h | h | h
                · exact h3 y h
                · exact .inr (.inr h)
                · exact .inr (.inl h)
              rcases this with h | h | h
              · exact .inl (.inr h)
              · exact .inl (.inl ((hs.mem y).1 h))
              · exact .inr h
            · rw [List.mem_append]; exact fun h => h.elim n2 h1
        obtain ⟨p, q, x, k1, k2, s1⟩ := HH
        obtain ⟨p', q', x', k3, k4, s2⟩ := HT
        exact .step k1 k2 k3 k4 s1 s2
theorem Same.right (s : Same u v) (w : List UInt8) : Same (u ++ w) (v ++ w) := same_right _ (Nat.le_refl _) s
theorem Same.left (s : Same u v) (w : List UInt8) : Same (w ++ u) (w ++ v) := by
  have := (s.rev.right w.reverse).rev
  simpa using this
theorem Same.both {u' v' : List UInt8} (s : Same u v) (s' : Same u' v') : Same (u ++ u') (v ++ v') := (s.right u').trans (s'.left v)
end
/-- The word that is made of parts. -/
def madeF : Nat → List UInt8 → List UInt8
  | 0, _ => []
  | k + 1, u => if u.isEmpty then [] else if u.all (· == hl u) then [hl u] else madeF k (hd u) ++ hl u :: ll u :: madeF k (tl u)
def made (u : List UInt8) : List UInt8 := madeF u.length u
section
variable {u v w h h' t t' : List UInt8} {x x' y y' z : UInt8}
theorem madeF_fuel : ∀ (k : Nat) {u : List UInt8}, u.length ≤ k → madeF k u = madeF u.length u
  | k, u, hk => by
    match k, hu : u, hk with
    | 0, [], _ => rfl
    | k + 1, [], _ => rfl
    | k + 1, a :: r, hk =>
      have hne : a :: r ≠ [] := by simp
      have h1 := hd_lt hne
      have h2 := tl_lt hne
      rw [List.length_cons] at hk h1 h2 ⊢
      simp only [madeF]
      rw [madeF_fuel k (by omega), madeF_fuel k (by omega), madeF_fuel r.length (by omega), madeF_fuel r.length (by omega)]
theorem made_nil : made [] = [] := rfl
theorem all_is (hu : u ≠ []) : u.all (· == hl u) = true ↔ ∀ y, y ∈ u → y = hl u := by rw [List.all_eq_true]; simp
theorem made_one (hu : u ≠ []) (ha : ∀ y, y ∈ u → y = x) : made u = [x] := by
  have hx : hl u = x := ha _ ((hdIs hu).mem.2 (.inr rfl))
  have hal : u.all (· == hl u) = true := (all_is hu).2 (by rw [hx]; exact ha)
  unfold made
  cases u with
  | nil => exact (hu rfl).elim
  | cons a r =>
    rw [List.length_cons, madeF, if_neg (by simp), if_pos hal, hx]
theorem made_step (hu : u ≠ []) (hn : ¬ ∀ y, y ∈ u → y = hl u) : made u = made (hd u) ++ hl u :: ll u :: made (tl u) := by
  have h1 := hd_lt hu
  have h2 := tl_lt hu
  have hal : ¬ u.all (· == hl u) = true := fun h => hn ((all_is hu).1 h)
  unfold made
  cases u with
  | nil => exact (hu rfl).elim
  | cons a r =>
    rw [List.length_cons] at h1 h2
    rw [List.length_cons, madeF, if_neg (by simp), if_neg hal, madeF_fuel r.length (by omega), madeF_fuel r.length (by omega)]
theorem one_parts (hu : u ≠ []) (ha : ∀ y, y ∈ u → y = x) : HdIs u [] x ∧ TlIs u x [] := by
  refine ⟨?_, ?_⟩
  · cases u with
    | nil => exact (hu rfl).elim
    | cons a r =>
      obtain rfl := ha a (by simp)
      exact ⟨⟨r, rfl, fun y hy => .inr (ha y (by simp [hy]))⟩, by simp⟩
  · rcases List.eq_nil_or_concat u with e | ⟨r, a, e⟩
    · exact (hu e).elim
    · subst e
      obtain rfl := ha a (by simp)
      exact ⟨⟨r, by simp, fun y hy => .inr (ha y (by simp [hy]))⟩, by simp⟩
theorem same_made' : ∀ (n : Nat) (u : List UInt8), u.length ≤ n → Same (made u) u
  | n, u, hn => by
    by_cases hu : u = []
    · subst hu; exact .nil
    · by_cases ha : ∀ y, y ∈ u → y = hl u
      · rw [made_one hu ha]
        obtain ⟨k1, k2⟩ := one_parts hu ha
        obtain ⟨k3, k4⟩ := one_parts (u := [hl u]) (x := hl u) (by simp) (by simp)
        exact .step k3 k1 k4 k2 .nil .nil
      · have h1 := hd_lt hu
        have h2 := tl_lt hu
        match n, hn with
        | 0, hn => omega
        | n + 1, hn =>
          have s1 := same_made' n (hd u) (by omega)
          have s2 := same_made' n (tl u) (by omega)
          have k1 := hdIs hu
          have k2 := tlIs hu
          rw [made_step hu ha]
          refine .step ⟨⟨ll u :: made (tl u), rfl, fun y hy => ?_⟩, fun hm => k1.new ((s1.mem _).1 hm)⟩ k1 ⟨⟨made (hd u) ++ [hl u], by simp, fun y hy => ?_⟩, fun hm => k2.new ((s2.mem _).1 hm)⟩ k2 s1 s2
          · have hyu : y ∈ u := by
              rcases List.mem_cons.1 hy with rfl | hy
              · exact k2.mem.2 (.inr rfl)
              · exact k2.mem.2 (.inl ((s2.mem y).1 hy))
            exact (k1.mem.1 hyu).imp (fun h => (s1.mem y).2 h) id
          · have hyu : y ∈ u := by
              rcases List.mem_append.1 hy with hy | hy
              · exact k1.mem.2 (.inl ((s1.mem y).1 hy))
              · rw [List.mem_singleton.1 hy]; exact k1.mem.2 (.inr rfl)
            exact (k2.mem.1 hyu).imp (fun h => (s2.mem y).2 h) id
/-- Each word is the same as the one that is made of its parts. -/
theorem same_made (u : List UInt8) : Same (made u) u := same_made' _ u (Nat.le_refl _)
theorem made_same' : ∀ (n : Nat) {u v : List UInt8}, u.length ≤ n → Same u v → made u = made v
  | n, u, v, hn, s => by
    by_cases hu : u = []
    · subst hu
      obtain rfl : v = [] := s.nil_iff.1 rfl
      rfl
    · obtain ⟨hv, a1, a2, a3, a4⟩ := s.inv hu
      have m := s.mem
      by_cases ha : ∀ y, y ∈ u → y = hl u
      · rw [made_one hu ha, made_one (x := hl u) hv (fun y hy => ha y ((m y).2 hy))]
      · have hb : ¬ ∀ y, y ∈ v → y = hl v := fun h => ha fun y hy => by rw [a1]; exact h y ((m y).1 hy)
        have h1 := hd_lt hu
        have h2 := tl_lt hu
        match n, hn with
        | 0, hn => omega
        | n + 1, hn => rw [made_step hu ha, made_step hv hb, a1, a2, made_same' n (by omega) a3, made_same' n (by omega) a4]
/-- Words are the same exactly if they are made of the same parts. -/
theorem same_iff_made : Same u v ↔ made u = made v :=
  ⟨made_same' _ (Nat.le_refl _), fun e => (same_made u).symm.trans (e ▸ same_made v)⟩
theorem made_made (u : List UInt8) : made (made u) = made u := same_iff_made.1 (same_made u)
theorem made_twice (u : List UInt8) : made (u ++ u) = made u := (same_iff_made.1 (same_twice u)).symm
theorem made_join (u v w : List UInt8) : made (made (u ++ v) ++ w) = made (u ++ made (v ++ w)) :=
  same_iff_made.1 ((((same_made (u ++ v)).right w).trans (by rw [List.append_assoc]; exact .refl _)).trans ((same_made (v ++ w)).left u).symm)
theorem made_ne (hu : u ≠ []) : made u ≠ [] := fun e => hu ((same_made u).nil_iff.1 e)
theorem made_mem (y : UInt8) : y ∈ made u ↔ y ∈ u := (same_made u).mem y
/-- How long made words are. -/
def bnd : Nat → Nat
  | 0 => 0
  | 1 => 1
  | n + 2 => 2 * bnd (n + 1) + 2
theorem made_len : ∀ (n : Nat) (S u : List UInt8), S.length ≤ n → (∀ y, y ∈ u → y ∈ S) → (made u).length ≤ bnd n
  | n, S, u, hn, hS => by
    by_cases hu : u = []
    · subst hu; simp [made_nil]
    · have hx := (hdIs hu).mem.2 (.inr rfl)
      have hS1 : 0 < S.length := List.length_pos_of_mem (hS _ hx)
      by_cases ha : ∀ y, y ∈ u → y = hl u
      · rw [made_one hu ha]
        match n, hn with
        | 0, hn => omega
        | 1, _ => simp [bnd]
        | n + 2, _ => simp [bnd]
      · match n, hn with
        | 0, hn => omega
        | 1, hn =>
          exfalso
          apply ha
          intro y hy
          obtain ⟨a, rfl⟩ : ∃ a, S = [a] := List.length_eq_one_iff.1 (by omega)
          rw [List.mem_singleton.1 (hS y hy), List.mem_singleton.1 (hS _ hx)]
        | n + 2, hn =>
          have k1 := hdIs hu
          have k2 := tlIs hu
          have hy := k2.mem.2 (.inr rfl)
          have e1 := made_len (n + 1) (S.erase (hl u)) (hd u) (by rw [List.length_erase_of_mem (hS _ hx)]; omega) (fun y hy => (List.mem_erase_of_ne (fun (e : y = hl u) => k1.new (e ▸ hy))).2 (hS y (k1.mem.2 (.inl hy))))
          have e2 := made_len (n + 1) (S.erase (ll u)) (tl u) (by rw [List.length_erase_of_mem (hS _ hy)]; omega) (fun y hy => (List.mem_erase_of_ne (fun (e : y = ll u) => k2.new (e ▸ hy))).2 (hS y (k2.mem.2 (.inl hy))))
          rw [made_step hu ha]
          simp only [List.length_append, List.length_cons, bnd]
          omega
theorem made_ten (h : ∀ y, y ∈ u → y = 97 ∨ y = 98 ∨ y = 99) : (made u).length ≤ 10 := made_len 3 [97, 98, 99] u (by simp) (by simpa using h)
end
end Go.Proofs.Ythllbekoidogpaa

namespace Go.Proofs.Ythllbekoidogpaa
set_option linter.unusedVariables false

/-- The text of a word. -/
def bs (u : List UInt8) : ByteArray := ⟨u.toArray⟩
/-- The k-th letter. -/
def lt (u : List UInt8) (k : Nat) : UInt8 := u.getD k 0
def okC (c : UInt8) : Bool := decide (97 ≤ c.toNat) && decide (c.toNat ≤ 99)
def okW (u : List UInt8) : Bool := u.all okC && (decide (1 ≤ u.length) && decide (u.length ≤ 24))
section
variable {u v : List UInt8} {k : Nat}
theorem bs_of (s : ByteArray) : s = bs s.data.toList := by cases s; simp [bs]
theorem size_bs (u : List UInt8) : (bs u).size = u.length := by simp [bs, ByteArray.size]
theorem toList_bs (u : List UInt8) : (bs u).toList = u := ByteArray.toList_mk u
theorem get_bs (h : k < (bs u).size) : (bs u)[k]'h = lt u k := by
  have h2 : k < u.length := by rw [size_bs] at h; exact h
  have e : lt u k = u[k] := by simp [lt, h2]
  rw [e]
  rfl
theorem ext_bs (u : List UInt8) (a b : Nat) : (bs u).extract a b = bs ((u.drop a).take (b - a)) := by
  unfold bs
  rw [ByteArray.extract_mk]
theorem app_bs (u v : List UInt8) : bs u ++ bs v = bs (u ++ v) := ByteArray.mk_append_mk u v
theorem lt_mem (h : k < u.length) : lt u k ∈ u := by simp [lt, h]
theorem okW_iff : okW u = true ↔ (∀ c, c ∈ u → okC c = true) ∧ 1 ≤ u.length ∧ u.length ≤ 24 := by
  unfold okW
  rw [Bool.and_eq_true, Bool.and_eq_true, List.all_eq_true, decide_eq_true_iff, decide_eq_true_iff]
theorem okW_bad (h : k < u.length) (hc : okC (lt u k) = false) : okW u = false := by
  cases e : okW u with
  | false => rfl
  | true => rw [(okW_iff.1 e).1 _ (lt_mem h)] at hc; cases hc
theorem okW_len (h : ∀ j, j < u.length → okC (lt u j) = true) : okW u = (decide (1 ≤ u.length) && decide (u.length ≤ 24)) := by
  unfold okW
  have : u.all okC = true := by
    rw [List.all_eq_true]
    intro c hc
    obtain ⟨j, hj, rfl⟩ := List.getElem_of_mem hc
    have := h j hj
    simpa [lt, hj] using this
  rw [this, Bool.true_and]
theorem okC_iff {c : UInt8} : okC c = true ↔ c = 97 ∨ c = 98 ∨ c = 99 := by
  unfold okC
  rw [Bool.and_eq_true, decide_eq_true_iff, decide_eq_true_iff, ← UInt8.toNat_inj, ← UInt8.toNat_inj, ← UInt8.toNat_inj]
  show _ ↔ c.toNat = 97 ∨ c.toNat = 98 ∨ c.toNat = 99
  omega
theorem okC_int (c : UInt8) : okC c = (decide ((97 : Int) ≤ ((c.toNat : Nat) : Int)) && decide (((c.toNat : Nat) : Int) ≤ 99)) := by
  unfold okC
  congr 1 <;> rw [decide_eq_decide] <;> omega
theorem okW_ok (h : okW u = true) (hk : k < u.length) : okC (lt u k) = true := (okW_iff.1 h).1 _ (lt_mem hk)
end
/-- A letter among letters, as the specification adds it. -/
def dlt (c : UInt8) : Nat := 2 ^ (c.toNat % 32) / 2
def letF (u : List UInt8) (k : Nat) : Nat := (u.take k).foldl (fun s c => s ||| dlt c) 0
theorem dlt_lt (c : UInt8) : dlt c < 2 ^ 31 := by
  unfold dlt
  have h : c.toNat % 32 ≤ 31 := by omega
  have : 2 ^ (c.toNat % 32) ≤ 2 ^ 31 := Nat.pow_le_pow_right (by omega) h
  omega
theorem letF_succ {u : List UInt8} {k : Nat} (h : k < u.length) : letF u (k + 1) = letF u k ||| dlt (lt u k) := by
  have e : u.take (k + 1) = u.take k ++ [lt u k] := by
    have : lt u k = u[k] := by simp [lt, h]
    rw [this, List.take_succ_eq_append_getElem h]
  unfold letF
  rw [e, List.foldl_append]; rfl
theorem letF_lt (u : List UInt8) : ∀ k, letF u k < 2 ^ 31
  | 0 => by simp [letF]
  | k + 1 => by
    by_cases h : k < u.length
    · rw [letF_succ h]; exact Nat.or_lt_two_pow (letF_lt u k) (dlt_lt _)
    · have : letF u (k + 1) = letF u k := by
        unfold letF
        rw [List.take_of_length_le (by omega), List.take_of_length_le (by omega)]
      rw [this]; exact letF_lt u k
theorem bits_or31 {a b : Nat} (ha : a < 2 ^ 31) (hb : b < 2 ^ 31) : bits .or .i64 (a : Int) (b : Int) = ((a ||| b : Nat) : Int) :=
  (bits_nat .i64 31 (by decide) (fun n h0 h1 => IntWalk.i64_in _ ⟨by omega, by omega⟩) a b ha hb).2
theorem and31 (c : UInt8) : bits .and .u8 ((c.toNat : Nat) : Int) 31 = ((c.toNat % 32 : Nat) : Int) := by
  have h := (bits_nat .u8 8 (by decide) (fun n h0 h1 => IntWalk.u8_in _ ⟨by omega, by omega⟩) c.toNat 31 c.toNat_lt (by decide)).1
  rw [show (31 : Int) = ((31 : Nat) : Int) from rfl, h]
  congr 1
  exact Nat.and_two_pow_sub_one_eq_mod c.toNat 5
/-- Which letters a word has. -/
def ltr (u : List UInt8) : Nat := (if 97 ∈ u then 1 else 0) ||| (if 98 ∈ u then 2 else 0) ||| (if 99 ∈ u then 4 else 0)
def letN (u : List UInt8) : Int := if okW u = true then ((ltr u : Nat) : Int) else -1
theorem letN_not {u : List UInt8} (h : okW u = false) : letN u = -1 := by unfold letN; rw [if_neg (by rw [h]; exact Bool.false_ne_true)]
theorem letN_ok {u : List UInt8} (h : okW u = true) : letN u = ((ltr u : Nat) : Int) := by unfold letN; rw [if_pos h]
theorem ltr_app (u : List UInt8) (c : UInt8) (hc : okC c = true) : ltr (u ++ [c]) = ltr u ||| dlt c := by
  unfold ltr dlt
  rcases okC_iff.1 hc with rfl | rfl | rfl
  all_goals
    by_cases h1 : (97 : UInt8) ∈ u <;> by_cases h2 : (98 : UInt8) ∈ u <;> by_cases h3 : (99 : UInt8) ∈ u <;> simp [h1, h2, h3]
theorem letF_ltr {u : List UInt8} (h : ∀ c, c ∈ u → okC c = true) : ∀ k, letF u k = ltr (u.take k)
  | 0 => by simp [letF, ltr]
  | k + 1 => by
    by_cases hk : k < u.length
    · have e : u.take (k + 1) = u.take k ++ [lt u k] := by
        have : lt u k = u[k] := by simp [lt, hk]
        rw [this, List.take_succ_eq_append_getElem hk]
      rw [letF_succ hk, e, ltr_app _ _ (h _ (lt_mem hk)), letF_ltr h k]
    · have e1 : letF u (k + 1) = letF u k := by
        unfold letF
        rw [List.take_of_length_le (by omega), List.take_of_length_le (by omega)]
      rw [e1, letF_ltr h k, List.take_of_length_le (by omega), List.take_of_length_le (by omega)]
theorem letF_all {u : List UInt8} (h : okW u = true) : letF u u.length = ltr u := by
  rw [letF_ltr (okW_iff.1 h).1, List.take_length]
/-- Letters are the same exactly if words have the same. -/
theorem ltr_iff {u v : List UInt8} (hu : ∀ c, c ∈ u → okC c = true) (hv : ∀ c, c ∈ v → okC c = true) : ltr u = ltr v ↔ ∀ c, c ∈ u ↔ c ∈ v := by
  constructor
  · intro e c
    have key : ((97 : UInt8) ∈ u ↔ (97 : UInt8) ∈ v) ∧ ((98 : UInt8) ∈ u ↔ (98 : UInt8) ∈ v) ∧ ((99 : UInt8) ∈ u ↔ (99 : UInt8) ∈ v) := by
      unfold ltr at e
      by_cases h1 : (97 : UInt8) ∈ u <;> by_cases h2 : (98 : UInt8) ∈ u <;> by_cases h3 : (99 : UInt8) ∈ u <;> by_cases h4 : (97 : UInt8) ∈ v <;> by_cases h5 : (98 : UInt8) ∈ v <;> by_cases h6 : (99 : UInt8) ∈ v <;> simp_all
    obtain ⟨k1, k2, k3⟩ := key
    constructor
    · intro h
      rcases okC_iff.1 (hu c h) with rfl | rfl | rfl
      · exact k1.1 h
      · exact k2.1 h
      · exact k3.1 h
    · intro h
      rcases okC_iff.1 (hv c h) with rfl | rfl | rfl
      · exact k1.2 h
      · exact k2.2 h
      · exact k3.2 h
  · intro h
    unfold ltr
    simp only [h]
theorem ltr_range {u : List UInt8} (h : okW u = true) : 1 ≤ ltr u ∧ ltr u ≤ 7 := by
  have hw := okW_iff.1 h
  have h0 : 0 < u.length := hw.2.1
  have hm := lt_mem h0
  have hc := okC_iff.1 (hw.1 _ hm)
  generalize lt u 0 = c at hm hc
  unfold ltr
  rcases hc with rfl | rfl | rfl
  all_goals
    by_cases h1 : (97 : UInt8) ∈ u <;> by_cases h2 : (98 : UInt8) ∈ u <;> by_cases h3 : (99 : UInt8) ∈ u <;> simp_all
/-- A word turned round. -/
def rndW (u : List UInt8) : List UInt8 := if okW u = true then u.reverse else []
theorem rndW_not {u : List UInt8} (h : okW u = false) : rndW u = [] := by unfold rndW; rw [if_neg (by rw [h]; exact Bool.false_ne_true)]
theorem rndW_ok {u : List UInt8} (h : okW u = true) : rndW u = u.reverse := by unfold rndW; rw [if_pos h]
theorem drop_rev {u : List UInt8} {m : Nat} (h : m < u.length) : (u.drop (m + 1)).reverse ++ [lt u m] = (u.drop m).reverse := by
  have e : lt u m = u[m] := by simp [lt, h]
  rw [List.drop_eq_getElem_cons h, e, List.reverse_cons]
theorem ext_one {u : List UInt8} {k : Nat} (h : k < u.length) : (bs u).extract k (k + 1) = bs [lt u k] := by
  have e : lt u k = u[k] := by simp [lt, h]
  rw [ext_bs, e, Nat.add_sub_cancel_left, List.drop_eq_getElem_cons h]
  rfl
theorem ext_take (u : List UInt8) (k : Nat) : (bs u).extract 0 k = bs (u.take k) := by rw [ext_bs]; simp
theorem okW_take {u : List UInt8} (h : okW u = true) {k : Nat} (h1 : 1 ≤ k) (h2 : k ≤ u.length) : okW (u.take k) = true := by
  obtain ⟨a, b, c⟩ := okW_iff.1 h
  exact okW_iff.2 ⟨fun x hx => a x (List.mem_of_mem_take hx), by rw [List.length_take]; omega, by rw [List.length_take]; omega⟩
theorem take_lt {u : List UInt8} {k : Nat} (hk : k < u.length) : u.take (k + 1) = u.take k ++ [lt u k] := by
  have : lt u k = u[k] := by simp [lt, hk]
  rw [this, List.take_succ_eq_append_getElem hk]
/-- The head under way. -/
theorem hd_start {u : List UInt8} (h : 0 < u.length) : HdIs (u.take 1) (u.take 0) (lt u 0) := by
  have := take_lt h
  rw [this]
  exact ⟨⟨[], by simp, fun y hy => by cases hy⟩, by simp⟩
theorem hd_old {u : List UInt8} {k a : Nat} (hk : k < u.length) (h : HdIs (u.take k) (u.take a) (lt u a)) (hm : lt u k ∈ u.take k) : HdIs (u.take (k + 1)) (u.take a) (lt u a) := by
  rw [take_lt hk]; exact h.old hm
theorem hd_new {u : List UInt8} {k : Nat} (hk : k < u.length) (hm : lt u k ∉ u.take k) : HdIs (u.take (k + 1)) (u.take k) (lt u k) := by
  rw [take_lt hk]; exact HdIs.fresh hm
theorem let_old {u : List UInt8} (h : okW u = true) {k : Nat} (h1 : 1 ≤ k) (hk : k < u.length) (hm : lt u k ∈ u.take k) : letN (u.take (k + 1)) = letN (u.take k) := by
  have o1 := okW_take h h1 (by omega : k ≤ u.length)
  have o2 := okW_take h (k := k + 1) (by omega) (by omega)
  rw [letN_ok o1, letN_ok o2, (ltr_iff (okW_iff.1 o2).1 (okW_iff.1 o1).1).2 fun c => by
    rw [take_lt hk, List.mem_append, List.mem_singleton]
    exact ⟨fun h => h.elim id (fun e => e ▸ hm), .inl⟩]
theorem let_new {u : List UInt8} (h : okW u = true) {k : Nat} (h1 : 1 ≤ k) (hk : k < u.length) (hm : lt u k ∉ u.take k) : letN (u.take (k + 1)) ≠ letN (u.take k) := by
  have o1 := okW_take h h1 (by omega : k ≤ u.length)
  have o2 := okW_take h (k := k + 1) (by omega) (by omega)
  rw [letN_ok o1, letN_ok o2]
  intro e
  have e' : ltr (u.take (k + 1)) = ltr (u.take k) := by omega
  exact hm (((ltr_iff (okW_iff.1 o2).1 (okW_iff.1 o1).1).1 e' _).1 (by rw [take_lt hk]; simp))
/-- The head of a word, and its letter; nothing for others. -/
def hdW (u : List UInt8) : List UInt8 := if okW u = true then hd u else []
def hlW (u : List UInt8) : List UInt8 := if okW u = true then [hl u] else []
def tlW (u : List UInt8) : List UInt8 := if okW u = true then tl u else []
def llW (u : List UInt8) : List UInt8 := if okW u = true then [ll u] else []
section
variable {u : List UInt8}
theorem hdW_not (h : okW u = false) : hdW u = [] := by unfold hdW; rw [if_neg (by rw [h]; exact Bool.false_ne_true)]
theorem hlW_not (h : okW u = false) : hlW u = [] := by unfold hlW; rw [if_neg (by rw [h]; exact Bool.false_ne_true)]
theorem tlW_not (h : okW u = false) : tlW u = [] := by unfold tlW; rw [if_neg (by rw [h]; exact Bool.false_ne_true)]
theorem llW_not (h : okW u = false) : llW u = [] := by unfold llW; rw [if_neg (by rw [h]; exact Bool.false_ne_true)]
theorem hdW_ok (h : okW u = true) : hdW u = hd u := by unfold hdW; rw [if_pos h]
theorem hlW_ok (h : okW u = true) : hlW u = [hl u] := by unfold hlW; rw [if_pos h]
theorem tlW_ok (h : okW u = true) : tlW u = tl u := by unfold tlW; rw [if_pos h]
theorem llW_ok (h : okW u = true) : llW u = [ll u] := by unfold llW; rw [if_pos h]
theorem okW_ne (h : okW u = true) : u ≠ [] := fun e => by have := (okW_iff.1 h).2.1; rw [e] at this; simp at this
theorem okW_pre {h : List UInt8} {x : UInt8} (hw : okW u = true) (k : HdIs u h x) : h = [] ∨ okW h = true := by
  by_cases e : h = []
  · exact .inl e
  · obtain ⟨a, b, c⟩ := okW_iff.1 hw
    have hl := k.lt
    exact .inr (okW_iff.2 ⟨fun y hy => a y (k.mem.2 (.inl hy)), List.length_pos_iff.2 e, by omega⟩)
theorem okW_rev : okW u.reverse = okW u := by
  rw [Bool.eq_iff_iff, okW_iff, okW_iff]
  simp
theorem rnd_hd (hw : okW u = true) : rndW (hd u.reverse) = tl u := by
  have hr : okW u.reverse = true := by rw [okW_rev]; exact hw
  rcases okW_pre hr (hdIs (okW_ne hr)) with e | e
  · rw [e, rndW_not (by rfl)]
    unfold tl; rw [e]; rfl
  · rw [rndW_ok e]; rfl
end
section
variable {u v : List UInt8}
theorem okW_app (h1 : okW u = true) (h2 : okW v = true) (h : u.length + v.length ≤ 24) : okW (u ++ v) = true := by
  obtain ⟨a1, a2, a3⟩ := okW_iff.1 h1
  obtain ⟨b1, b2, b3⟩ := okW_iff.1 h2
  exact okW_iff.2 ⟨fun c hc => (List.mem_append.1 hc).elim (a1 c) (b1 c), by rw [List.length_append]; omega, by rw [List.length_append]; omega⟩
theorem letN_mem (h1 : okW u = true) (h2 : okW v = true) (h : ∀ c, c ∈ u ↔ c ∈ v) : letN u = letN v := by
  rw [letN_ok h1, letN_ok h2, (ltr_iff (okW_iff.1 h1).1 (okW_iff.1 h2).1).2 h]
theorem okW_sub (h1 : okW u = true) (hs : ∀ c, c ∈ v → c ∈ u) (hl : v.length ≤ u.length) (h0 : v ≠ []) : okW v = true := by
  obtain ⟨a1, a2, a3⟩ := okW_iff.1 h1
  exact okW_iff.2 ⟨fun c hc => a1 c (hs c hc), List.length_pos_iff.2 h0, by omega⟩
theorem add_bs {P : Program} (u v : List UInt8) (h : u.length + v.length ≤ 9223372036854775807) (w : World) : (Op.stringOp .add (bs u) (bs v)).run P w = .ok (.string (bs (u ++ v))) w := by
  rw [run_string_add_sum w _ _ (by rw [size_bs, size_bs]; exact h), app_bs]
theorem eq_bs (u v : List UInt8) : ((bs u).toList == (bs v).toList) = decide (u = v) := by
  rw [toList_bs, toList_bs]
  rw [Bool.eq_iff_iff, beq_iff_eq, decide_eq_true_iff]
end
end Go.Proofs.Ythllbekoidogpaa
