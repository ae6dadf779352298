
/- Values of words in tables, and that words that are the same have the same value in each band: plain mathematics. -/
import Derived.Test.YthllbekoidogpaaWordB
import Derived.Test.YthllbekoidogpaaLevQ
namespace Go.Proofs.Ythllbekoidogpaa
set_option linter.unusedVariables false

/-- The product of a row of things, one after the other. -/
def pr (T : List (List Int)) : List Int → Int
  | [] => 0
  | a :: r => r.foldl (mul T) a
section
variable {T : List (List Int)} {f : UInt8 → Int} {u v w p q m : List UInt8} {x y : UInt8}
theorem pr_cons2 (a b : Int) (r : List Int) : pr T (a :: b :: r) = pr T (mul T a b :: r) := rfl
theorem pr_snoc (a : Int) (r : List Int) (b : Int) : pr T (a :: r ++ [b]) = mul T (pr T (a :: r)) b := by simp [pr]
/-- Things of the table alone. -/
def AllTh (T : List (List Int)) (xs : List Int) : Prop := ∀ x, x ∈ xs → Th T x
theorem pr_th (k : IsT T) : ∀ {r : List Int} {a : Int}, Th T a → AllTh T r → Th T (pr T (a :: r))
  | [], a, ha, _ => ha
  | b :: r, a, ha, hr => by
    have hb := hr b (by simp)
    show Th T (pr T (mul T a b :: r))
    exact pr_th k (k.mul ha.1 ha.2 hb.1 hb.2) fun x hx => hr x (by simp [hx])
theorem pr_mul (k : IsT T) (hg : ∀ x y z, Th T x → Th T y → Th T z → mul T (mul T x y) z = mul T x (mul T y z)) : ∀ {r : List Int} {c a : Int}, Th T c → Th T a → AllTh T r → pr T (mul T c a :: r) = mul T c (pr T (a :: r))
  | [], c, a, _, _, _ => rfl
  | b :: r, c, a, hc, ha, hr => by
    have hb := hr b (by simp)
    have hr' : AllTh T r := fun x hx => hr x (by simp [hx])
    rw [pr_cons2, pr_cons2, hg c a b hc ha hb]
    exact pr_mul k hg hc (k.mul ha.1 ha.2 hb.1 hb.2) hr'
theorem pr_app (k : IsT T) (hg : ∀ x y z, Th T x → Th T y → Th T z → mul T (mul T x y) z = mul T x (mul T y z)) : ∀ {r : List Int} {a b : Int} {s : List Int}, Th T a → AllTh T r → Th T b → AllTh T s → pr T (a :: r ++ b :: s) = mul T (pr T (a :: r)) (pr T (b :: s))
  | [], a, b, s, ha, _, hb, hs => by
    show pr T (a :: b :: s) = _
    rw [pr_cons2]
    exact pr_mul k hg ha hb hs
  | c :: r, a, b, s, ha, hr, hb, hs => by
    have hc := hr c (by simp)
    have := pr_app k hg (r := r) (s := s) (k.mul ha.1 ha.2 hc.1 hc.2) (fun x hx => hr x (by simp [hx])) hb hs
    exact this
/-- The value of a word, whose letters stand for things. -/
def vw (T : List (List Int)) (f : UInt8 → Int) (u : List UInt8) : Int := pr T (u.map f)
/-- Letters stand for things. -/
def Sta (T : List (List Int)) (f : UInt8 → Int) : Prop := ∀ y, Th T (f y)
theorem Sta.all (h : Sta T f) (u : List UInt8) : AllTh T (u.map f) := fun x hx => by
  obtain ⟨y, _, rfl⟩ := List.mem_map.1 hx
  exact h y
theorem vw_th (k : IsT T) (h : Sta T f) (hu : u ≠ []) : Th T (vw T f u) := by
  cases u with
  | nil => exact (hu rfl).elim
  | cons a r => exact pr_th k (h a) (h.all r)
theorem vw_app (bd : IsG T) (h : Sta T f) (hu : u ≠ []) (hw : w ≠ []) : vw T f (u ++ w) = mul T (vw T f u) (vw T f w) := by
  cases u with
  | nil => exact (hu rfl).elim
  | cons a r =>
    cases w with
    | nil => exact (hw rfl).elim
    | cons b s =>
      unfold vw
      rw [List.map_append]
      exact pr_app bd.tab (fun x y z hx hy hz => (bd.grp x y z hx.1 hx.2 hy.1 hy.2 hz.1 hz.2).symm) (h a) (h.all r) (h b) (h.all s)
theorem vw_left (bd : IsG T) (h : Sta T f) (hp : p ≠ []) (hq : q ≠ []) (e : vw T f p = vw T f q) (m : List UInt8) : vw T f (m ++ p) = vw T f (m ++ q) := by
  by_cases hm : m = []
  · subst hm; exact e
  · rw [vw_app bd h hm hp, vw_app bd h hm hq, e]
theorem vw_right (bd : IsG T) (h : Sta T f) (hp : p ≠ []) (hq : q ≠ []) (e : vw T f p = vw T f q) (m : List UInt8) : vw T f (p ++ m) = vw T f (q ++ m) := by
  by_cases hm : m = []
  · subst hm; simpa using e
  · rw [vw_app bd h hp hm, vw_app bd h hq hm, e]
theorem vw_le_letter (bd : IsB T) (h : Sta T f) : ∀ {u : List UInt8} {y : UInt8}, y ∈ u → leJ T (vw T f u) (f y)
  | [a], y, hy => by
    rw [List.mem_singleton.1 hy]
    show mul T (mul T (f a) (f a)) (f a) = f a
    rw [bd.ss (h a), bd.ss (h a)]
  | a :: b :: r, y, hy => by
    have hr : (b :: r) ≠ [] := by simp
    have hv := vw_th bd.g.tab h hr
    have e : vw T f (a :: b :: r) = mul T (f a) (vw T f (b :: r)) := vw_app bd.g h (u := [a]) (by simp) hr
    have hx := vw_th bd.g.tab h (u := a :: b :: r) (by simp)
    rw [e] at hx ⊢
    rcases List.mem_cons.1 hy with rfl | hy
    · exact bd.le_left (h y) hv
    · exact bd.le_trans hx hv (h y) (bd.le_right (h a) hv) (vw_le_letter bd h hy)
theorem vw_le (bd : IsB T) (h : Sta T f) (hu : u ≠ []) : ∀ {w : List UInt8}, w ≠ [] → (∀ y, y ∈ w → y ∈ u) → leJ T (vw T f u) (vw T f w)
  | [], hw, _ => (hw rfl).elim
  | [a], _, hs => vw_le_letter bd h (hs a (by simp))
  | a :: b :: r, _, hs => by
    have hr : (b :: r) ≠ [] := by simp
    have e : vw T f (a :: b :: r) = mul T (f a) (vw T f (b :: r)) := vw_app bd.g h (u := [a]) (by simp) hr
    rw [e]
    exact bd.le_meet (vw_th bd.g.tab h hu) (h a) (vw_th bd.g.tab h hr) (vw_le_letter bd h (hs a (by simp))) (vw_le bd h hu hr fun y hy => hs y (by simp [List.mem_cons.1 hy]))
theorem vw_twice (bd : IsB T) (h : Sta T f) (hu : u ≠ []) : vw T f (u ++ u) = vw T f u := by
  rw [vw_app bd.g h hu hu]; exact bd.ss (vw_th bd.g.tab h hu)
/-- A word has the value of its beginning and its end with all its letters. -/
theorem vw_ends (bd : IsB T) (h : Sta T f) {s r : List UInt8} (hp : p ≠ []) (hq : q ≠ []) (e1 : u = p ++ s) (e2 : u = r ++ q) (m1 : ∀ y, y ∈ u → y ∈ p) (m2 : ∀ y, y ∈ u → y ∈ q) : vw T f u = vw T f (p ++ q) := by
  have hu : u ≠ [] := by rw [e1]; simp [hp]
  have hpq : p ++ q ≠ [] := by simp [hp]
  have mp : ∀ y, y ∈ p → y ∈ u := fun y hy => by rw [e1]; simp [hy]
  have mq : ∀ y, y ∈ q → y ∈ u := fun y hy => by rw [e2]; simp [hy]
  have huu : u ++ u = p ++ ((s ++ r) ++ q) := by
    have : u ++ u = (p ++ s) ++ (r ++ q) := by rw [← e1, ← e2]
    rw [this]; simp
  have a1 : vw T f (p ++ (q ++ p)) = vw T f p := by
    have := vw_le bd h hp hq (fun y hy => m1 y (mq y hy))
    rw [← List.append_assoc, vw_app bd.g h hpq hp, vw_app bd.g h hp hq]
    exact this
  have a2 : vw T f (q ++ (p ++ q)) = vw T f q := by
    have := vw_le bd h hq hp (fun y hy => m2 y (mp y hy))
    rw [← List.append_assoc, vw_app bd.g h (by simp [hq]) hq, vw_app bd.g h hq hp]
    exact this
  have b1 : vw T f ((p ++ (q ++ p)) ++ ((s ++ r) ++ (q ++ (p ++ q)))) = vw T f (u ++ u) := by
    rw [vw_right bd.g h (by simp [hp]) hp a1, huu]
    have hx : s ++ r ++ (q ++ (p ++ q)) ≠ [] := by simp [hq]
    have hy : s ++ r ++ q ≠ [] := by simp [hq]
    exact vw_left bd.g h hx hy (vw_left bd.g h (by simp [hq]) hq a2 (s ++ r)) p
  have b2 : (p ++ (q ++ p)) ++ ((s ++ r) ++ (q ++ (p ++ q))) = ((p ++ q) ++ (u ++ u)) ++ (p ++ q) := by rw [huu]; simp
  have huu' : u ++ u ≠ [] := by simp [hu]
  have b3 := vw_le bd h hpq huu' (fun y hy => by
    rcases List.mem_append.1 hy with hy | hy
    · exact List.mem_append.2 (.inl (m1 y hy))
    · exact List.mem_append.2 (.inl (m1 y hy)))
  rw [b2, vw_app bd.g h (by simp [hp]) hpq, vw_app bd.g h hpq huu'] at b1
  rw [← vw_twice bd h hu, ← b1]
  exact b3
theorem vw_parts (bd : IsB T) (h : Sta T f) {hh t : List UInt8} (k1 : HdIs u hh x) (k2 : TlIs u y t) : vw T f u = vw T f (hh ++ x :: y :: t) := by
  obtain ⟨s, e1, hs⟩ := k1.ex
  obtain ⟨r, e2, hr⟩ := k2.ex
  have := vw_ends bd h (u := u) (p := hh ++ [x]) (q := y :: t) (s := s) (r := r) (by simp) (by simp) (by rw [e1]; simp) e2
    (fun z hz => by rcases k1.mem.1 hz with hz | hz <;> simp [hz]) (fun z hz => by rcases k2.mem.1 hz with hz | hz <;> simp [hz])
  rw [this]; simp
/-- Words that are the same have the same value. -/
theorem vw_same (bd : IsB T) (h : Sta T f) (s : Same u v) : vw T f u = vw T f v := by
  induction s with
  | nil => rfl
  | @step u v h1 h2 t1 t2 x y k1 k2 k3 k4 s1 s2 i1 i2 =>
    rw [vw_parts bd h k1 k3, vw_parts bd h k2 k4]
    have e1 : vw T f (h1 ++ x :: y :: t1) = vw T f (h2 ++ x :: y :: t1) := by
      by_cases hn : h1 = []
      · rw [hn, s1.nil_iff.1 hn]
      · exact vw_right bd.g h hn (fun e => hn (s1.nil_iff.2 e)) i1 _
    have e2 : vw T f ((h2 ++ [x, y]) ++ t1) = vw T f ((h2 ++ [x, y]) ++ t2) := by
      by_cases hn : t1 = []
      · rw [hn, s2.nil_iff.1 hn]
      · exact vw_left bd.g h hn (fun e => hn (s2.nil_iff.2 e)) i2 _
    rw [e1]
    simpa using e2
theorem vw_made (bd : IsB T) (h : Sta T f) (u : List UInt8) : vw T f (made u) = vw T f u := vw_same bd h (same_made u)
end
end Go.Proofs.Ythllbekoidogpaa
