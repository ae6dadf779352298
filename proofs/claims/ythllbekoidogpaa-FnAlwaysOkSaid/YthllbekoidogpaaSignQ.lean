/-  -/
import Derived.Test.YthllbekoidogpaaValP
import Derived.Test.YthllbekoidogpaaBandP
import Derived.Test.YthllbekoidogpaaStrMark
import Derived.Test.YthllbekoidogpaaLevQ
import Derived.Test.YthllbekoidogpaaRectP
import Derived.Test.YthllbekoidogpaaFreeP
namespace Go.Proofs.Ythllbekoidogpaa
set_option linter.unusedVariables false

/-- A sign, or none: 0, + or -. -/
def okS (c : UInt8) : Bool := decide (c = 48) || (decide (c = 43) || decide (c = 45))
def okG (s : List UInt8) : Bool := s.all okS && (decide (1 ≤ s.length) && decide (s.length ≤ 6))
section
variable {s t x : List UInt8} {k i : Nat}
theorem okG_iff : okG s = true ↔ (∀ c, c ∈ s → okS c = true) ∧ 1 ≤ s.length ∧ s.length ≤ 6 := by
  unfold okG
  rw [Bool.and_eq_true, Bool.and_eq_true, List.all_eq_true, decide_eq_true_iff, decide_eq_true_iff]
theorem okS_iff {c : UInt8} : okS c = true ↔ c = 48 ∨ c = 43 ∨ c = 45 := by
  unfold okS
  rw [Bool.or_eq_true, Bool.or_eq_true, decide_eq_true_iff, decide_eq_true_iff, decide_eq_true_iff]
theorem okG_bad (h : k < s.length) (hc : okS (lt s k) = false) : okG s = false := by
  cases e : okG s with
  | false => rfl
  | true => rw [(okG_iff.1 e).1 _ (lt_mem h)] at hc; cases hc
theorem okG_len (h : ∀ j, j < s.length → okS (lt s j) = true) : okG s = (decide (1 ≤ s.length) && decide (s.length ≤ 6)) := by
  unfold okG
  have : s.all okS = true := by
    rw [List.all_eq_true]
    intro c hc
    obtain ⟨j, hj, rfl⟩ := List.getElem_of_mem hc
    have := h j hj
    simpa [lt, hj] using this
  rw [this, Bool.true_and]
theorem okG_ok (h : okG s = true) (hk : k < s.length) : okS (lt s k) = true := (okG_iff.1 h).1 _ (lt_mem hk)
theorem okG_take (h : okG s = true) (h1 : 1 ≤ k) (h2 : k ≤ s.length) : okG (s.take k) = true := by
  obtain ⟨a, b, c⟩ := okG_iff.1 h
  exact okG_iff.2 ⟨fun x hx => a x (List.mem_of_mem_take hx), by rw [List.length_take]; omega, by rw [List.length_take]; omega⟩
theorem ext_lt (hl : s.length = t.length) (h : ∀ i, i < s.length → lt s i = lt t i) : s = t := by
  apply List.ext_getElem hl
  intro i h1 h2
  have := h i h1
  simpa [lt, h1, h2] using this
/-- One sign behind the other. -/
def sg2 (a b : UInt8) : UInt8 := if a = 48 then b else a
def thL (s t : List UInt8) : List UInt8 := List.zipWith sg2 s t
def canT (s t : List UInt8) : Bool := okG s && (okG t && decide (s.length = t.length))
def thW (s t : List UInt8) : List UInt8 := if canT s t = true then thL s t else []
theorem thW_not (h : canT s t = false) : thW s t = [] := by unfold thW; rw [h]; rfl
theorem thW_ok (h : canT s t = true) : thW s t = thL s t := by unfold thW; rw [h]; rfl
theorem canT_iff : canT s t = true ↔ okG s = true ∧ okG t = true ∧ s.length = t.length := by
  unfold canT
  rw [Bool.and_eq_true, Bool.and_eq_true, decide_eq_true_iff]
theorem len_thL (h : s.length = t.length) : (thL s t).length = s.length := by unfold thL; rw [List.length_zipWith]; omega
theorem lt_thL (h : s.length = t.length) (hi : i < s.length) : lt (thL s t) i = sg2 (lt s i) (lt t i) := by
  have h1 : i < t.length := by omega
  have h2 : i < (thL s t).length := by rw [len_thL h]; exact hi
  have e1 : lt (thL s t) i = (thL s t)[i] := by simp [lt, h2]
  have e2 : lt s i = s[i] := by simp [lt, hi]
  have e3 : lt t i = t[i] := by simp [lt, h1]
  rw [e1, e2, e3]
  simp [thL]
theorem take_thL (h : s.length = t.length) (hk : k < s.length) : (thL s t).take k ++ [sg2 (lt s k) (lt t k)] = (thL s t).take (k + 1) := by
  rw [take_lt (by rw [len_thL h]; exact hk), lt_thL h hk]
theorem ok_thL (h1 : okG s = true) (h2 : okG t = true) (h : s.length = t.length) : okG (thL s t) = true := by
  obtain ⟨a, b, c⟩ := okG_iff.1 h1
  refine okG_iff.2 ⟨fun c hc => ?_, by rw [len_thL h]; exact b, by rw [len_thL h]; exact c⟩
  obtain ⟨j, hj, rfl⟩ := List.getElem_of_mem hc
  have hj' : j < s.length := by rw [len_thL h] at hj; exact hj
  have e : (thL s t)[j] = lt (thL s t) j := by simp [lt, hj]
  rw [e, lt_thL h hj']
  unfold sg2
  split
  · exact okG_ok h2 (by omega)
  · exact okG_ok h1 hj'
theorem thL_left (h : s.length = t.length) : thL (thL s t) s = thL s t := by
  have hl := len_thL h
  refine ext_lt (by rw [len_thL hl]) fun i hi => ?_
  rw [len_thL hl, hl] at hi
  rw [lt_thL hl (by rw [hl]; exact hi), lt_thL h hi]
  unfold sg2
  by_cases e : lt s i = 48
  · rw [if_pos e]
    by_cases e2 : lt t i = 48
    · rw [if_pos e2, e, e2]
    · rw [if_neg e2]
  · rw [if_neg e, if_neg e]
theorem thL_right (h : s.length = t.length) : thL (thL s t) t = thL s t := by
  have hl := len_thL h
  have hl2 : (thL s t).length = t.length := by rw [hl, h]
  refine ext_lt (by rw [len_thL hl2]) fun i hi => ?_
  rw [len_thL hl2, hl] at hi
  rw [lt_thL hl2 (by rw [hl]; exact hi), lt_thL h hi]
  unfold sg2
  by_cases e : lt s i = 48
  · rw [if_pos e]
    by_cases e2 : lt t i = 48
    · rw [if_pos e2]
    · rw [if_neg e2]
  · rw [if_neg e, if_neg e]
theorem lt_rep {n : Nat} {c : UInt8} (h : i < n) : lt (List.replicate n c) i = c := by simp [lt, h]
theorem thL_none (s : List UInt8) : thL (List.replicate s.length 48) s = s := by
  have h : (List.replicate s.length (48 : UInt8)).length = s.length := List.length_replicate
  refine ext_lt (by rw [len_thL h, h]) fun i hi => ?_
  rw [len_thL h, h] at hi
  rw [lt_thL h (by rw [h]; exact hi), lt_rep hi]
  rfl
theorem ok_rep {c : UInt8} (hc : okS c = true) (h : okG s = true) : okG (List.replicate s.length c) = true := by
  obtain ⟨_, b, d⟩ := okG_iff.1 h
  refine okG_iff.2 ⟨fun x hx => ?_, by rw [List.length_replicate]; exact b, by rw [List.length_replicate]; exact d⟩
  rw [(List.mem_replicate.1 hx).2]; exact hc
/-- Where there are signs, among the first k places. -/
def spK (s : List UInt8) : Nat → Nat
  | 0 => 0
  | k + 1 => spK s k ||| (if lt s k = 48 then 0 else 2 ^ k)
def spW (s : List UInt8) : Int := if okG s = true then ((spK s s.length : Nat) : Int) else -1
theorem spW_not (h : okG s = false) : spW s = -1 := by unfold spW; rw [h]; rfl
theorem spW_ok (h : okG s = true) : spW s = ((spK s s.length : Nat) : Int) := by unfold spW; rw [h]; rfl
theorem spK_bit (s : List UInt8) (i : Nat) : ∀ k, (spK s k).testBit i = (decide (i < k) && !decide (lt s i = 48))
  | 0 => by simp [spK]
  | k + 1 => by
    rw [spK, Nat.testBit_or, spK_bit s i k]
    by_cases e : i = k
    · subst e
      by_cases h : lt s i = 48
      · simp [h]
      · simp [h]
    · have e2 : decide (i < k + 1) = decide (i < k) := by rw [decide_eq_decide]; omega
      rw [e2]
      by_cases h : lt s k = 48
      · simp [h]
      · rw [if_neg h, Nat.testBit_two_pow_of_ne (Ne.symm e), Bool.or_false]
theorem spK_lt (s : List UInt8) : ∀ k, spK s k < 2 ^ k
  | 0 => by simp [spK]
  | k + 1 => by
    rw [spK]
    have h := spK_lt s k
    have e : 2 ^ (k + 1) = 2 ^ k * 2 := rfl
    refine Nat.or_lt_two_pow (by omega) ?_
    split
    · exact Nat.two_pow_pos _
    · exact Nat.pow_lt_pow_right (by omega) (by omega)
theorem spK_then (h : s.length = t.length) : spK (thL s t) s.length = spK s s.length ||| spK t t.length := by
  apply Nat.eq_of_testBit_eq
  intro i
  rw [Nat.testBit_or, spK_bit, spK_bit, spK_bit, ← h]
  by_cases hi : i < s.length
  · rw [lt_thL h hi]
    unfold sg2
    by_cases e : lt s i = 48
    · simp [hi, e]
    · simp [hi, e]
  · simp [hi]
/-- Signs everywhere. -/
def fuS (s : List UInt8) : Bool := s.all fun c => !decide (c = 48)
theorem fuS_iff : fuS s = true ↔ ∀ i, i < s.length → lt s i ≠ 48 := by
  unfold fuS
  rw [List.all_eq_true]
  constructor
  · intro h i hi
    have := h _ (lt_mem hi)
    simpa using this
  · intro h c hc
    obtain ⟨j, hj, rfl⟩ := List.getElem_of_mem hc
    have := h j hj
    simpa [lt, hj] using this
theorem spK_full : decide (spK s s.length = 2 ^ s.length - 1) = fuS s := by
  rw [Bool.eq_iff_iff, decide_eq_true_iff, fuS_iff]
  constructor
  · intro h i hi e
    have := spK_bit s i s.length
    rw [h, Nat.testBit_two_pow_sub_one] at this
    simp [hi, e] at this
  · intro h
    apply Nat.eq_of_testBit_eq
    intro i
    rw [spK_bit, Nat.testBit_two_pow_sub_one]
    by_cases hi : i < s.length
    · simp [hi, h i hi]
    · simp [hi]
theorem thL_full {c : UInt8} (hc : c ≠ 48) : decide (thL s (List.replicate s.length c) = s) = fuS s := by
  have h : s.length = (List.replicate s.length c).length := List.length_replicate.symm
  rw [Bool.eq_iff_iff, decide_eq_true_iff, fuS_iff]
  constructor
  · intro e i hi e2
    have := lt_thL h hi
    rw [e, lt_rep hi, e2] at this
    exact hc this.symm
  · intro hf
    refine ext_lt (len_thL h) fun i hi => ?_
    rw [len_thL h] at hi
    rw [lt_thL h hi]
    unfold sg2
    rw [if_neg (hf i hi)]
end
/-- The letters of a word, each where it comes first. -/
def fsK (u : List UInt8) : Nat → List UInt8
  | 0 => []
  | k + 1 => if lt u k ∈ u.take k then fsK u k else fsK u k ++ [lt u k]
def fsW (u : List UInt8) : List UInt8 := if okW u = true then fsK u u.length else []
section
variable {u : List UInt8} {k : Nat} {y : UInt8}
theorem fsW_not (h : okW u = false) : fsW u = [] := by unfold fsW; rw [h]; rfl
theorem fsW_ok (h : okW u = true) : fsW u = fsK u u.length := by unfold fsW; rw [h]; rfl
theorem fsK_mem : ∀ {k}, k ≤ u.length → (y ∈ fsK u k ↔ y ∈ u.take k)
  | 0, _ => by simp [fsK]
  | k + 1, h => by
    have ih := fsK_mem (k := k) (by omega)
    rw [fsK, take_lt (by omega : k < u.length), List.mem_append, List.mem_singleton]
    split
    · next hm =>
      rw [ih]
      exact ⟨.inl, fun h => h.elim id fun e => e ▸ hm⟩
    · rw [List.mem_append, List.mem_singleton, ih]
theorem fsK_nodup : ∀ {k}, k ≤ u.length → (fsK u k).Nodup
  | 0, _ => by simp [fsK]
  | k + 1, h => by
    have ih := fsK_nodup (k := k) (by omega)
    rw [fsK]
    split
    · exact ih
    · next hm =>
      rw [List.nodup_append]
      refine ⟨ih, by simp, fun a ha b hb e => ?_⟩
      rw [List.mem_singleton] at hb
      rw [e, hb, fsK_mem (by omega)] at ha
      exact hm ha
theorem fsK_len : ∀ {k}, k ≤ u.length → (fsK u k).length ≤ k
  | 0, _ => by simp [fsK]
  | k + 1, h => by
    have ih := fsK_len (k := k) (by omega)
    rw [fsK]
    split
    · omega
    · rw [List.length_append]; simp; omega
theorem fsK_pos : ∀ {k}, 1 ≤ k → k ≤ u.length → 1 ≤ (fsK u k).length
  | 0, h, _ => by omega
  | k + 1, _, h => by
    rw [fsK]
    split
    · next hm =>
      by_cases e : k = 0
      · subst e; simp at hm
      · exact fsK_pos (by omega) (by omega)
    · rw [List.length_append]; simp
theorem nodup3 : ∀ {v : List UInt8}, v.Nodup → (∀ c, c ∈ v → okC c = true) → v.length ≤ 3
  | [], _, _ => by simp
  | [_], _, _ => by simp
  | [_, _], _, _ => by simp
  | [_, _, _], _, _ => by simp
  | a :: b :: c :: d :: r, hn, hc => by
    have ha := hc a (by simp)
    have hb := hc b (by simp)
    have hcc := hc c (by simp)
    have hd := hc d (by simp)
    unfold okC at ha hb hcc hd
    rw [Bool.and_eq_true, decide_eq_true_iff, decide_eq_true_iff] at ha hb hcc hd
    simp only [List.nodup_cons, List.mem_cons, not_or] at hn
    obtain ⟨⟨h1, h2, h3, _⟩, ⟨h4, h5, _⟩, ⟨h6, _⟩, _⟩ := hn
    have n1 : a.toNat ≠ b.toNat := fun e => h1 (UInt8.toNat_inj.1 e)
    have n2 : a.toNat ≠ c.toNat := fun e => h2 (UInt8.toNat_inj.1 e)
    have n3 : a.toNat ≠ d.toNat := fun e => h3 (UInt8.toNat_inj.1 e)
    have n4 : b.toNat ≠ c.toNat := fun e => h4 (UInt8.toNat_inj.1 e)
    have n5 : b.toNat ≠ d.toNat := fun e => h5 (UInt8.toNat_inj.1 e)
    have n6 : c.toNat ≠ d.toNat := fun e => h6 (UInt8.toNat_inj.1 e)
    omega
theorem fs_mem (h : okW u = true) : y ∈ fsW u ↔ y ∈ u := by rw [fsW_ok h, fsK_mem (Nat.le_refl _), List.take_length]
theorem fs_ok (h : okW u = true) : okW (fsW u) = true := by
  obtain ⟨a, b, c⟩ := okW_iff.1 h
  refine okW_iff.2 ⟨fun y hy => a y ((fs_mem h).1 hy), ?_, ?_⟩
  · rw [fsW_ok h]; exact fsK_pos b (Nat.le_refl _)
  · rw [fsW_ok h]; exact Nat.le_trans (fsK_len (Nat.le_refl _)) c
theorem fs_short (h : okW u = true) : (fsW u).length ≤ 3 := by
  refine nodup3 ?_ fun c hc => (okW_iff.1 (fs_ok h)).1 c hc
  rw [fsW_ok h]
  exact fsK_nodup (Nat.le_refl _)
/-- What is told once is its own firsts. -/
theorem fsK_self (hn : u.Nodup) : ∀ {k}, k ≤ u.length → fsK u k = u.take k
  | 0, _ => by simp [fsK]
  | k + 1, h => by
    have hk : k < u.length := h
    have ih := fsK_self hn (k := k) (by omega)
    have hm : lt u k ∉ u.take k := by
      have e := take_lt hk
      have h2 : (u.take (k + 1)).Nodup := hn.sublist (List.take_sublist _ _)
      rw [e, List.nodup_append] at h2
      intro hm
      exact h2.2.2 _ hm _ (by simp) rfl
    rw [fsK, if_neg hm, ih, take_lt hk]
theorem fs_fs (h : okW u = true) : fsW (fsW u) = fsW u := by
  have hn : (fsW u).Nodup := by rw [fsW_ok h]; exact fsK_nodup (Nat.le_refl _)
  rw [fsW_ok (fs_ok h), fsK_self hn (Nat.le_refl _), List.take_length]
end
end Go.Proofs.Ythllbekoidogpaa

namespace Go.Proofs.Ythllbekoidogpaa
set_option linter.unusedVariables false

/-- The firsts, letter by letter. -/
def fsS (s : List UInt8) (c : UInt8) : List UInt8 := if c ∈ s then s else s ++ [c]
def frs (u : List UInt8) : List UInt8 := u.foldl fsS []
section
variable {u v w h : List UInt8} {x y : UInt8}
theorem frs_app (u w : List UInt8) : frs (u ++ w) = w.foldl fsS (frs u) := by unfold frs; rw [List.foldl_append]
theorem fsS_mem (s : List UInt8) : y ∈ fsS s x ↔ y ∈ s ∨ y = x := by
  unfold fsS
  split
  · next h => exact ⟨.inl, fun e => e.elim id fun e => e ▸ h⟩
  · rw [List.mem_append, List.mem_singleton]
theorem foldS_mem : ∀ (w s : List UInt8), y ∈ w.foldl fsS s ↔ y ∈ s ∨ y ∈ w
  | [], s => by simp
  | a :: w, s => by
    rw [List.foldl_cons, foldS_mem w, fsS_mem, List.mem_cons, or_assoc]
theorem mem_frs (u : List UInt8) : y ∈ frs u ↔ y ∈ u := by
  unfold frs
  rw [foldS_mem]
  simp
theorem foldS_old : ∀ (w s : List UInt8), (∀ y, y ∈ w → y ∈ s) → w.foldl fsS s = s
  | [], s, _ => rfl
  | a :: w, s, h => by
    rw [List.foldl_cons]
    have : fsS s a = s := by unfold fsS; rw [if_pos (h a (by simp))]
    rw [this]
    exact foldS_old w s fun y hy => h y (by simp [hy])
theorem frs_hd (k : HdIs u h x) : frs u = frs h ++ [x] := by
  have hx := k.new
  obtain ⟨r, rfl, hr⟩ := k.ex
  have e1 : fsS (frs h) x = frs h ++ [x] := by unfold fsS; rw [if_neg (by rw [mem_frs]; exact hx)]
  rw [frs_app, List.foldl_cons, e1]
  refine foldS_old r _ fun y hy => ?_
  rw [List.mem_append, List.mem_singleton, mem_frs]
  exact hr y hy
/-- Words that are the same have the same firsts. -/
theorem frs_same (s : Same u v) : frs u = frs v := by
  induction s with
  | nil => rfl
  | step k1 k2 _ _ _ _ ih1 _ => rw [frs_hd k1, frs_hd k2, ih1]
theorem fsK_fs : ∀ {k}, k ≤ u.length → fsK u k = frs (u.take k)
  | 0, _ => by simp [fsK, frs]
  | k + 1, hk => by
    have ih := fsK_fs (k := k) (by omega)
    rw [fsK, take_lt (by omega : k < u.length), frs_app, List.foldl_cons, List.foldl_nil, ih]
    unfold fsS
    simp only [mem_frs]
theorem fsW_fs (hw : okW u = true) : fsW u = frs u := by rw [fsW_ok hw, fsK_fs (Nat.le_refl _), List.take_length]
theorem fsW_made (hw : okW u = true) : fsW (made u) = fsW u := by rw [fsW_fs (okW_made hw), fsW_fs hw, frs_same (same_made u)]
end
section
variable {T : List (List Int)} {f : UInt8 → Int} {u : List UInt8} {y : UInt8}
/-- What came already may be left out. -/
theorem vw_again (hl : leftT T = true) (hS : Sta T f) (hy : y ∈ u) : mul T (vw T f u) (f y) = vw T f u := by
  obtain ⟨bd, hlf⟩ := leftT_iff.1 hl
  obtain ⟨p, q, rfl⟩ := List.append_of_mem hy
  have hY := hS y
  have hone : vw T f [y] = f y := rfl
  have hW : mul T (vw T f (y :: q)) (f y) = vw T f (y :: q) := by
    by_cases hq : q = []
    · subst hq
      rw [hone]
      exact bd.ss hY
    · have e : vw T f (y :: q) = mul T (f y) (vw T f q) := vw_app bd.g hS (u := [y]) (by simp) hq
      have hQ := vw_th bd.g.tab hS hq
      rw [e]
      exact hlf _ _ hY.1 hY.2 hQ.1 hQ.2
  by_cases hp : p = []
  · subst hp; exact hW
  · have hP := vw_th bd.g.tab hS hp
    have hQ := vw_th bd.g.tab hS (u := y :: q) (by simp)
    rw [vw_app bd.g hS hp (by simp)]
    have ha := bd.g.grp _ _ _ hP.1 hP.2 hQ.1 hQ.2 hY.1 hY.2
    rw [← ha, hW]
theorem vw_firsts (hl : leftT T = true) (hS : Sta T f) : ∀ {k}, 1 ≤ k → k ≤ u.length → vw T f (fsK u k) = vw T f (u.take k)
  | 0, h, _ => by omega
  | k + 1, _, h => by
    obtain ⟨bd, _⟩ := leftT_iff.1 hl
    have hk : k < u.length := h
    rw [fsK, take_lt hk]
    by_cases k0 : k = 0
    · subst k0; simp [fsK]
    · have ih := vw_firsts hl hS (k := k) (by omega) (by omega)
      have hne : u.take k ≠ [] := fun e => by have := congrArg List.length e; rw [List.length_take, List.length_nil] at this; omega
      have hnf : fsK u k ≠ [] := List.length_pos_iff.1 (fsK_pos (by omega) (by omega))
      have e : vw T f (u.take k ++ [lt u k]) = mul T (vw T f (u.take k)) (f (lt u k)) := vw_app bd.g hS hne (by simp)
      split
      · next hm => rw [ih, e, vw_again hl hS hm]
      · have e2 : vw T f (fsK u k ++ [lt u k]) = mul T (vw T f (fsK u k)) (f (lt u k)) := vw_app bd.g hS hnf (by simp)
        rw [e2, ih, e]
/-- First places tell words. -/
theorem valW_firsts {a b c : Int} (hl : leftT T = true) (hw : okW u = true) (ha : inT T a = true) (hb : inT T b = true) (hc : inT T c = true) : valW T u a b c = valW T (fsW u) a b c := by
  have hk : okT T = true := okT_iff.2 (leftT_iff.1 hl).1.g.tab
  have h1 : canV T u a b c = true := by unfold canV; rw [hk, hw, ha, hb, hc]; rfl
  have h2 : canV T (fsW u) a b c = true := canV_word h1 (fs_ok hw)
  rw [(valW_can h1).1, (valW_can h2).1, fsW_ok hw, vw_firsts hl (sta_ltf ha hb hc) (okW_iff.1 hw).2.1 (Nat.le_refl _), List.take_length]
end
/-- The product of two rows of two signs, by their numbers. -/
def sgE (k j : Nat) : Nat := 3 * (if k / 3 = 0 then j / 3 else k / 3) + (if k % 3 = 0 then j % 3 else k % 3)
def sgR (k j : Nat) : List Int := (List.range j).map fun y => ((sgE k y : Nat) : Int)
def sgM (n k : Nat) : List (List Int) := (List.range k).map fun x => sgR x n
def sgN (m : Int) : Nat := if m = 1 then 3 else 9
def sgT (m : Int) : List (List Int) := if (decide (1 ≤ m) && decide (m ≤ 2)) = true then sgM (sgN m) (sgN m) else []
theorem sgT_not {m : Int} (h : (decide (1 ≤ m) && decide (m ≤ 2)) = false) : sgT m = [] := by unfold sgT; rw [h]; rfl
theorem sgR_succ (k j : Nat) : sgR k j ++ [((sgE k j : Nat) : Int)] = sgR k (j + 1) := by simp [sgR, List.range_succ]
theorem sgM_succ (n k : Nat) : sgM n k ++ [sgR k n] = sgM n (k + 1) := by simp [sgM, List.range_succ]
theorem len_sgR (k j : Nat) : (sgR k j).length = j := by simp [sgR]
theorem len_sgM (n k : Nat) : (sgM n k).length = k := by simp [sgM]
theorem rw_sgM {n k i : Nat} (h : i < k) : rw_ (sgM n k) i = sgR i n := by simp [sgM, rw_, List.getD, h]
theorem el_sgR {k j i : Nat} (h : i < j) : el (sgR k j) i = ((sgE k i : Nat) : Int) := by simp [sgR, el, List.getD, h]
theorem small_sgT (m : Int) : Small (sgT m) := by
  unfold sgT
  split
  · have hn : sgN m ≤ 9 := by unfold sgN; split <;> omega
    exact ⟨by rw [len_sgM]; omega, fun i hi => by rw [len_sgM] at hi; rw [rw_sgM hi, len_sgR]; omega⟩
  · exact ⟨by simp, fun i hi => by simp at hi⟩
theorem sg1_tab : IsT (sgT 1) := okT_iff.1 (by decide +kernel)
theorem sg2_tab : IsT (sgT 2) := okT_iff.1 (by decide +kernel)
theorem sg1_left : leftT (sgT 1) = true := by
  refine leftT_iff.2 ⟨⟨grpT_iff.1 (grpT_all sg1_tab fun x hx y hy z hz => ?_), fun x x0 x1 => ?_⟩, fun x y x0 x1 y0 y1 => ?_⟩
  · have h : ∀ x y z : Fin 3, assoc (sgT 1) (x : Nat) (y : Nat) (z : Nat) = true := by decide +kernel
    exact h ⟨x, hx⟩ ⟨y, hy⟩ ⟨z, hz⟩
  · have h : ∀ x : Fin 3, mul (sgT 1) ((x : Nat) : Int) ((x : Nat) : Int) = ((x : Nat) : Int) := by decide +kernel
    obtain ⟨n, rfl⟩ : ∃ n : Nat, x = n := ⟨x.toNat, by omega⟩
    exact h ⟨n, by have : (sgT 1).length = 3 := rfl; omega⟩
  · have h : ∀ x y : Fin 3, mul (sgT 1) (mul (sgT 1) ((x : Nat) : Int) ((y : Nat) : Int)) ((x : Nat) : Int) = mul (sgT 1) ((x : Nat) : Int) ((y : Nat) : Int) := by decide +kernel
    have hl : (sgT 1).length = 3 := rfl
    obtain ⟨n, rfl⟩ : ∃ n : Nat, x = n := ⟨x.toNat, by omega⟩
    obtain ⟨m, rfl⟩ : ∃ n : Nat, y = n := ⟨y.toNat, by omega⟩
    exact h ⟨n, by omega⟩ ⟨m, by omega⟩
theorem sg2_left : leftT (sgT 2) = true := by
  refine leftT_iff.2 ⟨⟨grpT_iff.1 (grpT_all sg2_tab fun x hx y hy z hz => ?_), fun x x0 x1 => ?_⟩, fun x y x0 x1 y0 y1 => ?_⟩
  · have h : ∀ x y z : Fin 9, assoc (sgT 2) (x : Nat) (y : Nat) (z : Nat) = true := by decide +kernel
    exact h ⟨x, hx⟩ ⟨y, hy⟩ ⟨z, hz⟩
  · have h : ∀ x : Fin 9, mul (sgT 2) ((x : Nat) : Int) ((x : Nat) : Int) = ((x : Nat) : Int) := by decide +kernel
    obtain ⟨n, rfl⟩ : ∃ n : Nat, x = n := ⟨x.toNat, by omega⟩
    exact h ⟨n, by have : (sgT 2).length = 9 := rfl; omega⟩
  · have h : ∀ x y : Fin 9, mul (sgT 2) (mul (sgT 2) ((x : Nat) : Int) ((y : Nat) : Int)) ((x : Nat) : Int) = mul (sgT 2) ((x : Nat) : Int) ((y : Nat) : Int) := by decide +kernel
    have hl : (sgT 2).length = 9 := rfl
    obtain ⟨n, rfl⟩ : ∃ n : Nat, x = n := ⟨x.toNat, by omega⟩
    obtain ⟨m, rfl⟩ : ∃ n : Nat, y = n := ⟨y.toNat, by omega⟩
    exact h ⟨n, by omega⟩ ⟨m, by omega⟩
theorem left_band9 {T : List (List Int)} (h : leftT T = true) : bandT T = true := bandT_iff.2 (leftT_iff.1 h).1
theorem sg1_rect : rectT (sgT 1) = false := by
  cases e : rectT (sgT 1) with
  | false => rfl
  | true => exact absurd ((rectT_iff.1 e).2 0 1 (by decide) (by decide) (by decide) (by decide)) (by decide)
theorem sg2_rect : rectT (sgT 2) = false := by
  cases e : rectT (sgT 2) with
  | false => rfl
  | true => exact absurd ((rectT_iff.1 e).2 0 1 (by decide) (by decide) (by decide) (by decide)) (by decide)
theorem sg1_count : countT (sgT 1) = 2 := by
  unfold countT
  rw [if_pos (left_band9 sg1_left)]
  have h : nL (sgT 1) = 2 := by decide +kernel
  rw [h]; rfl
theorem sg2_count : countT (sgT 2) = 4 := by
  unfold countT
  rw [if_pos (left_band9 sg2_left)]
  have h : nL (sgT 2) = 4 := by decide +kernel
  rw [h]; rfl
theorem sg1_one : oneT (sgT 1) = 0 := by decide +kernel
theorem sg2_one : oneT (sgT 2) = 0 := by decide +kernel
/-- Rows of different letters. -/
def lx_ (i : Nat) : UInt8 := lt [97, 98, 99] i
def afC (m a b : Nat) : Nat → List (List UInt8)
  | 0 => []
  | c + 1 => afC m a b c ++ (if c ≠ a ∧ c ≠ b then [[lx_ a, lx_ b, lx_ c]] else [])
def afB (m a : Nat) : Nat → List (List UInt8)
  | 0 => [[lx_ a]]
  | b + 1 => afB m a b ++ (if b = a then [] else [[lx_ a, lx_ b]] ++ afC m a b m)
def afA (m : Nat) : Nat → List (List UInt8)
  | 0 => []
  | a + 1 => afA m a ++ afB m a m
def afW (m : Int) : List (List UInt8) := if (decide (1 ≤ m) && decide (m ≤ 3)) = true then afA m.toNat m.toNat else []
theorem afW_not {m : Int} (h : (decide (1 ≤ m) && decide (m ≤ 3)) = false) : afW m = [] := by unfold afW; rw [h]; rfl
theorem afW_all : ∀ m : Fin 4, 1 ≤ (m : Nat) → ((afA m m).all (fun u => okW u && decide (fsW u = u)) && (decide ((afA m m).length = el [0, 1, 4, 15] m) && (List.range ((afA m m).length - 1)).all fun k => lsB (sl (afA m m) k) (sl (afA m m) (k + 1)))) = true := by decide +kernel
end Go.Proofs.Ythllbekoidogpaa
