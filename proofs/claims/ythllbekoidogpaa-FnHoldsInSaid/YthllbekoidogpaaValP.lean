
/- What values of words do in tables in which brackets do not matter, and in bands: plain facts on what ValueIn answers. -/
import Derived.Test.YthllbekoidogpaaSvalue
namespace Go.Proofs.Ythllbekoidogpaa
set_option linter.unusedVariables false
section
variable {T : List (List Int)} {u v : List UInt8} {a b c : Int}
theorem pf_pr : ∀ (r : List Int) (x : Int) (k : Nat), k ≤ r.length → pf T (x :: r) k = (r.take k).foldl (mul T) x
  | r, x, 0, _ => by simp [pf, el, List.getD]
  | r, x, k + 1, hk => by
    have hk' : k < r.length := hk
    have e : el (x :: r) (k + 1) = r[k] := by simp [el, List.getD, hk']
    rw [List.take_add_one, List.foldl_append]
    simp only [pf]
    rw [pf_pr r x k (by omega), e]
    simp [hk']
theorem okRow_all {xs : List Int} (h : AllTh T xs) : okRow T.length xs = true := by
  refine okRow_iff.2 fun j hj => ?_
  have := h (el xs j) (by simp [el, List.getD, hj])
  exact ⟨this.1, this.2⟩
theorem prodT_pr {xs : List Int} (hk : okT T = true) (h0 : xs ≠ []) (h : AllTh T xs) : prodT T xs = pr T xs := by
  cases xs with
  | nil => exact (h0 rfl).elim
  | cons x r =>
    rw [prodT_ok hk (by simp) (okRow_all h)]
    rw [show (x :: r).length - 1 = r.length by simp, pf_pr r x r.length (Nat.le_refl _), List.take_length]
    rfl
theorem th_of_in {x : Int} (h : inT T x = true) : Th T x := by
  obtain ⟨n, rfl, hn⟩ := inT_iff.1 h
  exact th_nat hn
theorem sta_ltf (ha : inT T a = true) (hb : inT T b = true) (hc : inT T c = true) : Sta T (ltf a b c) := fun y => by
  unfold ltf
  split
  · exact th_of_in ha
  · split
    · exact th_of_in hb
    · exact th_of_in hc
/-- When there is a value. -/
def canV (T : List (List Int)) (u : List UInt8) (a b c : Int) : Bool := okT T && (okW u && (inT T a && (inT T b && inT T c)))
theorem valW_can (h : canV T u a b c = true) : valW T u a b c = vw T (ltf a b c) u ∧ Th T (vw T (ltf a b c) u) := by
  unfold canV at h
  simp only [Bool.and_eq_true] at h
  obtain ⟨hk, hu, ha, hb, hc⟩ := h
  have hS := sta_ltf ha hb hc
  refine ⟨?_, vw_th (okT_iff.1 hk) hS (okW_ne hu)⟩
  rw [valW_ok hu ha hb hc, prodT_pr hk (by simpa using okW_ne hu) (hS.all u)]
  rfl
theorem valW_cannot (h : canV T u a b c = false) : valW T u a b c = -1 := by
  cases e : (okW u && (inT T a && (inT T b && inT T c)))
  · exact valW_not e
  · unfold canV at h
    rw [e, Bool.and_true] at h
    simp only [Bool.and_eq_true] at e
    rw [valW_ok e.1 e.2.1 e.2.2.1 e.2.2.2]
    exact prodT_not (.inl h)
theorem valW_neg : (decide (valW T u a b c < 0)) = !canV T u a b c := by
  cases h : canV T u a b c
  · rw [valW_cannot h]; rfl
  · obtain ⟨e, h0, _⟩ := valW_can h
    rw [e]
    simp; omega
theorem valW_rng (hT : T.length ≤ 1048576) : -1 ≤ valW T u a b c ∧ valW T u a b c ≤ 1048576 := by
  cases h : canV T u a b c
  · rw [valW_cannot h]; omega
  · obtain ⟨e, h0, h1⟩ := valW_can h
    rw [e]; omega
theorem canV_word (h : canV T u a b c = true) (hv : okW v = true) : canV T v a b c = true := by
  unfold canV at h ⊢
  simp only [Bool.and_eq_true] at h ⊢
  exact ⟨h.1, hv, h.2.2⟩
theorem canV_bad (hv : okW v = false) : canV T v a b c = false := by unfold canV; rw [hv]; simp
theorem canV_ok (h : canV T u a b c = true) : okT T = true ∧ okW u = true := by
  unfold canV at h
  simp only [Bool.and_eq_true] at h
  exact ⟨h.1, h.2.1⟩
theorem canV_in (h : canV T u a b c = true) : inT T a = true ∧ inT T b = true ∧ inT T c = true := by
  unfold canV at h
  simp only [Bool.and_eq_true] at h
  exact h.2.2
/-- Words behind words multiply. -/
theorem valW_app (g : grpT T = true) (h1 : canV T u a b c = true) (h2 : canV T v a b c = true) (h3 : canV T (u ++ v) a b c = true) : prodT T [valW T u a b c, valW T v a b c] = valW T (u ++ v) a b c := by
  obtain ⟨e1, t1⟩ := valW_can h1
  obtain ⟨e2, t2⟩ := valW_can h2
  obtain ⟨e3, _⟩ := valW_can h3
  obtain ⟨i1, i2, i3⟩ := canV_in h1
  rw [e1, e2, e3, prodT_pr (canV_ok h1).1 (by simp) (fun x hx => by
    rcases List.mem_cons.1 hx with rfl | hx
    · exact t1
    · rcases List.mem_cons.1 hx with rfl | hx
      · exact t2
      · cases hx)]
  exact (vw_app (grpT_iff.1 g) (sta_ltf i1 i2 i3) (okW_ne (canV_ok h1).2) (okW_ne (canV_ok h2).2)).symm
theorem valW_twice (bd : bandT T = true) (h1 : canV T u a b c = true) (h3 : canV T (u ++ u) a b c = true) : valW T (u ++ u) a b c = valW T u a b c := by
  obtain ⟨i1, i2, i3⟩ := canV_in h1
  rw [(valW_can h1).1, (valW_can h3).1]
  exact vw_twice (bandT_iff.1 bd) (sta_ltf i1 i2 i3) (okW_ne (canV_ok h1).2)
/-- The same words have the same value in bands. -/
theorem valW_same (bd : bandT T = true) (s : Same u v) (hu : okW u = true) (hv : okW v = true) : valW T u a b c = valW T v a b c := by
  cases h1 : canV T u a b c
  · have h2 : canV T v a b c = false := by
      cases e : canV T v a b c with
      | false => rfl
      | true => rw [canV_word e hu] at h1; cases h1
    rw [valW_cannot h1, valW_cannot h2]
  · have h2 := canV_word h1 hv
    obtain ⟨i1, i2, i3⟩ := canV_in h1
    rw [(valW_can h1).1, (valW_can h2).1]
    exact vw_same (bandT_iff.1 bd) (sta_ltf i1 i2 i3) s
end
end Go.Proofs.Ythllbekoidogpaa
