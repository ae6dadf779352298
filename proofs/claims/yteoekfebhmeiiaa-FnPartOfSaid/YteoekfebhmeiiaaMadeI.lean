
/- The least closed set: what the program's MadeBy answers. -/
import Derived.Test.YteoekfebhmeiiaaMade
import Derived.Test.YteoekfebhmeiiaaTab
namespace Go.Proofs.Yteoekfebhmeiiaa
open Go.RowKit
set_option linter.unusedVariables false


/-- On the way to the least closed set. -/
structure Way (T : List (List Int)) (s m : Nat) : Prop where
  lt : m < 2 ^ T.length
  sub : ∀ x, s.testBit x = true → m.testBit x = true
  least : ∀ q, Clos T q → (∀ x, s.testBit x = true → q.testBit x = true) → ∀ x, m.testBit x = true → q.testBit x = true
theorem Way.refl {T : List (List Int)} {s : Nat} (h : s < 2 ^ T.length) : Way T s s := ⟨h, fun _ hx => hx, fun _ _ hq x hx => hq x hx⟩
theorem Way.grown {T : List (List Int)} {s m m' : Nat} (h : Way T s m) (g : Grown T m m') : Way T s m' := by
  refine ⟨g.lt, fun x hx => g.sub x (h.sub x hx), fun q hq hs x hx => ?_⟩
  rcases g.only x hx with h1 | ⟨a, b, ha, hb, rfl⟩
  · exact h.least q hq hs x h1
  · exact hq a b (h.least q hq hs a ha) (h.least q hq hs b hb)
theorem Way.made {T : List (List Int)} {s m : Nat} (h : Way T s m) (g : Clos T m) : Made T s m := ⟨h.lt, h.sub, g, h.least⟩
theorem Grown.le {T : List (List Int)} {s m : Nat} (g : Grown T s m) : s ≤ m := by
  have : s ||| m = m := by
    apply Nat.eq_of_testBit_eq
    intro i
    rw [Nat.testBit_or]
    cases e : s.testBit i
    · rfl
    · rw [g.sub i e]; rfl
  rw [← this]
  exact Nat.left_le_or
open Classical in
/-- What MadeBy answers. -/
noncomputable def madeT (T : List (List Int)) (s : Int) : Int := if h : (okT T = true ∧ 0 ≤ s ∧ s < 2 ^ T.length) ∧ ∃ m : Nat, Made T s.toNat m then ((Classical.choose h.2 : Nat) : Int) else -1
theorem madeT_of {T : List (List Int)} {s m : Nat} (hk : okT T = true) (h1 : s < 2 ^ T.length) (hm : Made T s m) : madeT T s = (m : Int) := by
  have hs : (s : Int) < 2 ^ T.length := by
    have : (s : Int) < ((2 ^ T.length : Nat) : Int) := by omega
    simpa using this
  have h : (okT T = true ∧ 0 ≤ (s : Int) ∧ (s : Int) < 2 ^ T.length) ∧ ∃ m : Nat, Made T (s : Int).toNat m := ⟨⟨hk, by omega, hs⟩, m, by simpa using hm⟩
  unfold madeT
  rw [dif_pos h]
  have := Classical.choose_spec h.2
  have hm' : Made T (s : Int).toNat m := by simpa using hm
  exact congrArg _ (this.unique hm')
theorem madeT_not {T : List (List Int)} {s : Int} (h : ¬ (okT T = true ∧ 0 ≤ s ∧ s < 2 ^ T.length)) : madeT T s = -1 := by
  unfold madeT
  rw [dif_neg]
  exact fun hx => h hx.1

set_option maxHeartbeats 2000000 in
theorem iMadeBy_any (A : Option Addr) (c lo hi : Nat) (T : List (List Int)) (s : Int) (w : World) (h : Mat w lo hi A T) (hh : hi ≤ w.heap.size) (hS : Small T) :
    Calls Try.prog 21 #[.slice A T.length c, .int .i64 s] w fun e w' => e = .returned (.int .i64 (madeT T s)) ∧ Below w.heap.size w w' := by
  have hlT := hS.len
  cases hk : okT T
  · go_enter Try.func21, Try.ntmps21
    go_wp2_with (go_at_call 28; refine (iTableOk_any _ _ _ _ _ _ h hS).mono ?_; rintro e w' ⟨rfl, rfl⟩; rw [hk])
    go_ret
    exact ⟨ret_int (madeT_not (fun hx => by rw [hk] at hx; cases hx.1)).symm, Below.refl _ _⟩
  · have k := okT_iff.1 hk
    have k9 := k.hi
    have hp9 := pow_le9 k9
    by_cases hs : 0 ≤ s ∧ s < 2 ^ T.length
    · obtain ⟨n, rfl⟩ : ∃ n : Nat, s = n := ⟨s.toNat, by omega⟩
      have hb : (decide (0 ≤ (n : Int)) && decide ((n : Int) < 2 ^ T.length)) = true := by simp [hs.2]
      have hn : n < 2 ^ T.length := by
        have h2 : (n : Int) < ((2 ^ T.length : Nat) : Int) := by simpa using hs.2
        omega
      clear hs
      have b0 := (Below.refl w.heap.size w).alloc (Nat.le_refl _) (.cells #[.slice A T.length c] 47)
      have e0 := heap_alloc_new w (.cells #[.slice A T.length c] 47)
      have MK := hide (fun (W : World) (hW : Below (w.heap.size + 1) (w.alloc (.cells #[.slice A T.length c] 47)) W) =>
        (show W.cell? ⟨w.heap.size, 0, none⟩ = some (.slice A T.length c) from by
          rw [cell_of_row W w.heap.size 0 _ _ _ ((hW.block w.heap.size (by omega)).trans e0)]; rfl))
      have hz0 : (w.alloc (.cells #[.slice A T.length c] 47)).heap.size = w.heap.size + 1 := by simp
      have HZ := hide hz0
      clear e0 hz0
      go_enter Try.func21, Try.ntmps21
      go_wp2_with (first
        | (go_at_call 28; refine (iTableOk_any _ _ _ _ _ _ h hS).mono ?_; rintro e w' ⟨rfl, rfl⟩; rw [hk])
        | (go_at_call 61; refine (setOk_any _ _ _ k9).mono ?_; rintro e w' ⟨rfl, rfl⟩; rw [hb]))
      go_loopg [1] (512 - n) (fun g v wr => ∃ m : Nat, Hid (g = 512 - m) ∧ v = .int .i64 (m : Nat) ∧ Way T n m ∧ Below (w.heap.size + 1) (w.alloc (.cells #[.slice A T.length c] 47)) wr)
      case atStart => exact ⟨n, rfl, rfl, Way.refl hn, Below.refl _ _⟩
      case round =>
        obtain ⟨m, hgk, rfl, hW, hB⟩ := hrel
        have hcell := MK.out _ hB
        have hBw := b0.trans (hB.mono (by omega))
        have hml := hW.lt
        go_wp2_with fail
        refine (withProducts_any _ _ lo hi T _ _ (h.below hBw hh) (Nat.le_trans hh hBw.size) k hW.lt).mono ?_
        rintro e w3 ⟨m', rfl, hG, hP, b3⟩
        have hle := hG.le
        have hml' := hG.lt
        have hB3 := hB.trans (b3.mono (by have := hB.size; rw [HZ.out] at this; exact this))
        by_cases hme : m' = m
        · subst hme
          go_wp2
          go_ret
          exact ⟨ret_int (madeT_of hk hn (hW.made hP)).symm, b0.trans (hB3.mono (by omega))⟩
        · have hne : ((m' : Int) == (m : Int)) = false := beq_eq_false_iff_ne.2 (by omega)
          go_wp2
          go_roundg (512 - m')
          case measure => go_light; have := hgk.out; omega
          case rel => go_light; exact ⟨m', rfl, rfl, hW.grown hG, hB3⟩
    · have hb : (decide (0 ≤ s) && decide (s < 2 ^ T.length)) = false := by
        by_cases h0 : 0 ≤ s
        · have : ¬ s < 2 ^ T.length := fun h1 => hs ⟨h0, h1⟩
          simp [this]
        · simp [h0]
      go_enter Try.func21, Try.ntmps21
      go_wp2_with (first
        | (go_at_call 28; refine (iTableOk_any _ _ _ _ _ _ h hS).mono ?_; rintro e w' ⟨rfl, rfl⟩; rw [hk])
        | (go_at_call 61; refine (setOk_any _ _ _ k9).mono ?_; rintro e w' ⟨rfl, rfl⟩; rw [hb]))
      go_ret
      exact ⟨ret_int (madeT_not (fun hx => hs hx.2)).symm, Below.refl _ _⟩
end Go.Proofs.Yteoekfebhmeiiaa
