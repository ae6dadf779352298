
/- A rule asked of all things, by the closure that holds it. -/
import Derived.Test.YtaceakfbkhkopaaRules
import Derived.Test.YtaceakfbkhkopaaRectP
namespace Go.Proofs.Ytaceakfbkhkopaa
open Go.RowKit
set_option linter.unusedVariables false


/-- Whether a number was found. -/
def okI (x : Int) : Bool := decide (0 ≤ x)
theorem okI_nat (k : Nat) : okI (k : Int) = true := by simp [okI]
theorem okI_not : okI (-1) = false := by decide

set_option maxHeartbeats 2000000 in
theorem rule1_any (A : Option Addr) (c lo hi : Nat) (T : List (List Int)) (a b : Nat) (w : World) (h : Mat w lo hi A T) (hh : hi ≤ w.heap.size) (k : IsT T) (ha : a < T.length) (hb : b < T.length) :
    Calls Try.prog 80 #[.agg #[.slice A T.length c], .int .i64 a, .int .i64 b] w fun e w' => e = .returned (.bool (rOwn T a b)) ∧ Below w.heap.size w w' := by
  have b0 := (Below.refl w.heap.size w).alloc (Nat.le_refl _) (.cells #[.slice A T.length c] 42)
  have z0 : hi ≤ (w.alloc (.cells #[.slice A T.length c] 42)).heap.size := by simp; omega
  obtain ⟨m0, m1⟩ := k.mul (x := (a : Nat)) (y := (b : Nat)) (by omega) (by omega) (by omega) (by omega)
  go_enter Try.func80, Try.ntmps80
  go_wp2_with (go_at_call 53; refine (product_any _ _ lo hi T (a : Int) (a : Int) _ (h.below b0 hh) z0 k (by omega) (by omega) (by omega) (by omega)).mono ?_; rintro e w1 ⟨rfl, b1⟩)
  go_ret
  exact ⟨rfl, b0.trans (b1.mono (by simp))⟩

set_option maxHeartbeats 2000000 in
theorem rule2_any (A : Option Addr) (c lo hi : Nat) (T : List (List Int)) (a b : Nat) (w : World) (h : Mat w lo hi A T) (hh : hi ≤ w.heap.size) (k : IsT T) (ha : a < T.length) (hb : b < T.length) :
    Calls Try.prog 81 #[.agg #[.slice A T.length c], .int .i64 a, .int .i64 b] w fun e w' => e = .returned (.bool (rEither T a b)) ∧ Below w.heap.size w w' := by
  have b0 := (Below.refl w.heap.size w).alloc (Nat.le_refl _) (.cells #[.slice A T.length c] 42)
  have z0 : hi ≤ (w.alloc (.cells #[.slice A T.length c] 42)).heap.size := by simp; omega
  obtain ⟨m0, m1⟩ := k.mul (x := (a : Nat)) (y := (b : Nat)) (by omega) (by omega) (by omega) (by omega)
  have hG : GS w lo hi A T (w.alloc (.cells #[.slice A T.length c] 42)) := ⟨h.below b0 hh, hh, by simp, b0⟩
  have a0 : (0 : Int) ≤ (a : Int) := by omega
  have a1 : (a : Int) < (T.length : Int) := by omega
  have c0 : (0 : Int) ≤ (b : Int) := by omega
  have c1 : (b : Int) < (T.length : Int) := by omega
  go_enter Try.func81, Try.ntmps81
  go_wp2_with fail
  go_region_held3 (fun w' => w'.cell? ⟨w.heap.size, 0, none⟩ = some (.slice A T.length c) ∧ GS w lo hi A T w')
    (first
      | exact ⟨by simp, hG.drew⟩
      | (go_split_ands
         exact ⟨GS.cell (by assumption) (by assumption) (by assumption), GS.step (by assumption) (by assumption)⟩))
    (first
      | (go_at_call 53
         refine (product_any _ _ lo hi T _ _ _ ?_ ?_ k ?_ ?_ ?_ ?_).mono ?_
         · go_split_ands
           exact GS.mat (by assumption)
         · go_split_ands
           exact GS.top (by assumption)
         · assumption
         · assumption
         · assumption
         · assumption
         rintro e w1 ⟨rfl, hb⟩))
  go_wp2
  go_ret
  go_split_ands
  exact ⟨rfl, GS.below (by assumption)⟩

set_option maxHeartbeats 2000000 in
theorem rule3_any (A : Option Addr) (c lo hi : Nat) (T : List (List Int)) (a b : Nat) (w : World) (h : Mat w lo hi A T) (hh : hi ≤ w.heap.size) (k : IsT T) (ha : a < T.length) (hb : b < T.length) :
    Calls Try.prog 82 #[.agg #[.slice A T.length c], .int .i64 a, .int .i64 b] w fun e w' => e = .returned (.bool (rFirst T a b)) ∧ Below w.heap.size w w' := by
  have b0 := (Below.refl w.heap.size w).alloc (Nat.le_refl _) (.cells #[.slice A T.length c] 42)
  have z0 : hi ≤ (w.alloc (.cells #[.slice A T.length c] 42)).heap.size := by simp; omega
  obtain ⟨m0, m1⟩ := k.mul (x := (a : Nat)) (y := (b : Nat)) (by omega) (by omega) (by omega) (by omega)
  go_enter Try.func82, Try.ntmps82
  go_wp2_with (go_at_call 53; refine (product_any _ _ lo hi T (a : Int) (b : Int) _ (h.below b0 hh) z0 k (by omega) (by omega) (by omega) (by omega)).mono ?_; rintro e w1 ⟨rfl, b1⟩)
  go_ret
  exact ⟨rfl, b0.trans (b1.mono (by simp))⟩

set_option maxHeartbeats 2000000 in
theorem rule4_any (A : Option Addr) (c lo hi : Nat) (T : List (List Int)) (a b : Nat) (w : World) (h : Mat w lo hi A T) (hh : hi ≤ w.heap.size) (k : IsT T) (ha : a < T.length) (hb : b < T.length) :
    Calls Try.prog 83 #[.agg #[.slice A T.length c], .int .i64 a, .int .i64 b] w fun e w' => e = .returned (.bool (rLeft T a b)) ∧ Below w.heap.size w w' := by
  have b0 := (Below.refl w.heap.size w).alloc (Nat.le_refl _) (.cells #[.slice A T.length c] 42)
  have z0 : hi ≤ (w.alloc (.cells #[.slice A T.length c] 42)).heap.size := by simp; omega
  obtain ⟨m0, m1⟩ := k.mul (x := (a : Nat)) (y := (b : Nat)) (by omega) (by omega) (by omega) (by omega)
  go_enter Try.func83, Try.ntmps83
  go_wp2_with fail
  refine (product_any _ _ lo hi T (a : Int) (b : Int) _ (h.below b0 hh) z0 k (by omega) (by omega) (by omega) (by omega)).mono ?_
  rintro e w1 ⟨rfl, b1⟩
  have bb1 := b0.trans (b1.mono (by simp))
  have z1 := bb1.size
  have hcell : w1.cell? ⟨w.heap.size, 0, none⟩ = some (.slice A T.length c) := (b1.cell (p := ⟨w.heap.size, 0, none⟩) (by simp)).trans (by simp)
  go_wp2_with fail
  refine (product_any _ _ lo hi T _ (a : Int) _ (h.below bb1 hh) (by omega) k m0 m1 (by omega) (by omega)).mono ?_
  rintro e w2 ⟨rfl, b2⟩
  go_wp2
  go_ret
  exact ⟨rfl, bb1.trans (b2.mono z1)⟩

set_option maxHeartbeats 2000000 in
theorem rule5_any (A : Option Addr) (c lo hi : Nat) (T : List (List Int)) (a b : Nat) (w : World) (h : Mat w lo hi A T) (hh : hi ≤ w.heap.size) (k : IsT T) (ha : a < T.length) (hb : b < T.length) :
    Calls Try.prog 84 #[.agg #[.slice A T.length c], .int .i64 a, .int .i64 b] w fun e w' => e = .returned (.bool (rRect T a b)) ∧ Below w.heap.size w w' := by
  have b0 := (Below.refl w.heap.size w).alloc (Nat.le_refl _) (.cells #[.slice A T.length c] 42)
  have z0 : hi ≤ (w.alloc (.cells #[.slice A T.length c] 42)).heap.size := by simp; omega
  obtain ⟨m0, m1⟩ := k.mul (x := (a : Nat)) (y := (b : Nat)) (by omega) (by omega) (by omega) (by omega)
  have hG : GS w lo hi A T (w.alloc (.cells #[.slice A T.length c] 42)) := ⟨h.below b0 hh, hh, by simp, b0⟩
  have a0 : (0 : Int) ≤ (a : Int) := by omega
  have a1 : (a : Int) < (T.length : Int) := by omega
  have c0 : (0 : Int) ≤ (b : Int) := by omega
  have c1 : (b : Int) < (T.length : Int) := by omega
  go_enter Try.func84, Try.ntmps84
  go_wp2_with fail
  go_region_held3 (fun w' => w'.cell? ⟨w.heap.size, 0, none⟩ = some (.slice A T.length c) ∧ GS w lo hi A T w')
    (first
      | exact ⟨by simp, hG.drew⟩
      | (go_split_ands
         exact ⟨GS.cell (by assumption) (by assumption) (by assumption), GS.step (by assumption) (by assumption)⟩))
    (first
      | (go_at_call 53
         refine (product_any _ _ lo hi T _ _ _ ?_ ?_ k ?_ ?_ ?_ ?_).mono ?_
         · go_split_ands
           exact GS.mat (by assumption)
         · go_split_ands
           exact GS.top (by assumption)
         · assumption
         · assumption
         · assumption
         · assumption
         rintro e w1 ⟨rfl, hb⟩))
  go_wp2
  go_ret
  go_split_ands
  exact ⟨rfl, GS.below (by assumption)⟩

set_option maxHeartbeats 2000000 in
theorem rule6_any (A : Option Addr) (c lo hi : Nat) (T : List (List Int)) (a b : Nat) (w : World) (h : Mat w lo hi A T) (hh : hi ≤ w.heap.size) (k : IsT T) (ha : a < T.length) (hb : b < T.length) :
    Calls Try.prog 85 #[.agg #[.slice A T.length c], .int .i64 a, .int .i64 b] w fun e w' => e = .returned (.bool (rZero T a b)) ∧ Below w.heap.size w w' := by
  have b0 := (Below.refl w.heap.size w).alloc (Nat.le_refl _) (.cells #[.slice A T.length c] 42)
  have z0 : hi ≤ (w.alloc (.cells #[.slice A T.length c] 42)).heap.size := by simp; omega
  obtain ⟨m0, m1⟩ := k.mul (x := (a : Nat)) (y := (b : Nat)) (by omega) (by omega) (by omega) (by omega)
  cases e1 : (mul T (a : Int) (b : Int) == (a : Int))
  · go_enter Try.func85, Try.ntmps85
    go_wp2_with fail
    refine (product_any _ _ lo hi T (a : Int) (b : Int) _ (h.below b0 hh) z0 k (by omega) (by omega) (by omega) (by omega)).mono ?_
    rintro e w1 ⟨rfl, b1⟩
    have bb1 := b0.trans (b1.mono (by simp))
    go_wp2
    go_ret
    exact ⟨ret_bool (by unfold rZero; rw [e1]; rfl), bb1⟩
  · go_enter Try.func85, Try.ntmps85
    go_wp2_with fail
    refine (product_any _ _ lo hi T (a : Int) (b : Int) _ (h.below b0 hh) z0 k (by omega) (by omega) (by omega) (by omega)).mono ?_
    rintro e w1 ⟨rfl, b1⟩
    have bb1 := b0.trans (b1.mono (by simp))
    have z1 := bb1.size
    have hcell : w1.cell? ⟨w.heap.size, 0, none⟩ = some (.slice A T.length c) := (b1.cell (p := ⟨w.heap.size, 0, none⟩) (by simp)).trans (by simp)
    go_wp2_with fail
    refine (product_any _ _ lo hi T (b : Int) (a : Int) _ (h.below bb1 hh) (by omega) k (by omega) (by omega) (by omega) (by omega)).mono ?_
    rintro e w2 ⟨rfl, b2⟩
    go_wp2
    go_ret
    exact ⟨ret_bool (by unfold rZero; rw [e1]; rfl), bb1.trans (b2.mono z1)⟩

set_option maxHeartbeats 2000000 in
theorem rule7_any (A : Option Addr) (c lo hi : Nat) (T : List (List Int)) (a b : Nat) (w : World) (h : Mat w lo hi A T) (hh : hi ≤ w.heap.size) (k : IsT T) (ha : a < T.length) (hb : b < T.length) :
    Calls Try.prog 86 #[.agg #[.slice A T.length c], .int .i64 a, .int .i64 b] w fun e w' => e = .returned (.bool (rOne T a b)) ∧ Below w.heap.size w w' := by
  have b0 := (Below.refl w.heap.size w).alloc (Nat.le_refl _) (.cells #[.slice A T.length c] 42)
  have z0 : hi ≤ (w.alloc (.cells #[.slice A T.length c] 42)).heap.size := by simp; omega
  obtain ⟨m0, m1⟩ := k.mul (x := (a : Nat)) (y := (b : Nat)) (by omega) (by omega) (by omega) (by omega)
  cases e1 : (mul T (a : Int) (b : Int) == (b : Int))
  · go_enter Try.func86, Try.ntmps86
    go_wp2_with fail
    refine (product_any _ _ lo hi T (a : Int) (b : Int) _ (h.below b0 hh) z0 k (by omega) (by omega) (by omega) (by omega)).mono ?_
    rintro e w1 ⟨rfl, b1⟩
    have bb1 := b0.trans (b1.mono (by simp))
    go_wp2
    go_ret
    exact ⟨ret_bool (by unfold rOne; rw [e1]; rfl), bb1⟩
  · go_enter Try.func86, Try.ntmps86
    go_wp2_with fail
    refine (product_any _ _ lo hi T (a : Int) (b : Int) _ (h.below b0 hh) z0 k (by omega) (by omega) (by omega) (by omega)).mono ?_
    rintro e w1 ⟨rfl, b1⟩
    have bb1 := b0.trans (b1.mono (by simp))
    have z1 := bb1.size
    have hcell : w1.cell? ⟨w.heap.size, 0, none⟩ = some (.slice A T.length c) := (b1.cell (p := ⟨w.heap.size, 0, none⟩) (by simp)).trans (by simp)
    go_wp2_with fail
    refine (product_any _ _ lo hi T (b : Int) (a : Int) _ (h.below bb1 hh) (by omega) k (by omega) (by omega) (by omega) (by omega)).mono ?_
    rintro e w2 ⟨rfl, b2⟩
    go_wp2
    go_ret
    exact ⟨ret_bool (by unfold rOne; rw [e1]; rfl), bb1.trans (b2.mono z1)⟩

/-- A call that returns the question whether a thing keeps a rule with all. -/
def Asked (w : World) (A : Option Addr) (n c : Nat) (fid : FuncId) (e : Ending) (w' : World) : Prop :=
  ∃ p q : Nat, e = .returned (.func (.func 79) #[] #[.pointer (some ⟨p, 0, none⟩), .pointer (some ⟨q, 0, none⟩)]) ∧ Below w.heap.size w w' ∧ w'.cell? ⟨p, 0, none⟩ = some (.slice A n c) ∧ w'.cell? ⟨q, 0, none⟩ = some (.func (.func fid) #[] #[])

set_option maxHeartbeats 2000000 in
theorem asking_any (A : Option Addr) (n c i : Nat) (name : ByteArray) (fid : FuncId) (w : World) (hf : Instr.findNow .string (.string name) rules.toList 0 = some (some (i, .func (.func fid) #[] #[]))) :
    Calls Try.prog 69 #[.agg #[.slice A n c], .string name] w (Asked w A n c fid) := by
  have b0 := (Below.refl w.heap.size w).alloc (Nat.le_refl _) (.cells #[.slice A n c] 42)
  have z0 : (w.alloc (.cells #[.slice A n c] 42)).heap.size = w.heap.size + 1 := by simp
  have q0 : (w.alloc (.cells #[.slice A n c] 42)).cell? ⟨w.heap.size, 0, none⟩ = some (.slice A n c) := by simp
  go_enter Try.func69, Try.ntmps69
  go_wp2_with fail
  refine (rulesByName_any _).mono ?_
  rintro e w1 ⟨rfl, hM⟩
  have bM := hM.2.2
  rw [z0] at bM
  have q1 := (bM.cell (p := ⟨w.heap.size, 0, none⟩) (by show w.heap.size < _; omega)).trans q0
  clear q0
  rw [z0] at hM
  have hrun := look_run Try.underlying67 Try.underlying9 hM hf
  go_wp2
  go_ret
  have z1 := bM.size
  have b2 := (Below.refl w1.heap.size w1).alloc (Nat.le_refl _) (.cells #[.func (.func fid) #[] #[]] 66)
  exact ⟨w.heap.size, w1.heap.size, rfl, (b0.trans (bM.mono (by omega))).trans (b2.mono (by omega)), (b2.cell (p := ⟨w.heap.size, 0, none⟩) (by show w.heap.size < _; omega)).trans q1, by simp⟩

set_option maxRecDepth 20000 in
set_option maxHeartbeats 4000000 in
theorem keeps_any (A : Option Addr) (n c p q a : Nat) (fid : FuncId) (r : Nat → Nat → Bool) (w : World) (hn : n ≤ 9) (hp : w.cell? ⟨p, 0, none⟩ = some (.slice A n c)) (hq : w.cell? ⟨q, 0, none⟩ = some (.func (.func fid) #[] #[]))
    (hcf : ∀ (args : Array Value) (w : World), (callFunc fid args).run Try.prog w = .ok (.enter fid args) w)
    (hF : ∀ (wr : World) (b : Nat), b < n → Below w.heap.size w wr → Calls Try.prog fid #[.agg #[.slice A n c], .int .i64 a, .int .i64 b] wr fun e w' => e = .returned (.bool (r a b)) ∧ Below wr.heap.size wr w') :
    Calls Try.prog 79 #[.int .i64 a, .pointer (some ⟨p, 0, none⟩), .pointer (some ⟨q, 0, none⟩)] w fun e w' => e = .returned (.bool (allR n r a)) ∧ Below w.heap.size w w' := by
  have HF := hide hF
  clear hF
  have lp := World.block_lt_of_cell? _ _ hp
  have lq := World.block_lt_of_cell? _ _ hq
  go_enter Try.func79, Try.ntmps79
  go_wp2
  go_loopg [9] n (fun g i wr => ∃ b : Nat, b ≤ n ∧ Hid (g = n - b) ∧ i = .int .i64 b ∧ Below w.heap.size w wr ∧ Hid (∀ j, j < b → r a j = true))
  case atStart => exact ⟨0, Nat.zero_le _, rfl, rfl, Below.refl _ _, fun _ hj => absurd hj (Nat.not_lt_zero _)⟩
  case round =>
    obtain ⟨b, hb, hgk, rfl, hB, hH⟩ := hrel
    have hp' := (hB.cell (p := ⟨p, 0, none⟩) lp).trans hp
    have hq' := (hB.cell (p := ⟨q, 0, none⟩) lq).trans hq
    have zB := hB.size
    by_cases hlt : b < n
    · cases hr : r a b
      · go_wp2_with (refine (HF.out _ b hlt hB).mono ?_; rw [hr]; rintro e w1 ⟨rfl, b1⟩)
        go_ret
        exact ⟨ret_bool (allR_false hlt hr).symm, hB.trans (b1.mono zB)⟩
      · go_wp2_with (refine (HF.out _ b hlt hB).mono ?_; rw [hr]; rintro e w1 ⟨rfl, b1⟩)
        go_roundg (n - (b + 1))
        case measure => go_light; have := hgk.out; omega
        case rel => go_light; exact ⟨b + 1, by omega, rfl, by go_num, hB.trans (b1.mono zB), fun j hj => by
          by_cases e : j = b
          · subst e; exact hr
          · exact hH j (by omega)⟩
    · obtain rfl : n = b := by omega
      go_wp2
      go_ret
      exact ⟨ret_bool (allR_iff.2 hH.out).symm, hB⟩
end Go.Proofs.Ytaceakfbkhkopaa
