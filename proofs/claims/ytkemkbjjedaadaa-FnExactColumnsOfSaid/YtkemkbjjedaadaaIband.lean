
/- Bands and their sides, zeros and ones: the program's. -/
import Derived.Test.YtkemkbjjedaadaaAsk
import Derived.Test.YtkemkbjjedaadaaTurn
namespace Go.Proofs.Ytkemkbjjedaadaa
open Go.RowKit
set_option linter.unusedVariables false


section
variable {w : World}
/-- A rule's function value answers as the rule. -/
def RuleF (fid : FuncId) (r : List (List Int) → Nat → Nat → Bool) : Prop := ∀ (A : Option Addr) (c lo hi : Nat) (T : List (List Int)) (a b : Nat) (w : World), Mat w lo hi A T → hi ≤ w.heap.size → IsT T → a < T.length → b < T.length →
    Calls Try.prog fid #[.agg #[.slice A T.length c], .int .i64 a, .int .i64 b] w fun e w' => e = .returned (.bool (r T a b)) ∧ Below w.heap.size w w'
end

set_option maxRecDepth 20000 in
set_option maxHeartbeats 4000000 in
theorem allKeep_any (A : Option Addr) (c lo hi i : Nat) (T : List (List Int)) (name : ByteArray) (fid : FuncId) (r : List (List Int) → Nat → Nat → Bool) (w : World) (h : Mat w lo hi A T) (hh : hi ≤ w.heap.size) (k : IsT T)
    (hf : Instr.findNow .string (.string name) rules.toList 0 = some (some (i, .func (.func fid) #[] #[]))) (hcf : ∀ (args : Array Value) (w : World), (callFunc fid args).run Try.prog w = .ok (.enter fid args) w) (hR : RuleF fid r) :
    Calls Try.prog 69 #[.agg #[.slice A T.length c], .string name] w fun e w' => e = .returned (.bool (allRR T.length (r T))) ∧ Below w.heap.size w w' := by
  have k9 := k.hi
  have b0 := (Below.refl w.heap.size w).alloc (Nat.le_refl _) (.cells #[.slice A T.length c] 51)
  have z0 : (w.alloc (.cells #[.slice A T.length c] 51)).heap.size = w.heap.size + 1 := by simp
  have q0 : (w.alloc (.cells #[.slice A T.length c] 51)).cell? ⟨w.heap.size, 0, none⟩ = some (.slice A T.length c) := by simp
  have HC := hide hcf
  have HR := hide hR
  clear hcf hR
  go_enter Try.func69, Try.ntmps69
  go_wp2_with fail
  refine (asking_any A T.length c i name fid _ hf).mono ?_
  rintro e w1 ⟨p, q, rfl, b1, hp, hq⟩
  rw [z0] at b1
  have q1 := (b1.cell (p := ⟨w.heap.size, 0, none⟩) (by show w.heap.size < _; omega)).trans q0
  have B1 := b0.trans (b1.mono (by omega))
  clear q0
  go_wp2
  go_loopg [13] T.length (fun g i wr => ∃ a : Nat, a ≤ T.length ∧ Hid (g = T.length - a) ∧ i = .int .i64 a ∧ Below w1.heap.size w1 wr ∧ Hid (∀ j, j < a → allR T.length (r T) j = true))
  case atStart => exact ⟨0, Nat.zero_le _, rfl, rfl, Below.refl _ _, fun _ hj => absurd hj (Nat.not_lt_zero _)⟩
  case round =>
    obtain ⟨a, ha, hgk, rfl, hB, hH⟩ := hrel
    by_cases hlt : a < T.length
    · have BW := B1.trans (hB.mono B1.size)
      have hp' := (hB.cell (p := ⟨p, 0, none⟩) (World.block_lt_of_cell? _ _ hp)).trans hp
      have hq' := (hB.cell (p := ⟨q, 0, none⟩) (World.block_lt_of_cell? _ _ hq)).trans hq
      have hk := keeps_any A T.length c p q a fid (r T) wr k9 hp' hq' HC.out (fun wx b hb hx => HR.out A c lo hi T a b wx (h.below (BW.trans (hx.mono BW.size)) hh) (Nat.le_trans hh (BW.trans (hx.mono BW.size)).size) k hlt hb)
      cases hr : allR T.length (r T) a
      · rw [hr] at hk
        go_wp2_with (refine hk.mono ?_; rintro e w2 ⟨rfl, b2⟩)
        go_ret
        exact ⟨ret_bool (allRR_at hlt hr).symm, BW.trans (b2.mono BW.size)⟩
      · rw [hr] at hk
        go_wp2_with (refine hk.mono ?_; rintro e w2 ⟨rfl, b2⟩)
        go_roundg (T.length - (a + 1))
        case measure => go_light; have := hgk.out; omega
        case rel => go_light; exact ⟨a + 1, by omega, rfl, by go_num, hB.trans (b2.mono hB.size), fun j hj => by
          by_cases e : j = a
          · subst e; exact hr
          · exact hH j (by omega)⟩
    · obtain rfl : T.length = a := by omega
      go_wp2
      go_ret
      exact ⟨ret_bool (allRR_of hH.out).symm, B1.trans (hB.mono B1.size)⟩

theorem findOwn : Instr.findNow .string (.string kOwn) rules.toList 0 = some (some (0, .func (.func 91) #[] #[])) := by kernel_rfl
theorem callOwn (args : Array Value) (w : World) : (callFunc 91 args).run Try.prog w = .ok (.enter 91 args) w := by kernel_rfl
theorem ruleFOwn : RuleF 91 rOwn := fun A c lo hi T a b w h hh k ha hb => rule1_any A c lo hi T a b w h hh k ha hb
theorem findEither : Instr.findNow .string (.string kEither) rules.toList 0 = some (some (1, .func (.func 92) #[] #[])) := by kernel_rfl
theorem callEither (args : Array Value) (w : World) : (callFunc 92 args).run Try.prog w = .ok (.enter 92 args) w := by kernel_rfl
theorem ruleFEither : RuleF 92 rEither := fun A c lo hi T a b w h hh k ha hb => rule2_any A c lo hi T a b w h hh k ha hb
theorem findFirst : Instr.findNow .string (.string kFirst) rules.toList 0 = some (some (2, .func (.func 93) #[] #[])) := by kernel_rfl
theorem callFirst (args : Array Value) (w : World) : (callFunc 93 args).run Try.prog w = .ok (.enter 93 args) w := by kernel_rfl
theorem ruleFFirst : RuleF 93 rFirst := fun A c lo hi T a b w h hh k ha hb => rule3_any A c lo hi T a b w h hh k ha hb
theorem findLeft : Instr.findNow .string (.string kLeft) rules.toList 0 = some (some (3, .func (.func 94) #[] #[])) := by kernel_rfl
theorem callLeft (args : Array Value) (w : World) : (callFunc 94 args).run Try.prog w = .ok (.enter 94 args) w := by kernel_rfl
theorem ruleFLeft : RuleF 94 rLeft := fun A c lo hi T a b w h hh k ha hb => rule4_any A c lo hi T a b w h hh k ha hb
theorem findBack : Instr.findNow .string (.string kBack) rules.toList 0 = some (some (4, .func (.func 95) #[] #[])) := by kernel_rfl
theorem callBack (args : Array Value) (w : World) : (callFunc 95 args).run Try.prog w = .ok (.enter 95 args) w := by kernel_rfl
theorem ruleFBack : RuleF 95 rRect := fun A c lo hi T a b w h hh k ha hb => rule5_any A c lo hi T a b w h hh k ha hb
theorem findZero : Instr.findNow .string (.string kZero) rules.toList 0 = some (some (5, .func (.func 96) #[] #[])) := by kernel_rfl
theorem callZero (args : Array Value) (w : World) : (callFunc 96 args).run Try.prog w = .ok (.enter 96 args) w := by kernel_rfl
theorem ruleFZero : RuleF 96 rZero := fun A c lo hi T a b w h hh k ha hb => rule6_any A c lo hi T a b w h hh k ha hb
theorem findOne : Instr.findNow .string (.string kOne) rules.toList 0 = some (some (6, .func (.func 97) #[] #[])) := by kernel_rfl
theorem callOne (args : Array Value) (w : World) : (callFunc 97 args).run Try.prog w = .ok (.enter 97 args) w := by kernel_rfl
theorem ruleFOne : RuleF 97 rOne := fun A c lo hi T a b w h hh k ha hb => rule7_any A c lo hi T a b w h hh k ha hb

set_option maxHeartbeats 1000000 in
theorem iBandOk_any (A : Option Addr) (c lo hi : Nat) (T : List (List Int)) (w : World) (h : Mat w lo hi A T) (hh : hi ≤ w.heap.size) (hS : Small T) :
    Calls Try.prog 68 #[.slice A T.length c] w fun e w' => e = .returned (.bool (bandT T)) ∧ Below w.heap.size w w' := by
  cases hg : grpT T
  · go_enter Try.func68, Try.ntmps68
    go_wp2_with fail
    refine (iGroupedOk_any A c lo hi T w h hh hS).mono ?_
    rw [hg]
    rintro e w1 ⟨rfl, b1⟩
    go_wp2
    go_ret
    exact ⟨ret_bool (bandT_grp hg).symm, b1⟩
  · have k := (grpT_iff.1 hg).tab
    have HE := hide (show bandT T = allRR T.length (rOwn T) from by unfold bandT; rw [hg]; rfl)
    go_enter Try.func68, Try.ntmps68
    go_wp2_with fail
    refine (iGroupedOk_any A c lo hi T w h hh hS).mono ?_
    rw [hg]
    rintro e w1 ⟨rfl, b1⟩
    go_wp2_with fail
    refine (allKeep_any A c lo hi _ T kOwn _ rOwn w1 (h.below b1 hh) (Nat.le_trans hh b1.size) k findOwn callOwn ruleFOwn).mono ?_
    rintro e w2 ⟨rfl, b2⟩
    go_wp2
    go_ret
    exact ⟨ret_bool HE.out.symm, b1.trans (b2.mono b1.size)⟩

set_option maxHeartbeats 1000000 in
theorem bandKeeping_any (A : Option Addr) (c lo hi i : Nat) (T : List (List Int)) (name : ByteArray) (fid : FuncId) (r : List (List Int) → Nat → Nat → Bool) (w : World) (h : Mat w lo hi A T) (hh : hi ≤ w.heap.size) (hS : Small T)
    (hf : Instr.findNow .string (.string name) rules.toList 0 = some (some (i, .func (.func fid) #[] #[]))) (hcf : ∀ (args : Array Value) (w : World), (callFunc fid args).run Try.prog w = .ok (.enter fid args) w) (hR : RuleF fid r) :
    Calls Try.prog 57 #[.slice A T.length c, .string name] w fun e w' => e = .returned (.bool (bandT T && allRR T.length (r T))) ∧ Below w.heap.size w w' := by
  have HC := hide hcf
  clear hcf
  cases hg : bandT T
  · go_enter Try.func57, Try.ntmps57
    go_wp2_with fail
    refine (iBandOk_any A c lo hi T w h hh hS).mono ?_
    rw [hg]
    rintro e w1 ⟨rfl, b1⟩
    go_wp2
    go_ret
    exact ⟨rfl, b1⟩
  · have k := (bandT_iff.1 hg).g.tab
    go_enter Try.func57, Try.ntmps57
    go_wp2_with fail
    refine (iBandOk_any A c lo hi T w h hh hS).mono ?_
    rw [hg]
    rintro e w1 ⟨rfl, b1⟩
    go_wp2_with fail
    refine (allKeep_any A c lo hi i T name fid r w1 (h.below b1 hh) (Nat.le_trans hh b1.size) k hf HC.out hR).mono ?_
    rintro e w2 ⟨rfl, b2⟩
    go_wp2
    go_ret
    exact ⟨rfl, b1.trans (b2.mono b1.size)⟩

set_option maxHeartbeats 1000000 in
theorem iMeetingOk_any (A : Option Addr) (c lo hi : Nat) (T : List (List Int)) (w : World) (h : Mat w lo hi A T) (hh : hi ≤ w.heap.size) (hS : Small T) :
    Calls Try.prog 27 #[.slice A T.length c] w fun e w' => e = .returned (.bool (meetT T)) ∧ Below w.heap.size w w' := by
  go_enter Try.func27, Try.ntmps27
  go_wp2_with fail
  refine (bandKeeping_any A c lo hi _ T kEither _ rEither w h hh hS findEither callEither ruleFEither).mono ?_
  rintro e w1 ⟨rfl, b1⟩
  go_wp2
  go_ret
  exact ⟨rfl, b1⟩

set_option maxHeartbeats 1000000 in
theorem iFirstOk_any (A : Option Addr) (c lo hi : Nat) (T : List (List Int)) (w : World) (h : Mat w lo hi A T) (hh : hi ≤ w.heap.size) (hS : Small T) :
    Calls Try.prog 23 #[.slice A T.length c] w fun e w' => e = .returned (.bool (firstT T)) ∧ Below w.heap.size w w' := by
  go_enter Try.func23, Try.ntmps23
  go_wp2_with fail
  refine (bandKeeping_any A c lo hi _ T kFirst _ rFirst w h hh hS findFirst callFirst ruleFFirst).mono ?_
  rintro e w1 ⟨rfl, b1⟩
  go_wp2
  go_ret
  exact ⟨rfl, b1⟩

theorem zeroT_val (T : List (List Int)) : (∃ k : Nat, zeroT T = (k : Int) ∧ okI (zeroT T) = true) ∨ (zeroT T = -1 ∧ okI (zeroT T) = false) := by
  rcases zeroT_or T with ⟨k, _, _, e, _⟩ | e
  · exact .inl ⟨k, e, by rw [e]; exact okI_nat k⟩
  · exact .inr ⟨e, by rw [e]; exact okI_not⟩

theorem oneT_val (T : List (List Int)) : (∃ k : Nat, oneT T = (k : Int) ∧ okI (oneT T) = true) ∨ (oneT T = -1 ∧ okI (oneT T) = false) := by
  rcases oneT_or T with ⟨k, _, _, e, _⟩ | e
  · exact .inl ⟨k, e, by rw [e]; exact okI_nat k⟩
  · exact .inr ⟨e, by rw [e]; exact okI_not⟩

end Go.Proofs.Ytkemkbjjedaadaa
