
/- Bands and their sides, zeros and ones: the program's. -/
import Derived.Test.YtaceakfbkhkopaaAsk
import Derived.Test.YtaceakfbkhkopaaTurn
namespace Go.Proofs.Ytaceakfbkhkopaa
open Go.RowKit
set_option linter.unusedVariables false


section
variable {w : World}
/-- A rule's function value answers as the rule. -/
def RuleF (fid : FuncId) (r : List (List Int) → Nat → Nat → Bool) : Prop := ∀ (A : Option Addr) (c lo hi : Nat) (T : List (List Int)) (a b : Nat) (w : World), Mat w lo hi A T → hi ≤ w.heap.size → IsT T → a < T.length → b < T.length →
    Calls Try.prog fid #[.agg #[.slice A T.length c], .int .i64 a, .int .i64 b] w fun e w' => e = .returned (.bool (r T a b)) ∧ Below w.heap.size w w'
end

set_option maxRecDepth 20000 in
set_option maxHeartbeats 4000000 in
theorem allKeep_any (A : Option Addr) (c lo hi i : Nat) (T : List (List Int)) (name : ByteArray) (fid : FuncId) (r : List (List Int) → Nat → Nat → Bool) (w : World) (h : Mat w lo hi A T) (hh : hi ≤ w.heap.size) (k : IsT T)
    (hf : Instr.findNow .string (.string name) rules.toList 0 = some (some (i, .func (.func fid) #[] #[]))) (hcf : ∀ (args : Array Value) (w : World), (callFunc fid args).run Try.prog w = .ok (.enter fid args) w) (hR : RuleF fid r) :
    Calls Try.prog 49 #[.agg #[.slice A T.length c], .string name] w fun e w' => e = .returned (.bool (allRR T.length (r T))) ∧ Below w.heap.size w w' := by
  have k9 := k.hi
  have b0 := (Below.refl w.heap.size w).alloc (Nat.le_refl _) (.cells #[.slice A T.length c] 42)
  have z0 : (w.alloc (.cells #[.slice A T.length c] 42)).heap.size = w.heap.size + 1 := by simp
  have q0 : (w.alloc (.cells #[.slice A T.length c] 42)).cell? ⟨w.heap.size, 0, none⟩ = some (.slice A T.length c) := by simp
  have HC := hide hcf
  have HR := hide hR
  clear hcf hR
  go_enter Try.func49, Try.ntmps49
  go_wp2_with fail
  refine (asking_any A T.length c i name fid _ hf).mono ?_
  rintro e w1 ⟨p, q, rfl, b1, hp, hq⟩
  rw [z0] at b1
  have q1 := (b1.cell (p := ⟨w.heap.size, 0, none⟩) (by show w.heap.size < _; omega)).trans q0
  have B1 := b0.trans (b1.mono (by omega))
  clear q0
  go_wp2
  go_loopg [13] T.length (fun g i wr => ∃ a : Nat, a ≤ T.length ∧ Hid (g = T.length - a) ∧ i = .int .i64 a ∧ Below w1.heap.size w1 wr ∧ Hid (∀ j, j < a → allR T.length (r T) j = true))
  case atStart => exact ⟨0, Nat.zero_le _, rfl, rfl, Below.refl _ _, fun _ hj => absurd hj (Nat.not_lt_zero _)⟩
  case round =>
    obtain ⟨a, ha, hgk, rfl, hB, hH⟩ := hrel
    by_cases hlt : a < T.length
    · have BW := B1.trans (hB.mono B1.size)
      have hp' := (hB.cell (p := ⟨p, 0, none⟩) (World.block_lt_of_cell? _ _ hp)).trans hp
      have hq' := (hB.cell (p := ⟨q, 0, none⟩) (World.block_lt_of_cell? _ _ hq)).trans hq
      have hk := keeps_any A T.length c p q a fid (r T) wr k9 hp' hq' HC.out (fun wx b hb hx => HR.out A c lo hi T a b wx (h.below (BW.trans (hx.mono BW.size)) hh) (Nat.le_trans hh (BW.trans (hx.mono BW.size)).size) k hlt hb)
      cases hr : allR T.length (r T) a
      · rw [hr] at hk
        go_wp2_with (refine hk.mono ?_; rintro e w2 ⟨rfl, b2⟩)
        go_ret
        exact ⟨ret_bool (allRR_at hlt hr).symm, BW.trans (b2.mono BW.size)⟩
      · rw [hr] at hk
        go_wp2_with (refine hk.mono ?_; rintro e w2 ⟨rfl, b2⟩)
        go_roundg (T.length - (a + 1))
        case measure => go_light; have := hgk.out; omega
        case rel => go_light; exact ⟨a + 1, by omega, rfl, by go_num, hB.trans (b2.mono hB.size), fun j hj => by
          by_cases e : j = a
          · subst e; exact hr
          · exact hH j (by omega)⟩
    · obtain rfl : T.length = a := by omega
      go_wp2
      go_ret
      exact ⟨ret_bool (allRR_of hH.out).symm, B1.trans (hB.mono B1.size)⟩

set_option maxRecDepth 20000 in
set_option maxHeartbeats 4000000 in
theorem firstKeeping_any (A : Option Addr) (c lo hi i : Nat) (T : List (List Int)) (name : ByteArray) (fid : FuncId) (r : List (List Int) → Nat → Nat → Bool) (w : World) (h : Mat w lo hi A T) (hh : hi ≤ w.heap.size) (k : IsT T)
    (hf : Instr.findNow .string (.string name) rules.toList 0 = some (some (i, .func (.func fid) #[] #[]))) (hcf : ∀ (args : Array Value) (w : World), (callFunc fid args).run Try.prog w = .ok (.enter fid args) w) (hR : RuleF fid r) :
    Calls Try.prog 70 #[.agg #[.slice A T.length c], .string name] w fun e w' => e = .returned (.tuple #[.int .i64 (firstK T.length (r T)), .bool (okI (firstK T.length (r T)))]) ∧ Below w.heap.size w w' := by
  have k9 := k.hi
  have b0 := (Below.refl w.heap.size w).alloc (Nat.le_refl _) (.cells #[.slice A T.length c] 42)
  have z0 : (w.alloc (.cells #[.slice A T.length c] 42)).heap.size = w.heap.size + 1 := by simp
  have q0 : (w.alloc (.cells #[.slice A T.length c] 42)).cell? ⟨w.heap.size, 0, none⟩ = some (.slice A T.length c) := by simp
  have HC := hide hcf
  have HR := hide hR
  clear hcf hR
  go_enter Try.func70, Try.ntmps70
  go_wp2_with fail
  refine (asking_any A T.length c i name fid _ hf).mono ?_
  rintro e w1 ⟨p, q, rfl, b1, hp, hq⟩
  rw [z0] at b1
  have q1 := (b1.cell (p := ⟨w.heap.size, 0, none⟩) (by show w.heap.size < _; omega)).trans q0
  have B1 := b0.trans (b1.mono (by omega))
  clear q0
  go_wp2
  go_loopg [14] T.length (fun g i wr => ∃ a : Nat, a ≤ T.length ∧ Hid (g = T.length - a) ∧ i = .int .i64 a ∧ Below w1.heap.size w1 wr ∧ Hid (∀ j, j < a → allR T.length (r T) j = false))
  case atStart => exact ⟨0, Nat.zero_le _, rfl, rfl, Below.refl _ _, fun _ hj => absurd hj (Nat.not_lt_zero _)⟩
  case round =>
    obtain ⟨a, ha, hgk, rfl, hB, hH⟩ := hrel
    by_cases hlt : a < T.length
    · have BW := B1.trans (hB.mono B1.size)
      have hp' := (hB.cell (p := ⟨p, 0, none⟩) (World.block_lt_of_cell? _ _ hp)).trans hp
      have hq' := (hB.cell (p := ⟨q, 0, none⟩) (World.block_lt_of_cell? _ _ hq)).trans hq
      have hk := keeps_any A T.length c p q a fid (r T) wr k9 hp' hq' HC.out (fun wx b hb hx => HR.out A c lo hi T a b wx (h.below (BW.trans (hx.mono BW.size)) hh) (Nat.le_trans hh (BW.trans (hx.mono BW.size)).size) k hlt hb)
      cases hr : allR T.length (r T) a
      · rw [hr] at hk
        go_wp2_with (refine hk.mono ?_; rintro e w2 ⟨rfl, b2⟩)
        go_roundg (T.length - (a + 1))
        case measure => go_light; have := hgk.out; omega
        case rel => go_light; exact ⟨a + 1, by omega, rfl, by go_num, hB.trans (b2.mono hB.size), fun j hj => by
          by_cases e : j = a
          · subst e; exact hr
          · exact hH j (by omega)⟩
      · rw [hr] at hk
        have HE := hide (firstK_some hlt hr hH.out)
        go_wp2_with (refine hk.mono ?_; rintro e w2 ⟨rfl, b2⟩)
        go_ret2
        rw [HE.out, okI_nat]
        exact ⟨rfl, BW.trans (b2.mono BW.size)⟩
    · obtain rfl : T.length = a := by omega
      have HE := hide (firstK_none hH.out)
      go_wp2
      go_ret2
      rw [HE.out, okI_not]
      exact ⟨rfl, B1.trans (hB.mono B1.size)⟩

theorem findOwn : Instr.findNow .string (.string kOwn) rules.toList 0 = some (some (0, .func (.func 80) #[] #[])) := by kernel_rfl
theorem callOwn (args : Array Value) (w : World) : (callFunc 80 args).run Try.prog w = .ok (.enter 80 args) w := by kernel_rfl
theorem ruleFOwn : RuleF 80 rOwn := fun A c lo hi T a b w h hh k ha hb => rule1_any A c lo hi T a b w h hh k ha hb
theorem findEither : Instr.findNow .string (.string kEither) rules.toList 0 = some (some (1, .func (.func 81) #[] #[])) := by kernel_rfl
theorem callEither (args : Array Value) (w : World) : (callFunc 81 args).run Try.prog w = .ok (.enter 81 args) w := by kernel_rfl
theorem ruleFEither : RuleF 81 rEither := fun A c lo hi T a b w h hh k ha hb => rule2_any A c lo hi T a b w h hh k ha hb
theorem findFirst : Instr.findNow .string (.string kFirst) rules.toList 0 = some (some (2, .func (.func 82) #[] #[])) := by kernel_rfl
theorem callFirst (args : Array Value) (w : World) : (callFunc 82 args).run Try.prog w = .ok (.enter 82 args) w := by kernel_rfl
theorem ruleFFirst : RuleF 82 rFirst := fun A c lo hi T a b w h hh k ha hb => rule3_any A c lo hi T a b w h hh k ha hb
theorem findLeft : Instr.findNow .string (.string kLeft) rules.toList 0 = some (some (3, .func (.func 83) #[] #[])) := by kernel_rfl
theorem callLeft (args : Array Value) (w : World) : (callFunc 83 args).run Try.prog w = .ok (.enter 83 args) w := by kernel_rfl
theorem ruleFLeft : RuleF 83 rLeft := fun A c lo hi T a b w h hh k ha hb => rule4_any A c lo hi T a b w h hh k ha hb
theorem findBack : Instr.findNow .string (.string kBack) rules.toList 0 = some (some (4, .func (.func 84) #[] #[])) := by kernel_rfl
theorem callBack (args : Array Value) (w : World) : (callFunc 84 args).run Try.prog w = .ok (.enter 84 args) w := by kernel_rfl
theorem ruleFBack : RuleF 84 rRect := fun A c lo hi T a b w h hh k ha hb => rule5_any A c lo hi T a b w h hh k ha hb
theorem findZero : Instr.findNow .string (.string kZero) rules.toList 0 = some (some (5, .func (.func 85) #[] #[])) := by kernel_rfl
theorem callZero (args : Array Value) (w : World) : (callFunc 85 args).run Try.prog w = .ok (.enter 85 args) w := by kernel_rfl
theorem ruleFZero : RuleF 85 rZero := fun A c lo hi T a b w h hh k ha hb => rule6_any A c lo hi T a b w h hh k ha hb
theorem findOne : Instr.findNow .string (.string kOne) rules.toList 0 = some (some (6, .func (.func 86) #[] #[])) := by kernel_rfl
theorem callOne (args : Array Value) (w : World) : (callFunc 86 args).run Try.prog w = .ok (.enter 86 args) w := by kernel_rfl
theorem ruleFOne : RuleF 86 rOne := fun A c lo hi T a b w h hh k ha hb => rule7_any A c lo hi T a b w h hh k ha hb

set_option maxHeartbeats 1000000 in
theorem iBandOk_any (A : Option Addr) (c lo hi : Nat) (T : List (List Int)) (w : World) (h : Mat w lo hi A T) (hh : hi ≤ w.heap.size) (hS : Small T) :
    Calls Try.prog 18 #[.slice A T.length c] w fun e w' => e = .returned (.bool (bandT T)) ∧ Below w.heap.size w w' := by
  cases hg : grpT T
  · go_enter Try.func18, Try.ntmps18
    go_wp2_with fail
    refine (iGroupedOk_any A c lo hi T w h hh hS).mono ?_
    rw [hg]
    rintro e w1 ⟨rfl, b1⟩
    go_wp2
    go_ret
    exact ⟨ret_bool (bandT_grp hg).symm, b1⟩
  · have k := (grpT_iff.1 hg).tab
    have HE := hide (show bandT T = allRR T.length (rOwn T) from by unfold bandT; rw [hg]; rfl)
    go_enter Try.func18, Try.ntmps18
    go_wp2_with fail
    refine (iGroupedOk_any A c lo hi T w h hh hS).mono ?_
    rw [hg]
    rintro e w1 ⟨rfl, b1⟩
    go_wp2_with fail
    refine (allKeep_any A c lo hi _ T kOwn _ rOwn w1 (h.below b1 hh) (Nat.le_trans hh b1.size) k findOwn callOwn ruleFOwn).mono ?_
    rintro e w2 ⟨rfl, b2⟩
    go_wp2
    go_ret
    exact ⟨ret_bool HE.out.symm, b1.trans (b2.mono b1.size)⟩

set_option maxHeartbeats 1000000 in
theorem bandKeeping_any (A : Option Addr) (c lo hi i : Nat) (T : List (List Int)) (name : ByteArray) (fid : FuncId) (r : List (List Int) → Nat → Nat → Bool) (w : World) (h : Mat w lo hi A T) (hh : hi ≤ w.heap.size) (hS : Small T)
    (hf : Instr.findNow .string (.string name) rules.toList 0 = some (some (i, .func (.func fid) #[] #[]))) (hcf : ∀ (args : Array Value) (w : World), (callFunc fid args).run Try.prog w = .ok (.enter fid args) w) (hR : RuleF fid r) :
    Calls Try.prog 57 #[.slice A T.length c, .string name] w fun e w' => e = .returned (.bool (bandT T && allRR T.length (r T))) ∧ Below w.heap.size w w' := by
  have HC := hide hcf
  clear hcf
  cases hg : bandT T
  · go_enter Try.func57, Try.ntmps57
    go_wp2_with fail
    refine (iBandOk_any A c lo hi T w h hh hS).mono ?_
    rw [hg]
    rintro e w1 ⟨rfl, b1⟩
    go_wp2
    go_ret
    exact ⟨rfl, b1⟩
  · have k := (bandT_iff.1 hg).g.tab
    go_enter Try.func57, Try.ntmps57
    go_wp2_with fail
    refine (iBandOk_any A c lo hi T w h hh hS).mono ?_
    rw [hg]
    rintro e w1 ⟨rfl, b1⟩
    go_wp2_with fail
    refine (allKeep_any A c lo hi i T name fid r w1 (h.below b1 hh) (Nat.le_trans hh b1.size) k hf HC.out hR).mono ?_
    rintro e w2 ⟨rfl, b2⟩
    go_wp2
    go_ret
    exact ⟨rfl, b1.trans (b2.mono b1.size)⟩

set_option maxHeartbeats 1000000 in
theorem iMeetingOk_any (A : Option Addr) (c lo hi : Nat) (T : List (List Int)) (w : World) (h : Mat w lo hi A T) (hh : hi ≤ w.heap.size) (hS : Small T) :
    Calls Try.prog 25 #[.slice A T.length c] w fun e w' => e = .returned (.bool (meetT T)) ∧ Below w.heap.size w w' := by
  go_enter Try.func25, Try.ntmps25
  go_wp2_with fail
  refine (bandKeeping_any A c lo hi _ T kEither _ rEither w h hh hS findEither callEither ruleFEither).mono ?_
  rintro e w1 ⟨rfl, b1⟩
  go_wp2
  go_ret
  exact ⟨rfl, b1⟩

set_option maxHeartbeats 1000000 in
theorem iFirstOk_any (A : Option Addr) (c lo hi : Nat) (T : List (List Int)) (w : World) (h : Mat w lo hi A T) (hh : hi ≤ w.heap.size) (hS : Small T) :
    Calls Try.prog 30 #[.slice A T.length c] w fun e w' => e = .returned (.bool (firstT T)) ∧ Below w.heap.size w w' := by
  go_enter Try.func30, Try.ntmps30
  go_wp2_with fail
  refine (bandKeeping_any A c lo hi _ T kFirst _ rFirst w h hh hS findFirst callFirst ruleFFirst).mono ?_
  rintro e w1 ⟨rfl, b1⟩
  go_wp2
  go_ret
  exact ⟨rfl, b1⟩

set_option maxHeartbeats 1000000 in
theorem iLeftOk_any (A : Option Addr) (c lo hi : Nat) (T : List (List Int)) (w : World) (h : Mat w lo hi A T) (hh : hi ≤ w.heap.size) (hS : Small T) :
    Calls Try.prog 27 #[.slice A T.length c] w fun e w' => e = .returned (.bool (leftT T)) ∧ Below w.heap.size w w' := by
  go_enter Try.func27, Try.ntmps27
  go_wp2_with fail
  refine (bandKeeping_any A c lo hi _ T kLeft _ rLeft w h hh hS findLeft callLeft ruleFLeft).mono ?_
  rintro e w1 ⟨rfl, b1⟩
  go_wp2
  go_ret
  exact ⟨rfl, b1⟩

set_option maxHeartbeats 1000000 in
theorem iRightOk_any (A : Option Addr) (c lo hi : Nat) (T : List (List Int)) (w : World) (h : Mat w lo hi A T) (hh : hi ≤ w.heap.size) (hS : Small T) :
    Calls Try.prog 28 #[.slice A T.length c] w fun e w' => e = .returned (.bool (rightT T)) ∧ Below w.heap.size w w' := by
  go_enter Try.func28, Try.ntmps28
  go_wp2_with fail
  refine (iTurnedOf_any A c lo hi T w h hh hS).mono ?_
  rintro e w1 ⟨A1, c1, rfl, b1, o1⟩
  go_wp2_with fail
  refine (iLeftOk_any A1 c1 _ _ (turnT T) w1 o1.mat (Nat.le_refl _) small_turnT).mono ?_
  rintro e w2 ⟨rfl, b2⟩
  go_wp2
  go_ret
  exact ⟨rfl, b1.trans (b2.mono b1.size)⟩

theorem zeroT_val (T : List (List Int)) : (∃ k : Nat, zeroT T = (k : Int) ∧ okI (zeroT T) = true) ∨ (zeroT T = -1 ∧ okI (zeroT T) = false) := by
  rcases zeroT_or T with ⟨k, _, _, e, _⟩ | e
  · exact .inl ⟨k, e, by rw [e]; exact okI_nat k⟩
  · exact .inr ⟨e, by rw [e]; exact okI_not⟩

theorem oneT_val (T : List (List Int)) : (∃ k : Nat, oneT T = (k : Int) ∧ okI (oneT T) = true) ∨ (oneT T = -1 ∧ okI (oneT T) = false) := by
  rcases oneT_or T with ⟨k, _, _, e, _⟩ | e
  · exact .inl ⟨k, e, by rw [e]; exact okI_nat k⟩
  · exact .inr ⟨e, by rw [e]; exact okI_not⟩

set_option maxHeartbeats 1000000 in
theorem thingKeeping_any (A : Option Addr) (c lo hi i : Nat) (T : List (List Int)) (name : ByteArray) (fid : FuncId) (r : List (List Int) → Nat → Nat → Bool) (w : World) (h : Mat w lo hi A T) (hh : hi ≤ w.heap.size) (hS : Small T)
    (hf : Instr.findNow .string (.string name) rules.toList 0 = some (some (i, .func (.func fid) #[] #[]))) (hcf : ∀ (args : Array Value) (w : World), (callFunc fid args).run Try.prog w = .ok (.enter fid args) w) (hR : RuleF fid r) (v : Int) (hv : v = if okT T = true then firstK T.length (r T) else -1) :
    Calls Try.prog 61 #[.slice A T.length c, .string name] w fun e w' => e = .returned (.tuple #[.int .i64 v, .bool (okI v)]) ∧ Below w.heap.size w w' := by
  have HC := hide hcf
  clear hcf
  cases hk : okT T
  · rw [hk, if_neg Bool.false_ne_true] at hv
    subst hv
    go_enter Try.func61, Try.ntmps61
    go_wp2_with (go_at_call 36; refine (iTableOk_any _ _ _ _ _ _ h hS).mono ?_; rintro e w' ⟨rfl, rfl⟩; rw [hk])
    go_ret2
    exact ⟨rfl, Below.refl _ _⟩
  · rw [hk, if_pos rfl] at hv
    have HV := hide hv
    clear hv
    have k := okT_iff.1 hk
    go_enter Try.func61, Try.ntmps61
    go_wp2_with fail
    refine (iTableOk_any _ _ _ _ _ _ h hS).mono ?_
    rintro e w' ⟨rfl, rfl⟩
    rw [hk]
    go_wp2_with fail
    refine (firstKeeping_any A c lo hi i T name fid r w h hh k hf HC.out hR).mono ?_
    rw [← HV.out]
    rintro e w2 ⟨rfl, b2⟩
    go_wp2
    go_ret2
    exact ⟨rfl, b2⟩

set_option maxHeartbeats 1000000 in
theorem iZeroOf_any (A : Option Addr) (c lo hi : Nat) (T : List (List Int)) (w : World) (h : Mat w lo hi A T) (hh : hi ≤ w.heap.size) (hS : Small T) :
    Calls Try.prog 38 #[.slice A T.length c] w fun e w' => e = .returned (.tuple #[.int .i64 (zeroT T), .bool (okI (zeroT T))]) ∧ Below w.heap.size w w' := by
  go_enter Try.func38, Try.ntmps38
  go_wp2_with fail
  refine (thingKeeping_any A c lo hi _ T kZero _ rZero w h hh hS findZero callZero ruleFZero (zeroT T) rfl).mono ?_
  rintro e w1 ⟨rfl, b1⟩
  go_wp2
  go_ret2
  exact ⟨rfl, b1⟩

set_option maxHeartbeats 1000000 in
theorem iOneOf_any (A : Option Addr) (c lo hi : Nat) (T : List (List Int)) (w : World) (h : Mat w lo hi A T) (hh : hi ≤ w.heap.size) (hS : Small T) :
    Calls Try.prog 41 #[.slice A T.length c] w fun e w' => e = .returned (.tuple #[.int .i64 (oneT T), .bool (okI (oneT T))]) ∧ Below w.heap.size w w' := by
  go_enter Try.func41, Try.ntmps41
  go_wp2_with fail
  refine (thingKeeping_any A c lo hi _ T kOne _ rOne w h hh hS findOne callOne ruleFOne (oneT T) rfl).mono ?_
  rintro e w1 ⟨rfl, b1⟩
  go_wp2
  go_ret2
  exact ⟨rfl, b1⟩
end Go.Proofs.Ytaceakfbkhkopaa
