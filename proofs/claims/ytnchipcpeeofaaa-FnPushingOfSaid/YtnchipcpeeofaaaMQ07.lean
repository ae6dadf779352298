/-  -/
import Derived.Maps.OwnOps
import Derived.MapKept
import Derived.Laws.EntriesVeiled
import Derived.Deep.RegionHeld3
import Derived.Test.YtnchipcpeeofaaaMQ04
import Derived.Test.YtnchipcpeeofaaaMQ05
namespace Go.Proofs.Ytnchipcpeeofaaa
open Go.RowKit
set_option linter.unusedVariables false


/-- A map of the call's own of which all entries are known. -/
def MapAt (w W : World) (b : Nat) (es : Array MapEntry) (clock : Nat) : Prop := W.heap[b]? = some (.map es clock) ∧ w.heap.size ≤ b ∧ Below w.heap.size w W

/-- A new key. -/
theorem ins_step {P : Program} {ops : Array Oper} {rest : List Oper} {o : Oper} {a : Act} {Q : Exit → Act → World → Prop} {w W : World} {m x y : Operand} {t k e : TypeId} {b clock : Nat} {es : Array MapEntry} {s : ByteArray} {v : Value}
    (hg : o.guard = none) (hop : o.op = Op.insert t m x y) (ht : P.underlying t = some (.map k e)) (hk : P.underlying k = some .string)
    (hm : a.eval m = .map (some b)) (hx : a.eval x = .string s) (hv : a.eval y = v) (hM : MapAt w W b es clock) (hnew : Instr.findNow .string (.string s) es.toList 0 = some none)
    (K : ∀ W', MapAt w W' b (es.push { key := .string s, val := v, born := clock }) (clock + 1) → wpList P ops Q rest (a.put o.dst undef) W') : wpList P ops Q (o :: rest) a W := by
  obtain ⟨hb, h1, h2⟩ := hM
  have hrun : (Instr.mapUpdate t (.map (some b)) (.string s) v).run P W = .ok () { W with heap := W.heap.setIfInBounds b (.map (es.push { key := .string s, val := v, born := clock }) (clock + 1)) } := by
    simp [Instr.mapUpdate, run_underlying ht, MapKept.run_getObj_map hb, MapKept.run_checkKey (k := .string s) hk (by simp [MapKept.IsKey]), MapKept.run_findKey hk hnew, MapKept.run_setObj_map _ hb, Result.andThen]
  refine wpList_plain hg fun K' hK' => ?_
  unfold Oper.wp
  simp [execOp, hop, hm, hx, hv, hrun, Result.andThen]
  refine hK' _ _ (K _ ⟨(MapKept.heap_set hb).1, h1, ⟨h2.os, h2.tape, h2.output, by simpa using h2.size, fun j hj => ((MapKept.heap_set hb).2 j (by omega)).trans (h2.block j hj)⟩⟩)
/-- A key that is there. -/
theorem look_run {P : Program} {w W : World} {t k e : TypeId} {b clock i : Nat} {es : Array MapEntry} {s : ByteArray} {v : Value}
    (ht : P.underlying t = some (.map k e)) (hk : P.underlying k = some .string) (hM : MapAt w W b es clock) (hold : Instr.findNow .string (.string s) es.toList 0 = some (some (i, v))) :
    (Instr.lookup t (.map (some b)) (.string s) false).run P W = .ok v W := by
  obtain ⟨hb, h1, h2⟩ := hM
  cases he : es.isEmpty
  all_goals simp [Instr.lookup, run_underlying ht, MapKept.run_getObj_map hb, MapKept.run_checkKey (k := .string s) hk (by simp [MapKept.IsKey]), MapKept.run_findKey hk hold, Result.andThen]

def kOwn : ByteArray := ⟨#[111, 119, 110, 32, 115, 113, 117, 97, 114, 101]⟩
def kEither : ByteArray := ⟨#[101, 105, 116, 104, 101, 114, 32, 111, 114, 100, 101, 114]⟩
def kFirst : ByteArray := ⟨#[102, 105, 114, 115, 116, 32, 116, 104, 105, 110, 103]⟩
def kLeft : ByteArray := ⟨#[108, 101, 102, 116, 32, 111, 117, 116]⟩
def kBack : ByteArray := ⟨#[99, 111, 109, 101, 115, 32, 98, 97, 99, 107]⟩
def kZero : ByteArray := ⟨#[122, 101, 114, 111]⟩
def kOne : ByteArray := ⟨#[111, 110, 101]⟩
/-- The rules by their names. -/
def rules : Array MapEntry := #[{ key := .string kOwn, val := .func (.func 93) #[] #[], born := 0 }, { key := .string kEither, val := .func (.func 94) #[] #[], born := 1 }, { key := .string kFirst, val := .func (.func 95) #[] #[], born := 2 }, { key := .string kLeft, val := .func (.func 96) #[] #[], born := 3 }, { key := .string kBack, val := .func (.func 97) #[] #[], born := 4 }, { key := .string kZero, val := .func (.func 87) #[] #[], born := 5 }, { key := .string kOne, val := .func (.func 98) #[] #[], born := 6 }]

set_option maxHeartbeats 2000000 in
theorem rulesByName_any (w : World) : Calls Try.prog 89 #[] w fun e w' => e = .returned (.map (some w.heap.size)) ∧ MapAt w w' w.heap.size rules 7 := by
  have hmm := @run_makeMap Try.prog
  have hM0 : MapAt w (w.alloc (.map #[] 0)) w.heap.size #[] 0 := ⟨(MapKept.heap_alloc w _).1, Nat.le_refl _, (Below.refl w.heap.size w).alloc (Nat.le_refl _) _⟩
  go_enter Try.func89, Try.ntmps89
  go_wp2_with (first
    | (refine ins_step (by rfl) (by rfl) Try.underlying89 Try.underlying9 (by rfl) (by rfl) (by rfl) hM0 (by kernel_rfl) ?_; clear hM0; intro W1 hM1)
    | (refine ins_step (by rfl) (by rfl) Try.underlying89 Try.underlying9 (by rfl) (by rfl) (by rfl) hM1 (by kernel_rfl) ?_; clear hM1; intro W2 hM2)
    | (refine ins_step (by rfl) (by rfl) Try.underlying89 Try.underlying9 (by rfl) (by rfl) (by rfl) hM2 (by kernel_rfl) ?_; clear hM2; intro W3 hM3)
    | (refine ins_step (by rfl) (by rfl) Try.underlying89 Try.underlying9 (by rfl) (by rfl) (by rfl) hM3 (by kernel_rfl) ?_; clear hM3; intro W4 hM4)
    | (refine ins_step (by rfl) (by rfl) Try.underlying89 Try.underlying9 (by rfl) (by rfl) (by rfl) hM4 (by kernel_rfl) ?_; clear hM4; intro W5 hM5)
    | (refine ins_step (by rfl) (by rfl) Try.underlying89 Try.underlying9 (by rfl) (by rfl) (by rfl) hM5 (by kernel_rfl) ?_; clear hM5; intro W6 hM6)
    | (refine ins_step (by rfl) (by rfl) Try.underlying89 Try.underlying9 (by rfl) (by rfl) (by rfl) hM6 (by kernel_rfl) ?_; clear hM6; intro W7 hM7))
  go_ret
  exact ⟨rfl, hM7⟩
end Go.Proofs.Ytnchipcpeeofaaa

namespace Go.Proofs.Ytnchipcpeeofaaa
open Go.RowKit
set_option linter.unusedVariables false


set_option maxHeartbeats 2000000 in
theorem rule1_any (A : Option Addr) (c lo hi : Nat) (T : List (List Int)) (a b : Nat) (w : World) (h : Mat w lo hi A T) (hh : hi ≤ w.heap.size) (k : IsT T) (ha : a < T.length) (hb : b < T.length) :
    Calls Try.prog 93 #[.agg #[.slice A T.length c], .int .i64 a, .int .i64 b] w fun e w' => e = .returned (.bool (rOwn T a b)) ∧ Below w.heap.size w w' := by
  have b0 := (Below.refl w.heap.size w).alloc (Nat.le_refl _) (.cells #[.slice A T.length c] 53)
  have z0 : hi ≤ (w.alloc (.cells #[.slice A T.length c] 53)).heap.size := by simp; omega
  obtain ⟨m0, m1⟩ := k.mul (x := (a : Nat)) (y := (b : Nat)) (by omega) (by omega) (by omega) (by omega)
  go_enter Try.func93, Try.ntmps93
  go_wp2_with (go_at_call 65; refine (product_any _ _ lo hi T (a : Int) (a : Int) _ (h.below b0 hh) z0 k (by omega) (by omega) (by omega) (by omega)).mono ?_; rintro e w1 ⟨rfl, b1⟩)
  go_ret
  exact ⟨rfl, b0.trans (b1.mono (by simp))⟩

set_option maxHeartbeats 2000000 in
theorem rule2_any (A : Option Addr) (c lo hi : Nat) (T : List (List Int)) (a b : Nat) (w : World) (h : Mat w lo hi A T) (hh : hi ≤ w.heap.size) (k : IsT T) (ha : a < T.length) (hb : b < T.length) :
    Calls Try.prog 94 #[.agg #[.slice A T.length c], .int .i64 a, .int .i64 b] w fun e w' => e = .returned (.bool (rEither T a b)) ∧ Below w.heap.size w w' := by
  have b0 := (Below.refl w.heap.size w).alloc (Nat.le_refl _) (.cells #[.slice A T.length c] 53)
  have z0 : hi ≤ (w.alloc (.cells #[.slice A T.length c] 53)).heap.size := by simp; omega
  obtain ⟨m0, m1⟩ := k.mul (x := (a : Nat)) (y := (b : Nat)) (by omega) (by omega) (by omega) (by omega)
  have hG : GS w lo hi A T (w.alloc (.cells #[.slice A T.length c] 53)) := ⟨h.below b0 hh, hh, by simp, b0⟩
  have a0 : (0 : Int) ≤ (a : Int) := by omega
  have a1 : (a : Int) < (T.length : Int) := by omega
  have c0 : (0 : Int) ≤ (b : Int) := by omega
  have c1 : (b : Int) < (T.length : Int) := by omega
  go_enter Try.func94, Try.ntmps94
  go_wp2_with fail
  go_region_held3 (fun w' => w'.cell? ⟨w.heap.size, 0, none⟩ = some (.slice A T.length c) ∧ GS w lo hi A T w')
    (first
      | exact ⟨by simp, hG.drew⟩
      | (go_split_ands
         exact ⟨GS.cell (by assumption) (by assumption) (by assumption), GS.step (by assumption) (by assumption)⟩))
    (first
      | (go_at_call 65
         refine (product_any _ _ lo hi T _ _ _ ?_ ?_ k ?_ ?_ ?_ ?_).mono ?_
         · go_split_ands
           exact GS.mat (by assumption)
         · go_split_ands
           exact GS.top (by assumption)
         · assumption
         · assumption
         · assumption
         · assumption
         rintro e w1 ⟨rfl, hb⟩))
  go_wp2
  go_ret
  go_split_ands
  exact ⟨rfl, GS.below (by assumption)⟩

set_option maxHeartbeats 2000000 in
theorem rule3_any (A : Option Addr) (c lo hi : Nat) (T : List (List Int)) (a b : Nat) (w : World) (h : Mat w lo hi A T) (hh : hi ≤ w.heap.size) (k : IsT T) (ha : a < T.length) (hb : b < T.length) :
    Calls Try.prog 95 #[.agg #[.slice A T.length c], .int .i64 a, .int .i64 b] w fun e w' => e = .returned (.bool (rFirst T a b)) ∧ Below w.heap.size w w' := by
  have b0 := (Below.refl w.heap.size w).alloc (Nat.le_refl _) (.cells #[.slice A T.length c] 53)
  have z0 : hi ≤ (w.alloc (.cells #[.slice A T.length c] 53)).heap.size := by simp; omega
  obtain ⟨m0, m1⟩ := k.mul (x := (a : Nat)) (y := (b : Nat)) (by omega) (by omega) (by omega) (by omega)
  go_enter Try.func95, Try.ntmps95
  go_wp2_with (go_at_call 65; refine (product_any _ _ lo hi T (a : Int) (b : Int) _ (h.below b0 hh) z0 k (by omega) (by omega) (by omega) (by omega)).mono ?_; rintro e w1 ⟨rfl, b1⟩)
  go_ret
  exact ⟨rfl, b0.trans (b1.mono (by simp))⟩

set_option maxHeartbeats 2000000 in
theorem around_any (A : Option Addr) (c lo hi : Nat) (T : List (List Int)) (a b : Nat) (w : World) (h : Mat w lo hi A T) (hh : hi ≤ w.heap.size) (k : IsT T) (ha : a < T.length) (hb : b < T.length) :
    Calls Try.prog 77 #[.agg #[.slice A T.length c], .int .i64 a, .int .i64 b] w fun e w' => e = .returned (.int .i64 (mul T (mul T (a : Int) (b : Int)) (a : Int))) ∧ Below w.heap.size w w' := by
  have b0 := (Below.refl w.heap.size w).alloc (Nat.le_refl _) (.cells #[.slice A T.length c] 53)
  have z0 : hi ≤ (w.alloc (.cells #[.slice A T.length c] 53)).heap.size := by simp; omega
  obtain ⟨m0, m1⟩ := k.mul (x := (a : Nat)) (y := (b : Nat)) (by omega) (by omega) (by omega) (by omega)
  have hG : GS w lo hi A T (w.alloc (.cells #[.slice A T.length c] 53)) := ⟨h.below b0 hh, hh, by simp, b0⟩
  have a0 : (0 : Int) ≤ (a : Int) := by omega
  have a1 : (a : Int) < (T.length : Int) := by omega
  have c0 : (0 : Int) ≤ (b : Int) := by omega
  have c1 : (b : Int) < (T.length : Int) := by omega
  go_enter Try.func77, Try.ntmps77
  go_wp2_with fail
  go_region_held3 (fun w' => w'.cell? ⟨w.heap.size, 0, none⟩ = some (.slice A T.length c) ∧ GS w lo hi A T w')
    (first
      | exact ⟨by simp, hG.drew⟩
      | (go_split_ands
         exact ⟨GS.cell (by assumption) (by assumption) (by assumption), GS.step (by assumption) (by assumption)⟩))
    (first
      | (go_at_call 65
         refine (product_any _ _ lo hi T _ _ _ ?_ ?_ k ?_ ?_ ?_ ?_).mono ?_
         · go_split_ands
           exact GS.mat (by assumption)
         · go_split_ands
           exact GS.top (by assumption)
         · assumption
         · assumption
         · assumption
         · assumption
         rintro e w1 ⟨rfl, hb⟩))
  go_wp2
  go_ret
  go_split_ands
  exact ⟨rfl, GS.below (by assumption)⟩

set_option maxHeartbeats 2000000 in
theorem absorbs_any (A : Option Addr) (c lo hi : Nat) (T : List (List Int)) (a b : Nat) (w : World) (h : Mat w lo hi A T) (hh : hi ≤ w.heap.size) (k : IsT T) (ha : a < T.length) (hb : b < T.length) :
    Calls Try.prog 87 #[.agg #[.slice A T.length c], .int .i64 a, .int .i64 b] w fun e w' => e = .returned (.bool (rZero T a b)) ∧ Below w.heap.size w w' := by
  have b0 := (Below.refl w.heap.size w).alloc (Nat.le_refl _) (.cells #[.slice A T.length c] 53)
  have z0 : hi ≤ (w.alloc (.cells #[.slice A T.length c] 53)).heap.size := by simp; omega
  obtain ⟨m0, m1⟩ := k.mul (x := (a : Nat)) (y := (b : Nat)) (by omega) (by omega) (by omega) (by omega)
  cases e1 : (mul T (a : Int) (b : Int) == (a : Int))
  · go_enter Try.func87, Try.ntmps87
    go_wp2_with fail
    refine (product_any _ _ lo hi T (a : Int) (b : Int) _ (h.below b0 hh) z0 k (by omega) (by omega) (by omega) (by omega)).mono ?_
    rintro e w1 ⟨rfl, b1⟩
    have bb1 := b0.trans (b1.mono (by simp))
    go_wp2
    go_ret
    exact ⟨ret_bool (by unfold rZero; rw [e1]; rfl), bb1⟩
  · go_enter Try.func87, Try.ntmps87
    go_wp2_with fail
    refine (product_any _ _ lo hi T (a : Int) (b : Int) _ (h.below b0 hh) z0 k (by omega) (by omega) (by omega) (by omega)).mono ?_
    rintro e w1 ⟨rfl, b1⟩
    have bb1 := b0.trans (b1.mono (by simp))
    have z1 := bb1.size
    have hcell : w1.cell? ⟨w.heap.size, 0, none⟩ = some (.slice A T.length c) := (b1.cell (p := ⟨w.heap.size, 0, none⟩) (by simp)).trans (by simp)
    go_wp2_with fail
    refine (product_any _ _ lo hi T (b : Int) (a : Int) _ (h.below bb1 hh) (by omega) k (by omega) (by omega) (by omega) (by omega)).mono ?_
    rintro e w2 ⟨rfl, b2⟩
    go_wp2
    go_ret
    exact ⟨ret_bool (by unfold rZero; rw [e1]; rfl), bb1.trans (b2.mono z1)⟩
/-- A call that returns the question whether a thing keeps a rule with all. -/
def Asked (w : World) (A : Option Addr) (n c : Nat) (fid : FuncId) (e : Ending) (w' : World) : Prop :=
  ∃ p q : Nat, e = .returned (.func (.func 90) #[] #[.pointer (some ⟨p, 0, none⟩), .pointer (some ⟨q, 0, none⟩)]) ∧ Below w.heap.size w w' ∧ w'.cell? ⟨p, 0, none⟩ = some (.slice A n c) ∧ w'.cell? ⟨q, 0, none⟩ = some (.func (.func fid) #[] #[])

set_option maxHeartbeats 2000000 in
theorem asking_any (A : Option Addr) (n c i : Nat) (name : ByteArray) (fid : FuncId) (w : World) (hf : Instr.findNow .string (.string name) rules.toList 0 = some (some (i, .func (.func fid) #[] #[]))) :
    Calls Try.prog 83 #[.agg #[.slice A n c], .string name] w (Asked w A n c fid) := by
  have b0 := (Below.refl w.heap.size w).alloc (Nat.le_refl _) (.cells #[.slice A n c] 53)
  have z0 : (w.alloc (.cells #[.slice A n c] 53)).heap.size = w.heap.size + 1 := by simp
  have q0 : (w.alloc (.cells #[.slice A n c] 53)).cell? ⟨w.heap.size, 0, none⟩ = some (.slice A n c) := by simp
  go_enter Try.func83, Try.ntmps83
  go_wp2_with fail
  refine (rulesByName_any _).mono ?_
  rintro e w1 ⟨rfl, hM⟩
  have bM := hM.2.2
  rw [z0] at bM
  have q1 := (bM.cell (p := ⟨w.heap.size, 0, none⟩) (by show w.heap.size < _; omega)).trans q0
  clear q0
  rw [z0] at hM
  have hrun := look_run Try.underlying89 Try.underlying9 hM hf
  go_wp2
  go_ret
  have z1 := bM.size
  have b2 := (Below.refl w1.heap.size w1).alloc (Nat.le_refl _) (.cells #[.func (.func fid) #[] #[]] 88)
  exact ⟨w.heap.size, w1.heap.size, rfl, (b0.trans (bM.mono (by omega))).trans (b2.mono (by omega)), (b2.cell (p := ⟨w.heap.size, 0, none⟩) (by show w.heap.size < _; omega)).trans q1, by simp⟩

set_option maxRecDepth 20000 in
set_option maxHeartbeats 4000000 in
theorem keeps_any (A : Option Addr) (n c p q a : Nat) (fid : FuncId) (r : Nat → Nat → Bool) (w : World) (hn : n ≤ 9) (hp : w.cell? ⟨p, 0, none⟩ = some (.slice A n c)) (hq : w.cell? ⟨q, 0, none⟩ = some (.func (.func fid) #[] #[]))
    (hcf : ∀ (args : Array Value) (w : World), (callFunc fid args).run Try.prog w = .ok (.enter fid args) w)
    (hF : ∀ (wr : World) (b : Nat), b < n → Below w.heap.size w wr → Calls Try.prog fid #[.agg #[.slice A n c], .int .i64 a, .int .i64 b] wr fun e w' => e = .returned (.bool (r a b)) ∧ Below wr.heap.size wr w') :
    Calls Try.prog 90 #[.int .i64 a, .pointer (some ⟨p, 0, none⟩), .pointer (some ⟨q, 0, none⟩)] w fun e w' => e = .returned (.bool (allR n r a)) ∧ Below w.heap.size w w' := by
  have HF := hide hF
  clear hF
  have lp := World.block_lt_of_cell? _ _ hp
  have lq := World.block_lt_of_cell? _ _ hq
  go_enter Try.func90, Try.ntmps90
  go_wp2
  go_loopg [9] n (fun g i wr => ∃ b : Nat, b ≤ n ∧ Hid (g = n - b) ∧ i = .int .i64 b ∧ Below w.heap.size w wr ∧ Hid (∀ j, j < b → r a j = true))
  case atStart => exact ⟨0, Nat.zero_le _, rfl, rfl, Below.refl _ _, fun _ hj => absurd hj (Nat.not_lt_zero _)⟩
  case round =>
    obtain ⟨b, hb, hgk, rfl, hB, hH⟩ := hrel
    have hp' := (hB.cell (p := ⟨p, 0, none⟩) lp).trans hp
    have hq' := (hB.cell (p := ⟨q, 0, none⟩) lq).trans hq
    have zB := hB.size
    by_cases hlt : b < n
    · cases hr : r a b
      · go_wp2_with (refine (HF.out _ b hlt hB).mono ?_; rw [hr]; rintro e w1 ⟨rfl, b1⟩)
        go_ret
        exact ⟨ret_bool (allR_false hlt hr).symm, hB.trans (b1.mono zB)⟩
      · go_wp2_with (refine (HF.out _ b hlt hB).mono ?_; rw [hr]; rintro e w1 ⟨rfl, b1⟩)
        go_roundg (n - (b + 1))
        case measure => go_light; have := hgk.out; omega
        case rel => go_light; exact ⟨b + 1, by omega, rfl, by go_num, hB.trans (b1.mono zB), fun j hj => by
          by_cases e : j = b
          · subst e; exact hr
          · exact hH j (by omega)⟩
    · obtain rfl : n = b := by omega
      go_wp2
      go_ret
      exact ⟨ret_bool (allR_iff.2 hH.out).symm, hB⟩
end Go.Proofs.Ytnchipcpeeofaaa

namespace Go.Proofs.Ytnchipcpeeofaaa
open Go.RowKit
set_option linter.unusedVariables false


section
variable {w : World}
/-- A rule's function value answers as the rule. -/
def RuleF (fid : FuncId) (r : List (List Int) → Nat → Nat → Bool) : Prop := ∀ (A : Option Addr) (c lo hi : Nat) (T : List (List Int)) (a b : Nat) (w : World), Mat w lo hi A T → hi ≤ w.heap.size → IsT T → a < T.length → b < T.length →
    Calls Try.prog fid #[.agg #[.slice A T.length c], .int .i64 a, .int .i64 b] w fun e w' => e = .returned (.bool (r T a b)) ∧ Below w.heap.size w w'
end

set_option maxRecDepth 20000 in
set_option maxHeartbeats 4000000 in
theorem allKeep_any (A : Option Addr) (c lo hi i : Nat) (T : List (List Int)) (name : ByteArray) (fid : FuncId) (r : List (List Int) → Nat → Nat → Bool) (w : World) (h : Mat w lo hi A T) (hh : hi ≤ w.heap.size) (k : IsT T)
    (hf : Instr.findNow .string (.string name) rules.toList 0 = some (some (i, .func (.func fid) #[] #[]))) (hcf : ∀ (args : Array Value) (w : World), (callFunc fid args).run Try.prog w = .ok (.enter fid args) w) (hR : RuleF fid r) :
    Calls Try.prog 59 #[.agg #[.slice A T.length c], .string name] w fun e w' => e = .returned (.bool (allRR T.length (r T))) ∧ Below w.heap.size w w' := by
  have k9 := k.hi
  have b0 := (Below.refl w.heap.size w).alloc (Nat.le_refl _) (.cells #[.slice A T.length c] 53)
  have z0 : (w.alloc (.cells #[.slice A T.length c] 53)).heap.size = w.heap.size + 1 := by simp
  have q0 : (w.alloc (.cells #[.slice A T.length c] 53)).cell? ⟨w.heap.size, 0, none⟩ = some (.slice A T.length c) := by simp
  have HC := hide hcf
  have HR := hide hR
  clear hcf hR
  go_enter Try.func59, Try.ntmps59
  go_wp2_with fail
  refine (asking_any A T.length c i name fid _ hf).mono ?_
  rintro e w1 ⟨p, q, rfl, b1, hp, hq⟩
  rw [z0] at b1
  have q1 := (b1.cell (p := ⟨w.heap.size, 0, none⟩) (by show w.heap.size < _; omega)).trans q0
  have B1 := b0.trans (b1.mono (by omega))
  clear q0
  go_wp2
  go_loopg [13] T.length (fun g i wr => ∃ a : Nat, a ≤ T.length ∧ Hid (g = T.length - a) ∧ i = .int .i64 a ∧ Below w1.heap.size w1 wr ∧ Hid (∀ j, j < a → allR T.length (r T) j = true))
  case atStart => exact ⟨0, Nat.zero_le _, rfl, rfl, Below.refl _ _, fun _ hj => absurd hj (Nat.not_lt_zero _)⟩
  case round =>
    obtain ⟨a, ha, hgk, rfl, hB, hH⟩ := hrel
    by_cases hlt : a < T.length
    · have BW := B1.trans (hB.mono B1.size)
      have hp' := (hB.cell (p := ⟨p, 0, none⟩) (World.block_lt_of_cell? _ _ hp)).trans hp
      have hq' := (hB.cell (p := ⟨q, 0, none⟩) (World.block_lt_of_cell? _ _ hq)).trans hq
      have hk := keeps_any A T.length c p q a fid (r T) wr k9 hp' hq' HC.out (fun wx b hb hx => HR.out A c lo hi T a b wx (h.below (BW.trans (hx.mono BW.size)) hh) (Nat.le_trans hh (BW.trans (hx.mono BW.size)).size) k hlt hb)
      cases hr : allR T.length (r T) a
      · rw [hr] at hk
        go_wp2_with (refine hk.mono ?_; rintro e w2 ⟨rfl, b2⟩)
        go_ret
        exact ⟨ret_bool (allRR_at hlt hr).symm, BW.trans (b2.mono BW.size)⟩
      · rw [hr] at hk
        go_wp2_with (refine hk.mono ?_; rintro e w2 ⟨rfl, b2⟩)
        go_roundg (T.length - (a + 1))
        case measure => go_light; have := hgk.out; omega
        case rel => go_light; exact ⟨a + 1, by omega, rfl, by go_num, hB.trans (b2.mono hB.size), fun j hj => by
          by_cases e : j = a
          · subst e; exact hr
          · exact hH j (by omega)⟩
    · obtain rfl : T.length = a := by omega
      go_wp2
      go_ret
      exact ⟨ret_bool (allRR_of hH.out).symm, B1.trans (hB.mono B1.size)⟩

theorem findOwn : Instr.findNow .string (.string kOwn) rules.toList 0 = some (some (0, .func (.func 93) #[] #[])) := by kernel_rfl
theorem callOwn (args : Array Value) (w : World) : (callFunc 93 args).run Try.prog w = .ok (.enter 93 args) w := by kernel_rfl
theorem ruleFOwn : RuleF 93 rOwn := fun A c lo hi T a b w h hh k ha hb => rule1_any A c lo hi T a b w h hh k ha hb
theorem findEither : Instr.findNow .string (.string kEither) rules.toList 0 = some (some (1, .func (.func 94) #[] #[])) := by kernel_rfl
theorem callEither (args : Array Value) (w : World) : (callFunc 94 args).run Try.prog w = .ok (.enter 94 args) w := by kernel_rfl
theorem ruleFEither : RuleF 94 rEither := fun A c lo hi T a b w h hh k ha hb => rule2_any A c lo hi T a b w h hh k ha hb
theorem findFirst : Instr.findNow .string (.string kFirst) rules.toList 0 = some (some (2, .func (.func 95) #[] #[])) := by kernel_rfl
theorem callFirst (args : Array Value) (w : World) : (callFunc 95 args).run Try.prog w = .ok (.enter 95 args) w := by kernel_rfl
theorem ruleFFirst : RuleF 95 rFirst := fun A c lo hi T a b w h hh k ha hb => rule3_any A c lo hi T a b w h hh k ha hb
set_option maxHeartbeats 1000000 in
theorem iBandOk_any (A : Option Addr) (c lo hi : Nat) (T : List (List Int)) (w : World) (h : Mat w lo hi A T) (hh : hi ≤ w.heap.size) (hS : Small T) :
    Calls Try.prog 28 #[.slice A T.length c] w fun e w' => e = .returned (.bool (bandT T)) ∧ Below w.heap.size w w' := by
  cases hg : grpT T
  · go_enter Try.func28, Try.ntmps28
    go_wp2_with fail
    refine (iGroupedOk_any A c lo hi T w h hh hS).mono ?_
    rw [hg]
    rintro e w1 ⟨rfl, b1⟩
    go_wp2
    go_ret
    exact ⟨ret_bool (bandT_grp hg).symm, b1⟩
  · have k := (grpT_iff.1 hg).tab
    have HE := hide (show bandT T = allRR T.length (rOwn T) from by unfold bandT; rw [hg]; rfl)
    go_enter Try.func28, Try.ntmps28
    go_wp2_with fail
    refine (iGroupedOk_any A c lo hi T w h hh hS).mono ?_
    rw [hg]
    rintro e w1 ⟨rfl, b1⟩
    go_wp2_with fail
    refine (allKeep_any A c lo hi _ T kOwn _ rOwn w1 (h.below b1 hh) (Nat.le_trans hh b1.size) k findOwn callOwn ruleFOwn).mono ?_
    rintro e w2 ⟨rfl, b2⟩
    go_wp2
    go_ret
    exact ⟨ret_bool HE.out.symm, b1.trans (b2.mono b1.size)⟩

set_option maxHeartbeats 1000000 in
theorem bandKeeping_any (A : Option Addr) (c lo hi i : Nat) (T : List (List Int)) (name : ByteArray) (fid : FuncId) (r : List (List Int) → Nat → Nat → Bool) (w : World) (h : Mat w lo hi A T) (hh : hi ≤ w.heap.size) (hS : Small T)
    (hf : Instr.findNow .string (.string name) rules.toList 0 = some (some (i, .func (.func fid) #[] #[]))) (hcf : ∀ (args : Array Value) (w : World), (callFunc fid args).run Try.prog w = .ok (.enter fid args) w) (hR : RuleF fid r) :
    Calls Try.prog 74 #[.slice A T.length c, .string name] w fun e w' => e = .returned (.bool (bandT T && allRR T.length (r T))) ∧ Below w.heap.size w w' := by
  have HC := hide hcf
  clear hcf
  cases hg : bandT T
  · go_enter Try.func74, Try.ntmps74
    go_wp2_with fail
    refine (iBandOk_any A c lo hi T w h hh hS).mono ?_
    rw [hg]
    rintro e w1 ⟨rfl, b1⟩
    go_wp2
    go_ret
    exact ⟨rfl, b1⟩
  · have k := (bandT_iff.1 hg).g.tab
    go_enter Try.func74, Try.ntmps74
    go_wp2_with fail
    refine (iBandOk_any A c lo hi T w h hh hS).mono ?_
    rw [hg]
    rintro e w1 ⟨rfl, b1⟩
    go_wp2_with fail
    refine (allKeep_any A c lo hi i T name fid r w1 (h.below b1 hh) (Nat.le_trans hh b1.size) k hf HC.out hR).mono ?_
    rintro e w2 ⟨rfl, b2⟩
    go_wp2
    go_ret
    exact ⟨rfl, b1.trans (b2.mono b1.size)⟩

set_option maxHeartbeats 1000000 in
theorem iMeetingOk_any (A : Option Addr) (c lo hi : Nat) (T : List (List Int)) (w : World) (h : Mat w lo hi A T) (hh : hi ≤ w.heap.size) (hS : Small T) :
    Calls Try.prog 40 #[.slice A T.length c] w fun e w' => e = .returned (.bool (meetT T)) ∧ Below w.heap.size w w' := by
  go_enter Try.func40, Try.ntmps40
  go_wp2_with fail
  refine (bandKeeping_any A c lo hi _ T kEither _ rEither w h hh hS findEither callEither ruleFEither).mono ?_
  rintro e w1 ⟨rfl, b1⟩
  go_wp2
  go_ret
  exact ⟨rfl, b1⟩

set_option maxHeartbeats 1000000 in
theorem iFirstOk_any (A : Option Addr) (c lo hi : Nat) (T : List (List Int)) (w : World) (h : Mat w lo hi A T) (hh : hi ≤ w.heap.size) (hS : Small T) :
    Calls Try.prog 34 #[.slice A T.length c] w fun e w' => e = .returned (.bool (firstT T)) ∧ Below w.heap.size w w' := by
  go_enter Try.func34, Try.ntmps34
  go_wp2_with fail
  refine (bandKeeping_any A c lo hi _ T kFirst _ rFirst w h hh hS findFirst callFirst ruleFFirst).mono ?_
  rintro e w1 ⟨rfl, b1⟩
  go_wp2
  go_ret
  exact ⟨rfl, b1⟩

end Go.Proofs.Ytnchipcpeeofaaa

namespace Go.Proofs.Ytnchipcpeeofaaa
open Go.RowKit
set_option linter.unusedVariables false
set_option linter.unusedSimpArgs false

theorem rowI_cell {w : World} {lo hi : Nat} {F : Option Addr} {f : List Int} (h : Row w lo hi F f) (h0 : 0 < f.length) : ∃ b o, F = some ⟨b, o, none⟩ ∧ b < hi ∧ ∀ j, j < f.length → w.cell? ⟨b, o + j, none⟩ = some (.int .i64 (el f j)) := by
  obtain ⟨b, o, rfl, _, hb, _⟩ := h 0 h0
  refine ⟨b, o, rfl, hb, fun j hj => ?_⟩
  obtain ⟨b', o', e, _, _, hc⟩ := h j hj
  injection e with e
  injection e with e1 e2
  subst e1 e2
  exact hc

set_option maxRecDepth 20000 in
set_option maxHeartbeats 4000000 in
theorem iMapOk_same (A : Option Addr) (c lo hi : Nat) (T : List (List Int)) (B : Option Addr) (c2 lo2 hi2 : Nat) (U : List (List Int)) (F : Option Addr) (c3 lo3 hi3 : Nat) (f : List Int) (w : World) (h : Mat w lo hi A T) (hS : Small T) (h2 : Mat w lo2 hi2 B U) (hS2 : Small U) (h3 : Row w lo3 hi3 F f) (hn : f.length ≤ 1048576) :
    Calls Try.prog 14 #[.slice A T.length c, .slice B U.length c2, .slice F f.length c3] w fun e w' => e = .returned (.bool (mapB T U f)) ∧ w = w' := by
  have hlT := hS.len
  have hlU := hS2.len
  cases hkT : okT T
  · have HR := hide (show mapB T U f = false from by unfold mapB; rw [hkT, Bool.false_and, Bool.and_false])
    go_enter Try.func14, Try.ntmps14
    go_wp2_with fail
    refine (iTableOk_any _ _ _ _ _ _ h hS).mono ?_
    rw [hkT]
    rintro e w_ ⟨rfl, rfl⟩
    go_wp2
    go_ret
    exact ⟨ret_bool HR.out.symm, rfl⟩
  · cases hkU : okT U
    · have HR := hide (show mapB T U f = false from by unfold mapB; rw [hkU, Bool.false_and, Bool.and_false, Bool.and_false])
      go_enter Try.func14, Try.ntmps14
      go_wp2_with fail
      refine (iTableOk_any _ _ _ _ _ _ h hS).mono ?_
      rw [hkT]
      rintro e w_ ⟨rfl, rfl⟩
      go_wp2_with fail
      refine (iTableOk_any _ _ _ _ _ _ h2 hS2).mono ?_
      rw [hkU]
      rintro e w_ ⟨rfl, rfl⟩
      go_wp2
      go_ret
      exact ⟨ret_bool HR.out.symm, rfl⟩
    · by_cases hd : f.length = T.length
      · have HR := hide (show mapB T U f = okRow U.length f from by unfold mapB; rw [hkU, hkT, decide_eq_true hd]; simp)
        have hq : ((f.length : Int) == (T.length : Int)) = true := by rw [beq_iff_eq]; omega
        clear hd
        go_enter Try.func14, Try.ntmps14
        go_wp2_with fail
        refine (iTableOk_any _ _ _ _ _ _ h hS).mono ?_
        rw [hkT]
        rintro e w_ ⟨rfl, rfl⟩
        go_wp2_with fail
        refine (iTableOk_any _ _ _ _ _ _ h2 hS2).mono ?_
        rw [hkU]
        rintro e w_ ⟨rfl, rfl⟩
        go_wp2_with fail
        refine (allThings_any _ _ _ _ _ _ _ h3 hn hlU).mono ?_
        rintro e w_ ⟨rfl, rfl⟩
        go_wp2
        go_ret
        exact ⟨ret_bool HR.out.symm, rfl⟩
      · have HR := hide (show mapB T U f = false from by unfold mapB; rw [decide_eq_false hd, Bool.and_false, Bool.and_false, Bool.and_false])
        have hq : ((f.length : Int) == (T.length : Int)) = false := by rw [beq_eq_false_iff_ne]; omega
        clear hd
        go_enter Try.func14, Try.ntmps14
        go_wp2_with fail
        refine (iTableOk_any _ _ _ _ _ _ h hS).mono ?_
        rw [hkT]
        rintro e w_ ⟨rfl, rfl⟩
        go_wp2_with fail
        refine (iTableOk_any _ _ _ _ _ _ h2 hS2).mono ?_
        rw [hkU]
        rintro e w_ ⟨rfl, rfl⟩
        go_wp2
        go_ret
        exact ⟨ret_bool HR.out.symm, rfl⟩
theorem iMapOk_any (A : Option Addr) (c lo hi : Nat) (T : List (List Int)) (B : Option Addr) (c2 lo2 hi2 : Nat) (U : List (List Int)) (F : Option Addr) (c3 lo3 hi3 : Nat) (f : List Int) (w : World) (h : Mat w lo hi A T) (hh : hi ≤ w.heap.size) (hS : Small T) (h2 : Mat w lo2 hi2 B U) (hh2 : hi2 ≤ w.heap.size) (hS2 : Small U) (h3 : Row w lo3 hi3 F f) (hh3 : hi3 ≤ w.heap.size) (hn : f.length ≤ 1048576) (hc : f.length ≤ c3) (hc2 : c3 ≤ 9223372036854775807) :
    Calls Try.prog 14 #[.slice A T.length c, .slice B U.length c2, .slice F f.length c3] w fun e w' => e = .returned (.bool (mapB T U f)) ∧ Below w.heap.size w w' :=
  (iMapOk_same A c lo hi T B c2 lo2 hi2 U F c3 lo3 hi3 f w h hS h2 hS2 h3 hn).mono fun e w' ⟨he, hw⟩ => ⟨he, by rw [← hw]; exact Below.refl _ _⟩

/-- What stays while products of both tables are asked. -/
structure GM (w : World) (A : Option Addr) (T : List (List Int)) (B : Option Addr) (U : List (List Int)) (w' : World) : Prop where
  t : ∃ lo hi, hi ≤ w.heap.size ∧ Mat w' lo hi A T
  u : ∃ lo hi, hi ≤ w.heap.size ∧ Mat w' lo hi B U
  size : w.heap.size < w'.heap.size
  below : Below w.heap.size w w'
section
variable {w w0 w1 : World} {A B : Option Addr} {T U : List (List Int)}
theorem GM.step (hb : Below w0.heap.size w0 w1) (h : GM w A T B U w0) : GM w A T B U w1 := by
  have hs := h.size
  obtain ⟨lo, hi, hh, ht⟩ := h.t
  obtain ⟨lo2, hi2, hh2, hu⟩ := h.u
  exact ⟨⟨lo, hi, hh, ht.below hb (by omega)⟩, ⟨lo2, hi2, hh2, hu.below hb (by omega)⟩, Nat.lt_of_lt_of_le hs hb.size, h.below.trans (hb.mono (Nat.le_of_lt hs))⟩
theorem GM.cell (hb : Below w0.heap.size w0 w1) (h : GM w A T B U w0) {p : Addr} {v : Option Value} (hp : p.block ≤ w.heap.size) (hc : w0.cell? p = v) : w1.cell? p = v :=
  (hb.cell (p := p) (Nat.lt_of_le_of_lt hp h.size)).trans hc
theorem GM.drew (h : GM w A T B U w0) : GM w A T B U w0.drew := ⟨h.t, h.u, h.size, h.below.drew⟩
theorem GM.pT (h : GM w A T B U w0) (k : IsT T) (c : Nat) {a b p : Nat} (ha : a < T.length) (hb : b < T.length) (hp : mul T (a : Int) (b : Int) = (p : Int)) :
    Calls Try.prog 65 #[.agg #[.slice A T.length c], .int .i64 a, .int .i64 b] w0 fun e w' => e = .returned (.int .i64 p) ∧ Below w0.heap.size w0 w' := by
  obtain ⟨lo, hi, hh, ht⟩ := h.t
  have hs := h.size
  rw [← hp]
  exact product_any A c lo hi T _ _ w0 ht (by omega) k (by omega) (by omega) (by omega) (by omega)
theorem GM.pU (h : GM w A T B U w0) (k : IsT U) (c : Nat) {x y : Nat} {z : Int} (hx : x < U.length) (hy : y < U.length) (hz : z = mul U (x : Int) (y : Int)) :
    Calls Try.prog 65 #[.agg #[.slice B U.length c], .int .i64 x, .int .i64 y] w0 fun e w' => e = .returned (.int .i64 z) ∧ Below w0.heap.size w0 w' := by
  obtain ⟨lo, hi, hh, hu⟩ := h.u
  have hs := h.size
  rw [hz]
  exact product_any B c lo hi U _ _ w0 hu (by omega) k (by omega) (by omega) (by omega) (by omega)
end

set_option maxRecDepth 20000 in
set_option maxHeartbeats 8000000 in
theorem mapKeeps_any (A : Option Addr) (c lo hi : Nat) (T : List (List Int)) (B : Option Addr) (c2 lo2 hi2 : Nat) (U : List (List Int)) (F : Option Addr) (c3 lo3 hi3 : Nat) (f : List Int) (a b : Nat) (w : World) (h : Mat w lo hi A T) (hh : hi ≤ w.heap.size) (h2 : Mat w lo2 hi2 B U) (hh2 : hi2 ≤ w.heap.size) (h3 : Row w lo3 hi3 F f) (hh3 : hi3 ≤ w.heap.size) (M : IsM T U f) (ha : a < T.length) (hb : b < T.length) :
    Calls Try.prog 82 #[.agg #[.slice A T.length c, .slice B U.length c2, .slice F f.length c3], .int .i64 a, .int .i64 b] w fun e w' => e = .returned (.bool (keepAt T U f a b)) ∧ Below w.heap.size w w' := by
  have k9 := M.t.hi
  have u9 := M.u.hi
  obtain ⟨p, hp, p1⟩ := mul_nat M.t ha hb
  obtain ⟨x, hx, x1⟩ := M.nat ha
  obtain ⟨y, hy, y1⟩ := M.nat hb
  obtain ⟨z, hz⟩ : ∃ z, z = mul U (x : Int) (y : Int) := ⟨_, rfl⟩
  obtain ⟨r, hr⟩ : ∃ r, r = el f p := ⟨_, rfl⟩
  have HK := hide (show keepAt T U f a b = (r == z) from by unfold keepAt; rw [hp, hx, hy, Int.toNat_natCast, hr, hz])
  have hl := M.len
  obtain ⟨bf, of_, rfl, hbf, hcF⟩ := rowI_cell h3 (by rw [hl]; exact M.t.lo)
  have b0 := (Below.refl w.heap.size w).alloc (Nat.le_refl _) (.cells #[.slice A T.length c, .slice B U.length c2, .slice (some ⟨bf, of_, none⟩) f.length c3] 55)
  have f1 := (b0.cell (p := ⟨bf, of_ + a, none⟩) (by show bf < _; omega)).trans (hcF a (by omega))
  have f2 := (b0.cell (p := ⟨bf, of_ + b, none⟩) (by show bf < _; omega)).trans (hcF b (by omega))
  have f3 := (b0.cell (p := ⟨bf, of_ + p, none⟩) (by show bf < _; omega)).trans (hcF p (by omega))
  rw [hx] at f1
  rw [hy] at f2
  rw [← hr] at f3
  have hG : GM w A T B U (w.alloc (.cells #[.slice A T.length c, .slice B U.length c2, .slice (some ⟨bf, of_, none⟩) f.length c3] 55)) := ⟨⟨lo, hi, hh, h.below b0 hh⟩, ⟨lo2, hi2, hh2, h2.below b0 hh2⟩, by simp, b0⟩
  have hbf' : bf ≤ w.heap.size := by omega
  have q0 : (0 : Int) ≤ (p : Int) := by omega
  have q1 : (p : Int) < (f.length : Int) := by omega
  have a0 : (0 : Int) ≤ (a : Int) := by omega
  have a1 : (a : Int) < (f.length : Int) := by omega
  have c0 : (0 : Int) ≤ (b : Int) := by omega
  have c1 : (b : Int) < (f.length : Int) := by omega
  have HP := hide (And.intro M.t (And.intro M.u (And.intro ha (And.intro hb (And.intro hp (And.intro x1 (And.intro y1 hz)))))))
  clear h h2 h3 hcF M hp hx hy hz hr hl b0 p1 x1 y1 ha hb hbf
  go_enter Try.func82, Try.ntmps82
  go_wp2_with fail
  go_region_held3 (fun w' => w'.cell? ⟨w.heap.size, 0, none⟩ = some (.slice A T.length c) ∧ w'.cell? ⟨w.heap.size, 1, none⟩ = some (.slice B U.length c2) ∧ w'.cell? ⟨w.heap.size, 2, none⟩ = some (.slice (some ⟨bf, of_, none⟩) f.length c3) ∧ w'.cell? ⟨bf, of_ + a, none⟩ = some (.int .i64 x) ∧ w'.cell? ⟨bf, of_ + b, none⟩ = some (.int .i64 y) ∧ w'.cell? ⟨bf, of_ + p, none⟩ = some (.int .i64 r) ∧ GM w A T B U w')
    (first
      | exact ⟨by simp, by simp, by simp, f1, f2, f3, hG.drew⟩
      | (go_split_ands
         exact ⟨GM.cell (by assumption) (by assumption) (Nat.le_refl _) (by assumption), GM.cell (by assumption) (by assumption) (Nat.le_refl _) (by assumption), GM.cell (by assumption) (by assumption) (Nat.le_refl _) (by assumption), GM.cell (by assumption) (by assumption) hbf' (by assumption), GM.cell (by assumption) (by assumption) hbf' (by assumption), GM.cell (by assumption) (by assumption) hbf' (by assumption), GM.step (by assumption) (by assumption)⟩))
    (first
      | (go_at_call 65
         go_split_ands
         with_reducible refine (GM.pT (a := a) (b := b) (p := p) (by assumption) HP.out.1 c HP.out.2.2.1 HP.out.2.2.2.1 HP.out.2.2.2.2.1).mono ?_
         rintro e w1 ⟨rfl, hb⟩)
      | (go_at_call 65
         go_split_ands
         with_reducible refine (GM.pU (x := x) (y := y) (z := z) (by assumption) HP.out.2.1 c2 HP.out.2.2.2.2.2.1 HP.out.2.2.2.2.2.2.1 HP.out.2.2.2.2.2.2.2).mono ?_
         rintro e w1 ⟨rfl, hb⟩))
  go_wp2
  go_ret
  go_split_ands
  exact ⟨ret_bool HK.out.symm, GM.below (by assumption)⟩
end Go.Proofs.Ytnchipcpeeofaaa

namespace Go.Proofs.Ytnchipcpeeofaaa
open Go.RowKit
set_option linter.unusedVariables false
set_option linter.unusedSimpArgs false

set_option maxRecDepth 20000 in
set_option maxHeartbeats 8000000 in
theorem mapKeepsAll_any (A : Option Addr) (c lo hi : Nat) (T : List (List Int)) (B : Option Addr) (c2 lo2 hi2 : Nat) (U : List (List Int)) (F : Option Addr) (c3 lo3 hi3 : Nat) (f : List Int) (w : World) (h : Mat w lo hi A T) (hh : hi ≤ w.heap.size) (h2 : Mat w lo2 hi2 B U) (hh2 : hi2 ≤ w.heap.size) (h3 : Row w lo3 hi3 F f) (hh3 : hi3 ≤ w.heap.size) (M : IsM T U f) :
    Calls Try.prog 54 #[.agg #[.slice A T.length c, .slice B U.length c2, .slice F f.length c3]] w fun e w' => e = .returned (.bool (allRR T.length (keepAt T U f))) ∧ Below w.heap.size w w' := by
  have k9 := M.t.hi
  obtain ⟨w1, hw1⟩ : ∃ w1, w1 = w.alloc (.cells #[.slice A T.length c, .slice B U.length c2, .slice F T.length c3] 55) := ⟨_, rfl⟩
  have b0 : Below w.heap.size w w1 := by rw [hw1]; exact (Below.refl w.heap.size w).alloc (Nat.le_refl _) _
  have z1 : w1.heap.size = w.heap.size + 1 := by rw [hw1]; simp
  have c0 : w1.cell? ⟨w.heap.size, 0, none⟩ = some (.slice A T.length c) := by rw [hw1]; simp
  have c1 : w1.cell? ⟨w.heap.size, 1, none⟩ = some (.slice B U.length c2) := by rw [hw1]; simp
  have d2 : w1.cell? ⟨w.heap.size, 2, none⟩ = some (.slice F T.length c3) := by rw [hw1]; simp
  have hlen := M.len
  have HH := hide (And.intro (h.below b0 hh) (And.intro (h2.below b0 hh2) (And.intro (h3.below b0 hh3) M)))
  have HB := hide b0
  have HZ := hide z1
  have HW1 := hide hw1
  clear h h2 h3 M b0 z1 hw1
  have HL := hide hlen
  rw [hlen]
  go_enter Try.func54, Try.ntmps54
  clear hlen
  go_wp2_with fail
  rw [← HW1.out]
  go_wp2
  go_loopg [8] T.length (fun g i wr => ∃ p : Nat, p ≤ T.length ∧ Hid (g = T.length - p) ∧ i = .int .i64 p ∧ wr.cell? ⟨w.heap.size, 0, none⟩ = some (.slice A T.length c) ∧ wr.cell? ⟨w.heap.size, 1, none⟩ = some (.slice B U.length c2) ∧ wr.cell? ⟨w.heap.size, 2, none⟩ = some (.slice F T.length c3) ∧ Hid (Below w1.heap.size w1 wr) ∧ Hid (∀ x, x < p → allR T.length (keepAt T U f) x = true))
  case atStart => exact ⟨0, Nat.zero_le _, rfl, rfl, c0, c1, d2, Below.refl _ _, fun j hj => absurd hj (Nat.not_lt_zero _)⟩
  case round =>
    clear c0 c1 d2
    obtain ⟨a, ha, hgk, rfl, c0, c1, d2, hB, hH⟩ := hrel
    by_cases hat : a < T.length
    · go_wp2
      go_loopg [14] T.length (fun g i wr => ∃ q : Nat, q ≤ T.length ∧ Hid (g = T.length - q) ∧ i = .int .i64 q ∧ wr.cell? ⟨w.heap.size, 0, none⟩ = some (.slice A T.length c) ∧ wr.cell? ⟨w.heap.size, 1, none⟩ = some (.slice B U.length c2) ∧ wr.cell? ⟨w.heap.size, 2, none⟩ = some (.slice F T.length c3) ∧ Hid (Below w1.heap.size w1 wr) ∧ Hid (∀ y, y < q → keepAt T U f a y = true))
      case atStart => exact ⟨0, Nat.zero_le _, rfl, rfl, c0, c1, d2, hB.out, fun j hj => absurd hj (Nat.not_lt_zero _)⟩
      case round =>
        clear c0 c1 d2 hB
        obtain ⟨b, hb, hgk2, rfl, c0, c1, d2, hB, hH2⟩ := hrel
        by_cases hbt : b < T.length
        · go_wp2_with fail
          have s1 := HZ.out
          have sw := hB.out.size
          have kq := mapKeeps_any A c lo hi T B c2 lo2 hi2 U F c3 lo3 hi3 f a b wr (HH.out.1.below hB.out (by omega)) (by omega) (HH.out.2.1.below hB.out (by omega)) (by omega) (HH.out.2.2.1.below hB.out (by omega)) (by omega) HH.out.2.2.2 hat hbt
          rw [HL.out] at kq
          refine kq.mono ?_
          clear kq s1 sw
          rintro e w2 ⟨rfl, b2⟩
          have s1 := HZ.out
          have sw := hB.out.size
          have e0 := (b2.cell (p := ⟨w.heap.size, 0, none⟩) (by show w.heap.size < _; omega)).trans c0
          have e1 := (b2.cell (p := ⟨w.heap.size, 1, none⟩) (by show w.heap.size < _; omega)).trans c1
          have e2 := (b2.cell (p := ⟨w.heap.size, 2, none⟩) (by show w.heap.size < _; omega)).trans d2
          have HB2 := hide (hB.out.trans (b2.mono sw))
          clear c0 c1 d2 b2 s1 sw
          cases ha' : keepAt T U f a b
          · have HX := hide (allRR_false hat hbt ha')
            clear ha'
            go_wp2
            go_ret
            exact ⟨ret_bool HX.out.symm, HB.out.trans (HB2.out.mono HB.out.size)⟩
          · have HK := hide ha'
            clear ha'
            go_wp2
            go_roundg (T.length - (b + 1))
            case measure => go_light; have := hgk2.out; omega
            case rel => go_light; exact ⟨b + 1, by omega, rfl, by go_num, e0, e1, e2, HB2.out, fun j hj => by
              by_cases e : j = b
              · subst e; exact HK.out
              · exact hH2.out j (by omega)⟩
        · obtain rfl : T.length = b := by omega
          have HX := hide (allR_iff.2 hH2.out)
          go_wp2
          go_roundg (T.length - (a + 1))
          case measure => go_light; have := hgk.out; omega
          case rel => go_light; exact ⟨a + 1, by omega, rfl, by go_num, c0, c1, d2, hB.out, fun j hj => by
            by_cases e : j = a
            · subst e; exact HX.out
            · exact hH.out j (by omega)⟩
    · obtain rfl : T.length = a := by omega
      have HX := hide (allRR_of hH.out)
      go_wp2
      go_ret
      exact ⟨ret_bool HX.out.symm, HB.out.trans (hB.out.mono HB.out.size)⟩

set_option maxRecDepth 20000 in
set_option maxHeartbeats 4000000 in
theorem iKeepsOk_any (A : Option Addr) (c lo hi : Nat) (T : List (List Int)) (B : Option Addr) (c2 lo2 hi2 : Nat) (U : List (List Int)) (F : Option Addr) (c3 lo3 hi3 : Nat) (f : List Int) (w : World) (h : Mat w lo hi A T) (hh : hi ≤ w.heap.size) (hS : Small T) (h2 : Mat w lo2 hi2 B U) (hh2 : hi2 ≤ w.heap.size) (hS2 : Small U) (h3 : Row w lo3 hi3 F f) (hh3 : hi3 ≤ w.heap.size) (hn : f.length ≤ 1048576) (hc : f.length ≤ c3) (hc2 : c3 ≤ 9223372036854775807) :
    Calls Try.prog 19 #[.slice A T.length c, .slice B U.length c2, .slice F f.length c3] w fun e w' => e = .returned (.bool (keepB T U f)) ∧ Below w.heap.size w w' := by
  cases hm : mapB T U f
  · have HE := hide (keepB_not hm)
    go_enter Try.func19, Try.ntmps19
    go_wp2_with fail
    refine (iMapOk_same _ _ _ _ T _ _ _ _ U _ _ _ _ f w h hS h2 hS2 h3 hn).mono ?_
    rw [hm]
    rintro e w_ ⟨rfl, rfl⟩
    go_wp2
    go_ret
    exact ⟨ret_bool HE.out.symm, Below.refl _ _⟩
  · have HE := hide (show keepB T U f = allRR T.length (keepAt T U f) from by unfold keepB; rw [hm, Bool.true_and])
    have HM := hide (mapB_iff.1 hm)
    go_enter Try.func19, Try.ntmps19
    go_wp2_with fail
    refine (iMapOk_same _ _ _ _ T _ _ _ _ U _ _ _ _ f w h hS h2 hS2 h3 hn).mono ?_
    rw [hm]
    rintro e w_ ⟨rfl, rfl⟩
    go_wp2_with fail
    refine (mapKeepsAll_any A c lo hi T B c2 lo2 hi2 U F c3 lo3 hi3 f w h hh h2 hh2 h3 hh3 HM.out).mono ?_
    rintro e w2 ⟨rfl, b2⟩
    go_wp2
    go_ret
    exact ⟨ret_bool HE.out.symm, b2⟩

set_option maxRecDepth 20000 in
set_option maxHeartbeats 4000000 in
theorem mapReached_any (A : Option Addr) (c : Nat) (T : List (List Int)) (B : Option Addr) (c2 : Nat) (U : List (List Int)) (F : Option Addr) (c3 lo3 hi3 : Nat) (f : List Int) (w : World) (h3 : Row w lo3 hi3 F f) (hh3 : hi3 ≤ w.heap.size) (M : IsM T U f) :
    Calls Try.prog 56 #[.agg #[.slice A T.length c, .slice B U.length c2, .slice F f.length c3]] w fun e w' => e = .returned (.int .i64 (reachB f f.length : Nat)) ∧ Below w.heap.size w w' := by
  have k9 := M.t.hi
  have u9 := M.u.hi
  have hl := M.len
  obtain ⟨bf, of_, rfl, hbf, hcF⟩ := rowI_cell h3 (by rw [M.len]; exact M.t.lo)
  obtain ⟨w1, hw1⟩ : ∃ w1, w1 = w.alloc (.cells #[.slice A T.length c, .slice B U.length c2, .slice (some ⟨bf, of_, none⟩) f.length c3] 55) := ⟨_, rfl⟩
  have b0 : Below w.heap.size w w1 := by rw [hw1]; exact (Below.refl w.heap.size w).alloc (Nat.le_refl _) _
  have d2 : w1.cell? ⟨w.heap.size, 2, none⟩ = some (.slice (some ⟨bf, of_, none⟩) f.length c3) := by rw [hw1]; simp
  have HF := hide (show ∀ j, j < f.length → w1.cell? ⟨bf, of_ + j, none⟩ = some (.int .i64 (el f j)) from fun j hj => (b0.cell (p := ⟨bf, of_ + j, none⟩) (by show bf < _; omega)).trans (hcF j hj))
  have HM := hide M
  have HB := hide b0
  have HW1 := hide hw1
  have hf9 : f.length ≤ 9 := by omega
  have HL := hide hl
  clear h3 M b0 hw1 hcF hl
  go_enter Try.func56, Try.ntmps56
  go_wp2_with fail
  rw [← HW1.out]
  go_wp2
  go_loopg [9, 3] f.length (fun g i s wr => ∃ k : Nat, k ≤ f.length ∧ Hid (g = f.length - k) ∧ i = .int .i64 k ∧ s = .int .i64 (reachB f k : Nat) ∧ Hid (QD w1 wr))
  case atStart => exact ⟨0, Nat.zero_le _, rfl, rfl, rfl, QD.refl _⟩
  case round =>
    obtain ⟨k, hk, hgk, rfl, rfl, hQ⟩ := hrel
    by_cases hlt : k < f.length
    · have hl := HL.out
      obtain ⟨x, hx, x1⟩ := HM.out.nat (a := k) (by omega)
      have f1 := HF.out k hlt
      have hcw : ∀ q, wr.cell? q = w1.cell? q := fun q => by simp [World.cell?, hQ.out.heap]
      rw [hx, ← hcw] at f1
      have x9 : x ≤ 9 := by omega
      obtain ⟨g1, g2⟩ := pow_int x9
      have hm1 : reachB f k < 1024 := by
        have := reachB_lt HM.out k (by omega)
        have := (pow_le9 u9).2
        omega
      have HX := hide (show reachB f (k + 1) = reachB f k ||| 2 ^ x from by rw [reachB, hx, Int.toNat_natCast])
      have HOR := hide (or_pow hm1 x9)
      clear hcw hx hl
      go_wp2
      go_roundg (f.length - (k + 1))
      case measure => go_light; have := hgk.out; omega
      case rel => go_light; exact ⟨k + 1, by omega, rfl, by go_num, by rw [HX.out, HOR.out], by first | exact hQ.out | exact hQ.out.drew | exact hQ.out.drewN _⟩
    · obtain rfl : f.length = k := by omega
      go_wp2
      go_ret
      exact ⟨rfl, HB.out.trans (hQ.out.below _)⟩

set_option maxRecDepth 20000 in
set_option maxHeartbeats 4000000 in
theorem iReachedBy_any (A : Option Addr) (c lo hi : Nat) (T : List (List Int)) (B : Option Addr) (c2 lo2 hi2 : Nat) (U : List (List Int)) (F : Option Addr) (c3 lo3 hi3 : Nat) (f : List Int) (w : World) (h : Mat w lo hi A T) (hh : hi ≤ w.heap.size) (hS : Small T) (h2 : Mat w lo2 hi2 B U) (hh2 : hi2 ≤ w.heap.size) (hS2 : Small U) (h3 : Row w lo3 hi3 F f) (hh3 : hi3 ≤ w.heap.size) (hn : f.length ≤ 1048576) (hc : f.length ≤ c3) (hc2 : c3 ≤ 9223372036854775807) :
    Calls Try.prog 25 #[.slice A T.length c, .slice B U.length c2, .slice F f.length c3] w fun e w' => e = .returned (.int .i64 (reachS T U f)) ∧ Below w.heap.size w w' := by
  cases hm : mapB T U f
  · have HE := hide (reachS_not hm)
    go_enter Try.func25, Try.ntmps25
    go_wp2_with fail
    refine (iMapOk_same _ _ _ _ T _ _ _ _ U _ _ _ _ f w h hS h2 hS2 h3 hn).mono ?_
    rw [hm]
    rintro e w_ ⟨rfl, rfl⟩
    go_wp2
    go_ret
    exact ⟨ret_int HE.out.symm, Below.refl _ _⟩
  · have HE := hide (reachS_ok hm)
    have HM := hide (mapB_iff.1 hm)
    go_enter Try.func25, Try.ntmps25
    go_wp2_with fail
    refine (iMapOk_same _ _ _ _ T _ _ _ _ U _ _ _ _ f w h hS h2 hS2 h3 hn).mono ?_
    rw [hm]
    rintro e w_ ⟨rfl, rfl⟩
    go_wp2_with fail
    refine (mapReached_any A c T B c2 U F c3 lo3 hi3 f w h3 hh3 HM.out).mono ?_
    rintro e w2 ⟨rfl, b2⟩
    go_wp2
    go_ret
    exact ⟨ret_int HE.out.symm, b2⟩
end Go.Proofs.Ytnchipcpeeofaaa
