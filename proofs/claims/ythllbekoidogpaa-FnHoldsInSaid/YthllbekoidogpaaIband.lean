/-  -/
import Derived.Test.YthllbekoidogpaaGrp
import Derived.Test.YthllbekoidogpaaBandP
import Derived.Maps.OwnOps
import Derived.MapKept
import Derived.Laws.EntriesVeiled
import Derived.Deep.RegionHeld3
import Derived.Test.YthllbekoidogpaaRectP
import Derived.Test.YthllbekoidogpaaPureX
namespace Go.Proofs.Ythllbekoidogpaa
open Go.RowKit
set_option linter.unusedVariables false


/-- A map of the call's own of which all entries are known. -/
def MapAt (w W : World) (b : Nat) (es : Array MapEntry) (clock : Nat) : Prop := W.heap[b]? = some (.map es clock) ∧ w.heap.size ≤ b ∧ Below w.heap.size w W

/-- A new key. -/
theorem ins_step {P : Program} {ops : Array Oper} {rest : List Oper} {o : Oper} {a : Act} {Q : Exit → Act → World → Prop} {w W : World} {m x y : Operand} {t k e : TypeId} {b clock : Nat} {es : Array MapEntry} {s : ByteArray} {v : Value}
    (hg : o.guard = none) (hop : o.op = Op.insert t m x y) (ht : P.underlying t = some (.map k e)) (hk : P.underlying k = some .string)
    (hm : a.eval m = .map (some b)) (hx : a.eval x = .string s) (hv : a.eval y = v) (hM : MapAt w W b es clock) (hnew : Instr.findNow .string (.string s) es.toList 0 = some none)
    (K : ∀ W', MapAt w W' b (es.push { key := .string s, val := v, born := clock }) (clock + 1) → wpList P ops Q rest (a.put o.dst undef) W') : wpList P ops Q (o :: rest) a W := by
  obtain ⟨hb, h1, h2⟩ := hM
  have hrun : (Instr.mapUpdate t (.map (some b)) (.string s) v).run P W = .ok () { W with heap := W.heap.setIfInBounds b (.map (es.push { key := .string s, val := v, born := clock }) (clock + 1)) } := by
    simp [Instr.mapUpdate, run_underlying ht, MapKept.run_getObj_map hb, MapKept.run_checkKey (k := .string s) hk (by simp [MapKept.IsKey]), MapKept.run_findKey hk hnew, MapKept.run_setObj_map _ hb, Result.andThen]
  refine wpList_plain hg fun K' hK' => ?_
  unfold Oper.wp
  simp [execOp, hop, hm, hx, hv, hrun, Result.andThen]
  refine hK' _ _ (K _ ⟨(MapKept.heap_set hb).1, h1, ⟨h2.os, h2.tape, h2.output, by simpa using h2.size, fun j hj => ((MapKept.heap_set hb).2 j (by omega)).trans (h2.block j hj)⟩⟩)
/-- A key that is there. -/
theorem look_run {P : Program} {w W : World} {t k e : TypeId} {b clock i : Nat} {es : Array MapEntry} {s : ByteArray} {v : Value}
    (ht : P.underlying t = some (.map k e)) (hk : P.underlying k = some .string) (hM : MapAt w W b es clock) (hold : Instr.findNow .string (.string s) es.toList 0 = some (some (i, v))) :
    (Instr.lookup t (.map (some b)) (.string s) false).run P W = .ok v W := by
  obtain ⟨hb, h1, h2⟩ := hM
  cases he : es.isEmpty
  all_goals simp [Instr.lookup, run_underlying ht, MapKept.run_getObj_map hb, MapKept.run_checkKey (k := .string s) hk (by simp [MapKept.IsKey]), MapKept.run_findKey hk hold, Result.andThen]

def kOwn : ByteArray := ⟨#[111, 119, 110, 32, 115, 113, 117, 97, 114, 101]⟩
def kEither : ByteArray := ⟨#[101, 105, 116, 104, 101, 114, 32, 111, 114, 100, 101, 114]⟩
def kFirst : ByteArray := ⟨#[102, 105, 114, 115, 116, 32, 116, 104, 105, 110, 103]⟩
def kLeft : ByteArray := ⟨#[108, 101, 102, 116, 32, 111, 117, 116]⟩
def kBack : ByteArray := ⟨#[99, 111, 109, 101, 115, 32, 98, 97, 99, 107]⟩
def kZero : ByteArray := ⟨#[122, 101, 114, 111]⟩
def kOne : ByteArray := ⟨#[111, 110, 101]⟩
/-- The rules by their names. -/
def rules : Array MapEntry := #[{ key := .string kOwn, val := .func (.func 109) #[] #[], born := 0 }, { key := .string kEither, val := .func (.func 110) #[] #[], born := 1 }, { key := .string kFirst, val := .func (.func 111) #[] #[], born := 2 }, { key := .string kLeft, val := .func (.func 112) #[] #[], born := 3 }, { key := .string kBack, val := .func (.func 114) #[] #[], born := 4 }, { key := .string kZero, val := .func (.func 115) #[] #[], born := 5 }, { key := .string kOne, val := .func (.func 116) #[] #[], born := 6 }]

set_option maxHeartbeats 2000000 in
theorem rulesByName_any (w : World) : Calls Try.prog 104 #[] w fun e w' => e = .returned (.map (some w.heap.size)) ∧ MapAt w w' w.heap.size rules 7 := by
  have hmm := @run_makeMap Try.prog
  have hM0 : MapAt w (w.alloc (.map #[] 0)) w.heap.size #[] 0 := ⟨(MapKept.heap_alloc w _).1, Nat.le_refl _, (Below.refl w.heap.size w).alloc (Nat.le_refl _) _⟩
  go_enter Try.func104, Try.ntmps104
  go_wp2_with (first
    | (refine ins_step (by rfl) (by rfl) Try.underlying101 Try.underlying9 (by rfl) (by rfl) (by rfl) hM0 (by kernel_rfl) ?_; clear hM0; intro W1 hM1)
    | (refine ins_step (by rfl) (by rfl) Try.underlying101 Try.underlying9 (by rfl) (by rfl) (by rfl) hM1 (by kernel_rfl) ?_; clear hM1; intro W2 hM2)
    | (refine ins_step (by rfl) (by rfl) Try.underlying101 Try.underlying9 (by rfl) (by rfl) (by rfl) hM2 (by kernel_rfl) ?_; clear hM2; intro W3 hM3)
    | (refine ins_step (by rfl) (by rfl) Try.underlying101 Try.underlying9 (by rfl) (by rfl) (by rfl) hM3 (by kernel_rfl) ?_; clear hM3; intro W4 hM4)
    | (refine ins_step (by rfl) (by rfl) Try.underlying101 Try.underlying9 (by rfl) (by rfl) (by rfl) hM4 (by kernel_rfl) ?_; clear hM4; intro W5 hM5)
    | (refine ins_step (by rfl) (by rfl) Try.underlying101 Try.underlying9 (by rfl) (by rfl) (by rfl) hM5 (by kernel_rfl) ?_; clear hM5; intro W6 hM6)
    | (refine ins_step (by rfl) (by rfl) Try.underlying101 Try.underlying9 (by rfl) (by rfl) (by rfl) hM6 (by kernel_rfl) ?_; clear hM6; intro W7 hM7))
  go_ret
  exact ⟨rfl, hM7⟩
end Go.Proofs.Ythllbekoidogpaa

namespace Go.Proofs.Ythllbekoidogpaa
open Go.RowKit
set_option linter.unusedVariables false


/-- Whether a number was found. -/
def okI (x : Int) : Bool := decide (0 ≤ x)
theorem okI_nat (k : Nat) : okI (k : Int) = true := by simp [okI]
theorem okI_not : okI (-1) = false := by decide

set_option maxHeartbeats 2000000 in
theorem rule1_any (A : Option Addr) (c lo hi : Nat) (T : List (List Int)) (a b : Nat) (w : World) (h : Mat w lo hi A T) (hh : hi ≤ w.heap.size) (k : IsT T) (ha : a < T.length) (hb : b < T.length) :
    Calls Try.prog 109 #[.agg #[.slice A T.length c], .int .i64 a, .int .i64 b] w fun e w' => e = .returned (.bool (rOwn T a b)) ∧ Below w.heap.size w w' := by
  have b0 := (Below.refl w.heap.size w).alloc (Nat.le_refl _) (.cells #[.slice A T.length c] 61)
  have z0 : hi ≤ (w.alloc (.cells #[.slice A T.length c] 61)).heap.size := by simp; omega
  obtain ⟨m0, m1⟩ := k.mul (x := (a : Nat)) (y := (b : Nat)) (by omega) (by omega) (by omega) (by omega)
  go_enter Try.func109, Try.ntmps109
  go_wp2_with (go_at_call 62; refine (product_any _ _ lo hi T (a : Int) (a : Int) _ (h.below b0 hh) z0 k (by omega) (by omega) (by omega) (by omega)).mono ?_; rintro e w1 ⟨rfl, b1⟩)
  go_ret
  exact ⟨rfl, b0.trans (b1.mono (by simp))⟩

set_option maxHeartbeats 2000000 in
theorem rule2_any (A : Option Addr) (c lo hi : Nat) (T : List (List Int)) (a b : Nat) (w : World) (h : Mat w lo hi A T) (hh : hi ≤ w.heap.size) (k : IsT T) (ha : a < T.length) (hb : b < T.length) :
    Calls Try.prog 110 #[.agg #[.slice A T.length c], .int .i64 a, .int .i64 b] w fun e w' => e = .returned (.bool (rEither T a b)) ∧ Below w.heap.size w w' := by
  have b0 := (Below.refl w.heap.size w).alloc (Nat.le_refl _) (.cells #[.slice A T.length c] 61)
  have z0 : hi ≤ (w.alloc (.cells #[.slice A T.length c] 61)).heap.size := by simp; omega
  obtain ⟨m0, m1⟩ := k.mul (x := (a : Nat)) (y := (b : Nat)) (by omega) (by omega) (by omega) (by omega)
  have hG : GS w lo hi A T (w.alloc (.cells #[.slice A T.length c] 61)) := ⟨h.below b0 hh, hh, by simp, b0⟩
  have a0 : (0 : Int) ≤ (a : Int) := by omega
  have a1 : (a : Int) < (T.length : Int) := by omega
  have c0 : (0 : Int) ≤ (b : Int) := by omega
  have c1 : (b : Int) < (T.length : Int) := by omega
  go_enter Try.func110, Try.ntmps110
  go_wp2_with fail
  go_region_held3 (fun w' => w'.cell? ⟨w.heap.size, 0, none⟩ = some (.slice A T.length c) ∧ GS w lo hi A T w')
    (first
      | exact ⟨by simp, hG.drew⟩
      | (go_split_ands
         exact ⟨GS.cell (by assumption) (by assumption) (by assumption), GS.step (by assumption) (by assumption)⟩))
    (first
      | (go_at_call 62
         refine (product_any _ _ lo hi T _ _ _ ?_ ?_ k ?_ ?_ ?_ ?_).mono ?_
         · go_split_ands
           exact GS.mat (by assumption)
         · go_split_ands
           exact GS.top (by assumption)
         · assumption
         · assumption
         · assumption
         · assumption
         rintro e w1 ⟨rfl, hb⟩))
  go_wp2
  go_ret
  go_split_ands
  exact ⟨rfl, GS.below (by assumption)⟩

set_option maxHeartbeats 2000000 in
theorem rule3_any (A : Option Addr) (c lo hi : Nat) (T : List (List Int)) (a b : Nat) (w : World) (h : Mat w lo hi A T) (hh : hi ≤ w.heap.size) (k : IsT T) (ha : a < T.length) (hb : b < T.length) :
    Calls Try.prog 111 #[.agg #[.slice A T.length c], .int .i64 a, .int .i64 b] w fun e w' => e = .returned (.bool (rFirst T a b)) ∧ Below w.heap.size w w' := by
  have b0 := (Below.refl w.heap.size w).alloc (Nat.le_refl _) (.cells #[.slice A T.length c] 61)
  have z0 : hi ≤ (w.alloc (.cells #[.slice A T.length c] 61)).heap.size := by simp; omega
  obtain ⟨m0, m1⟩ := k.mul (x := (a : Nat)) (y := (b : Nat)) (by omega) (by omega) (by omega) (by omega)
  go_enter Try.func111, Try.ntmps111
  go_wp2_with (go_at_call 62; refine (product_any _ _ lo hi T (a : Int) (b : Int) _ (h.below b0 hh) z0 k (by omega) (by omega) (by omega) (by omega)).mono ?_; rintro e w1 ⟨rfl, b1⟩)
  go_ret
  exact ⟨rfl, b0.trans (b1.mono (by simp))⟩

set_option maxHeartbeats 2000000 in
theorem around_any (A : Option Addr) (c lo hi : Nat) (T : List (List Int)) (a b : Nat) (w : World) (h : Mat w lo hi A T) (hh : hi ≤ w.heap.size) (k : IsT T) (ha : a < T.length) (hb : b < T.length) :
    Calls Try.prog 113 #[.agg #[.slice A T.length c], .int .i64 a, .int .i64 b] w fun e w' => e = .returned (.int .i64 (mul T (mul T (a : Int) (b : Int)) (a : Int))) ∧ Below w.heap.size w w' := by
  have b0 := (Below.refl w.heap.size w).alloc (Nat.le_refl _) (.cells #[.slice A T.length c] 61)
  have z0 : hi ≤ (w.alloc (.cells #[.slice A T.length c] 61)).heap.size := by simp; omega
  obtain ⟨m0, m1⟩ := k.mul (x := (a : Nat)) (y := (b : Nat)) (by omega) (by omega) (by omega) (by omega)
  have hG : GS w lo hi A T (w.alloc (.cells #[.slice A T.length c] 61)) := ⟨h.below b0 hh, hh, by simp, b0⟩
  have a0 : (0 : Int) ≤ (a : Int) := by omega
  have a1 : (a : Int) < (T.length : Int) := by omega
  have c0 : (0 : Int) ≤ (b : Int) := by omega
  have c1 : (b : Int) < (T.length : Int) := by omega
  go_enter Try.func113, Try.ntmps113
  go_wp2_with fail
  go_region_held3 (fun w' => w'.cell? ⟨w.heap.size, 0, none⟩ = some (.slice A T.length c) ∧ GS w lo hi A T w')
    (first
      | exact ⟨by simp, hG.drew⟩
      | (go_split_ands
         exact ⟨GS.cell (by assumption) (by assumption) (by assumption), GS.step (by assumption) (by assumption)⟩))
    (first
      | (go_at_call 62
         refine (product_any _ _ lo hi T _ _ _ ?_ ?_ k ?_ ?_ ?_ ?_).mono ?_
         · go_split_ands
           exact GS.mat (by assumption)
         · go_split_ands
           exact GS.top (by assumption)
         · assumption
         · assumption
         · assumption
         · assumption
         rintro e w1 ⟨rfl, hb⟩))
  go_wp2
  go_ret
  go_split_ands
  exact ⟨rfl, GS.below (by assumption)⟩

set_option maxHeartbeats 2000000 in
theorem rule4_any (A : Option Addr) (c lo hi : Nat) (T : List (List Int)) (a b : Nat) (w : World) (h : Mat w lo hi A T) (hh : hi ≤ w.heap.size) (k : IsT T) (ha : a < T.length) (hb : b < T.length) :
    Calls Try.prog 112 #[.agg #[.slice A T.length c], .int .i64 a, .int .i64 b] w fun e w' => e = .returned (.bool (rLeft T a b)) ∧ Below w.heap.size w w' := by
  have b0 := (Below.refl w.heap.size w).alloc (Nat.le_refl _) (.cells #[.slice A T.length c] 61)
  have z0 : hi ≤ (w.alloc (.cells #[.slice A T.length c] 61)).heap.size := by simp; omega
  obtain ⟨m0, m1⟩ := k.mul (x := (a : Nat)) (y := (b : Nat)) (by omega) (by omega) (by omega) (by omega)
  have hG : GS w lo hi A T (w.alloc (.cells #[.slice A T.length c] 61)) := ⟨h.below b0 hh, hh, by simp, b0⟩
  have a0 : (0 : Int) ≤ (a : Int) := by omega
  have a1 : (a : Int) < (T.length : Int) := by omega
  have c0 : (0 : Int) ≤ (b : Int) := by omega
  have c1 : (b : Int) < (T.length : Int) := by omega
  go_enter Try.func112, Try.ntmps112
  go_wp2_with fail
  go_region_held3 (fun w' => w'.cell? ⟨w.heap.size, 0, none⟩ = some (.slice A T.length c) ∧ GS w lo hi A T w')
    (first
      | exact ⟨by simp, hG.drew⟩
      | (go_split_ands
         exact ⟨GS.cell (by assumption) (by assumption) (by assumption), GS.step (by assumption) (by assumption)⟩))
    (first
      | (go_at_call 113
         refine (around_any _ _ lo hi T _ _ _ ?_ ?_ k ha hb).mono ?_
         · go_split_ands
           exact GS.mat (by assumption)
         · go_split_ands
           exact GS.top (by assumption)
         rintro e w1 ⟨rfl, hb⟩)
      | (go_at_call 62
         refine (product_any _ _ lo hi T _ _ _ ?_ ?_ k ?_ ?_ ?_ ?_).mono ?_
         · go_split_ands
           exact GS.mat (by assumption)
         · go_split_ands
           exact GS.top (by assumption)
         · assumption
         · assumption
         · assumption
         · assumption
         rintro e w1 ⟨rfl, hb⟩))
  go_wp2
  go_ret
  go_split_ands
  exact ⟨rfl, GS.below (by assumption)⟩

set_option maxHeartbeats 2000000 in
theorem back_any (A : Option Addr) (c lo hi : Nat) (T : List (List Int)) (a b : Nat) (w : World) (h : Mat w lo hi A T) (hh : hi ≤ w.heap.size) (k : IsT T) (ha : a < T.length) (hb : b < T.length) :
    Calls Try.prog 114 #[.agg #[.slice A T.length c], .int .i64 a, .int .i64 b] w fun e w' => e = .returned (.bool (rRect T a b)) ∧ Below w.heap.size w w' := by
  have b0 := (Below.refl w.heap.size w).alloc (Nat.le_refl _) (.cells #[.slice A T.length c] 61)
  have z0 : hi ≤ (w.alloc (.cells #[.slice A T.length c] 61)).heap.size := by simp; omega
  obtain ⟨m0, m1⟩ := k.mul (x := (a : Nat)) (y := (b : Nat)) (by omega) (by omega) (by omega) (by omega)
  go_enter Try.func114, Try.ntmps114
  go_wp2_with (go_at_call 113; refine (around_any _ _ lo hi T a b _ (h.below b0 hh) z0 k ha hb).mono ?_; rintro e w1 ⟨rfl, b1⟩)
  go_ret
  exact ⟨rfl, b0.trans (b1.mono (by simp))⟩

set_option maxHeartbeats 2000000 in
theorem absorbs_any (A : Option Addr) (c lo hi : Nat) (T : List (List Int)) (a b : Nat) (w : World) (h : Mat w lo hi A T) (hh : hi ≤ w.heap.size) (k : IsT T) (ha : a < T.length) (hb : b < T.length) :
    Calls Try.prog 115 #[.agg #[.slice A T.length c], .int .i64 a, .int .i64 b] w fun e w' => e = .returned (.bool (rZero T a b)) ∧ Below w.heap.size w w' := by
  have b0 := (Below.refl w.heap.size w).alloc (Nat.le_refl _) (.cells #[.slice A T.length c] 61)
  have z0 : hi ≤ (w.alloc (.cells #[.slice A T.length c] 61)).heap.size := by simp; omega
  obtain ⟨m0, m1⟩ := k.mul (x := (a : Nat)) (y := (b : Nat)) (by omega) (by omega) (by omega) (by omega)
  cases e1 : (mul T (a : Int) (b : Int) == (a : Int))
  · go_enter Try.func115, Try.ntmps115
    go_wp2_with fail
    refine (product_any _ _ lo hi T (a : Int) (b : Int) _ (h.below b0 hh) z0 k (by omega) (by omega) (by omega) (by omega)).mono ?_
    rintro e w1 ⟨rfl, b1⟩
    have bb1 := b0.trans (b1.mono (by simp))
    go_wp2
    go_ret
    exact ⟨ret_bool (by unfold rZero; rw [e1]; rfl), bb1⟩
  · go_enter Try.func115, Try.ntmps115
    go_wp2_with fail
    refine (product_any _ _ lo hi T (a : Int) (b : Int) _ (h.below b0 hh) z0 k (by omega) (by omega) (by omega) (by omega)).mono ?_
    rintro e w1 ⟨rfl, b1⟩
    have bb1 := b0.trans (b1.mono (by simp))
    have z1 := bb1.size
    have hcell : w1.cell? ⟨w.heap.size, 0, none⟩ = some (.slice A T.length c) := (b1.cell (p := ⟨w.heap.size, 0, none⟩) (by simp)).trans (by simp)
    go_wp2_with fail
    refine (product_any _ _ lo hi T (b : Int) (a : Int) _ (h.below bb1 hh) (by omega) k (by omega) (by omega) (by omega) (by omega)).mono ?_
    rintro e w2 ⟨rfl, b2⟩
    go_wp2
    go_ret
    exact ⟨ret_bool (by unfold rZero; rw [e1]; rfl), bb1.trans (b2.mono z1)⟩
theorem one_zero (T : List (List Int)) (a b : Nat) : rZero T b a = rOne T a b := by unfold rZero rOne; rw [Bool.and_comm]

set_option maxHeartbeats 2000000 in
theorem rule5_any (A : Option Addr) (c lo hi : Nat) (T : List (List Int)) (a b : Nat) (w : World) (h : Mat w lo hi A T) (hh : hi ≤ w.heap.size) (k : IsT T) (ha : a < T.length) (hb : b < T.length) :
    Calls Try.prog 116 #[.agg #[.slice A T.length c], .int .i64 a, .int .i64 b] w fun e w' => e = .returned (.bool (rOne T a b)) ∧ Below w.heap.size w w' := by
  have b0 := (Below.refl w.heap.size w).alloc (Nat.le_refl _) (.cells #[.slice A T.length c] 61)
  have z0 : hi ≤ (w.alloc (.cells #[.slice A T.length c] 61)).heap.size := by simp; omega
  obtain ⟨m0, m1⟩ := k.mul (x := (a : Nat)) (y := (b : Nat)) (by omega) (by omega) (by omega) (by omega)
  go_enter Try.func116, Try.ntmps116
  go_wp2_with (go_at_call 115; refine (absorbs_any _ _ lo hi T b a _ (h.below b0 hh) z0 k hb ha).mono ?_; rw [one_zero]; rintro e w1 ⟨rfl, b1⟩)
  go_ret
  exact ⟨rfl, b0.trans (b1.mono (by simp))⟩

/-- A call that returns the question whether a thing keeps a rule with all. -/
def Asked (w : World) (A : Option Addr) (n c : Nat) (fid : FuncId) (e : Ending) (w' : World) : Prop :=
  ∃ p q : Nat, e = .returned (.func (.func 105) #[] #[.pointer (some ⟨p, 0, none⟩), .pointer (some ⟨q, 0, none⟩)]) ∧ Below w.heap.size w w' ∧ w'.cell? ⟨p, 0, none⟩ = some (.slice A n c) ∧ w'.cell? ⟨q, 0, none⟩ = some (.func (.func fid) #[] #[])

set_option maxHeartbeats 2000000 in
theorem asking_any (A : Option Addr) (n c i : Nat) (name : ByteArray) (fid : FuncId) (w : World) (hf : Instr.findNow .string (.string name) rules.toList 0 = some (some (i, .func (.func fid) #[] #[]))) :
    Calls Try.prog 84 #[.agg #[.slice A n c], .string name] w (Asked w A n c fid) := by
  have b0 := (Below.refl w.heap.size w).alloc (Nat.le_refl _) (.cells #[.slice A n c] 61)
  have z0 : (w.alloc (.cells #[.slice A n c] 61)).heap.size = w.heap.size + 1 := by simp
  have q0 : (w.alloc (.cells #[.slice A n c] 61)).cell? ⟨w.heap.size, 0, none⟩ = some (.slice A n c) := by simp
  go_enter Try.func84, Try.ntmps84
  go_wp2_with fail
  refine (rulesByName_any _).mono ?_
  rintro e w1 ⟨rfl, hM⟩
  have bM := hM.2.2
  rw [z0] at bM
  have q1 := (bM.cell (p := ⟨w.heap.size, 0, none⟩) (by show w.heap.size < _; omega)).trans q0
  clear q0
  rw [z0] at hM
  have hrun := look_run Try.underlying101 Try.underlying9 hM hf
  go_wp2
  go_ret
  have z1 := bM.size
  have b2 := (Below.refl w1.heap.size w1).alloc (Nat.le_refl _) (.cells #[.func (.func fid) #[] #[]] 100)
  exact ⟨w.heap.size, w1.heap.size, rfl, (b0.trans (bM.mono (by omega))).trans (b2.mono (by omega)), (b2.cell (p := ⟨w.heap.size, 0, none⟩) (by show w.heap.size < _; omega)).trans q1, by simp⟩

set_option maxRecDepth 20000 in
set_option maxHeartbeats 4000000 in
theorem keeps_any (A : Option Addr) (n c p q a : Nat) (fid : FuncId) (r : Nat → Nat → Bool) (w : World) (hn : n ≤ 9) (hp : w.cell? ⟨p, 0, none⟩ = some (.slice A n c)) (hq : w.cell? ⟨q, 0, none⟩ = some (.func (.func fid) #[] #[]))
    (hcf : ∀ (args : Array Value) (w : World), (callFunc fid args).run Try.prog w = .ok (.enter fid args) w)
    (hF : ∀ (wr : World) (b : Nat), b < n → Below w.heap.size w wr → Calls Try.prog fid #[.agg #[.slice A n c], .int .i64 a, .int .i64 b] wr fun e w' => e = .returned (.bool (r a b)) ∧ Below wr.heap.size wr w') :
    Calls Try.prog 105 #[.int .i64 a, .pointer (some ⟨p, 0, none⟩), .pointer (some ⟨q, 0, none⟩)] w fun e w' => e = .returned (.bool (allR n r a)) ∧ Below w.heap.size w w' := by
  have HF := hide hF
  clear hF
  have lp := World.block_lt_of_cell? _ _ hp
  have lq := World.block_lt_of_cell? _ _ hq
  go_enter Try.func105, Try.ntmps105
  go_wp2
  go_loopg [9] n (fun g i wr => ∃ b : Nat, b ≤ n ∧ Hid (g = n - b) ∧ i = .int .i64 b ∧ Below w.heap.size w wr ∧ Hid (∀ j, j < b → r a j = true))
  case atStart => exact ⟨0, Nat.zero_le _, rfl, rfl, Below.refl _ _, fun _ hj => absurd hj (Nat.not_lt_zero _)⟩
  case round =>
    obtain ⟨b, hb, hgk, rfl, hB, hH⟩ := hrel
    have hp' := (hB.cell (p := ⟨p, 0, none⟩) lp).trans hp
    have hq' := (hB.cell (p := ⟨q, 0, none⟩) lq).trans hq
    have zB := hB.size
    by_cases hlt : b < n
    · cases hr : r a b
      · go_wp2_with (refine (HF.out _ b hlt hB).mono ?_; rw [hr]; rintro e w1 ⟨rfl, b1⟩)
        go_ret
        exact ⟨ret_bool (allR_false hlt hr).symm, hB.trans (b1.mono zB)⟩
      · go_wp2_with (refine (HF.out _ b hlt hB).mono ?_; rw [hr]; rintro e w1 ⟨rfl, b1⟩)
        go_roundg (n - (b + 1))
        case measure => go_light; have := hgk.out; omega
        case rel => go_light; exact ⟨b + 1, by omega, rfl, by go_num, hB.trans (b1.mono zB), fun j hj => by
          by_cases e : j = b
          · subst e; exact hr
          · exact hH j (by omega)⟩
    · obtain rfl : n = b := by omega
      go_wp2
      go_ret
      exact ⟨ret_bool (allR_iff.2 hH.out).symm, hB⟩
end Go.Proofs.Ythllbekoidogpaa

namespace Go.Proofs.Ythllbekoidogpaa
open Go.RowKit
set_option linter.unusedVariables false


section
variable {w : World}
/-- A rule's function value answers as the rule. -/
def RuleF (fid : FuncId) (r : List (List Int) → Nat → Nat → Bool) : Prop := ∀ (A : Option Addr) (c lo hi : Nat) (T : List (List Int)) (a b : Nat) (w : World), Mat w lo hi A T → hi ≤ w.heap.size → IsT T → a < T.length → b < T.length →
    Calls Try.prog fid #[.agg #[.slice A T.length c], .int .i64 a, .int .i64 b] w fun e w' => e = .returned (.bool (r T a b)) ∧ Below w.heap.size w w'
end

set_option maxRecDepth 20000 in
set_option maxHeartbeats 4000000 in
theorem allKeep_any (A : Option Addr) (c lo hi i : Nat) (T : List (List Int)) (name : ByteArray) (fid : FuncId) (r : List (List Int) → Nat → Nat → Bool) (w : World) (h : Mat w lo hi A T) (hh : hi ≤ w.heap.size) (k : IsT T)
    (hf : Instr.findNow .string (.string name) rules.toList 0 = some (some (i, .func (.func fid) #[] #[]))) (hcf : ∀ (args : Array Value) (w : World), (callFunc fid args).run Try.prog w = .ok (.enter fid args) w) (hR : RuleF fid r) :
    Calls Try.prog 68 #[.agg #[.slice A T.length c], .string name] w fun e w' => e = .returned (.bool (allRR T.length (r T))) ∧ Below w.heap.size w w' := by
  have k9 := k.hi
  have b0 := (Below.refl w.heap.size w).alloc (Nat.le_refl _) (.cells #[.slice A T.length c] 61)
  have z0 : (w.alloc (.cells #[.slice A T.length c] 61)).heap.size = w.heap.size + 1 := by simp
  have q0 : (w.alloc (.cells #[.slice A T.length c] 61)).cell? ⟨w.heap.size, 0, none⟩ = some (.slice A T.length c) := by simp
  have HC := hide hcf
  have HR := hide hR
  clear hcf hR
  go_enter Try.func68, Try.ntmps68
  go_wp2_with fail
  refine (asking_any A T.length c i name fid _ hf).mono ?_
  rintro e w1 ⟨p, q, rfl, b1, hp, hq⟩
  rw [z0] at b1
  have q1 := (b1.cell (p := ⟨w.heap.size, 0, none⟩) (by show w.heap.size < _; omega)).trans q0
  have B1 := b0.trans (b1.mono (by omega))
  clear q0
  go_wp2
  go_loopg [13] T.length (fun g i wr => ∃ a : Nat, a ≤ T.length ∧ Hid (g = T.length - a) ∧ i = .int .i64 a ∧ Below w1.heap.size w1 wr ∧ Hid (∀ j, j < a → allR T.length (r T) j = true))
  case atStart => exact ⟨0, Nat.zero_le _, rfl, rfl, Below.refl _ _, fun _ hj => absurd hj (Nat.not_lt_zero _)⟩
  case round =>
    obtain ⟨a, ha, hgk, rfl, hB, hH⟩ := hrel
    by_cases hlt : a < T.length
    · have BW := B1.trans (hB.mono B1.size)
      have hp' := (hB.cell (p := ⟨p, 0, none⟩) (World.block_lt_of_cell? _ _ hp)).trans hp
      have hq' := (hB.cell (p := ⟨q, 0, none⟩) (World.block_lt_of_cell? _ _ hq)).trans hq
      have hk := keeps_any A T.length c p q a fid (r T) wr k9 hp' hq' HC.out (fun wx b hb hx => HR.out A c lo hi T a b wx (h.below (BW.trans (hx.mono BW.size)) hh) (Nat.le_trans hh (BW.trans (hx.mono BW.size)).size) k hlt hb)
      cases hr : allR T.length (r T) a
      · rw [hr] at hk
        go_wp2_with (refine hk.mono ?_; rintro e w2 ⟨rfl, b2⟩)
        go_ret
        exact ⟨ret_bool (allRR_at hlt hr).symm, BW.trans (b2.mono BW.size)⟩
      · rw [hr] at hk
        go_wp2_with (refine hk.mono ?_; rintro e w2 ⟨rfl, b2⟩)
        go_roundg (T.length - (a + 1))
        case measure => go_light; have := hgk.out; omega
        case rel => go_light; exact ⟨a + 1, by omega, rfl, by go_num, hB.trans (b2.mono hB.size), fun j hj => by
          by_cases e : j = a
          · subst e; exact hr
          · exact hH j (by omega)⟩
    · obtain rfl : T.length = a := by omega
      go_wp2
      go_ret
      exact ⟨ret_bool (allRR_of hH.out).symm, B1.trans (hB.mono B1.size)⟩

theorem findOwn : Instr.findNow .string (.string kOwn) rules.toList 0 = some (some (0, .func (.func 109) #[] #[])) := by kernel_rfl
theorem callOwn (args : Array Value) (w : World) : (callFunc 109 args).run Try.prog w = .ok (.enter 109 args) w := by kernel_rfl
theorem ruleFOwn : RuleF 109 rOwn := fun A c lo hi T a b w h hh k ha hb => rule1_any A c lo hi T a b w h hh k ha hb
theorem findEither : Instr.findNow .string (.string kEither) rules.toList 0 = some (some (1, .func (.func 110) #[] #[])) := by kernel_rfl
theorem callEither (args : Array Value) (w : World) : (callFunc 110 args).run Try.prog w = .ok (.enter 110 args) w := by kernel_rfl
theorem ruleFEither : RuleF 110 rEither := fun A c lo hi T a b w h hh k ha hb => rule2_any A c lo hi T a b w h hh k ha hb
theorem findFirst : Instr.findNow .string (.string kFirst) rules.toList 0 = some (some (2, .func (.func 111) #[] #[])) := by kernel_rfl
theorem callFirst (args : Array Value) (w : World) : (callFunc 111 args).run Try.prog w = .ok (.enter 111 args) w := by kernel_rfl
theorem ruleFFirst : RuleF 111 rFirst := fun A c lo hi T a b w h hh k ha hb => rule3_any A c lo hi T a b w h hh k ha hb
theorem findLeft : Instr.findNow .string (.string kLeft) rules.toList 0 = some (some (3, .func (.func 112) #[] #[])) := by kernel_rfl
theorem callLeft (args : Array Value) (w : World) : (callFunc 112 args).run Try.prog w = .ok (.enter 112 args) w := by kernel_rfl
theorem ruleFLeft : RuleF 112 rLeft := fun A c lo hi T a b w h hh k ha hb => rule4_any A c lo hi T a b w h hh k ha hb
theorem findBack : Instr.findNow .string (.string kBack) rules.toList 0 = some (some (4, .func (.func 114) #[] #[])) := by kernel_rfl
theorem callBack (args : Array Value) (w : World) : (callFunc 114 args).run Try.prog w = .ok (.enter 114 args) w := by kernel_rfl
theorem ruleFBack : RuleF 114 rRect := fun A c lo hi T a b w h hh k ha hb => back_any A c lo hi T a b w h hh k ha hb
theorem findZero : Instr.findNow .string (.string kZero) rules.toList 0 = some (some (5, .func (.func 115) #[] #[])) := by kernel_rfl
theorem callZero (args : Array Value) (w : World) : (callFunc 115 args).run Try.prog w = .ok (.enter 115 args) w := by kernel_rfl
theorem ruleFZero : RuleF 115 rZero := fun A c lo hi T a b w h hh k ha hb => absorbs_any A c lo hi T a b w h hh k ha hb
theorem findOne : Instr.findNow .string (.string kOne) rules.toList 0 = some (some (6, .func (.func 116) #[] #[])) := by kernel_rfl
theorem callOne (args : Array Value) (w : World) : (callFunc 116 args).run Try.prog w = .ok (.enter 116 args) w := by kernel_rfl
theorem ruleFOne : RuleF 116 rOne := fun A c lo hi T a b w h hh k ha hb => rule5_any A c lo hi T a b w h hh k ha hb

set_option maxHeartbeats 1000000 in
theorem iBandOk_any (A : Option Addr) (c lo hi : Nat) (T : List (List Int)) (w : World) (h : Mat w lo hi A T) (hh : hi ≤ w.heap.size) (hS : Small T) :
    Calls Try.prog 34 #[.slice A T.length c] w fun e w' => e = .returned (.bool (bandT T)) ∧ Below w.heap.size w w' := by
  cases hg : grpT T
  · go_enter Try.func34, Try.ntmps34
    go_wp2_with fail
    refine (iGroupedOk_any A c lo hi T w h hh hS).mono ?_
    rw [hg]
    rintro e w1 ⟨rfl, b1⟩
    go_wp2
    go_ret
    exact ⟨ret_bool (bandT_grp hg).symm, b1⟩
  · have k := (grpT_iff.1 hg).tab
    have HE := hide (show bandT T = allRR T.length (rOwn T) from by unfold bandT; rw [hg]; rfl)
    go_enter Try.func34, Try.ntmps34
    go_wp2_with fail
    refine (iGroupedOk_any A c lo hi T w h hh hS).mono ?_
    rw [hg]
    rintro e w1 ⟨rfl, b1⟩
    go_wp2_with fail
    refine (allKeep_any A c lo hi _ T kOwn _ rOwn w1 (h.below b1 hh) (Nat.le_trans hh b1.size) k findOwn callOwn ruleFOwn).mono ?_
    rintro e w2 ⟨rfl, b2⟩
    go_wp2
    go_ret
    exact ⟨ret_bool HE.out.symm, b1.trans (b2.mono b1.size)⟩

set_option maxHeartbeats 1000000 in
theorem bandKeeping_any (A : Option Addr) (c lo hi i : Nat) (T : List (List Int)) (name : ByteArray) (fid : FuncId) (r : List (List Int) → Nat → Nat → Bool) (w : World) (h : Mat w lo hi A T) (hh : hi ≤ w.heap.size) (hS : Small T)
    (hf : Instr.findNow .string (.string name) rules.toList 0 = some (some (i, .func (.func fid) #[] #[]))) (hcf : ∀ (args : Array Value) (w : World), (callFunc fid args).run Try.prog w = .ok (.enter fid args) w) (hR : RuleF fid r) :
    Calls Try.prog 69 #[.slice A T.length c, .string name] w fun e w' => e = .returned (.bool (bandT T && allRR T.length (r T))) ∧ Below w.heap.size w w' := by
  have HC := hide hcf
  clear hcf
  cases hg : bandT T
  · go_enter Try.func69, Try.ntmps69
    go_wp2_with fail
    refine (iBandOk_any A c lo hi T w h hh hS).mono ?_
    rw [hg]
    rintro e w1 ⟨rfl, b1⟩
    go_wp2
    go_ret
    exact ⟨rfl, b1⟩
  · have k := (bandT_iff.1 hg).g.tab
    go_enter Try.func69, Try.ntmps69
    go_wp2_with fail
    refine (iBandOk_any A c lo hi T w h hh hS).mono ?_
    rw [hg]
    rintro e w1 ⟨rfl, b1⟩
    go_wp2_with fail
    refine (allKeep_any A c lo hi i T name fid r w1 (h.below b1 hh) (Nat.le_trans hh b1.size) k hf HC.out hR).mono ?_
    rintro e w2 ⟨rfl, b2⟩
    go_wp2
    go_ret
    exact ⟨rfl, b1.trans (b2.mono b1.size)⟩

set_option maxHeartbeats 1000000 in
theorem iMeetingOk_any (A : Option Addr) (c lo hi : Nat) (T : List (List Int)) (w : World) (h : Mat w lo hi A T) (hh : hi ≤ w.heap.size) (hS : Small T) :
    Calls Try.prog 35 #[.slice A T.length c] w fun e w' => e = .returned (.bool (meetT T)) ∧ Below w.heap.size w w' := by
  go_enter Try.func35, Try.ntmps35
  go_wp2_with fail
  refine (bandKeeping_any A c lo hi _ T kEither _ rEither w h hh hS findEither callEither ruleFEither).mono ?_
  rintro e w1 ⟨rfl, b1⟩
  go_wp2
  go_ret
  exact ⟨rfl, b1⟩

set_option maxHeartbeats 1000000 in
theorem iFirstOk_any (A : Option Addr) (c lo hi : Nat) (T : List (List Int)) (w : World) (h : Mat w lo hi A T) (hh : hi ≤ w.heap.size) (hS : Small T) :
    Calls Try.prog 36 #[.slice A T.length c] w fun e w' => e = .returned (.bool (firstT T)) ∧ Below w.heap.size w w' := by
  go_enter Try.func36, Try.ntmps36
  go_wp2_with fail
  refine (bandKeeping_any A c lo hi _ T kFirst _ rFirst w h hh hS findFirst callFirst ruleFFirst).mono ?_
  rintro e w1 ⟨rfl, b1⟩
  go_wp2
  go_ret
  exact ⟨rfl, b1⟩

set_option maxHeartbeats 1000000 in
theorem iLeftOk_any (A : Option Addr) (c lo hi : Nat) (T : List (List Int)) (w : World) (h : Mat w lo hi A T) (hh : hi ≤ w.heap.size) (hS : Small T) :
    Calls Try.prog 38 #[.slice A T.length c] w fun e w' => e = .returned (.bool (leftT T)) ∧ Below w.heap.size w w' := by
  go_enter Try.func38, Try.ntmps38
  go_wp2_with fail
  refine (bandKeeping_any A c lo hi _ T kLeft _ rLeft w h hh hS findLeft callLeft ruleFLeft).mono ?_
  rintro e w1 ⟨rfl, b1⟩
  go_wp2
  go_ret
  exact ⟨rfl, b1⟩

set_option maxHeartbeats 1000000 in
theorem iRightOk_any (A : Option Addr) (c lo hi : Nat) (T : List (List Int)) (w : World) (h : Mat w lo hi A T) (hh : hi ≤ w.heap.size) (hS : Small T) :
    Calls Try.prog 39 #[.slice A T.length c] w fun e w' => e = .returned (.bool (rightT T)) ∧ Below w.heap.size w w' := by
  go_enter Try.func39, Try.ntmps39
  go_wp2_with fail
  refine (iTurnedOf_any A c lo hi T w h hh hS).mono ?_
  rintro e w1 ⟨A1, c1, rfl, b1, o1⟩
  go_wp2_with fail
  refine (iLeftOk_any A1 c1 _ _ (turnT T) w1 o1.mat (Nat.le_refl _) small_turnT).mono ?_
  rintro e w2 ⟨rfl, b2⟩
  go_wp2
  go_ret
  exact ⟨rfl, b1.trans (b2.mono b1.size)⟩

theorem zeroT_val (T : List (List Int)) : (∃ k : Nat, zeroT T = (k : Int) ∧ okI (zeroT T) = true) ∨ (zeroT T = -1 ∧ okI (zeroT T) = false) := by
  rcases zeroT_or T with ⟨k, _, _, e, _⟩ | e
  · exact .inl ⟨k, e, by rw [e]; exact okI_nat k⟩
  · exact .inr ⟨e, by rw [e]; exact okI_not⟩

theorem oneT_val (T : List (List Int)) : (∃ k : Nat, oneT T = (k : Int) ∧ okI (oneT T) = true) ∨ (oneT T = -1 ∧ okI (oneT T) = false) := by
  rcases oneT_or T with ⟨k, _, _, e, _⟩ | e
  · exact .inl ⟨k, e, by rw [e]; exact okI_nat k⟩
  · exact .inr ⟨e, by rw [e]; exact okI_not⟩

end Go.Proofs.Ythllbekoidogpaa
