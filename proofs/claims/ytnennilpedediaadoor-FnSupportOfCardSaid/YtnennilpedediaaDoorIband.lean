/-  -/
import Derived.Test.YtnennilpedediaaDoorGrp
import Derived.Test.YtnennilpedediaaDoorBandP
import Derived.Maps.OwnOps
import Derived.MapKept
import Derived.Laws.EntriesVeiled
import Derived.Deep.RegionHeld3
import Derived.Test.YtnennilpedediaaDoorRectP
import Derived.Test.YtnennilpedediaaDoorPureX
namespace Go.Proofs.YtnennilpedediaaDoor
open Go.RowKit
set_option linter.unusedVariables false


/-- A map of the call's own of which all entries are known. -/
def MapAt (w W : World) (b : Nat) (es : Array MapEntry) (clock : Nat) : Prop := W.heap[b]? = some (.map es clock) ∧ w.heap.size ≤ b ∧ Below w.heap.size w W

/-- A new key. -/
theorem ins_step {P : Program} {ops : Array Oper} {rest : List Oper} {o : Oper} {a : Act} {Q : Exit → Act → World → Prop} {w W : World} {m x y : Operand} {t k e : TypeId} {b clock : Nat} {es : Array MapEntry} {s : ByteArray} {v : Value}
    (hg : o.guard = none) (hop : o.op = Op.insert t m x y) (ht : P.underlying t = some (.map k e)) (hk : P.underlying k = some .string)
    (hm : a.eval m = .map (some b)) (hx : a.eval x = .string s) (hv : a.eval y = v) (hM : MapAt w W b es clock) (hnew : Instr.findNow .string (.string s) es.toList 0 = some none)
    (K : ∀ W', MapAt w W' b (es.push { key := .string s, val := v, born := clock }) (clock + 1) → wpList P ops Q rest (a.put o.dst undef) W') : wpList P ops Q (o :: rest) a W := by
  obtain ⟨hb, h1, h2⟩ := hM
  have hrun : (Instr.mapUpdate t (.map (some b)) (.string s) v).run P W = .ok () { W with heap := W.heap.setIfInBounds b (.map (es.push { key := .string s, val := v, born := clock }) (clock + 1)) } := by
    simp [Instr.mapUpdate, run_underlying ht, MapKept.run_getObj_map hb, MapKept.run_checkKey (k := .string s) hk (by simp [MapKept.IsKey]), MapKept.run_findKey hk hnew, MapKept.run_setObj_map _ hb, Result.andThen]
  refine wpList_plain hg fun K' hK' => ?_
  unfold Oper.wp
  simp [execOp, hop, hm, hx, hv, hrun, Result.andThen]
  refine hK' _ _ (K _ ⟨(MapKept.heap_set hb).1, h1, ⟨h2.os, h2.tape, h2.output, by simpa using h2.size, fun j hj => ((MapKept.heap_set hb).2 j (by omega)).trans (h2.block j hj)⟩⟩)
/-- A key that is there. -/
theorem look_run {P : Program} {w W : World} {t k e : TypeId} {b clock i : Nat} {es : Array MapEntry} {s : ByteArray} {v : Value}
    (ht : P.underlying t = some (.map k e)) (hk : P.underlying k = some .string) (hM : MapAt w W b es clock) (hold : Instr.findNow .string (.string s) es.toList 0 = some (some (i, v))) :
    (Instr.lookup t (.map (some b)) (.string s) false).run P W = .ok v W := by
  obtain ⟨hb, h1, h2⟩ := hM
  cases he : es.isEmpty
  all_goals simp [Instr.lookup, run_underlying ht, MapKept.run_getObj_map hb, MapKept.run_checkKey (k := .string s) hk (by simp [MapKept.IsKey]), MapKept.run_findKey hk hold, Result.andThen]

def kOwn : ByteArray := ⟨#[111, 119, 110, 32, 115, 113, 117, 97, 114, 101]⟩
def kEither : ByteArray := ⟨#[101, 105, 116, 104, 101, 114, 32, 111, 114, 100, 101, 114]⟩
def kFirst : ByteArray := ⟨#[102, 105, 114, 115, 116, 32, 116, 104, 105, 110, 103]⟩
def kLeft : ByteArray := ⟨#[108, 101, 102, 116, 32, 111, 117, 116]⟩
def kBack : ByteArray := ⟨#[99, 111, 109, 101, 115, 32, 98, 97, 99, 107]⟩
def kZero : ByteArray := ⟨#[122, 101, 114, 111]⟩
def kOne : ByteArray := ⟨#[111, 110, 101]⟩
end Go.Proofs.YtnennilpedediaaDoor

namespace Go.Proofs.YtnennilpedediaaDoor
open Go.RowKit
set_option linter.unusedVariables false


/-- Whether a number was found. -/
def okI (x : Int) : Bool := decide (0 ≤ x)
theorem okI_nat (k : Nat) : okI (k : Int) = true := by simp [okI]
theorem okI_not : okI (-1) = false := by decide

theorem one_zero (T : List (List Int)) (a b : Nat) : rZero T b a = rOne T a b := by unfold rZero rOne; rw [Bool.and_comm]

end Go.Proofs.YtnennilpedediaaDoor

namespace Go.Proofs.YtnennilpedediaaDoor
open Go.RowKit
set_option linter.unusedVariables false


section
variable {w : World}
/-- A rule's function value answers as the rule. -/
def RuleF (fid : FuncId) (r : List (List Int) → Nat → Nat → Bool) : Prop := ∀ (A : Option Addr) (c lo hi : Nat) (T : List (List Int)) (a b : Nat) (w : World), Mat w lo hi A T → hi ≤ w.heap.size → IsT T → a < T.length → b < T.length →
    Calls Tryd.prog fid #[.agg #[.slice A T.length c], .int .i64 a, .int .i64 b] w fun e w' => e = .returned (.bool (r T a b)) ∧ Below w.heap.size w w'
end

theorem zeroT_val (T : List (List Int)) : (∃ k : Nat, zeroT T = (k : Int) ∧ okI (zeroT T) = true) ∨ (zeroT T = -1 ∧ okI (zeroT T) = false) := by
  rcases zeroT_or T with ⟨k, _, _, e, _⟩ | e
  · exact .inl ⟨k, e, by rw [e]; exact okI_nat k⟩
  · exact .inr ⟨e, by rw [e]; exact okI_not⟩

theorem oneT_val (T : List (List Int)) : (∃ k : Nat, oneT T = (k : Int) ∧ okI (oneT T) = true) ∨ (oneT T = -1 ∧ okI (oneT T) = false) := by
  rcases oneT_or T with ⟨k, _, _, e, _⟩ | e
  · exact .inl ⟨k, e, by rw [e]; exact okI_nat k⟩
  · exact .inr ⟨e, by rw [e]; exact okI_not⟩

end Go.Proofs.YtnennilpedediaaDoor
