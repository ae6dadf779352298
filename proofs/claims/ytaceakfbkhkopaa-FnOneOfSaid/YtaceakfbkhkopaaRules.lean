
/- Rules in a map by their names; a rule asked of all things by a closure. -/
import Derived.Test.YtaceakfbkhkopaaGrp
import Derived.Test.YtaceakfbkhkopaaBandP
import Derived.Maps.OwnOps
import Derived.MapKept
import Derived.Laws.EntriesVeiled
import Derived.Deep.RegionHeld3
namespace Go.Proofs.Ytaceakfbkhkopaa
open Go.RowKit
set_option linter.unusedVariables false


/-- A map of the call's own of which all entries are known. -/
def MapAt (w W : World) (b : Nat) (es : Array MapEntry) (clock : Nat) : Prop := W.heap[b]? = some (.map es clock) ∧ w.heap.size ≤ b ∧ Below w.heap.size w W

/-- A new key. -/
theorem ins_step {P : Program} {ops : Array Oper} {rest : List Oper} {o : Oper} {a : Act} {Q : Exit → Act → World → Prop} {w W : World} {m x y : Operand} {t k e : TypeId} {b clock : Nat} {es : Array MapEntry} {s : ByteArray} {v : Value}
    (hg : o.guard = none) (hop : o.op = Op.insert t m x y) (ht : P.underlying t = some (.map k e)) (hk : P.underlying k = some .string)
    (hm : a.eval m = .map (some b)) (hx : a.eval x = .string s) (hv : a.eval y = v) (hM : MapAt w W b es clock) (hnew : Instr.findNow .string (.string s) es.toList 0 = some none)
    (K : ∀ W', MapAt w W' b (es.push { key := .string s, val := v, born := clock }) (clock + 1) → wpList P ops Q rest (a.put o.dst undef) W') : wpList P ops Q (o :: rest) a W := by
  obtain ⟨hb, h1, h2⟩ := hM
  have hrun : (Instr.mapUpdate t (.map (some b)) (.string s) v).run P W = .ok () { W with heap := W.heap.setIfInBounds b (.map (es.push { key := .string s, val := v, born := clock }) (clock + 1)) } := by
    simp [Instr.mapUpdate, run_underlying ht, MapKept.run_getObj_map hb, MapKept.run_checkKey (k := .string s) hk (by simp [MapKept.IsKey]), MapKept.run_findKey hk hnew, MapKept.run_setObj_map _ hb, Result.andThen]
  refine wpList_plain hg fun K' hK' => ?_
  unfold Oper.wp
  simp [execOp, hop, hm, hx, hv, hrun, Result.andThen]
  refine hK' _ _ (K _ ⟨(MapKept.heap_set hb).1, h1, ⟨h2.os, h2.tape, h2.output, by simpa using h2.size, fun j hj => ((MapKept.heap_set hb).2 j (by omega)).trans (h2.block j hj)⟩⟩)
/-- A key that is there. -/
theorem look_run {P : Program} {w W : World} {t k e : TypeId} {b clock i : Nat} {es : Array MapEntry} {s : ByteArray} {v : Value}
    (ht : P.underlying t = some (.map k e)) (hk : P.underlying k = some .string) (hM : MapAt w W b es clock) (hold : Instr.findNow .string (.string s) es.toList 0 = some (some (i, v))) :
    (Instr.lookup t (.map (some b)) (.string s) false).run P W = .ok v W := by
  obtain ⟨hb, h1, h2⟩ := hM
  cases he : es.isEmpty
  all_goals simp [Instr.lookup, run_underlying ht, MapKept.run_getObj_map hb, MapKept.run_checkKey (k := .string s) hk (by simp [MapKept.IsKey]), MapKept.run_findKey hk hold, Result.andThen]

def kOwn : ByteArray := ⟨#[111, 119, 110, 32, 115, 113, 117, 97, 114, 101]⟩
def kEither : ByteArray := ⟨#[101, 105, 116, 104, 101, 114, 32, 111, 114, 100, 101, 114]⟩
def kFirst : ByteArray := ⟨#[102, 105, 114, 115, 116, 32, 116, 104, 105, 110, 103]⟩
def kLeft : ByteArray := ⟨#[108, 101, 102, 116, 32, 111, 117, 116]⟩
def kBack : ByteArray := ⟨#[99, 111, 109, 101, 115, 32, 98, 97, 99, 107]⟩
def kZero : ByteArray := ⟨#[122, 101, 114, 111]⟩
def kOne : ByteArray := ⟨#[111, 110, 101]⟩
/-- The rules by their names. -/
def rules : Array MapEntry := #[{ key := .string kOwn, val := .func (.func 80) #[] #[], born := 0 }, { key := .string kEither, val := .func (.func 81) #[] #[], born := 1 }, { key := .string kFirst, val := .func (.func 82) #[] #[], born := 2 }, { key := .string kLeft, val := .func (.func 83) #[] #[], born := 3 }, { key := .string kBack, val := .func (.func 84) #[] #[], born := 4 }, { key := .string kZero, val := .func (.func 85) #[] #[], born := 5 }, { key := .string kOne, val := .func (.func 86) #[] #[], born := 6 }]

set_option maxHeartbeats 2000000 in
theorem rulesByName_any (w : World) : Calls Try.prog 78 #[] w fun e w' => e = .returned (.map (some w.heap.size)) ∧ MapAt w w' w.heap.size rules 7 := by
  have hmm := @run_makeMap Try.prog
  have hM0 : MapAt w (w.alloc (.map #[] 0)) w.heap.size #[] 0 := ⟨(MapKept.heap_alloc w _).1, Nat.le_refl _, (Below.refl w.heap.size w).alloc (Nat.le_refl _) _⟩
  go_enter Try.func78, Try.ntmps78
  go_wp2_with (first
    | (refine ins_step (by rfl) (by rfl) Try.underlying67 Try.underlying9 (by rfl) (by rfl) (by rfl) hM0 (by kernel_rfl) ?_; clear hM0; intro W1 hM1)
    | (refine ins_step (by rfl) (by rfl) Try.underlying67 Try.underlying9 (by rfl) (by rfl) (by rfl) hM1 (by kernel_rfl) ?_; clear hM1; intro W2 hM2)
    | (refine ins_step (by rfl) (by rfl) Try.underlying67 Try.underlying9 (by rfl) (by rfl) (by rfl) hM2 (by kernel_rfl) ?_; clear hM2; intro W3 hM3)
    | (refine ins_step (by rfl) (by rfl) Try.underlying67 Try.underlying9 (by rfl) (by rfl) (by rfl) hM3 (by kernel_rfl) ?_; clear hM3; intro W4 hM4)
    | (refine ins_step (by rfl) (by rfl) Try.underlying67 Try.underlying9 (by rfl) (by rfl) (by rfl) hM4 (by kernel_rfl) ?_; clear hM4; intro W5 hM5)
    | (refine ins_step (by rfl) (by rfl) Try.underlying67 Try.underlying9 (by rfl) (by rfl) (by rfl) hM5 (by kernel_rfl) ?_; clear hM5; intro W6 hM6)
    | (refine ins_step (by rfl) (by rfl) Try.underlying67 Try.underlying9 (by rfl) (by rfl) (by rfl) hM6 (by kernel_rfl) ?_; clear hM6; intro W7 hM7))
  go_ret
  exact ⟨rfl, hM7⟩
end Go.Proofs.Ytaceakfbkhkopaa
