/-  -/
import Derived.Test.YtnennilpedediaaDoorWordB
import Derived.Laws.Slices
import Derived.Test.YtnennilpedediaaDoorTab
namespace Go.Proofs.YtnennilpedediaaDoor
open Go.RowKit
set_option linter.unusedVariables false

section
variable {P : Program} {t : TypeId} (ht : P.underlying t = some .string) (u : List UInt8)
include ht
theorem slice_lh (i j : Int) (a b : Nat) (hi : i = a) (hj : j = b) (h : a ≤ b) (hb : b ≤ u.length) (w : World) :
    (Instr.slice t (.string (bs u)) (some (.int .i64 i)) (some (.int .i64 j)) none).run P w = .ok (.string (bs ((u.drop a).take (b - a)))) w := by
  subst hi hj
  have hz := size_bs u
  have e := ext_bs u a b
  have h1 : ((b : Int) ≤ ((bs u).size : Int)) := by omega
  have h2 : ((a : Int) ≤ (b : Int)) := by omega
  simp [Instr.slice, run_underlying ht, Instr.sliceBounds, run_sliceBound, *]
theorem slice_to (j : Int) (b : Nat) (hj : j = b) (hb : b ≤ u.length) (w : World) :
    (Instr.slice t (.string (bs u)) none (some (.int .i64 j)) none).run P w = .ok (.string (bs (u.take b))) w := by
  subst hj
  have hz := size_bs u
  rw [run_slice_string_h w t (bs u) ht .i64 _ (by omega) (by omega), Int.toNat_natCast, ext_take]
theorem slice_from (i : Int) (a : Nat) (hi : i = a) (ha : a ≤ u.length) (w : World) :
    (Instr.slice t (.string (bs u)) (some (.int .i64 i)) none none).run P w = .ok (.string (bs (u.drop a))) w := by
  subst hi
  have hz := size_bs u
  rw [run_slice_string_l w t (bs u) ht .i64 _ (by omega) (by omega), Int.toNat_natCast, ext_bs, hz, List.take_of_length_le (by rw [List.length_drop]; omega)]
theorem slice_one (i j : Int) (a : Nat) (hi : i = a) (hj : j = (a : Int) + 1) (h : a < u.length) (w : World) :
    (Instr.slice t (.string (bs u)) (some (.int .i64 i)) (some (.int .i64 j)) none).run P w = .ok (.string (bs [lt u a])) w := by
  have := slice_lh ht u i j a (a + 1) hi (by omega) (by omega) (by omega) w
  rw [this, ← ext_bs, ext_one h]
end
end Go.Proofs.YtnennilpedediaaDoor

namespace Go.Proofs.YtnennilpedediaaDoor
open Go.RowKit
set_option linter.unusedVariables false


theorem quiet_let {P : Program} {f : FuncId} {args : Array Value} {w : World} {a : Nat} {v : Value} (h : Calls P f args (w.drewN a) fun e w' => e = .returned v ∧ w.drewN a = w') :
    Calls P f args (w.drewN a) fun e w'' => e = .returned v ∧ ∃ m, w'' = w.drewN m :=
  h.mono fun _ _ ⟨he, hm⟩ => ⟨he, a, hm.symm⟩
end Go.Proofs.YtnennilpedediaaDoor
