/-  -/
import Derived.Test.YtnennilpedediaaDoorWordB
import Derived.Test.YtnennilpedediaaDoorSword
import Derived.Test.YtnennilpedediaaDoorTab
import Derived.Lib.OthersKept
import Derived.Laws.RangeAny
import Derived.Deep.RegionHeld3
import Derived.BigQuiet
import Derived.Lib.Walk
import Derived.Lib.BufferWrite
import Derived.Lib.UnsafeStr
import Derived.Lib.Strings
import Derived.Laws.MakeOwn
import Derived.Laws.Cover4
import Derived.Laws.IdiomStrings
import Derived.Shelf.RegionOpenPlain
import Derived.Test.YtnennilpedediaaDoorSvalue
namespace Go.Proofs.YtnennilpedediaaDoor
set_option linter.unusedVariables false

/-- Of the first k letters of a word: the place where a letter comes first, or -1. -/
def FP (u : List UInt8) (k : Nat) (c : UInt8) (p : Int) : Prop := (c ∉ u.take k ∧ p = -1) ∨ ∃ a : Nat, p = (a : Int) ∧ a < k ∧ lt u a = c ∧ c ∉ u.take a
section
variable {u : List UInt8} {k : Nat} {c : UInt8} {p : Int}
theorem FP.zero : FP u 0 c (-1) := .inl ⟨by simp, rfl⟩
theorem FP.lo (h : FP u k c p) : -1 ≤ p := by
  rcases h with ⟨_, rfl⟩ | ⟨a, rfl, _⟩ <;> omega
theorem FP.hi (h : FP u k c p) : p < k := by
  rcases h with ⟨_, rfl⟩ | ⟨a, rfl, h, _⟩ <;> omega
theorem FP.old (h : FP u k c p) (hk : k < u.length) (ho : lt u k ≠ c ∨ p ≠ -1) : FP u (k + 1) c p := by
  rcases h with ⟨hm, rfl⟩ | ⟨a, rfl, ha, e, hm⟩
  · rcases ho with ho | ho
    · refine .inl ⟨?_, rfl⟩
      rw [take_lt hk, List.mem_append, List.mem_singleton]
      rintro (h | h)
      · exact hm h
      · exact ho h.symm
    · exact (ho rfl).elim
  · exact .inr ⟨a, rfl, by omega, e, hm⟩
theorem FP.fresh (h : FP u k c (-1)) (e : lt u k = c) : FP u (k + 1) c k := by
  rcases h with ⟨hm, _⟩ | ⟨a, ha, _⟩
  · exact .inr ⟨k, rfl, by omega, e, hm⟩
  · omega
theorem FP.neg (h : FP u u.length c p) : p = -1 ↔ c ∉ u := by
  rcases h with ⟨hm, rfl⟩ | ⟨a, rfl, ha, e, hm⟩
  · rw [List.take_length] at hm
    exact ⟨fun _ => hm, fun _ => rfl⟩
  · have hu : c ∈ u := e ▸ lt_mem ha
    exact ⟨fun h => by omega, fun h => (h hu).elim⟩
theorem FP.hd {a : Nat} (h : FP u u.length c a) (hu : ∀ y, y ∈ u → ∃ p, FP u u.length y p ∧ p ≤ a) : HdIs u (u.take a) (lt u a) := by
  rcases h with ⟨_, e⟩ | ⟨b, e, hb, ec, hm⟩
  · omega
  · obtain rfl : a = b := by omega
    rw [ec]
    refine ⟨⟨u.drop (a + 1), ?_, fun y hy => ?_⟩, hm⟩
    · have e1 : lt u a = u[a] := by simp [lt, hb]
      rw [← ec, e1, ← List.drop_eq_getElem_cons hb, List.take_append_drop]
    · obtain ⟨p, hp, hpa⟩ := hu y (List.mem_of_mem_drop hy)
      rcases hp with ⟨hn, _⟩ | ⟨d, rfl, hd, ed, _⟩
      · rw [List.take_length] at hn
        exact (hn (List.mem_of_mem_drop hy)).elim
      · by_cases hda : d = a
        · subst hda; exact .inr (ed.symm.trans ec)
        · left
          have hda2 : d < a := by omega
          have hlen : d < (u.take a).length := by rw [List.length_take]; omega
          have : lt (u.take a) d = lt u d := by
            have h1 : d < u.length := by omega
            simp [lt, hda2]
          rw [← ed, ← this]
          exact lt_mem hlen
end
/-- The letters whose first places these are. -/
def letsN (x y z : Int) : Nat := (if x = -1 then 0 else 1) ||| (if y = -1 then 0 else 2) ||| (if z = -1 then 0 else 4)
/-- The last of three places. -/
def max3 (x y z : Int) : Int := max (max x y) z
section
variable {u : List UInt8} {x y z : Int}
theorem letsN_ltr (hx : FP u u.length 97 x) (hy : FP u u.length 98 y) (hz : FP u u.length 99 z) : letsN x y z = ltr u := by
  unfold letsN ltr
  simp only [hx.neg, hy.neg, hz.neg]
  by_cases h1 : (97 : UInt8) ∈ u <;> by_cases h2 : (98 : UInt8) ∈ u <;> by_cases h3 : (99 : UInt8) ∈ u <;> simp [h1, h2, h3]
theorem max3_hd (hw : okW u = true) (hx : FP u u.length 97 x) (hy : FP u u.length 98 y) (hz : FP u u.length 99 z) : ∃ a : Nat, max3 x y z = a ∧ a < u.length ∧ HdIs u (u.take a) (lt u a) := by
  obtain ⟨ho, h1, h2⟩ := okW_iff.1 hw
  have hle : ∀ q, q ∈ u → ∃ p, FP u u.length q p ∧ p ≤ max3 x y z := fun q hq => by
    unfold max3
    rcases okC_iff.1 (ho q hq) with rfl | rfl | rfl
    · exact ⟨x, hx, by omega⟩
    · exact ⟨y, hy, by omega⟩
    · exact ⟨z, hz, by omega⟩
  have h0 : 0 ≤ max3 x y z := by
    have hm := lt_mem (u := u) (k := 0) (by omega)
    obtain ⟨p, hp, hp2⟩ := hle _ hm
    have hne : p ≠ -1 := fun e => (hp.neg.1 e) hm
    have := hp.lo
    omega
  have hcase : ∃ c, FP u u.length c (max3 x y z) := by
    have : max3 x y z = x ∨ max3 x y z = y ∨ max3 x y z = z := by unfold max3; omega
    rcases this with e | e | e
    · exact ⟨97, by rw [e]; exact hx⟩
    · exact ⟨98, by rw [e]; exact hy⟩
    · exact ⟨99, by rw [e]; exact hz⟩
  obtain ⟨c, hc⟩ := hcase
  obtain ⟨a, ha⟩ : ∃ a : Nat, max3 x y z = a := ⟨(max3 x y z).toNat, by omega⟩
  rw [ha] at hc hle
  have hlt := hc.hi
  exact ⟨a, ha, by omega, hc.hd hle⟩
end
end Go.Proofs.YtnennilpedediaaDoor

namespace Go.Proofs.YtnennilpedediaaDoor
open Go.RowKit
set_option linter.unusedVariables false

theorem step_one {u : List UInt8} {k : Nat} (hlt : k < u.length) (h : okC (lt u k) = true) : Utf8.decode (bs u) k = ((lt u k).toNat, 1) := by
  have hk : k < (bs u).size := by rw [size_bs]; exact hlt
  have h9 : (lt u k).toNat < 128 := by
    rcases okC_iff.1 h with h | h | h <;> rw [h] <;> decide
  rw [decode_ascii (bs u) k hk (by rw [get_bs hk]; exact h9), get_bs hk]
/-- A letter that is none: what is read there is none, too. -/
theorem step_bad {u : List UInt8} {k : Nat} (hlt : k < u.length) (h : okC (lt u k) = false) : ¬ (97 ≤ (Utf8.decode (bs u) k).1 ∧ (Utf8.decode (bs u) k).1 ≤ 99) := by
  have hk : k < (bs u).size := by rw [size_bs]; exact hlt
  have hg : (bs u)[k]'hk = lt u k := get_bs hk
  by_cases ha : (lt u k).toNat < 128
  · rw [decode_ascii (bs u) k hk (by rw [hg]; exact ha), hg]
    intro hh
    have : okC (lt u k) = true := by unfold okC; rw [Bool.and_eq_true, decide_eq_true_iff, decide_eq_true_iff]; exact hh
    rw [this] at h; cases h
  · have := (decode_high (bs u) k hk (by rw [hg]; omega)).1
    omega

theorem results_of_cell3 {fn : Func} {p : Tmp} {ty : TypeId} (h : fn.results = #[.cell p ty]) (tmps : Array Value) (P : Program) (w : World) :
    (results fn tmps).run P w = ((asAddr (tmps.getD p undef)).run P w).andThen fun a w₁ => (loadVar ty a).run P w₁ := by
  simp only [results, h]
  simp [Sem.run_bind, Result.andThen]
def pl3 (x y z : Int) (i : Nat) : Value := .int .i64 (if i = 0 then x else if i = 1 then y else z)
theorem pl3_0 (x y z : Int) : pl3 x y z 0 = .int .i64 x := rfl
theorem pl3_1 (x y z : Int) : pl3 x y z 1 = .int .i64 y := rfl
theorem pl3_2 (x y z : Int) : pl3 x y z 2 = .int .i64 z := rfl
end Go.Proofs.YtnennilpedediaaDoor

namespace Go.Proofs.YtnennilpedediaaDoor
open Go.RowKit Go.Lib
set_option linter.unusedVariables false
set_option linter.unusedSimpArgs false

theorem pl3_set0 {W : World} {g t : Nat} {x y z : Int} (h : W.rowIs g t 3 (pl3 x y z)) (v : Int) : (W.setCell ⟨g, 0, none⟩ (.int .i64 v)).rowIs g t 3 (pl3 v y z) :=
  World.rowIs.congr (World.rowIs.set h 0 (.int .i64 v)) fun i hi => by
    match i, hi with
    | 0, _ | 1, _ | 2, _ => rfl
theorem pl3_set1 {W : World} {g t : Nat} {x y z : Int} (h : W.rowIs g t 3 (pl3 x y z)) (v : Int) : (W.setCell ⟨g, 1, none⟩ (.int .i64 v)).rowIs g t 3 (pl3 x v z) :=
  World.rowIs.congr (World.rowIs.set h 1 (.int .i64 v)) fun i hi => by
    match i, hi with
    | 0, _ | 1, _ | 2, _ => rfl
theorem pl3_set2 {W : World} {g t : Nat} {x y z : Int} (h : W.rowIs g t 3 (pl3 x y z)) (v : Int) : (W.setCell ⟨g, 2, none⟩ (.int .i64 v)).rowIs g t 3 (pl3 x y v) :=
  World.rowIs.congr (World.rowIs.set h 2 (.int .i64 v)) fun i hi => by
    match i, hi with
    | 0, _ | 1, _ | 2, _ => rfl
theorem pl3_new (w : World) (t : TypeId) (x y z : Int) : (w.alloc (.cells #[.int .i64 x, .int .i64 y, .int .i64 z] t)).rowIs w.heap.size t 3 (pl3 x y z) :=
  World.rowIs_alloc w #[.int .i64 x, .int .i64 y, .int .i64 z] t _ fun i hi => by
    match i, hi with
    | 0, _ | 1, _ | 2, _ => rfl
theorem iter_kept {W : World} {g j : Nat} {s : ByteArray} {p : Nat} {i : Nat} {v : Value} (h : W.heap[g]? = some (.stringIter s p)) (hj : g ≠ j) : (W.setCell ⟨j, i, none⟩ v).heap[g]? = some (.stringIter s p) :=
  (Below.heap_setCell _ _ _ _ (by show g ≠ j; omega)).trans h

end Go.Proofs.YtnennilpedediaaDoor

namespace Go.Proofs.YtnennilpedediaaDoor
open Go.RowKit Go.Lib
set_option linter.unusedVariables false
set_option linter.unusedSimpArgs false

/-- The letters under way. -/
def letsP (x y z : Int) (k : Nat) : Nat := (if 1 ≤ k ∧ x ≠ -1 then 1 else 0) ||| (if 2 ≤ k ∧ y ≠ -1 then 2 else 0) ||| (if 3 ≤ k ∧ z ≠ -1 then 4 else 0)
theorem letsP_3 (x y z : Int) : letsP x y z 3 = letsN x y z := by
  unfold letsP letsN
  by_cases h1 : x = -1 <;> by_cases h2 : y = -1 <;> by_cases h3 : z = -1 <;> simp [h1, h2, h3]
theorem letsP_0 (x y z : Int) : letsP x y z 0 = 0 := by simp [letsP]
theorem letsP_lt (x y z : Int) (k : Nat) : letsP x y z k < 2 ^ 31 := by
  unfold letsP
  refine Nat.or_lt_two_pow (Nat.or_lt_two_pow ?_ ?_) ?_ <;> split <;> decide
theorem letsP_a {x : Int} (y z : Int) (h : x = -1) : letsP x y z 0 = letsP x y z 1 := by simp [letsP, h]
theorem letsP_b {y : Int} (x z : Int) (h : y = -1) : letsP x y z 1 = letsP x y z 2 := by simp [letsP, h]
theorem letsP_c {z : Int} (x y : Int) (h : z = -1) : letsP x y z 2 = letsP x y z 3 := by simp [letsP, h]
theorem letsP_A {x : Int} (y z : Int) (h : x ≠ -1) : letsP x y z 0 ||| 1 = letsP x y z 1 := by simp [letsP, h]
theorem letsP_B {y : Int} (x z : Int) (h : y ≠ -1) : letsP x y z 1 ||| 2 = letsP x y z 2 := by simp [letsP, h]
theorem letsP_C {z : Int} (x y : Int) (h : z ≠ -1) : letsP x y z 2 ||| 4 = letsP x y z 3 := by simp [letsP, h]

end Go.Proofs.YtnennilpedediaaDoor

namespace Go.Proofs.YtnennilpedediaaDoor
open Go.RowKit Go.Lib
set_option linter.unusedVariables false
set_option linter.unusedSimpArgs false

theorem info_u8 : (Tryd.prog.info? 5).map (fun i => (i.zero, i.size, i.bytes)) = some (some (Value.int .u8 0), 1, 1) := by kernel_rfl
theorem one_u8 : (Tryd.prog.info? 5).map (·.size) = some 1 := by
  obtain ⟨i, hi, hh⟩ := Option.map_eq_some_iff.1 info_u8
  simp only [Prod.mk.injEq] at hh
  rw [hi]
  exact congrArg some hh.2.1
theorem cells_u8 : Tryd.prog.cellsOf 5 = 1 := by
  obtain ⟨i, hi, hh⟩ := Option.map_eq_some_iff.1 one_u8
  unfold Program.cellsOf
  rw [hi]
  exact hh

/-- A text's bytes as a row of memory. -/
def byteRow (s : ByteArray) : Array Value := (Lib.byteCells s.data.toList).toArray
theorem size_byteRow (s : ByteArray) : (byteRow s).size = s.size := by unfold byteRow; rw [List.size_toArray, Lib.byteCells_length, ← Lib.size_eq]
/-- The world with a new row of zeros behind it, as long as the text. -/
def zeroed (w : World) (s : ByteArray) : World := w.alloc (.cells (madeCells #[Value.int .u8 0] s.size) 5)
/-- .. and with the text's bytes in it. -/
def inked (w : World) (s : ByteArray) : World := (zeroed w s).setRow w.heap.size (byteRow s)

theorem zeroed_at (w : World) (s : ByteArray) : (zeroed w s).heap[w.heap.size]? = some (.cells (madeCells #[Value.int .u8 0] s.size) 5 (0, 0)) := heap_alloc_new w _
theorem inked_at (w : World) (s : ByteArray) : (inked w s).heap[w.heap.size]? = some (.cells (byteRow s) 5 (0, 0)) := setRow_heap _ _ _ _ _ _ (zeroed_at w s)
theorem inked_below (w : World) (s : ByteArray) : Below w.heap.size w (inked w s) :=
  ((Below.refl _ w).alloc (Nat.le_refl _) _).trans ⟨rfl, rfl, rfl, by simp [inked, zeroed], fun k hk => setRow_other _ _ _ _ (by omega)⟩

theorem zeroed_run (w : World) (s : ByteArray) (hl : s.size ≤ 1048576) :
    (Instr.makeSlice 22 (.int .i64 (s.size : Int)) (.int .i64 (s.size : Int))).run Tryd.prog w = .ok (.slice (some ⟨w.heap.size, 0, none⟩) s.size s.size) (zeroed w s) :=
  run_make_row' 22 5 (.int .u8 0) 1 Tryd.underlying22 info_u8 rfl .i64 .i64 s.size (by omega) (by omega) w
theorem inked_run (w : World) (s : ByteArray) :
    (Builtin.copy_ #[22, 9] 3 #[.slice (some ⟨w.heap.size, 0, none⟩) s.size s.size, .string s]).run Tryd.prog (zeroed w s) = .ok (goInt s.size) (inked w s) := by
  have hz : (madeCells #[Value.int .u8 0] s.size).size = s.size := by simp [size_madeCells]
  have h := Lib.run_copy_row_string (P := Tryd.prog) (zeroed w s) 22 9 3 5 w.heap.size 0 s.size s.size s _ 5 Tryd.underlying22 one_u8 (zeroed_at w s) (Nat.le_refl _) (by omega)
  rw [h]
  unfold inked byteRow
  rw [List.take_zero, List.nil_append, List.drop_of_length_le (by simp [hz]), List.append_nil]
theorem read_run (w : World) (s : ByteArray) (h0 : s.size ≠ 0) (hl : s.size ≤ 1048576) :
    (Builtin.unsafeString_ #[81, 3] 9 #[.pointer (some ⟨w.heap.size, 0, none⟩), .int .i64 (s.size : Int)]).run Tryd.prog (inked w s) = .ok (.string s) ((inked w s).freeze ⟨w.heap.size, 0, none⟩ s.size) := by
  have hlen : s.data.toList.length = s.size := (Lib.size_eq s).symm
  have hrow : ∀ j x, s.data.toList[j]? = some x → (inked w s).cell? ((⟨w.heap.size, 0, none⟩ : Addr).add j) = some (.int .u8 x.toNat) := fun j x hx =>
    Lib.cells_of_row (inked_at w s) s.size j _ (by
      unfold byteRow
      rw [List.take_of_length_le (by rw [List.toList_toArray, Lib.byteCells_length, hlen]; exact Nat.le_refl _), List.toList_toArray]
      simp [Lib.byteCells, hx])
  have h := Lib.run_unsafeString_row (P := Tryd.prog) (inked w s) 81 3 9 5 Tryd.underlying81 cells_u8 w.heap.size (byteRow s).size (by unfold World.shape?; rw [inked_at]) s.data.toList
    (fun e => h0 (by rw [← hlen, e]; rfl)) (by rw [size_byteRow, hlen]; exact Nat.le_refl _) (by omega) hrow
  rwa [hlen] at h

end Go.Proofs.YtnennilpedediaaDoor

namespace Go.Proofs.YtnennilpedediaaDoor
open Go.RowKit Go.Lib Go.Shelf
set_option linter.unusedVariables false
set_option linter.unusedSimpArgs false

/-- A rune as memory holds it. -/
abbrev rn (z : Int) : Value := .int .i32 z
/-- A word's letters as numbers. -/
def nums (u : List UInt8) : List Int := u.map fun c => ((c.toNat : Nat) : Int)
theorem len_nums (u : List UInt8) : (nums u).length = u.length := by simp [nums]
theorem runes_from {u : List UInt8} (h : ∀ j, j < u.length → okC (lt u j) = true) : ∀ (b i : Nat) (acc : Array Value), i ≤ u.length → u.length ≤ i + b → Conv.runesFrom (bs u) b i acc = acc ++ ((nums (u.drop i)).map rn).toArray
  | 0, i, acc, hi, hb => by
    have : u.drop i = [] := by rw [List.drop_eq_nil_iff]; omega
    rw [this]
    simp [Conv.runesFrom, nums]
  | b + 1, i, acc, hi, hb => by
    by_cases hlt : i < u.length
    · have e : lt u i = u[i] := by simp [lt, hlt]
      have hd : u.drop i = lt u i :: u.drop (i + 1) := by rw [e, List.drop_eq_getElem_cons hlt]
      have hs : i < (bs u).size := by rw [size_bs]; exact hlt
      have := runes_from h b (i + 1) (acc.push (.int .i32 (Int.ofNat (lt u i).toNat))) (by omega) (by omega)
      unfold Conv.runesFrom
      rw [if_pos hs, step_one hlt (h i hlt)]
      refine Eq.trans this ?_
      rw [hd]
      simp [nums, rn]
    · have : u.drop i = [] := by rw [List.drop_eq_nil_iff]; omega
      have hs : ¬ i < (bs u).size := by rw [size_bs]; exact hlt
      unfold Conv.runesFrom
      rw [if_neg hs, this]
      simp [nums]
theorem runes_of {u : List UInt8} (h : ∀ j, j < u.length → okC (lt u j) = true) : Conv.runesFrom (bs u) (bs u).size 0 #[] = ((nums u).map rn).toArray := by
  rw [runes_from h _ 0 #[] (Nat.zero_le _) (by rw [size_bs]; omega)]
  simp
theorem encode_ok {c : UInt8} (h : okC c = true) : Utf8.encode ((c.toNat : Nat) : Int) = bs [c] := by
  rcases okC_iff.1 h with rfl | rfl | rfl <;> kernel_rfl
theorem fold_ok : ∀ (v s : List UInt8), (∀ c, c ∈ v → okC c = true) → (nums v).foldl (fun r n => r ++ Utf8.encode n) (bs s) = bs (s ++ v)
  | [], s, _ => by simp [nums]
  | c :: v, s, h => by
    have hc := encode_ok (h c (by simp))
    have := fold_ok v (s ++ [c]) (fun d hd => h d (by simp [hd]))
    unfold nums at this ⊢
    rw [List.map_cons, List.foldl_cons, hc, app_bs, this]
    simp
theorem bytes_ok {v : List UInt8} (h : ∀ c, c ∈ v → okC c = true) : runesBytes (nums v) = bs v := by
  unfold runesBytes
  exact fold_ok v [] h

/-- Where the letter at k comes from when i letters from each end have changed places, of n letters. -/
def turnAt (n i k : Nat) : Nat := if k < n ∧ (k < i ∨ n ≤ k + i) then n - 1 - k else k
theorem turnAt_none (n k : Nat) : turnAt n 0 k = k := by unfold turnAt; split <;> omega
theorem turnAt_low {n i : Nat} (h : 2 * i + 1 < n) : turnAt n i i = i := by unfold turnAt; split <;> omega
theorem turnAt_high {n i : Nat} (h : 2 * i + 1 < n) : turnAt n i (n - 1 - i) = n - 1 - i := by unfold turnAt; split <;> omega
theorem turnAt_next {n i k : Nat} (h : 2 * i + 1 < n) : turnAt n (i + 1) k = if k = n - 1 - i then i else if k = i then n - 1 - i else turnAt n i k := by
  unfold turnAt
  by_cases h1 : k = n - 1 - i
  · rw [if_pos h1, if_pos (by omega)]; omega
  · rw [if_neg h1]
    by_cases h2 : k = i
    · rw [if_pos h2, if_pos (by omega)]; omega
    · rw [if_neg h2]
      by_cases h3 : k < n ∧ (k < i ∨ n ≤ k + i)
      · rw [if_pos h3, if_pos (by omega)]
      · rw [if_neg h3, if_neg (by omega)]
theorem turnAt_end {n i k : Nat} (h : n ≤ 2 * i + 1) (hk : k < n) : turnAt n i k = n - 1 - k := by
  unfold turnAt
  by_cases h3 : k < n ∧ (k < i ∨ n ≤ k + i)
  · rw [if_pos h3]
  · rw [if_neg h3]; omega

/-- A row of runes whose first n have changed places i times. -/
def Turning (W : World) (g : Nat) (t : TypeId) (m n i : Nat) (f : Nat → Int) : Prop := W.rowIs g t m fun k => rn (f (turnAt n i k))
theorem Turning.cell {W : World} {g m n i k : Nat} {t : TypeId} {f : Nat → Int} (h : Turning W g t m n i f) (hk : k < m) : W.cell? ⟨g, k, none⟩ = some (rn (f (turnAt n i k))) := World.rowIs.cell h hk
theorem Turning.swap {W : World} {g m n i : Nat} {t : TypeId} {f : Nat → Int} (h : Turning W g t m n i f) (hi : 2 * i + 1 < n) :
    Turning ((W.setCell ⟨g, i, none⟩ (rn (f (n - 1 - i)))).setCell ⟨g, n - 1 - i, none⟩ (rn (f i))) g t m n (i + 1) f :=
  ((World.rowIs.set h i _).set (n - 1 - i) _).congr fun k _ => by
    rw [turnAt_next hi]
    by_cases h1 : k = n - 1 - i
    · rw [if_pos h1, if_pos h1]
    · rw [if_neg h1, if_neg h1]
      by_cases h2 : k = i
      · rw [if_pos h2, if_pos h2]
      · rw [if_neg h2, if_neg h2]

/-- What a word's conversion to runes lays: its numbers, and zeros behind them. -/
theorem turning_new (w : World) (xs : List Int) (n : Nat) (t : TypeId) : Turning (w.alloc (.cells ((xs.map rn).toArray ++ Array.replicate n (.int .i32 0)) t)) w.heap.size t (xs.length + n) xs.length 0 (fun k => xs.getD k 0) := by
  have h := World.rowIs_alloc w ((xs.map rn).toArray ++ Array.replicate n (.int .i32 0)) t (fun k => rn (xs.getD (turnAt xs.length 0 k) 0)) (fun k hk => by
    rw [turnAt_none]
    by_cases hlt : k < xs.length
    · rw [Array.getElem?_append_left (by simpa using hlt)]
      simp [List.getD, hlt]
    · have hs : k < xs.length + n := by simpa using hk
      rw [Array.getElem?_append_right (by simpa using hlt)]
      simp [List.getD, hlt, show k - xs.length < n by omega])
  have e : ((xs.map rn).toArray ++ Array.replicate n (Value.int .i32 0)).size = xs.length + n := by simp
  rw [e] at h
  exact h
/-- When all have changed places, the row holds the numbers of the word turned round. -/
theorem turned_cell {W : World} {g m i : Nat} {t : TypeId} {xs : List Int} (h : Turning W g t m xs.length i (fun k => xs.getD k 0)) (hm : xs.length ≤ m) (hi : xs.length ≤ 2 * i + 1) (j : Nat) (hj : j < xs.reverse.length) :
    W.cell? (Addr.add ⟨g, 0, none⟩ j) = some (.int .i32 (xs.reverse.getD j 0)) := by
  have hj2 : j < xs.length := by simpa using hj
  have e : (Addr.add ⟨g, 0, none⟩ j) = ⟨g, j, none⟩ := by simp [Addr.add]; omega
  rw [e, h.cell (by omega), turnAt_end hi hj2]
  have : xs.reverse.getD j 0 = xs.getD (xs.length - 1 - j) 0 := by
    simp [List.getD, List.getElem?_reverse hj2]
  rw [this]

end Go.Proofs.YtnennilpedediaaDoor

namespace Go.Proofs.YtnennilpedediaaDoor
open Go.RowKit Go.Lib
set_option linter.unusedVariables false
set_option linter.unusedSimpArgs false

theorem arow_iterAt {W : World} {base g : Nat} {s : ByteArray} {p : Nat} {v : Value} {xs : List Int} (h : ARow base W v xs) (hI : W.heap[g]? = some (.stringIter s p)) (p' : Nat) : ARow base (W.iterAt g s p') v xs := by
  obtain ⟨h1, h2⟩ := h
  refine ⟨h1, h2.imp id ?_⟩
  rintro ⟨b, cap, cur, hv, hg, hh, r⟩
  refine ⟨b, cap, cur, hv, hg, (Lib.iterAt_other W g b s p' (fun e => ?_)).trans hh, r⟩
  rw [e, hI] at hh
  cases hh

theorem okRow3 (T : List (List Int)) (a b c : Int) : okRow T.length [a, b, c] = (inT T a && (inT T b && inT T c)) := by
  rw [Bool.eq_iff_iff, okRow_iff, Bool.and_eq_true, Bool.and_eq_true]
  unfold inT
  simp only [Bool.and_eq_true, decide_eq_true_iff]
  constructor
  · intro h
    have h0 := h 0 (by simp)
    have h1 := h 1 (by simp)
    have h2 := h 2 (by simp)
    simp [el] at h0 h1 h2
    omega
  · rintro ⟨h0, h1, h2⟩ j hj
    have : j = 0 ∨ j = 1 ∨ j = 2 := by simp at hj; omega
    rcases this with rfl | rfl | rfl <;> simp [el] <;> omega
theorem row3 {w : World} {g : Nat} {t : TypeId} {a b c : Int} (h : w.rowIs g t 3 (pl3 a b c)) : Row w g (g + 1) (some ⟨g, 0, none⟩) [a, b, c] := fun j hj => by
  have h3 : j = 0 ∨ j = 1 ∨ j = 2 := by simp at hj; omega
  refine ⟨g, 0, rfl, Nat.le_refl _, by omega, ?_⟩
  rw [Nat.zero_add, World.rowIs.cell h (i := j) (by omega)]
  rcases h3 with rfl | rfl | rfl <;> rfl

end Go.Proofs.YtnennilpedediaaDoor

namespace Go.Proofs.YtnennilpedediaaDoor
open Go.RowKit
set_option linter.unusedVariables false

end Go.Proofs.YtnennilpedediaaDoor
