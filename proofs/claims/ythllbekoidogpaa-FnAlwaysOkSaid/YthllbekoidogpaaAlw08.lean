/-  -/
import Derived.Test.YthllbekoidogpaaAlw07
import Derived.Test.YthllbekoidogpaaAlw06
import Derived.Test.YthllbekoidogpaaAlw01
import Derived.WideKeyMaps
import Derived.DeepKeys3
import Derived.MapKept
import Derived.Test.YthllbekoidogpaaAlw02
import Derived.DeepKeys4
import Derived.Deep.RegionHeld3
namespace Go.Proofs.Ythllbekoidogpaa
open Go.RowKit
set_option linter.unusedVariables false
set_option linter.unusedSimpArgs false

/-- A row of four texts. -/
def st4 (a b c d : ByteArray) (i : Nat) : Value := .string (if i = 0 then a else if i = 1 then b else if i = 2 then c else d)
theorem st4_0 (a b c d : ByteArray) : st4 a b c d 0 = .string a := rfl
theorem st4_1 (a b c d : ByteArray) : st4 a b c d 1 = .string b := rfl
theorem st4_2 (a b c d : ByteArray) : st4 a b c d 2 = .string c := rfl
theorem st4_3 (a b c d : ByteArray) : st4 a b c d 3 = .string d := rfl
theorem st4_new (w : World) (t : TypeId) (a b c d : ByteArray) : (w.alloc (.cells #[.string a, .string b, .string c, .string d] t)).rowIs w.heap.size t 4 (st4 a b c d) :=
  World.rowIs_alloc w #[.string a, .string b, .string c, .string d] t _ fun i hi => by
    match i, hi with
    | 0, _ | 1, _ | 2, _ | 3, _ => rfl
section
variable {W : World} {g t : Nat} {a b c d : ByteArray}
theorem st4_set0 (h : W.rowIs g t 4 (st4 a b c d)) (v : ByteArray) : (W.setCell ⟨g, 0, none⟩ (.string v)).rowIs g t 4 (st4 v b c d) :=
  World.rowIs.congr (World.rowIs.set h 0 (.string v)) fun i hi => by
    match i, hi with
    | 0, _ | 1, _ | 2, _ | 3, _ => rfl
theorem st4_set1 (h : W.rowIs g t 4 (st4 a b c d)) (v : ByteArray) : (W.setCell ⟨g, 1, none⟩ (.string v)).rowIs g t 4 (st4 a v c d) :=
  World.rowIs.congr (World.rowIs.set h 1 (.string v)) fun i hi => by
    match i, hi with
    | 0, _ | 1, _ | 2, _ | 3, _ => rfl
theorem st4_set2 (h : W.rowIs g t 4 (st4 a b c d)) (v : ByteArray) : (W.setCell ⟨g, 2, none⟩ (.string v)).rowIs g t 4 (st4 a b v d) :=
  World.rowIs.congr (World.rowIs.set h 2 (.string v)) fun i hi => by
    match i, hi with
    | 0, _ | 1, _ | 2, _ | 3, _ => rfl
theorem st4_set3 (h : W.rowIs g t 4 (st4 a b c d)) (v : ByteArray) : (W.setCell ⟨g, 3, none⟩ (.string v)).rowIs g t 4 (st4 a b c v) :=
  World.rowIs.congr (World.rowIs.set h 3 (.string v)) fun i hi => by
    match i, hi with
    | 0, _ | 1, _ | 2, _ | 3, _ => rfl
end
theorem results_cell1' {fn : Func} {p : Tmp} {ty : TypeId} (h : fn.results = #[.cell p ty]) (tmps : Array Value) (P : Program) (w : World) :
    (results fn tmps).run P w = ((asAddr (tmps.getD p undef)).run P w).andThen fun a w₁ => (loadVar ty a).run P w₁ := by
  simp only [results, h]
  simp [Sem.run_bind, Result.andThen]
set_option maxHeartbeats 1000000 in
theorem res_parts (tmps : Array Value) (g : Nat) (a b c d : ByteArray) (W : World) (hR : W.rowIs g 105 4 (st4 a b c d)) (h0 : tmps.getD 2 undef = .pointer (some ⟨g, 0, none⟩)) :
    (results Try.f106 tmps).run Try.prog W = .ok (.agg #[.string a, .string b, .string c, .string d]) W := by
  have c0 := hR.cell (i := 0) (by omega)
  have c1 := hR.cell (i := 1) (by omega)
  have c2 := hR.cell (i := 2) (by omega)
  have c3 := hR.cell (i := 3) (by omega)
  rw [st4_0] at c0
  rw [st4_1] at c1
  rw [st4_2] at c2
  rw [st4_3] at c3
  rw [results_cell1' rfl]
  simp [asAddr, Result.andThen, h0, go_sem, c0, c1, c2, c3]
set_option maxRecDepth 20000 in
set_option maxHeartbeats 4000000 in
theorem partsOf_any (u : List UInt8) (w : World) (hn : u.length ≤ 1048576) :
    Calls Try.prog 106 #[.string (bs u)] w fun e w' => e = .returned (.agg #[.string (bs (hdW u)), .string (bs (hlW u)), .string (bs (llW u)), .string (bs (tlW u))]) ∧ Below w.heap.size w w' := by
  have r0 := st4_new w 105 ⟨#[]⟩ ⟨#[]⟩ ⟨#[]⟩ ⟨#[]⟩
  have b0 := (Below.refl w.heap.size w).alloc (Nat.le_refl _) (.cells #[.string ⟨#[]⟩, .string ⟨#[]⟩, .string ⟨#[]⟩, .string ⟨#[]⟩] 105)
  have s0 : (w.alloc (.cells #[.string ⟨#[]⟩, .string ⟨#[]⟩, .string ⟨#[]⟩, .string ⟨#[]⟩] 105)).heap.size = w.heap.size + 1 := by simp
  go_enter Try.func106, Try.ntmps106
  go_wp2_with fail
  generalize w.alloc (.cells #[.string ⟨#[]⟩, .string ⟨#[]⟩, .string ⟨#[]⟩, .string ⟨#[]⟩] 105) = w0 at r0 b0 s0 ⊢
  have r1 := st4_new w0 105 ⟨#[]⟩ ⟨#[]⟩ ⟨#[]⟩ ⟨#[]⟩
  have b1 := b0.alloc (by omega) (.cells #[.string ⟨#[]⟩, .string ⟨#[]⟩, .string ⟨#[]⟩, .string ⟨#[]⟩] 105)
  have r0' := World.rowIs.alloc r0 (.cells #[.string ⟨#[]⟩, .string ⟨#[]⟩, .string ⟨#[]⟩, .string ⟨#[]⟩] 105)
  have s1 : (w0.alloc (.cells #[.string ⟨#[]⟩, .string ⟨#[]⟩, .string ⟨#[]⟩, .string ⟨#[]⟩] 105)).heap.size = w.heap.size + 2 := by simp; omega
  rw [s0] at r1
  generalize w0.alloc (.cells #[.string ⟨#[]⟩, .string ⟨#[]⟩, .string ⟨#[]⟩, .string ⟨#[]⟩] 105) = w1 at r0' r1 b1 s1 ⊢
  refine (iHeadOf_any u _ hn).mono ?_
  rintro e w2 ⟨rfl, b2⟩
  have B2 := b1.trans (b2.mono (by omega))
  have r2 := World.rowIs.of_block r1 (b2.block (w.heap.size + 1) (by omega))
  have r2' := World.rowIs.of_block r0' (b2.block w.heap.size (by omega))
  have z2 : w.heap.size + 2 ≤ w2.heap.size := Nat.le_trans (Nat.le_of_eq s1.symm) b2.size
  have hc0 := World.rowIs.cell r2 (i := 0) (by omega)
  have hc1 := World.rowIs.cell r2 (i := 1) (by omega)
  have hf0 := World.rowIs.frozen r2 0
  have hf1 := World.rowIs.frozen r2 1
  have Y1 := hide (st4_set1 (st4_set0 r2 (bs (hdW u))) (bs (hlW u)))
  have Y2 := hide (World.rowIs.setOther (World.rowIs.setOther r2' (a := ⟨w.heap.size + 1, 0, none⟩) (by show w.heap.size ≠ w.heap.size + 1; omega) (.string (bs (hdW u)))) (a := ⟨w.heap.size + 1, 1, none⟩) (by show w.heap.size ≠ w.heap.size + 1; omega) (.string (bs (hlW u))))
  have Y3 := hide ((B2.setCell (p := ⟨w.heap.size + 1, 0, none⟩) (by show w.heap.size ≤ w.heap.size + 1; omega) (.string (bs (hdW u)))).setCell (p := ⟨w.heap.size + 1, 1, none⟩) (by show w.heap.size ≤ w.heap.size + 1; omega) (.string (bs (hlW u))))
  have Y4 := hide (show ((w2.setCell ⟨w.heap.size + 1, 0, none⟩ (.string (bs (hdW u)))).setCell ⟨w.heap.size + 1, 1, none⟩ (.string (bs (hlW u)))).heap.size = w2.heap.size from by simp)
  clear r0 r1 r0' b0 b1 b2 r2 r2' B2
  go_wp2_with fail
  generalize (w2.setCell ⟨w.heap.size + 1, 0, none⟩ (.string (bs (hdW u)))).setCell ⟨w.heap.size + 1, 1, none⟩ (.string (bs (hlW u))) = w3 at Y1 Y2 Y3 Y4 ⊢
  clear hc0 hc1 hf0 hf1
  refine (iTailOf_any u _ hn).mono ?_
  rintro e w4 ⟨rfl, b4⟩
  have z3 : w.heap.size + 2 ≤ w3.heap.size := Nat.le_trans z2 (Nat.le_of_eq Y4.out.symm)
  have B4 := Y3.out.trans (b4.mono (by omega))
  have r4 := World.rowIs.of_block Y1.out (b4.block (w.heap.size + 1) (by omega))
  have r4' := World.rowIs.of_block Y2.out (b4.block w.heap.size (by omega))
  have hc0 := World.rowIs.cell r4 (i := 0) (by omega)
  have hc1 := World.rowIs.cell r4 (i := 1) (by omega)
  have hc2 := World.rowIs.cell r4 (i := 2) (by omega)
  have hc3 := World.rowIs.cell r4 (i := 3) (by omega)
  rw [st4_0] at hc0
  rw [st4_1] at hc1
  have hf2 := World.rowIs.frozen r4 2
  have hf3 := World.rowIs.frozen r4 3
  have d0 := World.rowIs.cell r4' (i := 0) (by omega)
  have d1 := World.rowIs.cell r4' (i := 1) (by omega)
  have d2 := World.rowIs.cell r4' (i := 2) (by omega)
  have d3 := World.rowIs.cell r4' (i := 3) (by omega)
  have e0 := World.rowIs.frozen r4' 0
  have e1 := World.rowIs.frozen r4' 1
  have e2 := World.rowIs.frozen r4' 2
  have e3 := World.rowIs.frozen r4' 3
  have r5 := World.rowIs.setOther (World.rowIs.setOther r4' (a := ⟨w.heap.size + 1, 2, none⟩) (by show w.heap.size ≠ w.heap.size + 1; omega) (.string (bs (llW u)))) (a := ⟨w.heap.size + 1, 3, none⟩) (by show w.heap.size ≠ w.heap.size + 1; omega) (.string (bs (tlW u)))
  have Z2 := hide (st4_set3 (st4_set2 (st4_set1 (st4_set0 r5 (bs (hdW u))) (bs (hlW u))) (bs (llW u))) (bs (tlW u)))
  have l0 : w.heap.size ≤ w.heap.size := Nat.le_refl _
  have l1 : w.heap.size ≤ w.heap.size + 1 := by omega
  have Z3 := hide ((((((B4.setCell (p := ⟨w.heap.size + 1, 2, none⟩) l1 (.string (bs (llW u)))).setCell (p := ⟨w.heap.size + 1, 3, none⟩) l1 (.string (bs (tlW u)))).setCell (p := ⟨w.heap.size, 0, none⟩) l0 (.string (bs (hdW u)))).setCell (p := ⟨w.heap.size, 1, none⟩) l0 (.string (bs (hlW u)))).setCell (p := ⟨w.heap.size, 2, none⟩) l0 (.string (bs (llW u)))).setCell (p := ⟨w.heap.size, 3, none⟩) l0 (.string (bs (tlW u))))
  clear r5 l0 l1
  clear r4 r4' B4 b4 z3
  go_wp2_with fail
  exact bodyPost_ret (res_parts _ _ _ _ _ _ _ Z2.out rfl) rfl ⟨rfl, Z3.out⟩
end Go.Proofs.Ythllbekoidogpaa

namespace Go.Proofs.Ythllbekoidogpaa
open Go.RowKit
set_option linter.unusedVariables false
set_option linter.unusedSimpArgs false

/-- All that the map in block b holds is right. -/
def Memo (P : Program) (k : TypeId) (R : Value → Value → Prop) (W : World) (b : Nat) : Prop :=
  ∃ es clock, W.heap[b]? = some (.map es clock) ∧ ∀ en, en ∈ es.toList → (∃ l, keyOf P k en.key = some l) ∧ R en.key en.val
section
variable {P : Program} {k e t : TypeId} {R : Value → Value → Prop} {W W' : World} {b : Nat} {x v z : Value}
theorem Memo.new (w : World) : Memo P k R (w.alloc (.map #[] 0)) w.heap.size := ⟨#[], 0, (MapKept.heap_alloc w _).1, fun en h => by simp at h⟩
theorem Memo.lt (h : Memo P k R W b) : b < W.heap.size := by
  obtain ⟨es, c, hb, _⟩ := h
  exact (Array.getElem?_eq_some_iff.1 hb).1
theorem Memo.keep (h : Memo P k R W b) (hk : W'.heap[b]? = W.heap[b]?) : Memo P k R W' b := by
  obtain ⟨es, c, hb, hr⟩ := h
  exact ⟨es, c, hk.trans hb, hr⟩
/-- A look with 'ok': it tells what is right, or that there is nothing. -/
theorem Memo.look (L : WideMaps.KeyLaw P k) (ht : P.underlying t = some (.map k e)) (hz : (zeroValue e).run P W = .ok z W) (h : Memo P k R W b) (hx : ∃ l, keyOf P k x = some l) :
    (Instr.lookup t (.map (some b)) x true).run P W = .ok (.tuple #[z, .bool false]) W ∨ ∃ v, R x v ∧ (Instr.lookup t (.map (some b)) x true).run P W = .ok (.tuple #[v, .bool true]) W := by
  obtain ⟨es, clock, hb, hr⟩ := h
  obtain ⟨lx, hx⟩ := hx
  have hc := L.check W es.isEmpty hx
  rcases L.find W hx es.toList (fun en hen => (hr en hen).1) with ⟨hf, _⟩ | ⟨j, en, hf, hj, hkey⟩
  · left
    simp [Instr.lookup, run_underlying ht, MapKept.run_getObj_map hb, hc, hf, hz, Result.andThen]
  · right
    have hm : en ∈ es.toList := List.mem_of_getElem? hj
    refine ⟨en.val, by have := (hr en hm).2; rw [hkey] at this; exact this, ?_⟩
    simp [Instr.lookup, run_underlying ht, MapKept.run_getObj_map hb, hc, hf, Result.andThen]
/-- What is right is remembered. -/
theorem Memo.put (L : WideMaps.KeyLaw P k) (ht : P.underlying t = some (.map k e)) (h : Memo P k R W b) (hx : ∃ l, keyOf P k x = some l) (hv : R x v) :
    ∃ W', (Instr.mapUpdate t (.map (some b)) x v).run P W = .ok () W' ∧ Memo P k R W' b ∧ W'.os = W.os ∧ W'.tape = W.tape ∧ W'.output = W.output ∧ W'.heap.size = W.heap.size ∧ ∀ j, j ≠ b → W'.heap[j]? = W.heap[j]? := by
  obtain ⟨es, clock, hb, hr⟩ := h
  obtain ⟨lx, hx⟩ := hx
  have hc := L.check W false hx
  rcases L.find W hx es.toList (fun en hen => (hr en hen).1) with ⟨hf, _⟩ | ⟨j, en, hf, hj, hkey⟩
  · refine ⟨{ W with heap := W.heap.setIfInBounds b (.map (es.push { key := x, val := v, born := clock }) (clock + 1)) }, ?_, ⟨_, _, (MapKept.heap_set hb).1, fun en hen => ?_⟩, rfl, rfl, rfl, by simp, (MapKept.heap_set hb).2⟩
    · simp [Instr.mapUpdate, run_underlying ht, MapKept.run_getObj_map hb, hc, hf, MapKept.run_setObj_map _ hb, Result.andThen]
    · rw [Array.toList_push, List.mem_append, List.mem_singleton] at hen
      rcases hen with hen | rfl
      · exact hr en hen
      · exact ⟨⟨lx, hx⟩, hv⟩
  · have hs := L.stays W hx
    have hje : ((es[j]?).map (·.key)).getD x = x := by
      have : es[j]? = some en := by simpa using hj
      rw [this]
      exact hkey
    refine ⟨{ W with heap := W.heap.setIfInBounds b (.map (es.modify j fun e => { e with key := x, val := v }) clock) }, ?_, ⟨_, _, (MapKept.heap_set hb).1, fun en' hen => ?_⟩, rfl, rfl, rfl, by simp, (MapKept.heap_set hb).2⟩
    · simp [Instr.mapUpdate, run_underlying ht, MapKept.run_getObj_map hb, hc, hf, hje, hs, MapKept.run_setObj_map _ hb, Result.andThen]
    · obtain ⟨i, hi, rfl⟩ := List.getElem_of_mem hen
      have hi' : i < es.size := by simpa using hi
      have e1 : (es.modify j fun e => { e with key := x, val := v }).toList[i] = if j = i then { es[i] with key := x, val := v } else es[i] := by
        rw [Array.getElem_toList, Array.getElem_modify]
      rw [e1]
      split
      · exact ⟨⟨lx, hx⟩, hv⟩
      · exact hr _ (Array.getElem_mem_toList hi')
/-- A pair of texts is a key: of a struct of two texts, or of an array of two. -/
theorem pair_key {s1 s2 : ByteArray} (hl : ∃ L, P.keyLits (P.types.size + 1) k [.string s1, .string s2] = some L) (hf : (Value.agg #[.string s1, .string s2]).formed P k = true) (hk : P.keyType k = true)
    (hw : (match P.underlying k with | some (.array _ _) | some (.struct _) => true | _ => false) = true) : ∃ l, keyOf P k (.agg #[.string s1, .string s2]) = some l := by
  obtain ⟨L, hL⟩ := hl
  unfold keyOf
  split
  · rw [hk, hf]
    simp only [Bool.and_self, if_true, Value.cells, hL]
    exact ⟨_, rfl⟩
  · rw [hk, hf]
    simp only [Bool.and_self, if_true, Value.cells, hL]
    exact ⟨_, rfl⟩
  · next h1 h2 => split at hw <;> simp_all
end
end Go.Proofs.Ythllbekoidogpaa

namespace Go.Proofs.Ythllbekoidogpaa
open Go.RowKit
set_option linter.unusedVariables false
set_option linter.unusedSimpArgs false

theorem bs_inj {u v : List UInt8} (h : bs u = bs v) : u = v := by
  have := congrArg ByteArray.toList h
  rwa [toList_bs, toList_bs] at this
theorem keyLits_str {P : Program} {t : TypeId} (h : P.underlying t = some .string) (d : Nat) (s : ByteArray) (hs : s.size ≤ maxLen) : P.keyLits (d + 1) t [.string s] = some [.string s.data.toList] := by
  unfold Program.keyLits
  simp only [h, if_pos hs]
theorem laid_out : laidOutB Try.prog = true := by kernel_rfl
theorem row_pair : (68 : TypeId) < Try.prog.types.size := of_decide_eq_true (by kernel_rfl)
theorem pair_wide : (match Try.prog.underlying 68 with | some (.array _ _) | some (.struct _) => true | _ => false) = true := by rw [Try.underlying68]
set_option maxRecDepth 100000 in
theorem pair_law : WideMaps.KeyLaw Try.prog 68 := deep_law_laid laid_out (m := 2) (by omega) row_pair (by kernel_rfl) pair_wide
theorem pair_cells : Try.prog.cellsOf 68 = 2 := by kernel_rfl
theorem str_cells : Try.prog.cellsOf 9 = 1 := by kernel_rfl
theorem pair_keyType : Try.prog.keyType 68 = true := by kernel_rfl
theorem pair_formed (s1 s2 : ByteArray) : (Value.agg #[.string s1, .string s2]).formed Try.prog 68 = true := by simp [Value.formed, Try.underlying68, pair_cells]
theorem pair_lits (d : Nat) (s1 s2 : ByteArray) (h1 : s1.size ≤ maxLen) (h2 : s2.size ≤ maxLen) : ∃ L, Try.prog.keyLits (d + 2) 68 [.string s1, .string s2] = some L := by
  have e1 := keyLits_str Try.underlying9 d s1 h1
  have e2 := keyLits_str Try.underlying9 d s2 h2
  refine ⟨[.string s1.data.toList, .string s2.data.toList], ?_⟩
  unfold Program.keyLits
  simp [Try.underlying68, pair_cells, str_cells, e1, e2]
set_option maxRecDepth 100000 in
theorem pair_is (u v : List UInt8) (hu : u.length ≤ 24) (hv : v.length ≤ 24) : ∃ l, keyOf Try.prog 68 (.agg #[.string (bs u), .string (bs v)]) = some l := by
  obtain ⟨d, hd⟩ : ∃ d, Try.prog.types.size + 1 = d + 2 := ⟨Try.prog.types.size - 1, by have : (68 : Nat) < Try.prog.types.size := row_pair; omega⟩
  refine pair_key ?_ (pair_formed _ _) pair_keyType pair_wide
  rw [hd]
  exact pair_lits d _ _ (by rw [size_bs, maxLen_is]; omega) (by rw [size_bs, maxLen_is]; omega)
theorem zero_bool (w : World) : (zeroValue 4).run Try.prog w = .ok (.bool false) w := by kernel_rfl
/-- What is right to be remembered of two words. -/
def SR (x v : Value) : Prop := ∀ u1 v1 : List UInt8, x = .agg #[.string (bs u1), .string (bs v1)] → v = .bool (sameB u1 v1)
theorem SR.of (u v : List UInt8) : SR (.agg #[.string (bs u), .string (bs v)]) (.bool (sameB u v)) := fun u1 v1 e => by
  injection e with e
  have e := congrArg Array.toList e
  simp only [List.cons.injEq, Value.string.injEq, and_true] at e
  rw [bs_inj e.1, bs_inj e.2]
theorem SR.at {u v : List UInt8} {z : Value} (h : SR (.agg #[.string (bs u), .string (bs v)]) z) : z = .bool (sameB u v) := h u v rfl
/-- The answers remembered. -/
def Ans (W : World) (b : Nat) : Prop := Memo Try.prog 68 SR W b
section
variable {W : World} {b : Nat} {u v : List UInt8}
theorem Ans.look (h : Ans W b) (hu : u.length ≤ 24) (hv : v.length ≤ 24) :
    (Instr.lookup 90 (.map (some b)) (.agg #[.string (bs u), .string (bs v)]) true).run Try.prog W = .ok (.tuple #[.bool false, .bool false]) W ∨
      (Instr.lookup 90 (.map (some b)) (.agg #[.string (bs u), .string (bs v)]) true).run Try.prog W = .ok (.tuple #[.bool (sameB u v), .bool true]) W := by
  rcases Memo.look (e := 4) pair_law (by rw [Try.underlying90]) (zero_bool W) h (pair_is u v hu hv) with e | ⟨z, hz, e⟩
  · exact .inl e
  · rw [hz.at] at e
    exact .inr e
theorem Ans.put (h : Ans W b) (hu : u.length ≤ 24) (hv : v.length ≤ 24) :
    ∃ W', (Instr.mapUpdate 90 (.map (some b)) (.agg #[.string (bs u), .string (bs v)]) (.bool (sameB u v))).run Try.prog W = .ok () W' ∧ Ans W' b ∧ Only b (b + 1) W W' := by
  obtain ⟨W', e, hm, h1, h2, h3, h4, h5⟩ := Memo.put (e := 4) pair_law (by rw [Try.underlying90]) h (pair_is u v hu hv) (SR.of u v)
  exact ⟨W', e, hm, ⟨h1, h2, h3, Nat.le_of_eq h4.symm, fun k _ hk => h5 k (by omega)⟩⟩
theorem Ans.keep {W' : World} (h : Ans W b) (hk : W'.heap[b]? = W.heap[b]?) : Ans W' b := Memo.keep h hk
theorem Ans.lt (h : Ans W b) : b < W.heap.size := Memo.lt h
theorem Ans.new (w : World) : Ans (w.alloc (.map #[] 0)) w.heap.size := Memo.new w
end
end Go.Proofs.Ythllbekoidogpaa

namespace Go.Proofs.Ythllbekoidogpaa
open Go.RowKit
set_option linter.unusedVariables false
set_option linter.unusedSimpArgs false

theorem Ans.only {W W' : World} {b : Nat} (h : Ans W b) (k : Below W.heap.size W W') : Ans W' b := h.keep (k.block b h.lt)
def pr2 (a b : ByteArray) (i : Nat) : Value := .string (if i = 0 then a else b)
theorem pr2_new (w : World) (a b : ByteArray) : (w.alloc (.cells #[.string a, .string b] 68)).rowIs w.heap.size 68 2 (pr2 a b) :=
  World.rowIs_alloc w #[.string a, .string b] 68 _ fun i hi => by
    match i, hi with
    | 0, _ | 1, _ => rfl
theorem pr2_at0 {W : World} {g t : Nat} {a b : ByteArray} (h : W.rowIs g t 2 (pr2 a b)) : W.cell? ⟨g, 0, none⟩ = some (.string a) := World.rowIs.cell h (i := 0) (by omega)
theorem pr2_at1 {W : World} {g t : Nat} {a b : ByteArray} (h : W.rowIs g t 2 (pr2 a b)) : W.cell? ⟨g, 1, none⟩ = some (.string b) := World.rowIs.cell h (i := 1) (by omega)
theorem ext_pair (w : World) (a b : ByteArray) :
    (w.alloc (.cells #[.string a, .string b] 68)).cell? ⟨w.heap.size, 0, none⟩ = some (.string a) ∧ (w.alloc (.cells #[.string a, .string b] 68)).cell? ⟨w.heap.size, 1, none⟩ = some (.string b) := by
  exact ⟨pr2_at0 (pr2_new w a b), pr2_at1 (pr2_new w a b)⟩

set_option maxRecDepth 20000 in
set_option maxHeartbeats 8000000 in
theorem same_any : ∀ (N : Nat) (b : Nat) (u v : List UInt8) (w : World), u.length ≤ N → okE u → okE v → Ans w b →
    Calls Try.prog 87 #[.map (some b), .string (bs u), .string (bs v)] w fun e w' => e = .returned (.bool (sameB u v)) ∧ Ans w' b ∧ Only b (b + 1) w w' := by
  intro N
  refine Nat.strongRecOn N fun N ihN => ?_
  intro b u v w hN hu hv hA
  by_cases hu0 : u = []
  · subst hu0
    have HE := hide (sameB_nil (u := []) (v := v) (.inl rfl))
    have hb0 := toList_bs []
    have hd : decide (([] : List UInt8) = v) = decide (v = []) := by rw [decide_eq_decide]; exact ⟨Eq.symm, Eq.symm⟩
    go_enter Try.func87, Try.ntmps87
    go_wp2
    go_ret
    exact ⟨ret_bool (by rw [HE.out, toList_bs]; cases v <;> simp), hA, Only.refl _ _ _⟩
  by_cases hv0 : v = []
  · subst hv0
    have HE := hide (sameB_nil (u := u) (v := []) (.inr rfl))
    have hb0 := toList_bs []
    have hx : ((bs u).toList == (bs []).toList) = decide (u = []) := eq_bs u []
    have hx1 : ((bs u).toList == []) = false := by rw [toList_bs]; simpa using hu0
    have hx2 : (bs u).toList.isEmpty = false := by rw [toList_bs]; simpa using hu0
    have hx3 : ¬ (bs u).toList = [] := by rw [toList_bs]; exact hu0
    have HD := hide (decide_eq_false hu0)
    go_enter Try.func87, Try.ntmps87
    go_wp2
    go_ret
    exact ⟨ret_bool (by rw [HE.out, HD.out]), hA, Only.refl _ _ _⟩
  · have ku : okW u = true := hu.resolve_left hu0
    have kv : okW v = true := hv.resolve_left hv0
    have h24u := okE_len hu
    have h24v := okE_len hv
    have hnu : u.length ≤ 1048576 := by omega
    have hnv : v.length ≤ 1048576 := by omega
    have hx1 : ((bs u).toList == []) = false := by rw [toList_bs]; simpa using hu0
    have hx2 : (bs u).toList.isEmpty = false := by rw [toList_bs]; simpa using hu0
    have hx3 : ¬ (bs u).toList = [] := by rw [toList_bs]; exact hu0
    have hy1 : ((bs v).toList == []) = false := by rw [toList_bs]; simpa using hv0
    have hy2 : (bs v).toList.isEmpty = false := by rw [toList_bs]; simpa using hv0
    have hy3 : ¬ (bs v).toList = [] := by rw [toList_bs]; exact hv0
    obtain ⟨c0, c1⟩ := ext_pair w (bs u) (bs v)
    have b0 := (Below.refl w.heap.size w).alloc (Nat.le_refl _) (.cells #[.string (bs u), .string (bs v)] 68)
    have s0 : (w.alloc (.cells #[.string (bs u), .string (bs v)] 68)).heap.size = w.heap.size + 1 := by simp
    have A0 := hA.only b0
    have hbw := hA.lt
    clear hA
    rcases A0.look h24u h24v with hlk | hlk
    rotate_left
    · go_enter Try.func87, Try.ntmps87
      go_wp2
      go_ret
      exact ⟨rfl, A0, Only.of_below b0⟩
    · have HS := hide (sameB_step hu0 hv0)
      have HL := hide (sameB_let ku kv)
      have HU := hide (show hdW u = hd u ∧ hlW u = [hl u] ∧ llW u = [ll u] ∧ tlW u = tl u from ⟨hdW_ok ku, hlW_ok ku, llW_ok ku, tlW_ok ku⟩)
      have HV := hide (show hdW v = hd v ∧ hlW v = [hl v] ∧ llW v = [ll v] ∧ tlW v = tl v from ⟨hdW_ok kv, hlW_ok kv, llW_ok kv, tlW_ok kv⟩)
      have ih1 := fun w => ihN (N - 1) (by have := hd_lt hu0; omega) b (hd u) (hd v) w (by have := hd_lt hu0; omega) (okE_hd ku) (okE_hd kv)
      have ih2 := fun w => ihN (N - 1) (by have := tl_lt hu0; omega) b (tl u) (tl v) w (by have := tl_lt hu0; omega) (okE_tl ku) (okE_tl kv)
      have hl1 := eq_one (hl u) (hl v)
      have hl2 := eq_one (ll u) (ll v)
      have IH := hide (And.intro ih1 ih2)
      obtain ⟨a, ha⟩ : ∃ a, a = hd u := ⟨_, rfl⟩
      obtain ⟨a', ha'⟩ : ∃ a', a' = hd v := ⟨_, rfl⟩
      obtain ⟨c, hc⟩ : ∃ c, c = tl u := ⟨_, rfl⟩
      obtain ⟨c', hc'⟩ : ∃ c', c' = tl v := ⟨_, rfl⟩
      obtain ⟨x, hx⟩ : ∃ x, x = hl u := ⟨_, rfl⟩
      obtain ⟨y, hy⟩ : ∃ y, y = hl v := ⟨_, rfl⟩
      obtain ⟨p, hp⟩ : ∃ p, p = ll u := ⟨_, rfl⟩
      obtain ⟨q, hq⟩ : ∃ q, q = ll v := ⟨_, rfl⟩
      rw [← ha, ← ha', ← hc, ← hc'] at IH
      rw [← ha, ← hc, ← hx, ← hp] at HU
      rw [← ha', ← hc', ← hy, ← hq] at HV
      rw [← ha, ← ha', ← hc, ← hc', ← hx, ← hy, ← hp, ← hq] at HS
      rw [← hx, ← hy] at hl1
      rw [← hp, ← hq] at hl2
      clear ha ha' hc hc' hx hy hp hq ih1 ih2 ihN hN hu hv ku kv hu0 hv0
      obtain ⟨n1, hn1⟩ : ∃ n1, n1 = letN u := ⟨_, rfl⟩
      obtain ⟨n2, hn2⟩ : ∃ n2, n2 = letN v := ⟨_, rfl⟩
      rw [← hn1, ← hn2] at HL
      have HN := hide (show letN u = n1 ∧ letN v = n2 from ⟨hn1.symm, hn2.symm⟩)
      clear hn1 hn2
      go_enter Try.func87, Try.ntmps87
      go_wp2_with fail
      have R0 := pr2_new w (bs u) (bs v)
      generalize w.alloc (.cells #[.string (bs u), .string (bs v)] 68) = w0 at R0 c0 c1 b0 s0 A0 hlk ⊢
      refine (partsOf_any u _ hnu).mono ?_
      rw [HU.out.1, HU.out.2.1, HU.out.2.2.1, HU.out.2.2.2]
      rintro e w1 ⟨rfl, q1⟩
      go_wp2_with fail
      refine (partsOf_any v _ hnv).mono ?_
      rw [HV.out.1, HV.out.2.1, HV.out.2.2.1, HV.out.2.2.2]
      rintro e w2 ⟨rfl, q2⟩
      clear hlk c0 c1
      have q12 := q1.trans (q2.mono q1.size)
      have R2 := World.rowIs.of_block R0 (q12.block w.heap.size (by omega))
      have A2 := A0.only q12
      have O2 : Only b (b + 1) w w2 := (Only.of_below b0).trans (Only.of_below q12)
      have s2 : w.heap.size + 1 ≤ w2.heap.size := Nat.le_trans (Nat.le_of_eq s0.symm) q12.size
      clear q1 q2 q12 A0 R0 b0 s0
      go_wp2_with fail
      have P3 := st4_new w2 105 (bs a) (bs [x]) (bs [p]) (bs c)
      have b3 := (Below.refl w2.heap.size w2).alloc (Nat.le_refl _) (.cells #[.string (bs a), .string (bs [x]), .string (bs [p]), .string (bs c)] 105)
      have s3 : (w2.alloc (.cells #[.string (bs a), .string (bs [x]), .string (bs [p]), .string (bs c)] 105)).heap.size = w2.heap.size + 1 := by simp
      generalize w2.alloc (.cells #[.string (bs a), .string (bs [x]), .string (bs [p]), .string (bs c)] 105) = w3 at P3 b3 s3 ⊢
      have Q4 := st4_new w3 105 (bs a') (bs [y]) (bs [q]) (bs c')
      have b4 := (Below.refl w3.heap.size w3).alloc (Nat.le_refl _) (.cells #[.string (bs a'), .string (bs [y]), .string (bs [q]), .string (bs c')] 105)
      have P4 := World.rowIs.alloc P3 (.cells #[.string (bs a'), .string (bs [y]), .string (bs [q]), .string (bs c')] 105)
      have s4 : (w3.alloc (.cells #[.string (bs a'), .string (bs [y]), .string (bs [q]), .string (bs c')] 105)).heap.size = w2.heap.size + 2 := by simp; omega
      rw [s3] at Q4
      generalize w3.alloc (.cells #[.string (bs a'), .string (bs [y]), .string (bs [q]), .string (bs c')] 105) = w4 at P4 Q4 b4 s4 ⊢
      refine (iLettersIn_any u _ hnu).mono ?_
      rw [HN.out.1]
      rintro e w5 ⟨rfl, q5⟩
      go_wp2_with fail
      refine (iLettersIn_any v _ hnv).mono ?_
      rw [HN.out.2]
      rintro e w6 ⟨rfl, q6⟩
      have q56 := q5.trans (q6.mono q5.size)
      have k3 := b3.trans (b4.mono (by omega))
      have k6 := k3.trans (q56.mono (by omega))
      have R6 := World.rowIs.of_block R2 (k6.block w.heap.size (by omega))
      have A6 := A2.only k6
      have O6 : Only b (b + 1) w w6 := O2.trans (Only.of_below k6)
      have P6 := World.rowIs.of_block P4 (q56.block w2.heap.size (by omega))
      have Q6 := World.rowIs.of_block Q4 (q56.block (w2.heap.size + 1) (by omega))
      have s6 : w2.heap.size + 2 ≤ w6.heap.size := Nat.le_trans (Nat.le_of_eq s4.symm) q56.size
      clear q5 q6 q56 k3 k6 R2 A2 O2 P3 P4 Q4 b3 b4 s3 s4
      obtain ⟨g, hg⟩ : ∃ g, g = w2.heap.size := ⟨_, rfl⟩
      obtain ⟨g0, hg0⟩ : ∃ g0, g0 = w.heap.size := ⟨_, rfl⟩
      rw [← hg] at P6 Q6 s6 s2 ⊢
      rw [← hg0] at R6 s2 hbw ⊢
      clear hg hg0
      have d0 := pr2_at0 R6
      have d1 := pr2_at1 R6
      have p1 := World.rowIs.cell P6 (i := 1) (by omega)
      have p2 := World.rowIs.cell P6 (i := 2) (by omega)
      have p0 := World.rowIs.cell P6 (i := 0) (by omega)
      have r1 := World.rowIs.cell Q6 (i := 1) (by omega)
      have r2 := World.rowIs.cell Q6 (i := 2) (by omega)
      have r0 := World.rowIs.cell Q6 (i := 0) (by omega)
      rw [st4_0] at p0 r0
      rw [st4_1] at p1 r1
      rw [st4_2] at p2 r2
      have HR := hide (And.intro R6 (And.intro P6 Q6))
      clear R6 P6 Q6
      obtain ⟨w9, hput, A9, o9⟩ := A6.put h24u h24v
      cases hnn : (n1 == n2)
      · have hs := HL.out (beq_eq_false_iff_ne.1 hnn)
        rw [hs] at hput
        have HH := hide hs
        clear hs
        go_wp2
        go_ret
        exact ⟨ret_bool HH.out.symm, A9, O6.trans o9⟩
      cases e1 : decide ([x] = [y])
      · rw [e1] at hl1
        have hs : sameB u v = false := by rw [HS.out, e1]; rfl
        rw [hs] at hput
        have HH := hide hs
        clear hs e1
        go_wp2
        go_ret
        exact ⟨ret_bool HH.out.symm, A9, O6.trans o9⟩
      rw [e1] at hl1
      cases e2 : decide ([p] = [q])
      · rw [e2] at hl2
        have hs : sameB u v = false := by rw [HS.out, e1, e2]; rfl
        rw [hs] at hput
        have HH := hide hs
        clear hs e1 e2
        go_wp2
        go_ret
        exact ⟨ret_bool HH.out.symm, A9, O6.trans o9⟩
      rw [e2] at hl2
      have hs : sameB u v = (sameB a a' && sameB c c') := by rw [HS.out, e1, e2]; rfl
      have HH := hide hs
      clear hs e1 e2 hput A9 o9 w9 HS
      go_wp2_with fail
      refine (IH.out.1 _ A6).mono ?_
      cases e3 : sameB a a'
      · rintro e w7 ⟨rfl, A7, O7⟩
        have R7 := World.rowIs.of_block HR.out.1 (O7.block g0 (by omega) (.inr (by omega)))
        have f0 := pr2_at0 R7
        have f1 := pr2_at1 R7
        obtain ⟨w9, hput, A9, o9⟩ := A7.put h24u h24v
        have hs : sameB u v = false := by rw [HH.out, e3]; rfl
        rw [hs] at hput
        have HK := hide hs
        clear hs e3 d0 d1 p0 p1 p2 r0 r1 r2
        go_wp2
        go_ret
        exact ⟨ret_bool HK.out.symm, A9, (O6.trans O7).trans o9⟩
      · rintro e w7 ⟨rfl, A7, O7⟩
        have P7 := World.rowIs.of_block HR.out.2.1 (O7.block g (by omega) (.inr (by omega)))
        have Q7 := World.rowIs.of_block HR.out.2.2 (O7.block (g + 1) (by omega) (.inr (by omega)))
        have p3 := World.rowIs.cell P7 (i := 3) (by omega)
        have r3 := World.rowIs.cell Q7 (i := 3) (by omega)
        rw [st4_3] at p3 r3
        have R7 := World.rowIs.of_block HR.out.1 (O7.block g0 (by omega) (.inr (by omega)))
        have s7 := O7.size
        clear d0 d1 p0 p1 p2 r0 r1 r2 P7 Q7
        go_wp2_with fail
        refine (IH.out.2 _ A7).mono ?_
        have hs : sameB u v = sameB c c' := by rw [HH.out, e3]; rfl
        obtain ⟨t, ht⟩ : ∃ t, t = sameB c c' := ⟨_, rfl⟩
        rw [← ht] at hs ⊢
        rintro e w8 ⟨rfl, A8, O8⟩
        have R8 := World.rowIs.of_block R7 (O8.block g0 (by omega) (.inr (by omega)))
        have f0 := pr2_at0 R8
        have f1 := pr2_at1 R8
        obtain ⟨w9, hput, A9, o9⟩ := A8.put h24u h24v
        rw [hs] at hput
        have HK := hide hs
        clear hs ht e3 p3 r3
        go_wp2
        go_ret
        exact ⟨ret_bool HK.out.symm, A9, ((O6.trans O7).trans O8).trans o9⟩
end Go.Proofs.Ythllbekoidogpaa

namespace Go.Proofs.Ythllbekoidogpaa
open Go.RowKit
set_option linter.unusedVariables false
set_option linter.unusedSimpArgs false

set_option maxRecDepth 20000 in
set_option maxHeartbeats 4000000 in
theorem iSameWords_any (u v : List UInt8) (w : World) (hn : u.length ≤ 1048576) (hm : v.length ≤ 1048576) :
    Calls Try.prog 71 #[.string (bs u), .string (bs v)] w fun e w' => e = .returned (.bool (okW u && (okW v && sameB u v))) ∧ Below w.heap.size w w' := by
  cases hu : okW u
  · go_enter Try.func71, Try.ntmps71
    go_wp2_with fail
    refine (iWordOk_any u _ hn).mono ?_
    rw [hu]
    rintro e w1 ⟨rfl, b1⟩
    go_wp2
    go_ret
    exact ⟨rfl, b1⟩
  cases hv : okW v
  · go_enter Try.func71, Try.ntmps71
    go_wp2_with fail
    refine (iWordOk_any u _ hn).mono ?_
    rw [hu]
    rintro e w1 ⟨rfl, b1⟩
    go_wp2_with fail
    refine (iWordOk_any v _ hm).mono ?_
    rw [hv]
    rintro e w2 ⟨rfl, b2⟩
    go_wp2
    go_ret
    exact ⟨rfl, b1.trans (b2.mono b1.size)⟩
  have HU := hide hu
  have HV := hide hv
  have hmm := @run_makeMap Try.prog
  go_enter Try.func71, Try.ntmps71
  go_wp2_with fail
  refine (iWordOk_any u _ hn).mono ?_
  rw [hu]
  rintro e w1 ⟨rfl, b1⟩
  go_wp2_with fail
  refine (iWordOk_any v _ hm).mono ?_
  rw [hv]
  rintro e w2 ⟨rfl, b2⟩
  clear hu hv
  have B2 := b1.trans (b2.mono b1.size)
  have b3 := (Below.refl w2.heap.size w2).alloc (Nat.le_refl _) (.map #[] 0)
  have A3 := Ans.new w2
  go_wp2_with fail
  generalize w2.alloc (.map #[] 0) = w3 at b3 A3 ⊢
  refine (same_any u.length w2.heap.size u v w3 (Nat.le_refl _) (.inr HU.out) (.inr HV.out) A3).mono ?_
  rintro e w4 ⟨rfl, A4, o4⟩
  have b4 := b3.trans (o4.below (Nat.le_refl _) b3.size)
  go_wp2
  go_ret
  exact ⟨rfl, B2.trans (b4.mono B2.size)⟩

end Go.Proofs.Ythllbekoidogpaa
