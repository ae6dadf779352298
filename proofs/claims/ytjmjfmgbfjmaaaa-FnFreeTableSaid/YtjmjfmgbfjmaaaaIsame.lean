/-  -/
import Derived.Test.YtjmjfmgbfjmaaaaIword
import Derived.Test.YtjmjfmgbfjmaaaaSsame
import Derived.Test.YtjmjfmgbfjmaaaaMemo
import Derived.DeepKeys4
import Derived.Deep.RegionHeld3
import Derived.Test.YtjmjfmgbfjmaaaaSapart
namespace Go.Proofs.Ytjmjfmgbfjmaaaa
open Go.RowKit
set_option linter.unusedVariables false
set_option linter.unusedSimpArgs false

/-- A row of four texts. -/
def st4 (a b c d : ByteArray) (i : Nat) : Value := .string (if i = 0 then a else if i = 1 then b else if i = 2 then c else d)
theorem st4_0 (a b c d : ByteArray) : st4 a b c d 0 = .string a := rfl
theorem st4_1 (a b c d : ByteArray) : st4 a b c d 1 = .string b := rfl
theorem st4_2 (a b c d : ByteArray) : st4 a b c d 2 = .string c := rfl
theorem st4_3 (a b c d : ByteArray) : st4 a b c d 3 = .string d := rfl
theorem st4_new (w : World) (t : TypeId) (a b c d : ByteArray) : (w.alloc (.cells #[.string a, .string b, .string c, .string d] t)).rowIs w.heap.size t 4 (st4 a b c d) :=
  World.rowIs_alloc w #[.string a, .string b, .string c, .string d] t _ fun i hi => by
    match i, hi with
    | 0, _ | 1, _ | 2, _ | 3, _ => rfl
section
variable {W : World} {g t : Nat} {a b c d : ByteArray}
theorem st4_set0 (h : W.rowIs g t 4 (st4 a b c d)) (v : ByteArray) : (W.setCell ⟨g, 0, none⟩ (.string v)).rowIs g t 4 (st4 v b c d) :=
  World.rowIs.congr (World.rowIs.set h 0 (.string v)) fun i hi => by
    match i, hi with
    | 0, _ | 1, _ | 2, _ | 3, _ => rfl
theorem st4_set1 (h : W.rowIs g t 4 (st4 a b c d)) (v : ByteArray) : (W.setCell ⟨g, 1, none⟩ (.string v)).rowIs g t 4 (st4 a v c d) :=
  World.rowIs.congr (World.rowIs.set h 1 (.string v)) fun i hi => by
    match i, hi with
    | 0, _ | 1, _ | 2, _ | 3, _ => rfl
theorem st4_set2 (h : W.rowIs g t 4 (st4 a b c d)) (v : ByteArray) : (W.setCell ⟨g, 2, none⟩ (.string v)).rowIs g t 4 (st4 a b v d) :=
  World.rowIs.congr (World.rowIs.set h 2 (.string v)) fun i hi => by
    match i, hi with
    | 0, _ | 1, _ | 2, _ | 3, _ => rfl
theorem st4_set3 (h : W.rowIs g t 4 (st4 a b c d)) (v : ByteArray) : (W.setCell ⟨g, 3, none⟩ (.string v)).rowIs g t 4 (st4 a b c v) :=
  World.rowIs.congr (World.rowIs.set h 3 (.string v)) fun i hi => by
    match i, hi with
    | 0, _ | 1, _ | 2, _ | 3, _ => rfl
end
theorem results_cell1' {fn : Func} {p : Tmp} {ty : TypeId} (h : fn.results = #[.cell p ty]) (tmps : Array Value) (P : Program) (w : World) :
    (results fn tmps).run P w = ((asAddr (tmps.getD p undef)).run P w).andThen fun a w₁ => (loadVar ty a).run P w₁ := by
  simp only [results, h]
  simp [Sem.run_bind, Result.andThen]
set_option maxHeartbeats 1000000 in
theorem res_parts (tmps : Array Value) (g : Nat) (a b c d : ByteArray) (W : World) (hR : W.rowIs g 58 4 (st4 a b c d)) (h0 : tmps.getD 2 undef = .pointer (some ⟨g, 0, none⟩)) :
    (results Try.f58 tmps).run Try.prog W = .ok (.agg #[.string a, .string b, .string c, .string d]) W := by
  have c0 := hR.cell (i := 0) (by omega)
  have c1 := hR.cell (i := 1) (by omega)
  have c2 := hR.cell (i := 2) (by omega)
  have c3 := hR.cell (i := 3) (by omega)
  rw [st4_0] at c0
  rw [st4_1] at c1
  rw [st4_2] at c2
  rw [st4_3] at c3
  rw [results_cell1' rfl]
  simp [asAddr, Result.andThen, h0, go_sem, c0, c1, c2, c3]
set_option maxRecDepth 20000 in
set_option maxHeartbeats 4000000 in
theorem partsOf_any (u : List UInt8) (w : World) (hn : u.length ≤ 1048576) :
    Calls Try.prog 58 #[.string (bs u)] w fun e w' => e = .returned (.agg #[.string (bs (hdW u)), .string (bs (hlW u)), .string (bs (llW u)), .string (bs (tlW u))]) ∧ Below w.heap.size w w' := by
  have r0 := st4_new w 58 ⟨#[]⟩ ⟨#[]⟩ ⟨#[]⟩ ⟨#[]⟩
  have b0 := (Below.refl w.heap.size w).alloc (Nat.le_refl _) (.cells #[.string ⟨#[]⟩, .string ⟨#[]⟩, .string ⟨#[]⟩, .string ⟨#[]⟩] 58)
  have s0 : (w.alloc (.cells #[.string ⟨#[]⟩, .string ⟨#[]⟩, .string ⟨#[]⟩, .string ⟨#[]⟩] 58)).heap.size = w.heap.size + 1 := by simp
  go_enter Try.func58, Try.ntmps58
  go_wp2_with fail
  generalize w.alloc (.cells #[.string ⟨#[]⟩, .string ⟨#[]⟩, .string ⟨#[]⟩, .string ⟨#[]⟩] 58) = w0 at r0 b0 s0 ⊢
  have r1 := st4_new w0 58 ⟨#[]⟩ ⟨#[]⟩ ⟨#[]⟩ ⟨#[]⟩
  have b1 := b0.alloc (by omega) (.cells #[.string ⟨#[]⟩, .string ⟨#[]⟩, .string ⟨#[]⟩, .string ⟨#[]⟩] 58)
  have r0' := World.rowIs.alloc r0 (.cells #[.string ⟨#[]⟩, .string ⟨#[]⟩, .string ⟨#[]⟩, .string ⟨#[]⟩] 58)
  have s1 : (w0.alloc (.cells #[.string ⟨#[]⟩, .string ⟨#[]⟩, .string ⟨#[]⟩, .string ⟨#[]⟩] 58)).heap.size = w.heap.size + 2 := by simp; omega
  rw [s0] at r1
  generalize w0.alloc (.cells #[.string ⟨#[]⟩, .string ⟨#[]⟩, .string ⟨#[]⟩, .string ⟨#[]⟩] 58) = w1 at r0' r1 b1 s1 ⊢
  refine (iHeadOf_any u _ hn).mono ?_
  rintro e w2 ⟨rfl, b2⟩
  have B2 := b1.trans (b2.mono (by omega))
  have r2 := World.rowIs.of_block r1 (b2.block (w.heap.size + 1) (by omega))
  have r2' := World.rowIs.of_block r0' (b2.block w.heap.size (by omega))
  have z2 : w.heap.size + 2 ≤ w2.heap.size := Nat.le_trans (Nat.le_of_eq s1.symm) b2.size
  have hc0 := World.rowIs.cell r2 (i := 0) (by omega)
  have hc1 := World.rowIs.cell r2 (i := 1) (by omega)
  have hf0 := World.rowIs.frozen r2 0
  have hf1 := World.rowIs.frozen r2 1
  have Y1 := hide (st4_set1 (st4_set0 r2 (bs (hdW u))) (bs (hlW u)))
  have Y2 := hide (World.rowIs.setOther (World.rowIs.setOther r2' (a := ⟨w.heap.size + 1, 0, none⟩) (by show w.heap.size ≠ w.heap.size + 1; omega) (.string (bs (hdW u)))) (a := ⟨w.heap.size + 1, 1, none⟩) (by show w.heap.size ≠ w.heap.size + 1; omega) (.string (bs (hlW u))))
  have Y3 := hide ((B2.setCell (p := ⟨w.heap.size + 1, 0, none⟩) (by show w.heap.size ≤ w.heap.size + 1; omega) (.string (bs (hdW u)))).setCell (p := ⟨w.heap.size + 1, 1, none⟩) (by show w.heap.size ≤ w.heap.size + 1; omega) (.string (bs (hlW u))))
  have Y4 := hide (show ((w2.setCell ⟨w.heap.size + 1, 0, none⟩ (.string (bs (hdW u)))).setCell ⟨w.heap.size + 1, 1, none⟩ (.string (bs (hlW u)))).heap.size = w2.heap.size from by simp)
  clear r0 r1 r0' b0 b1 b2 r2 r2' B2
  go_wp2_with fail
  generalize (w2.setCell ⟨w.heap.size + 1, 0, none⟩ (.string (bs (hdW u)))).setCell ⟨w.heap.size + 1, 1, none⟩ (.string (bs (hlW u))) = w3 at Y1 Y2 Y3 Y4 ⊢
  clear hc0 hc1 hf0 hf1
  refine (iTailOf_any u _ hn).mono ?_
  rintro e w4 ⟨rfl, b4⟩
  have z3 : w.heap.size + 2 ≤ w3.heap.size := Nat.le_trans z2 (Nat.le_of_eq Y4.out.symm)
  have B4 := Y3.out.trans (b4.mono (by omega))
  have r4 := World.rowIs.of_block Y1.out (b4.block (w.heap.size + 1) (by omega))
  have r4' := World.rowIs.of_block Y2.out (b4.block w.heap.size (by omega))
  have hc0 := World.rowIs.cell r4 (i := 0) (by omega)
  have hc1 := World.rowIs.cell r4 (i := 1) (by omega)
  have hc2 := World.rowIs.cell r4 (i := 2) (by omega)
  have hc3 := World.rowIs.cell r4 (i := 3) (by omega)
  rw [st4_0] at hc0
  rw [st4_1] at hc1
  have hf2 := World.rowIs.frozen r4 2
  have hf3 := World.rowIs.frozen r4 3
  have d0 := World.rowIs.cell r4' (i := 0) (by omega)
  have d1 := World.rowIs.cell r4' (i := 1) (by omega)
  have d2 := World.rowIs.cell r4' (i := 2) (by omega)
  have d3 := World.rowIs.cell r4' (i := 3) (by omega)
  have e0 := World.rowIs.frozen r4' 0
  have e1 := World.rowIs.frozen r4' 1
  have e2 := World.rowIs.frozen r4' 2
  have e3 := World.rowIs.frozen r4' 3
  have r5 := World.rowIs.setOther (World.rowIs.setOther r4' (a := ⟨w.heap.size + 1, 2, none⟩) (by show w.heap.size ≠ w.heap.size + 1; omega) (.string (bs (llW u)))) (a := ⟨w.heap.size + 1, 3, none⟩) (by show w.heap.size ≠ w.heap.size + 1; omega) (.string (bs (tlW u)))
  have Z2 := hide (st4_set3 (st4_set2 (st4_set1 (st4_set0 r5 (bs (hdW u))) (bs (hlW u))) (bs (llW u))) (bs (tlW u)))
  have l0 : w.heap.size ≤ w.heap.size := Nat.le_refl _
  have l1 : w.heap.size ≤ w.heap.size + 1 := by omega
  have Z3 := hide ((((((B4.setCell (p := ⟨w.heap.size + 1, 2, none⟩) l1 (.string (bs (llW u)))).setCell (p := ⟨w.heap.size + 1, 3, none⟩) l1 (.string (bs (tlW u)))).setCell (p := ⟨w.heap.size, 0, none⟩) l0 (.string (bs (hdW u)))).setCell (p := ⟨w.heap.size, 1, none⟩) l0 (.string (bs (hlW u)))).setCell (p := ⟨w.heap.size, 2, none⟩) l0 (.string (bs (llW u)))).setCell (p := ⟨w.heap.size, 3, none⟩) l0 (.string (bs (tlW u))))
  clear r5 l0 l1
  clear r4 r4' B4 b4 z3
  go_wp2_with fail
  exact bodyPost_ret (res_parts _ _ _ _ _ _ _ Z2.out rfl) rfl ⟨rfl, Z3.out⟩
end Go.Proofs.Ytjmjfmgbfjmaaaa

namespace Go.Proofs.Ytjmjfmgbfjmaaaa
open Go.RowKit
set_option linter.unusedVariables false
set_option linter.unusedSimpArgs false

theorem bs_inj {u v : List UInt8} (h : bs u = bs v) : u = v := by
  have := congrArg ByteArray.toList h
  rwa [toList_bs, toList_bs] at this
theorem keyLits_str {P : Program} {t : TypeId} (h : P.underlying t = some .string) (d : Nat) (s : ByteArray) (hs : s.size ≤ maxLen) : P.keyLits (d + 1) t [.string s] = some [.string s.data.toList] := by
  unfold Program.keyLits
  simp only [h, if_pos hs]
theorem laid_out : laidOutB Try.prog = true := by kernel_rfl
theorem str_cells : Try.prog.cellsOf 9 = 1 := by kernel_rfl
theorem zero_bool (w : World) : (zeroValue 4).run Try.prog w = .ok (.bool false) w := by kernel_rfl
/-- What is right to be remembered of two words. -/
def SR (x v : Value) : Prop := ∀ u1 v1 : List UInt8, x = .agg #[.string (bs u1), .string (bs v1)] → v = .bool (sameB u1 v1)
theorem SR.of (u v : List UInt8) : SR (.agg #[.string (bs u), .string (bs v)]) (.bool (sameB u v)) := fun u1 v1 e => by
  injection e with e
  have e := congrArg Array.toList e
  simp only [List.cons.injEq, Value.string.injEq, and_true] at e
  rw [bs_inj e.1, bs_inj e.2]
theorem SR.at {u v : List UInt8} {z : Value} (h : SR (.agg #[.string (bs u), .string (bs v)]) z) : z = .bool (sameB u v) := h u v rfl
section
variable {W : World} {b : Nat} {u v : List UInt8}
end
end Go.Proofs.Ytjmjfmgbfjmaaaa

namespace Go.Proofs.Ytjmjfmgbfjmaaaa
open Go.RowKit
set_option linter.unusedVariables false
set_option linter.unusedSimpArgs false

def pr2 (a b : ByteArray) (i : Nat) : Value := .string (if i = 0 then a else b)
theorem pr2_at0 {W : World} {g t : Nat} {a b : ByteArray} (h : W.rowIs g t 2 (pr2 a b)) : W.cell? ⟨g, 0, none⟩ = some (.string a) := World.rowIs.cell h (i := 0) (by omega)
theorem pr2_at1 {W : World} {g t : Nat} {a b : ByteArray} (h : W.rowIs g t 2 (pr2 a b)) : W.cell? ⟨g, 1, none⟩ = some (.string b) := World.rowIs.cell h (i := 1) (by omega)
end Go.Proofs.Ytjmjfmgbfjmaaaa

namespace Go.Proofs.Ytjmjfmgbfjmaaaa
open Go.RowKit
set_option linter.unusedVariables false
set_option linter.unusedSimpArgs false

theorem mdW_E {u : List UInt8} (h : okE u) : mdW u = made u := by
  rcases h with rfl | h
  · rfl
  · exact mdW_ok h
theorem hd_one {u : List UInt8} (hu : u ≠ []) (h : hd u = []) : made u = [hl u] := made_one hu fun y hy => by
  rcases (hdIs hu).mem.1 hy with hy | hy
  · rw [h] at hy; cases hy
  · exact hy
theorem hd_two {u : List UInt8} (hu : u ≠ []) (h : hd u ≠ []) : made u = made (hd u) ++ [hl u] ++ [ll u] ++ made (tl u) := by
  rw [made_step hu fun ha => h (one_parts hu ha).1.eq.1]
  simp
theorem four_keep {w W W' : World} {g : Nat} {a b c d : Value} (h : W.cell? ⟨g, 0, none⟩ = some a ∧ W.cell? ⟨g, 1, none⟩ = some b ∧ W.cell? ⟨g, 2, none⟩ = some c ∧ W.cell? ⟨g, 3, none⟩ = some d ∧ Below w.heap.size w W) (hb : Below W.heap.size W W') :
    W'.cell? ⟨g, 0, none⟩ = some a ∧ W'.cell? ⟨g, 1, none⟩ = some b ∧ W'.cell? ⟨g, 2, none⟩ = some c ∧ W'.cell? ⟨g, 3, none⟩ = some d ∧ Below w.heap.size w W' := by
  have l : g < W.heap.size := World.block_lt_of_cell? _ _ h.1
  exact ⟨(hb.cell (p := ⟨g, 0, none⟩) l).trans h.1, (hb.cell (p := ⟨g, 1, none⟩) l).trans h.2.1, (hb.cell (p := ⟨g, 2, none⟩) l).trans h.2.2.1, (hb.cell (p := ⟨g, 3, none⟩) l).trans h.2.2.2.1, h.2.2.2.2.trans (hb.mono h.2.2.2.2.size)⟩

set_option maxRecDepth 20000 in
set_option maxHeartbeats 8000000 in
theorem made_any : ∀ (N : Nat) (u : List UInt8) (w : World), u.length ≤ N → u.length ≤ 1048576 →
    Calls Try.prog 18 #[.string (bs u)] w fun e w' => e = .returned (.string (bs (mdW u))) ∧ Below w.heap.size w w' := by
  intro N
  refine Nat.strongRecOn N fun N ihN => ?_
  intro u w hN hn
  cases hw : okW u
  · have HE := hide (mdW_not hw)
    go_enter Try.func18, Try.ntmps18
    go_wp2_with fail
    refine (iWordOk_any u _ hn).mono ?_
    rw [hw]
    rintro e w1 ⟨rfl, b1⟩
    go_wp2
    go_ret
    rw [HE.out]
    exact ⟨rfl, b1⟩
  · have hu0 : u ≠ [] := okW_ne hw
    have HM := hide (mdW_ok hw)
    have HU := hide (show hdW u = hd u ∧ hlW u = [hl u] ∧ llW u = [ll u] ∧ tlW u = tl u from ⟨hdW_ok hw, hlW_ok hw, llW_ok hw, tlW_ok hw⟩)
    by_cases h0 : hd u = []
    · have HO := hide (hd_one hu0 h0)
      have hb0 := toList_bs []
      rw [h0] at HU
      go_enter Try.func18, Try.ntmps18
      go_wp2_with fail
      refine (iWordOk_any u _ hn).mono ?_
      rw [hw]
      rintro e w1 ⟨rfl, b1⟩
      go_wp2_with fail
      refine (partsOf_any u _ hn).mono ?_
      rw [HU.out.1, HU.out.2.1, HU.out.2.2.1, HU.out.2.2.2]
      rintro e w2 ⟨rfl, b2⟩
      have B2 := b1.trans (b2.mono b1.size)
      have R := st4_new w2 58 (bs []) (bs [hl u]) (bs [ll u]) (bs (tl u))
      have c0 := World.rowIs.cell R (i := 0) (by omega)
      have c1 := World.rowIs.cell R (i := 1) (by omega)
      rw [st4_0] at c0
      rw [st4_1] at c1
      have b3 := B2.alloc B2.size (.cells #[.string (bs []), .string (bs [hl u]), .string (bs [ll u]), .string (bs (tl u))] 58)
      clear R h0
      go_wp2
      go_ret
      rw [HM.out, HO.out]
      exact ⟨rfl, b3⟩
    · have HO := hide (hd_two hu0 h0)
      have ih1 := fun w => ihN (N - 1) (by have := hd_lt hu0; omega) (hd u) w (by have := hd_lt hu0; omega) (by have := hd_lt hu0; omega)
      have ih2 := fun w => ihN (N - 1) (by have := tl_lt hu0; omega) (tl u) w (by have := tl_lt hu0; omega) (by have := tl_lt hu0; omega)
      rw [mdW_E (okE_hd hw)] at ih1
      rw [mdW_E (okE_tl hw)] at ih2
      have IH := hide (And.intro ih1 ih2)
      have s1 : (made (hd u)).length ≤ 10 := made_ten fun y hy => okC_iff.1 ((okW_iff.1 hw).1 y ((hdIs hu0).mem.2 (.inl hy)))
      have s2 : (made (tl u)).length ≤ 10 := made_ten fun y hy => okC_iff.1 ((okW_iff.1 hw).1 y ((tlIs hu0).mem.2 (.inl hy)))
      have a1 := fun w => add_bs (P := Try.prog) (made (hd u)) [hl u] (by simp; omega) w
      have a2 := fun w => add_bs (P := Try.prog) (made (hd u) ++ [hl u]) [ll u] (by simp; omega) w
      have a3 := fun w => add_bs (P := Try.prog) (made (hd u) ++ [hl u] ++ [ll u]) (made (tl u)) (by simp; omega) w
      obtain ⟨a, ha⟩ : ∃ a, a = hd u := ⟨_, rfl⟩
      obtain ⟨c, hc⟩ : ∃ c, c = tl u := ⟨_, rfl⟩
      obtain ⟨x, hx⟩ : ∃ x, x = hl u := ⟨_, rfl⟩
      obtain ⟨p, hp⟩ : ∃ p, p = ll u := ⟨_, rfl⟩
      rw [← ha] at h0
      rw [← ha, ← hc] at IH
      rw [← ha, ← hc, ← hx, ← hp] at HU HO
      rw [← ha, ← hx] at a1
      rw [← ha, ← hx, ← hp] at a2
      rw [← ha, ← hx, ← hp, ← hc] at a3
      obtain ⟨m1, hm1⟩ : ∃ m1, m1 = made a := ⟨_, rfl⟩
      obtain ⟨m2, hm2⟩ : ∃ m2, m2 = made c := ⟨_, rfl⟩
      rw [← hm1] at a1 a2
      rw [← hm1, ← hm2] at a3
      obtain ⟨v1, hv1⟩ : ∃ v1, v1 = m1 ++ [x] := ⟨_, rfl⟩
      rw [← hv1] at a1 a2 a3
      obtain ⟨v2, hv2⟩ : ∃ v2, v2 = v1 ++ [p] := ⟨_, rfl⟩
      rw [← hv2] at a2 a3
      obtain ⟨v3, hv3⟩ : ∃ v3, v3 = v2 ++ m2 := ⟨_, rfl⟩
      rw [← hv3] at a3
      have HR := hide (show made u = v3 from by rw [HO.out, hv3, hv2, hv1, hm1, hm2])
      have HM1 := hide hm1.symm
      have HM2 := hide hm2.symm
      have hx1 : ((bs a).toList == []) = false := by rw [toList_bs]; simpa using h0
      have hx2 : (bs a).toList.isEmpty = false := by rw [toList_bs]; simpa using h0
      have hx3 : ¬ (bs a).toList = [] := by rw [toList_bs]; exact h0
      clear ha hc hx hp ih1 ih2 hm1 hm2 hv1 hv2 hv3 s1 s2 HO ihN hN h0 hu0
      go_enter Try.func18, Try.ntmps18
      go_wp2_with fail
      refine (iWordOk_any u _ hn).mono ?_
      rw [hw]
      rintro e w1 ⟨rfl, b1⟩
      go_wp2_with fail
      refine (partsOf_any u _ hn).mono ?_
      rw [HU.out.1, HU.out.2.1, HU.out.2.2.1, HU.out.2.2.2]
      rintro e w2 ⟨rfl, b2⟩
      have B2 := b1.trans (b2.mono b1.size)
      have R := st4_new w2 58 (bs a) (bs [x]) (bs [p]) (bs c)
      have c0 := World.rowIs.cell R (i := 0) (by omega)
      have c1 := World.rowIs.cell R (i := 1) (by omega)
      have c2 := World.rowIs.cell R (i := 2) (by omega)
      have c3 := World.rowIs.cell R (i := 3) (by omega)
      rw [st4_0] at c0
      rw [st4_1] at c1
      rw [st4_2] at c2
      rw [st4_3] at c3
      have b3 := B2.alloc B2.size (.cells #[.string (bs a), .string (bs [x]), .string (bs [p]), .string (bs c)] 58)
      obtain ⟨g, hg⟩ : ∃ g, g = w2.heap.size := ⟨_, rfl⟩
      rw [← hg] at c0 c1 c2 c3
      clear R b1 b2 hw B2
      go_wp2_with fail
      rw [← hg]
      generalize w2.alloc (.cells #[.string (bs a), .string (bs [x]), .string (bs [p]), .string (bs c)] 58) = w3 at b3 c0 c1 c2 c3 ⊢
      clear hg
      refine wp_region_noPanic ?_
      refine wp_region_held_drew (S := (fun W => W.cell? ⟨g, 0, none⟩ = some (.string (bs a)) ∧ W.cell? ⟨g, 1, none⟩ = some (.string (bs [x])) ∧ W.cell? ⟨g, 2, none⟩ = some (.string (bs [p])) ∧ W.cell? ⟨g, 3, none⟩ = some (.string (bs c)) ∧ Below w.heap.size w W)) (by kernel_rfl) ?_ (fun hHeld => ?_)
      · exact ⟨c0, c1, c2, c3, b3.drew⟩
      first
        | (refine wpAnyH_take (i := 0) (v := ?_) (by simp only [List.getElem?_toArray, List.getElem?_cons_zero]; rfl) (by kernel_rfl) (by kernel_rfl) (by kernel_rfl) (fun _ _ _ h => h) (Or.inl ⟨by rfl, ?_⟩) hHeld ?_
           rotate_left
           · intro w_ hSw
             (try dsimp only at hSw)
             first
               | (go_simp; done)
               | (go_simp; with_reducible rfl))
        | (refine wpAnyH_take (i := 0) (v := undef) (by simp only [List.getElem?_toArray, List.getElem?_cons_zero]; rfl) (by kernel_rfl) (by kernel_rfl) (by kernel_rfl) (fun _ _ _ h => h) (Or.inr ⟨by rfl, rfl⟩) hHeld ?_)
      try simp only [Act.put, List.setIfInBounds_toArray, List.set_cons_zero, List.set_cons_succ]
      first
        | (refine wpAnyH_take (i := 1) (v := ?_) (by simp only [List.getElem?_toArray, List.getElem?_cons_succ, List.getElem?_cons_zero]; rfl) (by kernel_rfl) (by kernel_rfl) (by kernel_rfl) (fun _ _ _ h => h) (Or.inl ⟨by rfl, ?_⟩) hHeld ?_
           rotate_left
           · intro w_ hSw
             (try dsimp only at hSw)
             first
               | (go_simp; done)
               | (go_simp; with_reducible rfl))
        | (refine wpAnyH_take (i := 1) (v := undef) (by simp only [List.getElem?_toArray, List.getElem?_cons_succ, List.getElem?_cons_zero]; rfl) (by kernel_rfl) (by kernel_rfl) (by kernel_rfl) (fun _ _ _ h => h) (Or.inr ⟨by rfl, rfl⟩) hHeld ?_)
      try simp only [Act.put, List.setIfInBounds_toArray, List.set_cons_zero, List.set_cons_succ]
      first
        | (refine wpAnyH_take (i := 3) (v := ?_) (by simp only [List.getElem?_toArray, List.getElem?_cons_succ, List.getElem?_cons_zero]; rfl) (by kernel_rfl) (by kernel_rfl) (by kernel_rfl) (fun _ _ _ h => h) (Or.inl ⟨by rfl, ?_⟩) hHeld ?_
           rotate_left
           · intro w_ hSw
             (try dsimp only at hSw)
             first
               | (go_simp; done)
               | (go_simp; with_reducible rfl))
        | (refine wpAnyH_take (i := 3) (v := undef) (by simp only [List.getElem?_toArray, List.getElem?_cons_succ, List.getElem?_cons_zero]; rfl) (by kernel_rfl) (by kernel_rfl) (by kernel_rfl) (fun _ _ _ h => h) (Or.inr ⟨by rfl, rfl⟩) hHeld ?_)
      try simp only [Act.put, List.setIfInBounds_toArray, List.set_cons_zero, List.set_cons_succ]
      first
        | (refine wpAnyH_take (i := 4) (v := ?_) (by simp only [List.getElem?_toArray, List.getElem?_cons_succ, List.getElem?_cons_zero]; rfl) (by kernel_rfl) (by kernel_rfl) (by kernel_rfl) (fun _ _ _ h => h) (Or.inl ⟨by rfl, ?_⟩) hHeld ?_
           rotate_left
           · intro w_ hSw
             (try dsimp only at hSw)
             first
               | (go_simp; done)
               | (go_simp; with_reducible rfl))
        | (refine wpAnyH_take (i := 4) (v := undef) (by simp only [List.getElem?_toArray, List.getElem?_cons_succ, List.getElem?_cons_zero]; rfl) (by kernel_rfl) (by kernel_rfl) (by kernel_rfl) (fun _ _ _ h => h) (Or.inr ⟨by rfl, rfl⟩) hHeld ?_)
      try simp only [Act.put, List.setIfInBounds_toArray, List.set_cons_zero, List.set_cons_succ]
      first
        | (refine wpAnyH_take (i := 6) (v := ?_) (by simp only [List.getElem?_toArray, List.getElem?_cons_succ, List.getElem?_cons_zero]; rfl) (by kernel_rfl) (by kernel_rfl) (by kernel_rfl) (fun _ _ _ h => h) (Or.inl ⟨by rfl, ?_⟩) hHeld ?_
           rotate_left
           · intro w_ hSw
             (try dsimp only at hSw)
             first
               | (go_simp; done)
               | (go_simp; with_reducible rfl))
        | (refine wpAnyH_take (i := 6) (v := undef) (by simp only [List.getElem?_toArray, List.getElem?_cons_succ, List.getElem?_cons_zero]; rfl) (by kernel_rfl) (by kernel_rfl) (by kernel_rfl) (fun _ _ _ h => h) (Or.inr ⟨by rfl, rfl⟩) hHeld ?_)
      try simp only [Act.put, List.setIfInBounds_toArray, List.set_cons_zero, List.set_cons_succ]
      first
        | (refine wpAnyH_take (i := 7) (v := ?_) (by simp only [List.getElem?_toArray, List.getElem?_cons_succ, List.getElem?_cons_zero]; rfl) (by kernel_rfl) (by kernel_rfl) (by kernel_rfl) (fun _ _ _ h => h) (Or.inl ⟨by rfl, ?_⟩) hHeld ?_
           rotate_left
           · intro w_ hSw
             (try dsimp only at hSw)
             first
               | (go_simp; done)
               | (go_simp; with_reducible rfl))
        | (refine wpAnyH_take (i := 7) (v := undef) (by simp only [List.getElem?_toArray, List.getElem?_cons_succ, List.getElem?_cons_zero]; rfl) (by kernel_rfl) (by kernel_rfl) (by kernel_rfl) (fun _ _ _ h => h) (Or.inr ⟨by rfl, rfl⟩) hHeld ?_)
      try simp only [Act.put, List.setIfInBounds_toArray, List.set_cons_zero, List.set_cons_succ]
      first
        | (refine wpAnyH_take (i := 9) (v := ?_) (by simp only [List.getElem?_toArray, List.getElem?_cons_succ, List.getElem?_cons_zero]; rfl) (by kernel_rfl) (by kernel_rfl) (by kernel_rfl) (fun _ _ _ h => h) (Or.inl ⟨by rfl, ?_⟩) hHeld ?_
           rotate_left
           · intro w_ hSw
             (try dsimp only at hSw)
             first
               | (go_simp; done)
               | (go_simp; with_reducible rfl))
        | (refine wpAnyH_take (i := 9) (v := undef) (by simp only [List.getElem?_toArray, List.getElem?_cons_succ, List.getElem?_cons_zero]; rfl) (by kernel_rfl) (by kernel_rfl) (by kernel_rfl) (fun _ _ _ h => h) (Or.inr ⟨by rfl, rfl⟩) hHeld ?_)
      try simp only [Act.put, List.setIfInBounds_toArray, List.set_cons_zero, List.set_cons_succ]
      first
        | (refine wpAnyH_take (i := 10) (v := ?_) (by simp only [List.getElem?_toArray, List.getElem?_cons_succ, List.getElem?_cons_zero]; rfl) (by kernel_rfl) (by kernel_rfl) (by kernel_rfl) (fun _ _ _ h => h) (Or.inl ⟨by rfl, ?_⟩) hHeld ?_
           rotate_left
           · intro w_ hSw
             (try dsimp only at hSw)
             first
               | (go_simp; done)
               | (go_simp; with_reducible rfl))
        | (refine wpAnyH_take (i := 10) (v := undef) (by simp only [List.getElem?_toArray, List.getElem?_cons_succ, List.getElem?_cons_zero]; rfl) (by kernel_rfl) (by kernel_rfl) (by kernel_rfl) (fun _ _ _ h => h) (Or.inr ⟨by rfl, rfl⟩) hHeld ?_)
      try simp only [Act.put, List.setIfInBounds_toArray, List.set_cons_zero, List.set_cons_succ]
      refine wpAnyH_ready (rs := [2]) (by kernel_rfl) (by simp) ?_
      refine AllReadyH.cons (by simp only [List.getElem?_toArray, List.getElem?_cons_succ, List.getElem?_cons_zero]; rfl) (fun K hK => ?_) AllReadyH.nil
      go_simp
      go_at_call 18
      have hbb := hHeld
      clear hHeld
      refine (IH.out.1 _).mono ?_
      rw [HM1.out]
      rintro e wj ⟨rfl, hbj⟩
      refine hK.out _ _ ?_ (fun hHeld => ?_)
      · exact four_keep hbb hbj
      clear hK K
      try simp only [Act.put, List.setIfInBounds_toArray, List.set_cons_zero, List.set_cons_succ]
      first
        | (refine wpAnyH_take (i := 5) (v := ?_) (by simp only [List.getElem?_toArray, List.getElem?_cons_succ, List.getElem?_cons_zero]; rfl) (by kernel_rfl) (by kernel_rfl) (by kernel_rfl) (fun _ _ _ h => h) (Or.inl ⟨by rfl, ?_⟩) hHeld ?_
           rotate_left
           · intro w_ hSw
             (try dsimp only at hSw)
             first
               | (go_simp; done)
               | (go_simp; with_reducible rfl))
        | (refine wpAnyH_take (i := 5) (v := undef) (by simp only [List.getElem?_toArray, List.getElem?_cons_succ, List.getElem?_cons_zero]; rfl) (by kernel_rfl) (by kernel_rfl) (by kernel_rfl) (fun _ _ _ h => h) (Or.inr ⟨by rfl, rfl⟩) hHeld ?_)
      try simp only [Act.put, List.setIfInBounds_toArray, List.set_cons_zero, List.set_cons_succ]
      first
        | (refine wpAnyH_take (i := 8) (v := ?_) (by simp only [List.getElem?_toArray, List.getElem?_cons_succ, List.getElem?_cons_zero]; rfl) (by kernel_rfl) (by kernel_rfl) (by kernel_rfl) (fun _ _ _ h => h) (Or.inl ⟨by rfl, ?_⟩) hHeld ?_
           rotate_left
           · intro w_ hSw
             (try dsimp only at hSw)
             first
               | (go_simp; done)
               | (go_simp; with_reducible rfl))
        | (refine wpAnyH_take (i := 8) (v := undef) (by simp only [List.getElem?_toArray, List.getElem?_cons_succ, List.getElem?_cons_zero]; rfl) (by kernel_rfl) (by kernel_rfl) (by kernel_rfl) (fun _ _ _ h => h) (Or.inr ⟨by rfl, rfl⟩) hHeld ?_)
      try simp only [Act.put, List.setIfInBounds_toArray, List.set_cons_zero, List.set_cons_succ]
      refine wpAnyH_ready (rs := [11]) (by kernel_rfl) (by simp) ?_
      refine AllReadyH.cons (by simp only [List.getElem?_toArray, List.getElem?_cons_succ, List.getElem?_cons_zero]; rfl) (fun K hK => ?_) AllReadyH.nil
      go_simp
      go_at_call 18
      have hbb := hHeld
      clear hHeld
      refine (IH.out.2 _).mono ?_
      rw [HM2.out]
      rintro e wj ⟨rfl, hbj⟩
      refine hK.out _ _ ?_ (fun hHeld => ?_)
      · exact four_keep hbb hbj
      clear hK K
      try simp only [Act.put, List.setIfInBounds_toArray, List.set_cons_zero, List.set_cons_succ]
      first
        | (refine wpAnyH_take (i := 12) (v := ?_) (by simp only [List.getElem?_toArray, List.getElem?_cons_succ, List.getElem?_cons_zero]; rfl) (by kernel_rfl) (by kernel_rfl) (by kernel_rfl) (fun _ _ _ h => h) (Or.inl ⟨by rfl, ?_⟩) hHeld ?_
           rotate_left
           · intro w_ hSw
             (try dsimp only at hSw)
             first
               | (go_simp; done)
               | (go_simp; with_reducible rfl))
        | (refine wpAnyH_take (i := 12) (v := undef) (by simp only [List.getElem?_toArray, List.getElem?_cons_succ, List.getElem?_cons_zero]; rfl) (by kernel_rfl) (by kernel_rfl) (by kernel_rfl) (fun _ _ _ h => h) (Or.inr ⟨by rfl, rfl⟩) hHeld ?_)
      try simp only [Act.put, List.setIfInBounds_toArray, List.set_cons_zero, List.set_cons_succ]
      first
        | (refine wpAnyH_take (i := 13) (v := ?_) (by simp only [List.getElem?_toArray, List.getElem?_cons_succ, List.getElem?_cons_zero]; rfl) (by kernel_rfl) (by kernel_rfl) (by kernel_rfl) (fun _ _ _ h => h) (Or.inl ⟨by rfl, ?_⟩) hHeld ?_
           rotate_left
           · intro w_ hSw
             (try dsimp only at hSw)
             first
               | (go_simp; done)
               | (go_simp; with_reducible rfl))
        | (refine wpAnyH_take (i := 13) (v := undef) (by simp only [List.getElem?_toArray, List.getElem?_cons_succ, List.getElem?_cons_zero]; rfl) (by kernel_rfl) (by kernel_rfl) (by kernel_rfl) (fun _ _ _ h => h) (Or.inr ⟨by rfl, rfl⟩) hHeld ?_)
      try simp only [Act.put, List.setIfInBounds_toArray, List.set_cons_zero, List.set_cons_succ]
      refine wpAnyH_done (by kernel_rfl) (NoPanic.normal ?_) _
      go_wp2
      go_ret
      rw [HM.out, HR.out]
      exact ⟨rfl, hHeld.2.2.2.2⟩

theorem iMadeOf_any (u : List UInt8) (w : World) (hn : u.length ≤ 1048576) : Calls Try.prog 18 #[.string (bs u)] w fun e w' => e = .returned (.string (bs (mdW u))) ∧ Below w.heap.size w w' := made_any u.length u w (Nat.le_refl _) hn

set_option maxRecDepth 20000 in
set_option maxHeartbeats 4000000 in
theorem iJoinedOf_any (u v : List UInt8) (w : World) (hn : u.length ≤ 1048576) (hm : v.length ≤ 1048576) :
    Calls Try.prog 65 #[.string (bs u), .string (bs v)] w fun e w' => e = .returned (.string (bs (joinW u v))) ∧ Below w.heap.size w w' := by
  have hsu := size_bs u
  have hsv := size_bs v
  cases hu : okW u
  · have HE := hide (joinW_not (u := u) (v := v) (by unfold canJ; rw [hu]; rfl))
    go_enter Try.func65, Try.ntmps65
    go_wp2_with fail
    refine (iWordOk_any u _ hn).mono ?_
    rw [hu]
    rintro e w1 ⟨rfl, b1⟩
    go_wp2
    go_ret
    rw [HE.out]
    exact ⟨rfl, b1⟩
  cases hv : okW v
  · have HE := hide (joinW_not (u := u) (v := v) (by unfold canJ; rw [hu, hv]; rfl))
    go_enter Try.func65, Try.ntmps65
    go_wp2_with fail
    refine (iWordOk_any u _ hn).mono ?_
    rw [hu]
    rintro e w1 ⟨rfl, b1⟩
    go_wp2_with fail
    refine (iWordOk_any v _ hm).mono ?_
    rw [hv]
    rintro e w2 ⟨rfl, b2⟩
    go_wp2
    go_ret
    rw [HE.out]
    exact ⟨rfl, b1.trans (b2.mono b1.size)⟩
  by_cases h1 : u.length ≤ 12
  · by_cases h2 : v.length ≤ 12
    · have hcj := canJ_iff.2 ⟨hu, hv, h1, h2⟩
      have HE := hide (joinW_ok hcj)
      have HM := hide (mdW_ok (canJ_app hcj))
      have g1 : ¬ (12 : Int) < (u.length : Int) := by omega
      have g2 : ¬ (12 : Int) < (v.length : Int) := by omega
      have ha := fun w => add_bs (P := Try.prog) u v (by omega) w
      have hl : (u ++ v).length ≤ 1048576 := by rw [List.length_append]; omega
      obtain ⟨x, hx⟩ : ∃ x, x = u ++ v := ⟨_, rfl⟩
      rw [← hx] at HE HM ha hl
      clear hx hcj
      go_enter Try.func65, Try.ntmps65
      go_wp2_with fail
      refine (iWordOk_any u _ hn).mono ?_
      rw [hu]
      rintro e w1 ⟨rfl, b1⟩
      go_wp2_with fail
      refine (iWordOk_any v _ hm).mono ?_
      rw [hv]
      rintro e w2 ⟨rfl, b2⟩
      have B2 := b1.trans (b2.mono b1.size)
      go_wp2_with fail
      refine (iMadeOf_any x _ hl).mono ?_
      rintro e w3 ⟨rfl, b3⟩
      go_wp2
      go_ret
      rw [HE.out, HM.out]
      exact ⟨rfl, B2.trans (b3.mono B2.size)⟩
    · have HE := hide (joinW_not (u := u) (v := v) (by cases e : canJ u v with | false => rfl | true => exact absurd (canJ_iff.1 e).2.2.2 h2))
      have g1 : ¬ (12 : Int) < (u.length : Int) := by omega
      have g2 : (12 : Int) < (v.length : Int) := by omega
      go_enter Try.func65, Try.ntmps65
      go_wp2_with fail
      refine (iWordOk_any u _ hn).mono ?_
      rw [hu]
      rintro e w1 ⟨rfl, b1⟩
      go_wp2_with fail
      refine (iWordOk_any v _ hm).mono ?_
      rw [hv]
      rintro e w2 ⟨rfl, b2⟩
      go_wp2
      go_ret
      rw [HE.out]
      exact ⟨rfl, b1.trans (b2.mono b1.size)⟩
  · have HE := hide (joinW_not (u := u) (v := v) (by cases e : canJ u v with | false => rfl | true => exact absurd (canJ_iff.1 e).2.2.1 h1))
    have g1 : (12 : Int) < (u.length : Int) := by omega
    go_enter Try.func65, Try.ntmps65
    go_wp2_with fail
    refine (iWordOk_any u _ hn).mono ?_
    rw [hu]
    rintro e w1 ⟨rfl, b1⟩
    go_wp2_with fail
    refine (iWordOk_any v _ hm).mono ?_
    rw [hv]
    rintro e w2 ⟨rfl, b2⟩
    go_wp2
    go_ret
    rw [HE.out]
    exact ⟨rfl, b1.trans (b2.mono b1.size)⟩
end Go.Proofs.Ytjmjfmgbfjmaaaa

namespace Go.Proofs.Ytjmjfmgbfjmaaaa
open Go.RowKit
set_option linter.unusedVariables false
set_option linter.unusedSimpArgs false

/-- Whether two words have different values where the letters stand for x, y and z. -/
noncomputable def nd (T : List (List Int)) (u v : List UInt8) (x y z : Nat) : Bool := valW T u (x : Int) (y : Int) (z : Int) != valW T v (x : Int) (y : Int) (z : Int)
section
variable {T : List (List Int)} {u v : List UInt8} {a b c k : Nat}
theorem difA_nd : difA T u v k = nd T u v (k / T.length / T.length) (k / T.length % T.length) (k % T.length) := by
  unfold difA nd
  rw [Int.natCast_ediv, Int.natCast_ediv, Int.natCast_emod, Int.natCast_emod, Int.natCast_ediv]
theorem cube_at (n a b c : Nat) (hb : b < n) (hc : c < n) : ((a * n + b) * n + c) / n / n = a ∧ ((a * n + b) * n + c) / n % n = b ∧ ((a * n + b) * n + c) % n = c := by
  have h0 : 0 < n := by omega
  have e1 : ((a * n + b) * n + c) / n = a * n + b := by rw [Nat.mul_comm, Nat.mul_add_div h0, Nat.div_eq_of_lt hc, Nat.add_zero]
  have e2 : ((a * n + b) * n + c) % n = c := by rw [Nat.mul_comm, Nat.mul_add_mod, Nat.mod_eq_of_lt hc]
  have e3 : (a * n + b) / n = a := by rw [Nat.mul_comm, Nat.mul_add_div h0, Nat.div_eq_of_lt hb, Nat.add_zero]
  have e4 : (a * n + b) % n = b := by rw [Nat.mul_comm, Nat.mul_add_mod, Nat.mod_eq_of_lt hb]
  rw [e1]
  exact ⟨e3, e4, e2⟩
theorem cube_at_lt {n a b c : Nat} (ha : a < n) (hb : b < n) (hc : c < n) : (a * n + b) * n + c < n * n * n := by
  have h1 : a * n + b + 1 ≤ n * n := by
    have := Nat.mul_le_mul_right n (show a + 1 ≤ n by omega)
    rw [Nat.add_mul] at this; omega
  have h2 := Nat.mul_le_mul_right n h1
  rw [Nat.add_mul] at h2; omega
/-- The first three things, told by three loops. -/
theorem apR_at (hcan : canA T u v = true) (ha : a < T.length) (hb : b < T.length) (hc : c < T.length) (h : nd T u v a b c = true)
    (h1 : ∀ x, x < a → ∀ y, y < T.length → ∀ z, z < T.length → nd T u v x y z = false) (h2 : ∀ y, y < b → ∀ z, z < T.length → nd T u v a y z = false) (h3 : ∀ z, z < c → nd T u v a b z = false) :
    apR T u v = .tuple #[.int .i64 a, .int .i64 b, .int .i64 c, .bool true] := by
  obtain ⟨e1, e2, e3⟩ := cube_at T.length a b c hb hc
  have h0 : 0 < T.length := by omega
  have hk : apart T u v = some ((a * T.length + b) * T.length + c) := by
    refine apart_at hcan (cube_at_lt ha hb hc) (by rw [difA_nd, e1, e2, e3]; exact h) fun j hj => ?_
    rw [difA_nd]
    have y1 : j / T.length % T.length < T.length := Nat.mod_lt _ h0
    have z1 : j % T.length < T.length := Nat.mod_lt _ h0
    have d1 := Nat.div_add_mod j T.length
    have d2 := Nat.div_add_mod (j / T.length) T.length
    have m1 : j / T.length ≤ a * T.length + b := by
      have := Nat.div_le_div_right (c := T.length) (Nat.le_of_lt hj)
      rwa [Nat.mul_comm, Nat.mul_add_div h0, Nat.div_eq_of_lt hc, Nat.add_zero] at this
    have m2 : j / T.length / T.length ≤ a := by
      have := Nat.div_le_div_right (c := T.length) m1
      rwa [Nat.mul_comm, Nat.mul_add_div h0, Nat.div_eq_of_lt hb, Nat.add_zero] at this
    by_cases q1 : j / T.length / T.length < a
    · exact h1 _ q1 _ y1 _ z1
    have q2 : j / T.length / T.length = a := by omega
    rw [q2] at d2 ⊢
    have d3 : a * T.length = T.length * a := Nat.mul_comm _ _
    by_cases q3 : j / T.length % T.length < b
    · exact h2 _ q3 _ z1
    have q4 : j / T.length % T.length = b := by omega
    rw [q4] at d2 ⊢
    have q5 : j / T.length = a * T.length + b := by omega
    rw [q5] at d1
    have d4 : T.length * (a * T.length + b) = (a * T.length + b) * T.length := Nat.mul_comm _ _
    exact h3 _ (by omega)
  rw [apR_some hk, ← Int.natCast_ediv, ← Int.natCast_ediv, ← Int.natCast_emod, ← Int.natCast_emod, e1, e2, e3]
theorem apR_all (hcan : canA T u v = true) (h1 : ∀ x, x < T.length → ∀ y, y < T.length → ∀ z, z < T.length → nd T u v x y z = false) : apR T u v = .tuple #[.int .i64 (-1), .int .i64 (-1), .int .i64 (-1), .bool false] := by
  refine apR_none (apart_all hcan fun j hj => ?_)
  have h0 : 0 < T.length := by
    rcases Nat.eq_zero_or_pos T.length with e | e
    · rw [e] at hj; simp at hj
    · exact e
  rw [difA_nd]
  refine h1 _ ?_ _ (Nat.mod_lt _ h0) _ (Nat.mod_lt _ h0)
  rw [Nat.div_div_eq_div_mul]
  exact Nat.div_lt_of_lt_mul hj
theorem can_parts (hk : okT T = true) (hu : okW u = true) (hv : okW v = true) : canA T u v = true := by unfold canA; rw [hk, hu, hv]; rfl
end
end Go.Proofs.Ytjmjfmgbfjmaaaa

namespace Go.Proofs.Ytjmjfmgbfjmaaaa
end Go.Proofs.Ytjmjfmgbfjmaaaa
