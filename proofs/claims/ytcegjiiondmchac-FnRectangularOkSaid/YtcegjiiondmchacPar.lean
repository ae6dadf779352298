
/- Parents that lead to first things: the program's. -/
import Derived.Test.YtcegjiiondmchacParP
import Derived.Test.YtcegjiiondmchacIband
import Derived.Test.YtcegjiiondmchacORow
import Derived.Deep.RegionHeld3
namespace Go.Proofs.Ytcegjiiondmchac
open Go.RowKit
set_option linter.unusedVariables false


/-- The cells of parents. -/
def Pars (w : World) (g : Nat) (P : Nat → Nat) : Prop := w.rowIs g 62 9 (fun i => .int .i64 (P i : Nat))
theorem Pars.cell {w : World} {g : Nat} {P : Nat → Nat} (h : Pars w g P) {i : Nat} (hi : i < 9) : w.cell? ⟨g, i, none⟩ = some (.int .i64 (P i : Nat)) := World.rowIs.cell h hi
theorem Pars.below {w w' : World} {g B : Nat} {P : Nat → Nat} (h : Pars w g P) (hb : Below B w w') (hB : g < B) : Pars w' g P := World.rowIs.of_block h (hb.block g (by omega))
theorem Pars.lt {w : World} {g : Nat} {P : Nat → Nat} (h : Pars w g P) : g < w.heap.size := World.rowIs.lt h

set_option maxRecDepth 20000 in
set_option maxHeartbeats 1000000 in
theorem firstOf_any (g i : Nat) (P : Nat → Nat) (w : World) (h : Pars w g P) (hP : ∀ i, P i ≤ i) (hi : i < 9) :
    Calls Try.prog 80 #[.pointer (some ⟨g, 0, none⟩), .int .i64 i] w fun e w' => e = .returned (.int .i64 (rt P i : Nat)) ∧ w = w' := by
  have HP := hide hP
  clear hP
  go_enter Try.func80, Try.ntmps80
  go_wp2
  go_loopg [1] i (fun m x wr => ∃ j : Nat, Hid (j ≤ m) ∧ Hid (rt P j = rt P i) ∧ Hid (j < 9) ∧ x = .int .i64 j ∧ w = wr)
  case atStart => exact ⟨i, Nat.le_refl _, rfl, hi, rfl, rfl⟩
  case round =>
    obtain ⟨j, hjm, hj, hj9, rfl, rfl⟩ := hrel
    have hc := h.cell hj9.out
    have j9 : j < 9 := hj9.out
    by_cases hlt : P j < j
    · have hne : ¬ ((P j : Nat) : Int) = (j : Int) := by omega
      go_wp2
      go_roundg (P j)
      case measure => go_light; have := hjm.out; omega
      case rel => go_light; exact ⟨P j, Nat.le_refl _, (rt_lt hlt).symm.trans hj.out, (show P j < 9 from by omega), rfl, rfl⟩
    · have he : P j = j := by have := HP.out j; omega
      have HR : Hid (rt P j = j) := rt_not hlt
      rw [he] at hc
      clear hlt
      go_wp2
      go_ret
      exact ⟨ret_int (by rw [← hj.out, HR.out]), rfl⟩

theorem results_cell1 {fn : Func} {p : Tmp} {ty : TypeId} (h : fn.results = #[.cell p ty]) (tmps : Array Value) (P : Program) (w : World) :
    (results fn tmps).run P w = ((asAddr (tmps.getD p undef)).run P w).andThen fun a w₁ => (loadVar ty a).run P w₁ := by
  simp only [results, h]
  simp [Sem.run_bind, Result.andThen]
set_option maxHeartbeats 1000000 in
theorem res_nine (tmps : Array Value) (g : Nat) (f : Nat → Value) (W : World) (hR : W.rowIs g 62 9 f) (h0 : tmps.getD 0 undef = .pointer (some ⟨g, 0, none⟩)) :
    (results Try.f72 tmps).run Try.prog W = .ok (.agg #[f 0, f 1, f 2, f 3, f 4, f 5, f 6, f 7, f 8]) W := by
  have c0 := hR.cell (i := 0) (by omega)
  have c1 := hR.cell (i := 1) (by omega)
  have c2 := hR.cell (i := 2) (by omega)
  have c3 := hR.cell (i := 3) (by omega)
  have c4 := hR.cell (i := 4) (by omega)
  have c5 := hR.cell (i := 5) (by omega)
  have c6 := hR.cell (i := 6) (by omega)
  have c7 := hR.cell (i := 7) (by omega)
  have c8 := hR.cell (i := 8) (by omega)
  rw [results_cell1 rfl]
  simp [asAddr, Result.andThen, h0, go_sem, c0, c1, c2, c3, c4, c5, c6, c7, c8]
/-- The cells of an array that is being filled. -/
def Fil (w : World) (g k : Nat) : Prop := w.rowIs g 62 9 (fun i => .int .i64 (if i < k then (i : Int) else 0))
def nine : Array Value := #[.int .i64 0, .int .i64 0, .int .i64 0, .int .i64 0, .int .i64 0, .int .i64 0, .int .i64 0, .int .i64 0, .int .i64 0]
theorem nine_at (i : Nat) (hi : i < nine.size) : nine[i]? = some (.int .i64 (if i < 0 then (i : Int) else 0)) := by
  have : nine.size = 9 := rfl
  rw [if_neg (Nat.not_lt_zero _)]
  match i, hi with
  | 0, _ | 1, _ | 2, _ | 3, _ | 4, _ | 5, _ | 6, _ | 7, _ | 8, _ => rfl
theorem fil_next {w : World} {g k : Nat} (h : Fil w g k) : Fil (w.setCell ⟨g, k, none⟩ (.int .i64 (k : Nat))) g (k + 1) := (World.rowIs.set h k _).congr fun i _ => by
  by_cases e : i = k
  · subst e; simp
  · rw [if_neg e]
    by_cases hl : i < k
    · rw [if_pos hl, if_pos (by omega)]
    · rw [if_neg hl, if_neg (by omega)]
set_option maxRecDepth 20000 in
set_option maxHeartbeats 2000000 in
theorem eachAlone_any (w : World) :
    Calls Try.prog 72 #[] w fun e w' => e = .returned (.agg #[.int .i64 0, .int .i64 1, .int .i64 2, .int .i64 3, .int .i64 4, .int .i64 5, .int .i64 6, .int .i64 7, .int .i64 8]) ∧ Below w.heap.size w w' := by
  go_enter Try.func72, Try.ntmps72
  go_wp2
  go_loopg [3] 9 (fun m x wr => ∃ k : Nat, Hid (m = 9 - k) ∧ k ≤ 9 ∧ x = .int .i64 k ∧ Fil wr (w.heap.size + 1) k ∧ Fil wr w.heap.size 0 ∧ Below w.heap.size w wr)
  case atStart =>
    refine ⟨0, rfl, by omega, rfl, ?_, ?_, ?_⟩
    · have := World.rowIs_alloc (w.alloc (.cells nine 62)) nine 62 (fun i => .int .i64 (if i < 0 then (i : Int) else 0)) nine_at
      rw [show (w.alloc (.cells nine 62)).heap.size = w.heap.size + 1 from by simp] at this
      exact this
    · exact (World.rowIs_alloc w nine 62 (fun i => .int .i64 (if i < 0 then (i : Int) else 0)) nine_at).alloc _
    · exact ((Below.refl _ w).alloc (Nat.le_refl _) _).alloc (by simp) _
  case round =>
    obtain ⟨k, hm, hk, rfl, hF, hZ, hB⟩ := hrel
    by_cases hlt : k < 9
    · have hc : wr.cell? ⟨w.heap.size + 1, k, none⟩ = some (.int .i64 0) := by have := World.rowIs.cell hF hlt; simpa using this
      have hfz : wr.frozen? ⟨w.heap.size + 1, k, none⟩ = false := World.rowIs.frozen hF k
      go_wp2
      go_roundg (9 - (k + 1))
      case measure => go_light; have := hm.out; omega
      case rel => go_light; exact ⟨k + 1, rfl, by omega, by go_num, fil_next hF, World.rowIs.setOther hZ (by show w.heap.size ≠ w.heap.size + 1; omega) _, hB.setCell (by show w.heap.size ≤ w.heap.size + 1; omega) _⟩
    · obtain rfl : k = 9 := by omega
      have hc0 : wr.cell? ⟨w.heap.size + 1, 0, none⟩ = some (.int .i64 0) := by have := World.rowIs.cell hF (i := 0) (by omega); simpa using this
      have hz0 : wr.cell? ⟨w.heap.size, 0, none⟩ = some (.int .i64 0) := by have := World.rowIs.cell hZ (i := 0) (by omega); simpa using this
      have hf0 : wr.frozen? ⟨w.heap.size, 0, none⟩ = false := World.rowIs.frozen hZ 0
      have hc1 : wr.cell? ⟨w.heap.size + 1, 1, none⟩ = some (.int .i64 1) := by have := World.rowIs.cell hF (i := 1) (by omega); simpa using this
      have hz1 : wr.cell? ⟨w.heap.size, 1, none⟩ = some (.int .i64 0) := by have := World.rowIs.cell hZ (i := 1) (by omega); simpa using this
      have hf1 : wr.frozen? ⟨w.heap.size, 1, none⟩ = false := World.rowIs.frozen hZ 1
      have hc2 : wr.cell? ⟨w.heap.size + 1, 2, none⟩ = some (.int .i64 2) := by have := World.rowIs.cell hF (i := 2) (by omega); simpa using this
      have hz2 : wr.cell? ⟨w.heap.size, 2, none⟩ = some (.int .i64 0) := by have := World.rowIs.cell hZ (i := 2) (by omega); simpa using this
      have hf2 : wr.frozen? ⟨w.heap.size, 2, none⟩ = false := World.rowIs.frozen hZ 2
      have hc3 : wr.cell? ⟨w.heap.size + 1, 3, none⟩ = some (.int .i64 3) := by have := World.rowIs.cell hF (i := 3) (by omega); simpa using this
      have hz3 : wr.cell? ⟨w.heap.size, 3, none⟩ = some (.int .i64 0) := by have := World.rowIs.cell hZ (i := 3) (by omega); simpa using this
      have hf3 : wr.frozen? ⟨w.heap.size, 3, none⟩ = false := World.rowIs.frozen hZ 3
      have hc4 : wr.cell? ⟨w.heap.size + 1, 4, none⟩ = some (.int .i64 4) := by have := World.rowIs.cell hF (i := 4) (by omega); simpa using this
      have hz4 : wr.cell? ⟨w.heap.size, 4, none⟩ = some (.int .i64 0) := by have := World.rowIs.cell hZ (i := 4) (by omega); simpa using this
      have hf4 : wr.frozen? ⟨w.heap.size, 4, none⟩ = false := World.rowIs.frozen hZ 4
      have hc5 : wr.cell? ⟨w.heap.size + 1, 5, none⟩ = some (.int .i64 5) := by have := World.rowIs.cell hF (i := 5) (by omega); simpa using this
      have hz5 : wr.cell? ⟨w.heap.size, 5, none⟩ = some (.int .i64 0) := by have := World.rowIs.cell hZ (i := 5) (by omega); simpa using this
      have hf5 : wr.frozen? ⟨w.heap.size, 5, none⟩ = false := World.rowIs.frozen hZ 5
      have hc6 : wr.cell? ⟨w.heap.size + 1, 6, none⟩ = some (.int .i64 6) := by have := World.rowIs.cell hF (i := 6) (by omega); simpa using this
      have hz6 : wr.cell? ⟨w.heap.size, 6, none⟩ = some (.int .i64 0) := by have := World.rowIs.cell hZ (i := 6) (by omega); simpa using this
      have hf6 : wr.frozen? ⟨w.heap.size, 6, none⟩ = false := World.rowIs.frozen hZ 6
      have hc7 : wr.cell? ⟨w.heap.size + 1, 7, none⟩ = some (.int .i64 7) := by have := World.rowIs.cell hF (i := 7) (by omega); simpa using this
      have hz7 : wr.cell? ⟨w.heap.size, 7, none⟩ = some (.int .i64 0) := by have := World.rowIs.cell hZ (i := 7) (by omega); simpa using this
      have hf7 : wr.frozen? ⟨w.heap.size, 7, none⟩ = false := World.rowIs.frozen hZ 7
      have hc8 : wr.cell? ⟨w.heap.size + 1, 8, none⟩ = some (.int .i64 8) := by have := World.rowIs.cell hF (i := 8) (by omega); simpa using this
      have hz8 : wr.cell? ⟨w.heap.size, 8, none⟩ = some (.int .i64 0) := by have := World.rowIs.cell hZ (i := 8) (by omega); simpa using this
      have hf8 : wr.frozen? ⟨w.heap.size, 8, none⟩ = false := World.rowIs.frozen hZ 8
      go_wp2
      have hR := ((((((((World.rowIs.set hZ 0 (.int .i64 0)).set 1 (.int .i64 1)).set 2 (.int .i64 2)).set 3 (.int .i64 3)).set 4 (.int .i64 4)).set 5 (.int .i64 5)).set 6 (.int .i64 6)).set 7 (.int .i64 7)).set 8 (.int .i64 8)
      have hB9 := ((((((((hB.setCell (p := ⟨w.heap.size, 0, none⟩) (Nat.le_refl _) (.int .i64 0)).setCell (p := ⟨w.heap.size, 1, none⟩) (Nat.le_refl _) (.int .i64 1)).setCell (p := ⟨w.heap.size, 2, none⟩) (Nat.le_refl _) (.int .i64 2)).setCell (p := ⟨w.heap.size, 3, none⟩) (Nat.le_refl _) (.int .i64 3)).setCell (p := ⟨w.heap.size, 4, none⟩) (Nat.le_refl _) (.int .i64 4)).setCell (p := ⟨w.heap.size, 5, none⟩) (Nat.le_refl _) (.int .i64 5)).setCell (p := ⟨w.heap.size, 6, none⟩) (Nat.le_refl _) (.int .i64 6)).setCell (p := ⟨w.heap.size, 7, none⟩) (Nat.le_refl _) (.int .i64 7)).setCell (p := ⟨w.heap.size, 8, none⟩) (Nat.le_refl _) (.int .i64 8)
      exact bodyPost_ret (res_nine _ _ _ _ hR rfl) rfl ⟨rfl, hB9⟩
theorem Pars.set {w : World} {g : Nat} {P : Nat → Nat} (h : Pars w g P) (x y : Nat) : Pars (w.setCell ⟨g, x, none⟩ (.int .i64 (y : Nat))) g (upd P x y) := (World.rowIs.set h x _).congr fun i _ => by
  unfold upd
  by_cases e : i = x
  · rw [if_pos e, if_pos e]
  · rw [if_neg e, if_neg e]
theorem Pars.frozen {w : World} {g : Nat} {P : Nat → Nat} (h : Pars w g P) (i : Nat) : w.frozen? ⟨g, i, none⟩ = false := World.rowIs.frozen h i
set_option maxRecDepth 20000 in
set_option maxHeartbeats 1000000 in
theorem unite_any (g a b : Nat) (P : Nat → Nat) (w : World) (h : Pars w g P) (hP : ∀ i, P i ≤ i) (ha : a < 9) (hb : b < 9) :
    Calls Try.prog 73 #[.pointer (some ⟨g, 0, none⟩), .int .i64 a, .int .i64 b] w fun e w' => e = .returned (.tuple #[]) ∧ Only g (g + 1) w w' ∧ Pars w' g (upd P (max (rt P a) (rt P b)) (min (rt P a) (rt P b))) := by
  have hra := rt_le P a
  have hrb := rt_le P b
  have HP := hide hP
  clear hP
  have HL := hide h.lt
  by_cases hlt : rt P a < rt P b
  · have i1 : ((rt P b : Nat) : Int) > ((rt P a : Nat) : Int) := by omega
    have i2 : ¬ ((rt P b : Nat) : Int) < ((rt P a : Nat) : Int) := by omega
    have c1 := h.cell (i := rt P b) (by omega)
    have f1 := h.frozen (rt P b)
    have r9 : rt P b < 9 := by omega
    have HM : Hid (max (rt P a) (rt P b) = rt P b) := Nat.max_eq_right (by omega)
    have HN : Hid (min (rt P a) (rt P b) = rt P a) := Nat.min_eq_left (by omega)
    go_enter Try.func73, Try.ntmps73
    go_wp2_with (go_at_call 80; refine (firstOf_any _ _ P _ h HP.out (by omega)).mono ?_; rintro e w' ⟨rfl, rfl⟩)
    go_end0
    refine ⟨rfl, (Only.refl g (g + 1) w).setCell (Nat.le_refl _) (Nat.lt_succ_self _) _, ?_⟩
    rw [HM.out, HN.out]
    exact h.set _ _
  · have i1 : ¬ ((rt P b : Nat) : Int) > ((rt P a : Nat) : Int) := by omega
    have c1 := h.cell (i := rt P a) (by omega)
    have f1 := h.frozen (rt P a)
    have r9 : rt P a < 9 := by omega
    have HM : Hid (max (rt P a) (rt P b) = rt P a) := Nat.max_eq_left (by omega)
    have HN : Hid (min (rt P a) (rt P b) = rt P b) := Nat.min_eq_right (by omega)
    by_cases hl2 : rt P b < rt P a
    · have i2 : ((rt P b : Nat) : Int) < ((rt P a : Nat) : Int) := by omega
      go_enter Try.func73, Try.ntmps73
      go_wp2_with (go_at_call 80; refine (firstOf_any _ _ P _ h HP.out (by omega)).mono ?_; rintro e w' ⟨rfl, rfl⟩)
      go_end0
      refine ⟨rfl, (Only.refl g (g + 1) w).setCell (Nat.le_refl _) (Nat.lt_succ_self _) _, ?_⟩
      rw [HM.out, HN.out]
      exact h.set _ _
    · have i2 : ¬ ((rt P b : Nat) : Int) < ((rt P a : Nat) : Int) := by omega
      have HE : Hid (rt P b = rt P a) := by show rt P b = rt P a; omega
      go_enter Try.func73, Try.ntmps73
      go_wp2_with (go_at_call 80; refine (firstOf_any _ _ P _ h HP.out (by omega)).mono ?_; rintro e w' ⟨rfl, rfl⟩)
      go_end0
      refine ⟨rfl, (Only.refl g (g + 1) w).setCell (Nat.le_refl _) (Nat.lt_succ_self _) _, ?_⟩
      rw [HM.out, HN.out, HE.out]
      exact h.set _ _
theorem pars_new (w : World) : Pars (w.alloc (.cells #[.int .i64 0, .int .i64 1, .int .i64 2, .int .i64 3, .int .i64 4, .int .i64 5, .int .i64 6, .int .i64 7, .int .i64 8] 62)) w.heap.size id :=
  World.rowIs_alloc w _ 62 _ fun i hi => by
    match i, hi with
    | 0, _ | 1, _ | 2, _ | 3, _ | 4, _ | 5, _ | 6, _ | 7, _ | 8, _ => rfl
/-- The numbers of classes by their first things. -/
def nums (r : Nat → Nat → Bool) (n : Nat) : List Int := (List.range n).map fun a => ((num r a : Nat) : Int)
theorem len_nums (r : Nat → Nat → Bool) (n : Nat) : (nums r n).length = n := by simp [nums]
theorem el_nums {r : Nat → Nat → Bool} {n a : Nat} (h : a < n) : el (nums r n) a = ((num r a : Nat) : Int) := by simp [nums, el, List.getD, h]
theorem num_fs {r : Nat → Nat → Bool} {n a : Nat} (E : Eqv r n) (ha : a < n) : num r (fs r a) = num r a := by rw [num_rp (E.fs_first ha)]; rfl
/-- The numbers under way. -/
def NumF (w : World) (g n k : Nat) (r : Nat → Nat → Bool) : Prop := w.rowIs g 3 n (fun i => .int .i64 (if i < k then ((num r i : Nat) : Int) else 0))
theorem NumF.next {w : World} {g n k : Nat} {r : Nat → Nat → Bool} (h : NumF w g n k r) : NumF (w.setCell ⟨g, k, none⟩ (.int .i64 (num r k : Nat))) g n (k + 1) r := (World.rowIs.set h k _).congr fun i _ => by
  by_cases e : i = k
  · subst e; simp
  · rw [if_neg e]
    by_cases hl : i < k
    · rw [if_pos hl, if_pos (by omega)]
    · rw [if_neg hl, if_neg (by omega)]
theorem NumF.done {w : World} {g n : Nat} {r : Nat → Nat → Bool} (h : NumF w g n n r) {lo hi : Nat} (h1 : lo ≤ g) (h2 : g < hi) : ORow w lo hi (some ⟨g, 0, none⟩) (nums r n) :=
  .inr ⟨g, rfl, h1, h2, Cells.of_rowIs h (by rw [len_nums]; exact Nat.le_refl _) (fun j hj => by rw [len_nums] at hj; rw [el_nums hj, if_pos hj])⟩
set_option maxRecDepth 20000 in
set_option maxHeartbeats 2000000 in
theorem numbers_any (g n : Nat) (P : Nat → Nat) (r : Nat → Nat → Bool) (w : World) (h : Pars w g P) (hP : ∀ i, P i ≤ i) (hn : n ≤ 9) (E : Eqv r n) (hr : ∀ x, x < n → rt P x = fs r x) :
    Calls Try.prog 74 #[.pointer (some ⟨g, 0, none⟩), .int .i64 n] w (OwnRow w (nums r n)) := by
  have HP := hide hP
  have HR := hide hr
  clear hP hr
  have gl := h.lt
  have hmk := run_make_row' (P := Try.prog) 37 3 (.int .i64 0) 8 Try.underlying37 info_int rfl .i64 .i64 n (by omega) (by omega)
  go_enter Try.func74, Try.ntmps74
  go_wp2
  clear hmk
  go_loopg [12, 6] n (fun m i x wr => ∃ k : Nat, k ≤ n ∧ Hid (m = n - k) ∧ i = .int .i64 k ∧ x = .int .i64 (ct r k : Nat) ∧ NumF wr w.heap.size n k r ∧ Below w.heap.size w wr)
  case atStart => exact ⟨0, Nat.zero_le _, rfl, rfl, rfl, (World.rowIs_made w _ n 3).congr (fun j _ => by simp), (Below.refl _ _).alloc (Nat.le_refl _) _⟩
  case round =>
    obtain ⟨k, hk, hm, rfl, rfl, hF, hB⟩ := hrel
    by_cases hlt : k < n
    · have hPr := h.below hB gl
      have hrk := HR.out k hlt
      have hck : ct r k ≤ 9 := by
        have := ct_leP r k
        omega
      have st1 : wr.cell? ⟨w.heap.size, k, none⟩ = some (.int .i64 0) := by have := World.rowIs.cell hF hlt; simpa using this
      have st2 : wr.frozen? ⟨w.heap.size, k, none⟩ = false := World.rowIs.frozen hF k
      cases hrp : rp r k
      · obtain ⟨f1, _, _⟩ := fs_some hrp
        have hne : ¬ ((fs r k : Nat) : Int) = (k : Int) := by omega
        have l1 : wr.cell? ⟨w.heap.size, fs r k, none⟩ = some (.int .i64 (num r k : Nat)) := by have := World.rowIs.cell hF (i := fs r k) (by omega); rw [if_pos f1, num_fs E hlt] at this; exact this
        have HC := hide (ct_not hrp)
        have hfn : fs r k < n := by omega
        have HM := hide hrk
        go_wp2_with (go_at_call 80; refine (firstOf_any _ _ P _ hPr HP.out (by omega)).mono ?_; rw [HM.out]; rintro e w' ⟨rfl, rfl⟩)
        go_roundg (n - (k + 1))
        case measure => go_light; have := hm.out; omega
        case rel => go_light; exact ⟨k + 1, by omega, rfl, by go_num, by rw [HC.out], hF.next, hB.setCell (Nat.le_refl _) _⟩
      · have HC := hide (ct_rp hrp)
        have HN := hide (num_rp hrp)
        rw [fs_rp hrp] at hrk
        have HM := hide hrk
        go_wp2_with (go_at_call 80; refine (firstOf_any _ _ P _ hPr HP.out (by omega)).mono ?_; rw [HM.out]; rintro e w' ⟨rfl, rfl⟩)
        go_roundg (n - (k + 1))
        case measure => go_light; have := hm.out; omega
        case rel => go_light; exact ⟨k + 1, by omega, rfl, by go_num, by rw [HC.out]; go_num, by rw [← HN.out]; exact hF.next, hB.setCell (Nat.le_refl _) _⟩
    · obtain rfl : k = n := by omega
      go_wp2
      go_ret
      have e : (Ending.returned (.slice (some ⟨w.heap.size, 0, none⟩) k k)) = .returned (.slice (some ⟨w.heap.size, 0, none⟩) (nums r k).length k) := by rw [len_nums]
      exact ⟨some ⟨w.heap.size, 0, none⟩, k, e, hB, hF.done (Nat.le_refl _) (World.rowIs.lt hF), by rw [len_nums]; exact Nat.le_refl _, by omega⟩
set_option maxRecDepth 20000 in
set_option maxHeartbeats 4000000 in
theorem classNumbers_any (fid : FuncId) (first : Value) (n : Nat) (r : Nat → Nat → Bool) (w : World) (hn : n ≤ 9) (E : Eqv r n) (hcf : ∀ (args : Array Value) (w : World), (callFunc fid args).run Try.prog w = .ok (.enter fid args) w)
    (hF : ∀ (wr : World) (a b : Nat), a < n → b < n → Below w.heap.size w wr → Calls Try.prog fid #[first, .int .i64 a, .int .i64 b] wr fun e w' => e = .returned (.bool (r b a)) ∧ Below wr.heap.size wr w') :
    Calls Try.prog 62 #[.int .i64 n, .func (.func fid) #[first] #[]] w (OwnRow w (nums r n)) := by
  have HF := hide hF
  clear hF
  go_enter Try.func62, Try.ntmps62
  go_wp2_with fail
  refine (eachAlone_any _).mono ?_
  rintro e w1 ⟨rfl, b1⟩
  have z1 := b1.size
  go_wp2
  go_loopg [10] n (fun m i wr => ∃ (b : Nat) (P : Nat → Nat), b ≤ n ∧ Hid (m = n - b) ∧ i = .int .i64 b ∧ Pars wr w1.heap.size P ∧ Hid (Cls r P b 0) ∧ Below w.heap.size w wr)
  case atStart => exact ⟨0, id, Nat.zero_le _, rfl, rfl, pars_new w1, cls_start r, b1.alloc z1 _⟩
  case round =>
    obtain ⟨b, P, hb, hm, rfl, hP, hC, hB⟩ := hrel
    by_cases hlt : b < n
    · go_wp2
      go_loopg [14] b (fun m i wi => ∃ (a : Nat) (P : Nat → Nat), a ≤ b ∧ Hid (m = b - a) ∧ i = .int .i64 a ∧ Pars wi w1.heap.size P ∧ Hid (Cls r P b a) ∧ Below w.heap.size w wi)
      case atStart => exact ⟨0, P, Nat.zero_le _, rfl, rfl, hP, hC, hB⟩
      case round =>
        clear hP hC hB
        obtain ⟨a, P, ha, hm2, rfl, hP, hC, hB⟩ := hrel
        by_cases hla : a < b
        · have HC := HF.out _ a b (by omega) hlt hB
          cases hr : r b a
          · rw [hr] at HC
            go_wp2_with (refine HC.mono ?_; rintro e w2 ⟨rfl, b2⟩)
            go_roundg (b - (a + 1))
            case measure => go_light; have := hm2.out; omega
            case rel => go_light; exact ⟨a + 1, P, by omega, rfl, by go_num, hP.below b2 hP.lt, hC.out.skip hr E hlt hla, hB.trans (b2.mono hB.size)⟩
          · rw [hr] at HC
            go_wp2_with (refine HC.mono ?_; rintro e w2 ⟨rfl, b2⟩)
            refine (unite_any _ _ _ P _ (hP.below b2 hP.lt) hC.out.par (by omega) (by omega)).mono ?_
            rintro e w3 ⟨rfl, o3, hP3⟩
            go_wp2
            go_roundg (b - (a + 1))
            case measure => go_light; have := hm2.out; omega
            case rel => go_light; exact ⟨a + 1, _, by omega, rfl, by go_num, hP3, hC.out.unite hr E hlt hla, (hB.trans (b2.mono hB.size)).trans (o3.below z1 (hB.trans (b2.mono hB.size)).size)⟩
        · obtain rfl : a = b := by omega
          go_wp2
          go_roundg (n - (a + 1))
          case measure => go_light; have := hm.out; omega
          case rel => go_light; exact ⟨a + 1, P, by omega, rfl, by go_num, hP, hC.out.next, hB⟩
    · obtain rfl : b = n := by omega
      go_wp2_with fail
      refine (numbers_any _ _ P r _ hP hC.out.par hn E (fun x hx => hC.out.done hx)).mono ?_
      rintro e w2 ⟨A2, c2, rfl, b2, o2, l2, m2⟩
      go_wp2
      go_ret
      exact ⟨A2, c2, rfl, hB.trans (b2.mono hB.size), o2.mono hB.size (Nat.le_refl _), l2, m2⟩
end Go.Proofs.Ytcegjiiondmchac
